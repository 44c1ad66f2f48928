/-
  Plain mathematics: how few bytes a string compresses to that repeats itself.
-/
import Derived.Test.YthfnnbeaggkhkaaSqLen
namespace Go.Proofs.Ythfnnbeaggkhkaa

/-- A longer match at a distance looked at is not passed over. -/
theorem best_ge {l : List UInt8} {a m e : Nat} : ∀ {d : Nat}, e < d → 4 ≤ mrun l (a - (e + 1)) a m → mrun l (a - (e + 1)) a m ≤ (best l a m d).1
  | 0, h, _ => absurd h (Nat.not_lt_zero _)
  | d + 1, h, h4 => by
    rw [best]
    rcases (by omega : e < d ∨ e = d) with h1 | rfl
    · have ih := best_ge (d := d) h1 h4
      split
      · rename_i hc; have := hc.2; simp only; omega
      · exact ih
    · split
      · exact Nat.le_refl _
      · rename_i hc
        omega
/-- From p on each byte is the one p before it. -/
def Per (l : List UInt8) (p : Nat) : Prop := ∀ i, i + p < l.length → l.getD i 0 = l.getD (i + p) 0
theorem per_run {l : List UInt8} {p a m : Nat} (h : Per l p) (hp : p ≤ a) (hm : a + m ≤ l.length) : mrun l (a - p) a m = m := by
  have h1 := mrun_ge l m (a - p) a m (Nat.le_refl _) (fun i hi => by
    have := h (a - p + i) (by omega)
    rw [this, show a - p + i + p = a + i by omega])
  have h2 := mrun_le l m (a - p) a
  omega
theorem per_again {l : List UInt8} {p a : Nat} (h : Per l p) (hp0 : 0 < p) (hp : p ≤ a) (hp2 : p ≤ 4096) (ha : a + 4 ≤ l.length) : (again l a).1 = most l a := by
  have h1 := best_le l a (most l a) (min 4096 a)
  have hm : a + most l a ≤ l.length := by unfold most; omega
  have h4 := most_four ha
  have hr := per_run h hp hm
  have h2 := best_ge (l := l) (a := a) (m := most l a) (e := p - 1) (d := min 4096 a) (by omega) (by rw [show p - 1 + 1 = p by omega, hr]; exact h4)
  rw [show p - 1 + 1 = p by omega, hr] at h2
  show (best l a (most l a) (min 4096 a)).1 = _
  omega
theorem copy_len {n b : Nat} (h : n ≤ 258) (hb : b ≤ 4096) : (digs (2 * n + 1) ++ digs b).length ≤ 4 := by
  have h2 := digs_le2 (n := b) (by omega)
  have h3 := digs_le2 (n := 2 * n + 1) (by omega)
  rw [List.length_append]; omega
/-- The last three bytes at most: a literal. -/
theorem press_last {l : List UInt8} : ∀ (k st a : Nat), l.length - a = k → k < 4 → st ≤ a → a ≤ l.length → l.length - st < 1024 → press l st a = lit ((l.drop st).take (l.length - st))
  | 0, st, a, hk, _, h1, h2, _ => by rw [press_end (by omega), show a = l.length by omega]
  | k + 1, st, a, hk, h4, h1, h2, h3 => by
    rw [press_on (by omega) (by rw [again_short (by omega)]) (by omega)]
    exact press_last k st (a + 1) (by omega) (by omega) (by omega) (by omega) h3
theorem press_flush {l : List UInt8} {st a : Nat} (h : a < l.length) (h0 : (again l a).1 ≠ 0) : press l st a = lit ((l.drop st).take (a - st)) ++ press l a a := by
  rw [press_copy h h0, press_copy (st := a) h h0, Nat.sub_self, List.take_zero, lit_nil, List.nil_append, List.append_assoc]
/-- What repeats itself takes four bytes for 258. -/
theorem press_per {l : List UInt8} {p : Nat} (h : Per l p) (hp0 : 0 < p) (hp2 : p ≤ 4096) : ∀ (k a : Nat), l.length - a ≤ k → p ≤ a → a ≤ l.length → (press l a a).length ≤ 4 * ((l.length - a) / 258 + 1) := by
  intro k
  induction k with
  | zero =>
    intro a hk hp ha
    rw [press_end (by omega), Nat.sub_self, List.take_zero, lit_nil]
    exact Nat.zero_le _
  | succ k ih =>
    intro a hk hp ha
    by_cases h4 : a + 4 ≤ l.length
    · have hag := per_again h hp0 hp hp2 h4
      have hm4 := most_four h4
      have hle := again_le l a
      have hm : most l a = min 258 (l.length - a) := rfl
      rw [press_copy (by omega) (by omega), Nat.sub_self, List.take_zero, lit_nil, List.nil_append, List.length_append]
      have hc := copy_len hle.2.1 hle.2.2.2
      have h6 := ih (a + (again l a).1) (by omega) (by omega) (by omega)
      by_cases hb : l.length - a ≤ 258
      · have he : a + (again l a).1 = l.length := by omega
        rw [he, press_end (Nat.le_refl _), Nat.sub_self, List.take_zero, lit_nil, List.length_nil]
        omega
      · have he : (again l a).1 = 258 := by omega
        rw [he] at h6 hc ⊢
        omega
    · rw [press_last (l.length - a) a a rfl (by omega) (Nat.le_refl _) ha (by omega)]
      have := lit_short ((l.drop a).take (l.length - a)) (by simp; omega)
      have hl : ((l.drop a).take (l.length - a)).length = l.length - a := by simp
      omega

/-- A run of one byte. -/
theorem few_run (c : UInt8) (n : Nat) (h5 : 5 ≤ n) (hn : n < 3000) : (pressed (List.replicate n c)).length ≤ 16 + n / 64 := by
  have hl : (List.replicate n c).length = n := List.length_replicate
  have hper : Per (List.replicate n c) 1 := fun i hi => by
    rw [hl] at hi
    rw [List.getD_eq_getElem?_getD, List.getD_eq_getElem?_getD, List.getElem?_replicate, List.getElem?_replicate, if_pos (by omega), if_pos (by omega)]
  have h1 := press_per hper (by omega) (by omega) n 1 (by omega) (Nat.le_refl _) (by omega)
  have h2 : press (List.replicate n c) 0 0 = press (List.replicate n c) 0 1 := press_on (by omega) rfl (by omega)
  have hag := per_again hper (by omega) (Nat.le_refl 1) (by omega) (by omega)
  have hm4 := most_four (l := List.replicate n c) (a := 1) (by omega)
  have hlit := lit_short (((List.replicate n c).drop 0).take (1 - 0)) (by simp; omega)
  have hll : (((List.replicate n c).drop 0).take (1 - 0)).length ≤ 1 := by simp; omega
  have hd := digs_le2 (n := n) (by omega)
  rw [pressed, h2, press_flush (by omega) (by omega), List.length_append, List.length_append, hl]
  rw [hl] at h1
  omega
/-- A string twice. -/
theorem twice_cost (s : List UInt8) (h4 : 4 ≤ s.length) (hn : s.length ≤ 4096) : ∀ (m st a : Nat), s.length - a ≤ m → st ≤ a → a ≤ s.length → a - st < 1024 →
    64 * (press (s ++ s) st a).length ≤ 65 * (s.length - st) + 576 + 256 * (s.length / 258) := by
  have hper : Per (s ++ s) s.length := fun i hi => by
    rw [List.length_append] at hi
    rw [List.getD_eq_getElem?_getD, List.getD_eq_getElem?_getD, List.getElem?_append_left (by omega), List.getElem?_append_right (by omega), Nat.add_sub_cancel]
  have hL : (s ++ s).length = s.length + s.length := List.length_append
  have hg := fun a h1 h2 => press_per hper (by omega) hn ((s ++ s).length - a) a (Nat.le_refl _) h1 h2
  rw [hL] at hg
  have hlen : ∀ st a : Nat, st ≤ a → a ≤ (s ++ s).length → (((s ++ s).drop st).take (a - st)).length = a - st := fun st a h1 h2 => by rw [List.length_take, List.length_drop]; omega
  rw [hL] at hlen
  have atN : ∀ st a : Nat, st ≤ a → a ≤ s.length → s.length ≤ a → a - st < 1024 → 64 * (press (s ++ s) st a).length ≤ 65 * (s.length - st) + 576 + 256 * (s.length / 258) := fun st a h1 h2 h2' h3 => by
    obtain rfl : a = s.length := by omega
    have hag := per_again hper (by omega) (Nat.le_refl _) hn (by omega)
    have hm4 := most_four (l := s ++ s) (a := s.length) (by omega)
    rw [press_flush (by omega) (by omega), List.length_append]
    have h5 := (lit_cost (((s ++ s).drop st).take (s.length - st)) (by rw [hlen _ _ h1 (by omega)]; omega)).1
    rw [hlen _ _ h1 (by omega)] at h5
    have h6 := hg s.length (Nat.le_refl _) (by omega)
    rw [show s.length + s.length - s.length = s.length by omega] at h6
    omega
  intro m
  induction m with
  | zero => exact fun st a hm h1 h2 h3 => atN st a h1 h2 (by omega) h3
  | succ m ih =>
    intro st a hm h1 h2 h3
    by_cases hlt : a < s.length
    · by_cases h0 : (again (s ++ s) a).1 = 0
      · by_cases hf : a + 1 - st = 1024
        · rw [press_full (by omega) h0 hf, List.length_append]
          have h5 := (lit_cost (((s ++ s).drop st).take (a + 1 - st)) (by rw [hlen _ _ (by omega) (by omega)]; omega)).2
          rw [hlen _ _ (by omega) (by omega)] at h5
          have h6 := ih (a + 1) (a + 1) (by omega) (by omega) (by omega) (by omega)
          omega
        · rw [press_on (by omega) h0 hf]
          exact ih st (a + 1) (by omega) (by omega) (by omega) (by omega)
      · rw [press_copy (by omega) h0, List.length_append, List.length_append]
        have hle := again_le (s ++ s) a
        have h4' := again_four h0
        have h5 := lit_cost (((s ++ s).drop st).take (a - st)) (by rw [hlen _ _ (by omega) (by omega)]; omega)
        rw [hlen _ _ (by omega) (by omega)] at h5
        have h7 := copy_cost h4' hle.2.1 hle.2.2.2
        by_cases hin : a + (again (s ++ s) a).1 ≤ s.length
        · have h6 := ih (a + (again (s ++ s) a).1) (a + (again (s ++ s) a).1) (by omega) (by omega) (by omega) (by omega)
          omega
        · have h6 := hg (a + (again (s ++ s) a).1) (by omega) (by omega)
          have h8 : (s.length + s.length - (a + (again (s ++ s) a).1)) / 258 ≤ s.length / 258 := Nat.div_le_div_right (by omega)
          omega
    · exact atN st a h1 h2 (by omega) h3
theorem few_twice (s : List UInt8) (h4 : 4 ≤ s.length) (hn : s.length ≤ 1500) : (pressed (s ++ s)).length ≤ s.length + s.length / 64 + 16 + 4 * (s.length / 258 + 2) := by
  have h1 := twice_cost s h4 (by omega) s.length 0 0 (by omega) (by omega) (by omega) (by omega)
  have hd := digs_le2 (n := s.length + s.length) (by omega)
  rw [pressed, List.length_append, List.length_append]
  omega
end Go.Proofs.Ythfnnbeaggkhkaa
