/-
  Plain mathematics: what Decompress answers for what Compress has made.
-/
import Derived.Test.YtgdeefcgjaklhaaSqSpreadPlain
import Derived.Test.YtgdeefcgjaklhaaSqLen
import Derived.Test.YtgdeefcgjaklhaaOctDigs
namespace Go.Proofs.Ytgdeefcgjaklhaa

theorem takeL_snoc (l : List UInt8) (a : Nat) (h : a < l.length) : l.take a ++ [l.getD a 0] = l.take (a + 1) := by
  rw [List.take_add_one, List.getD_eq_getElem?_getD, List.getElem?_eq_getElem h]
  rfl
theorem getD_take (l : List UInt8) (a i : Nat) (h : i < a) : (l.take a).getD i 0 = l.getD i 0 := by
  rw [List.getD_eq_getElem?_getD, List.getD_eq_getElem?_getD, List.getElem?_take_of_lt h]
theorem cpy_take (l : List UInt8) (b : Nat) : ∀ (n a : Nat), 1 ≤ b → b ≤ a → a + n ≤ l.length → (∀ i, i < n → l.getD (a - b + i) 0 = l.getD (a + i) 0) → cpy b n (l.take a) = l.take (a + n) := by
  intro n
  induction n with
  | zero => intro a _ _ _ _; rfl
  | succ n ih =>
    intro a h1 h2 h3 h4
    have hl : (l.take a).length = a := by rw [List.length_take]; omega
    have h0 := h4 0 (by omega)
    rw [Nat.add_zero, Nat.add_zero] at h0
    rw [cpy, hl, getD_take l a (a - b) (by omega), h0, takeL_snoc l a (by omega), ih (a + 1) h1 (by omega) (by omega) (fun i hi => by
      have := h4 (i + 1) (by omega)
      rw [show a + 1 - b + i = a - b + (i + 1) by omega, show a + 1 + i = a + (i + 1) by omega]
      exact this), show a + 1 + n = a + (n + 1) by omega]
theorem again_copy {l : List UInt8} {a n b : Nat} (h : again l a = (n, b)) (h0 : n ≠ 0) : 1 ≤ b ∧ b ≤ a ∧ a + n ≤ l.length ∧ cpy b n (l.take a) = l.take (a + n) := by
  rcases best_cases l a (most l a) (min 4096 a) with h1 | ⟨n', b', h1, h2, h3, h4, h5, h6⟩
  · have e : again l a = (0, 0) := h1
    rw [e] at h
    exact absurd (Prod.mk.inj h).1.symm h0
  · have e : again l a = (n', b') := h1
    rw [e] at h
    obtain ⟨rfl, rfl⟩ := Prod.mk.inj h
    have hm : most l a ≤ l.length - a := by unfold most; omega
    have hb : b' ≤ a := by omega
    have hn : a + n' ≤ l.length := by omega
    exact ⟨h4, hb, hn, cpy_take l b' n' a h4 hb hn (fun i hi => mrun_same l (most l a) (a - b') a i (by rw [← h6]; exact hi))⟩

/-- A literal piece is read. -/
theorem lit_read (S : ByteArray) (A t Z L : List UInt8) (N : Nat) (hS : S.data.toList = A ++ (lit t ++ Z)) (ht : t.length ≤ 1024) (hN : L.length + t.length ≤ N) :
    fin L (tps S N (A.length : Nat) L.length) = fin (L ++ t) (tps S N ((A.length + (lit t).length : Nat) : Int) (L.length + t.length)) := by
  cases he : t.isEmpty with
  | true =>
    have : t = [] := List.isEmpty_iff.1 he
    subst this
    rw [lit_nil]
    simp
  | false =>
    have htp : 0 < t.length := by
      cases t with
      | nil => simp at he
      | cons a t => simp
    rw [lit_cons he] at hS ⊢
    rw [List.append_assoc] at hS
    have hd := takeAt_put A (t ++ Z) (2 * t.length) (by omega)
    rw [← hS] at hd
    have hsz : S.size = A.length + ((digs (2 * t.length)).length + (t.length + Z.length)) := by
      rw [← list_len, hS]; simp
    have hx : (S.extract (A.length + (digs (2 * t.length)).length) (A.length + (digs (2 * t.length)).length + t.length)).data.toList = t := by
      rw [ext_bytes, hS, ← List.append_assoc, show A.length + (digs (2 * t.length)).length = (A ++ digs (2 * t.length)).length by simp, List.drop_left, show (A ++ digs (2 * t.length)).length + t.length - (A ++ digs (2 * t.length)).length = t.length by omega, List.take_left]
    rw [sp_lit (n := t.length) (z := 0) (by omega) hd (by omega) (by omega) (by omega) rfl (by omega), hx, List.length_append, Nat.add_assoc]

theorem press_read (S : ByteArray) (l Z : List UInt8) : ∀ (m st a : Nat) (A : List UInt8), l.length - a ≤ m → st ≤ a → a ≤ l.length → a - st < 1024 → S.data.toList = A ++ (press l st a ++ Z) →
    fin (l.take st) (tps S l.length (A.length : Nat) st) = fin l (tps S l.length ((A.length + (press l st a).length : Nat) : Int) l.length) := by
  have hlast : ∀ (st a : Nat) (A Y : List UInt8), st ≤ a → a ≤ l.length → a - st ≤ 1024 → S.data.toList = A ++ (lit ((l.drop st).take (a - st)) ++ Y) →
      fin (l.take st) (tps S l.length (A.length : Nat) st) = fin (l.take a) (tps S l.length ((A.length + (lit ((l.drop st).take (a - st))).length : Nat) : Int) a) := by
    intro st a A Y h1 h2 h3 hS
    have hl : ((l.drop st).take (a - st)).length = a - st := by simp; omega
    have hst : (l.take st).length = st := by rw [List.length_take]; omega
    have h := lit_read S A ((l.drop st).take (a - st)) Y (l.take st) l.length hS (by omega) (by rw [hst, hl]; omega)
    have he : l.take st ++ (l.drop st).take (a - st) = l.take a := by rw [← List.take_add, show st + (a - st) = a by omega]
    rw [he, hst, hl, show st + (a - st) = a by omega] at h
    exact h
  intro m
  induction m with
  | zero =>
    intro st a A hm h1 h2 h3 hS
    obtain rfl : a = l.length := by omega
    rw [press_end (Nat.le_refl _)] at hS ⊢
    have h := hlast st l.length A Z h1 h2 (by omega) hS
    rw [List.take_length] at h
    exact h
  | succ m ih =>
    intro st a A hm h1 h2 h3 hS
    by_cases hlt : a < l.length
    · by_cases h0 : (again l a).1 = 0
      · by_cases hf : a + 1 - st = 1024
        · rw [press_full hlt h0 hf, List.append_assoc] at hS
          rw [press_full hlt h0 hf, hlast st (a + 1) A (press l (a + 1) (a + 1) ++ Z) (by omega) (by omega) (by omega) hS]
          rw [← List.append_assoc] at hS
          have h := ih (a + 1) (a + 1) _ (by omega) (by omega) (by omega) (by omega) hS
          rw [List.length_append] at h
          rw [h, List.length_append, Nat.add_assoc]
        · rw [press_on hlt h0 hf] at hS ⊢
          exact ih st (a + 1) A (by omega) (by omega) (by omega) (by omega) hS
      · obtain ⟨n, hn⟩ : ∃ n, n = (again l a).1 := ⟨_, rfl⟩
        obtain ⟨b, hb⟩ : ∃ b, b = (again l a).2 := ⟨_, rfl⟩
        have hA : again l a = (n, b) := by rw [hn, hb]
        have h4 := again_four h0
        have hle := again_le l a
        rw [← hn] at h4 hle
        rw [← hb] at hle
        obtain ⟨k1, k2, k3, k4⟩ := again_copy hA (by omega)
        rw [press_copy hlt h0, ← hn, ← hb] at hS ⊢
        simp only [List.append_assoc] at hS
        have hl1 := hlast st a A _ h1 h2 (by omega) hS
        generalize (l.drop st).take (a - st) = T at hS hl1 ⊢
        rw [hl1]
        have hla : (l.take a).length = a := by rw [List.length_take]; omega
        rw [← List.append_assoc] at hS
        have t1 := takeAt_put (A ++ lit T) (digs b ++ (press l (a + n) (a + n) ++ Z)) (2 * n + 1) (by omega)
        rw [← hS] at t1
        have hS2 := hS
        rw [← List.append_assoc (A ++ lit T)] at hS2
        have t2 := takeAt_put (A ++ lit T ++ digs (2 * n + 1)) (press l (a + n) (a + n) ++ Z) b (by omega)
        rw [← hS2, show (A ++ lit T ++ digs (2 * n + 1)).length = (A ++ lit T).length + (digs (2 * n + 1)).length by simp only [List.length_append]] at t2
        have hsp := sp_copy (l := l.take a) (V := l.length) (n := n) (z := 1) (by rw [hla]; exact hlt) t1 (by omega) (by omega) (by rw [hla]; omega) rfl t2 (by rw [hla]; omega)
        rw [hla, k4] at hsp
        have e1 : A.length + (lit T).length = (A ++ lit T).length := by simp
        rw [e1, hsp]
        have hS3 : S.data.toList = (A ++ lit T ++ digs (2 * n + 1) ++ digs b) ++ (press l (a + n) (a + n) ++ Z) := by rw [hS2]; simp only [List.append_assoc]
        have h := ih (a + n) (a + n) _ (by omega) (Nat.le_refl _) k3 (by omega) hS3
        have e3 : (A ++ lit T ++ digs (2 * n + 1) ++ digs b).length = (A ++ lit T).length + (digs (2 * n + 1)).length + (digs b).length := by simp only [List.length_append]
        rw [e3] at h
        rw [h]
        have e4 : (A ++ lit T).length + (digs (2 * n + 1)).length + (digs b).length + (press l (a + n) (a + n)).length = A.length + (lit T ++ (digs (2 * n + 1) ++ digs b) ++ press l (a + n) (a + n)).length := by simp only [List.length_append]; omega
        rw [e4]
    · obtain rfl : a = l.length := by omega
      rw [press_end (Nat.le_refl _)] at hS ⊢
      have h := hlast st l.length A Z h1 h2 (by omega) hS
      rw [List.take_length] at h
      exact h

/-- What Decompress answers for the compressed form, and for more bytes behind it. -/
theorem dec_pressed (S : ByteArray) (l Z : List UInt8) (hS : S.data.toList = pressed l ++ Z) (hl : l.length < 18446744073709551616) : dec S l.length = if Z = [] then (l, 0) else ([], 2) := by
  have hS0 : S.data.toList = [] ++ (digs l.length ++ (press l 0 0 ++ Z)) := by rw [hS, pressed, List.append_assoc]; rfl
  have h0 := takeAt_put [] (press l 0 0 ++ Z) l.length hl
  rw [← hS0] at h0
  have h0' : takeAt S.data.toList 0 = (l.length, (((digs l.length).length : Nat) : Int), 0) := by
    simpa using h0
  rw [dec_fin h0' (by omega)]
  have h := press_read S l Z l.length 0 0 (digs l.length) (by omega) (by omega) (by omega) (by omega) (by rw [hS, pressed, List.append_assoc])
  rw [List.take_zero] at h
  rw [h]
  have hsz : S.size = (digs l.length).length + (press l 0 0).length + Z.length := by rw [← list_len, hS, pressed]; simp; omega
  by_cases hz : Z = []
  · rw [if_pos hz, tps_end (by omega) (by rw [hz] at hsz; simp at hsz; omega), fin_end]
  · have : 0 < Z.length := by
      cases Z with
      | nil => exact absurd rfl hz
      | cons c Z => simp
    rw [if_neg hz]
    exact fin_err (tps_left (by omega) (by omega)) (by decide)
theorem dec_less (S : ByteArray) (l Z : List UInt8) (hS : S.data.toList = pressed l ++ Z) (hl : l.length < 18446744073709551616) : dec S ((l.length : Int) - 1) = ([], 4) := by
  have hS0 : S.data.toList = [] ++ (digs l.length ++ (press l 0 0 ++ Z)) := by rw [hS, pressed, List.append_assoc]; rfl
  have h0 := takeAt_put [] (press l 0 0 ++ Z) l.length hl
  rw [← hS0] at h0
  have h0' : takeAt S.data.toList 0 = (l.length, (((digs l.length).length : Nat) : Int), 0) := by
    simpa using h0
  exact dec_large h0' (by omega)
end Go.Proofs.Ytgdeefcgjaklhaa
