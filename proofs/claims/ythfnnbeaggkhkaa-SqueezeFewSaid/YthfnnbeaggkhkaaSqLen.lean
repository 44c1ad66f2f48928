/-
  The length of the compressed form.
-/
import Derived.Test.YthfnnbeaggkhkaaSqPressPlain
namespace Go.Proofs.Ythfnnbeaggkhkaa

theorem digs_le1 {n : Nat} (h : n < 128) : (digs n).length = 1 := by rw [digs_small h]; rfl
theorem digs_le2 {n : Nat} (h : n < 16384) : (digs n).length ≤ 2 := by
  by_cases h1 : n < 128
  · rw [digs_le1 h1]; decide
  · rw [digs_big (by omega), List.length_cons, digs_le1 (by omega)]; decide
theorem lit_short (t : List UInt8) (h : t.length < 64) : (lit t).length ≤ t.length + 1 := by
  cases ht : t.isEmpty with
  | true => rw [lit, ht]; simp
  | false => rw [lit_cons ht, List.length_append, digs_le1 (by omega)]; omega
theorem lit_long (t : List UInt8) (h : t.length ≤ 1024) : (lit t).length ≤ t.length + 2 := by
  cases ht : t.isEmpty with
  | true => rw [lit, ht]; simp
  | false => rw [lit_cons ht, List.length_append]; have := digs_le2 (n := 2 * t.length) (by omega); omega
/-- A literal piece costs at most a 64th more than its bytes, and two bytes. -/
theorem lit_cost (t : List UInt8) (h : t.length ≤ 1024) : 64 * (lit t).length ≤ 65 * t.length + 64 ∧ 64 * (lit t).length ≤ 64 * t.length + 128 := by
  by_cases h1 : t.length < 64
  · have := lit_short t h1; omega
  · have := lit_long t h; omega
theorem copy_cost {n b : Nat} (h4 : 4 ≤ n) (h : n ≤ 258) (hb : b ≤ 4096) : 64 * (digs (2 * n + 1) ++ digs b).length ≤ 65 * n - 68 ∧ 64 * (digs (2 * n + 1) ++ digs b).length ≤ 256 := by
  have h2 := digs_le2 (n := b) (by omega)
  rw [List.length_append]
  by_cases h1 : n < 64
  · rw [digs_le1 (n := 2 * n + 1) (by omega)]; omega
  · have := digs_le2 (n := 2 * n + 1) (by omega); omega
theorem again_four {l : List UInt8} {a : Nat} (h : (again l a).1 ≠ 0) : 4 ≤ (again l a).1 := by
  rcases best_cases l a (most l a) (min 4096 a) with h1 | ⟨n, b, h1, h2, _⟩
  · have : again l a = (0, 0) := h1
    rw [this] at h; simp at h
  · have : again l a = (n, b) := h1
    rw [this]; exact h2

theorem press_cost (l : List UInt8) : ∀ (m st a : Nat), l.length - a ≤ m → st ≤ a → a ≤ l.length → a - st < 1024 → 64 * (press l st a).length ≤ 65 * (l.length - st) + 128 := by
  intro m
  induction m with
  | zero =>
    intro st a hm h1 h2 h3
    rw [press_end (by omega)]
    have hl : ((l.drop st).take (a - st)).length = a - st := by simp; omega
    have := (lit_cost ((l.drop st).take (a - st)) (by omega)).2
    omega
  | succ m ih =>
    intro st a hm h1 h2 h3
    by_cases hlt : a < l.length
    · by_cases h0 : (again l a).1 = 0
      · by_cases hf : a + 1 - st = 1024
        · rw [press_full hlt h0 hf, List.length_append]
          have hl : ((l.drop st).take (a + 1 - st)).length = a + 1 - st := by simp; omega
          have h5 := (lit_cost ((l.drop st).take (a + 1 - st)) (by omega)).2
          have h6 := ih (a + 1) (a + 1) (by omega) (by omega) (by omega) (by omega)
          omega
        · rw [press_on hlt h0 hf]
          exact ih st (a + 1) (by omega) (by omega) (by omega) (by omega)
      · rw [press_copy hlt h0, List.length_append, List.length_append]
        have hle := again_le l a
        have h4 := again_four h0
        have hl : ((l.drop st).take (a - st)).length = a - st := by simp; omega
        have h5 := lit_cost ((l.drop st).take (a - st)) (by omega)
        have h6 := ih (a + (again l a).1) (a + (again l a).1) (by omega) (by omega) (by omega) (by omega)
        have h7 := copy_cost h4 hle.2.1 hle.2.2.2
        omega
    · rw [press_end (by omega)]
      have hl : ((l.drop st).take (a - st)).length = a - st := by simp; omega
      have := (lit_cost ((l.drop st).take (a - st)) (by omega)).2
      omega
theorem pressed_len (l : List UInt8) (h : l.length < 18446744073709551616) : (pressed l).length ≤ l.length + l.length / 64 + 16 := by
  have h1 := press_cost l l.length 0 0 (by omega) (by omega) (by omega) (by omega)
  have h2 := digs_len64 h
  rw [pressed, List.length_append]
  omega
end Go.Proofs.Ythfnnbeaggkhkaa
