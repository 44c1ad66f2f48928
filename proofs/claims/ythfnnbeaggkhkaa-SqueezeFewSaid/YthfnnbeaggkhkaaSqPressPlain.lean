/-
  Plain mathematics of Compress: what it still writes, from a state on.
-/
import Derived.Test.YthfnnbeaggkhkaaSqNum
import Derived.Test.YthfnnbeaggkhkaaSqPlain
namespace Go.Proofs.Ythfnnbeaggkhkaa

theorem again_pos {l : List UInt8} {a : Nat} (h : (again l a).1 = 0) : again l a = (0, 0) := by
  rcases best_cases l a (most l a) (min 4096 a) with h1 | ⟨n, b, h1, h2, _⟩
  · exact h1
  · have : again l a = (n, b) := h1
    rw [this] at h
    simp at h
    omega
theorem again_le (l : List UInt8) (a : Nat) : (again l a).1 ≤ l.length - a ∧ (again l a).1 ≤ 258 ∧ (again l a).2 ≤ a ∧ (again l a).2 ≤ 4096 := by
  rcases best_cases l a (most l a) (min 4096 a) with h1 | ⟨n, b, h1, h2, h3, h4, h5, h6⟩
  · have : again l a = (0, 0) := h1
    rw [this]
    simp
  · have : again l a = (n, b) := h1
    rw [this]
    unfold most at h3
    simp only
    omega

/-- What is still written: at offset a, the pending literal piece having begun at st. -/
def press (l : List UInt8) (st a : Nat) : List UInt8 :=
  if _h : l.length ≤ a then lit ((l.drop st).take (a - st)) else
  if h0 : (again l a).1 = 0 then
    if a + 1 - st = 1024 then lit ((l.drop st).take (a + 1 - st)) ++ press l (a + 1) (a + 1) else press l st (a + 1)
  else lit ((l.drop st).take (a - st)) ++ (digs (2 * (again l a).1 + 1) ++ digs (again l a).2) ++ press l (a + (again l a).1) (a + (again l a).1)
termination_by l.length - a
decreasing_by all_goals omega
theorem press_end {l : List UInt8} {st a : Nat} (h : l.length ≤ a) : press l st a = lit ((l.drop st).take (a - st)) := by rw [press, dif_pos h]
theorem press_copy {l : List UInt8} {st a : Nat} (h : a < l.length) (h0 : (again l a).1 ≠ 0) :
    press l st a = lit ((l.drop st).take (a - st)) ++ (digs (2 * (again l a).1 + 1) ++ digs (again l a).2) ++ press l (a + (again l a).1) (a + (again l a).1) := by rw [press, dif_neg (by omega), dif_neg h0]
theorem press_full {l : List UInt8} {st a : Nat} (h : a < l.length) (h0 : (again l a).1 = 0) (h1 : a + 1 - st = 1024) :
    press l st a = lit ((l.drop st).take (a + 1 - st)) ++ press l (a + 1) (a + 1) := by rw [press, dif_neg (by omega), dif_pos h0, if_pos h1]
theorem press_on {l : List UInt8} {st a : Nat} (h : a < l.length) (h0 : (again l a).1 = 0) (h1 : a + 1 - st ≠ 1024) : press l st a = press l st (a + 1) := by
  rw [press, dif_neg (by omega), dif_pos h0, if_neg h1]
/-- The compressed form. -/
def pressed (l : List UInt8) : List UInt8 := digs l.length ++ press l 0 0
end Go.Proofs.Ythfnnbeaggkhkaa
