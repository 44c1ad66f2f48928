/-
  How long scripts and their runs are; what the least script is worth.
-/
import Derived.Test.YtidghjalfbklnaaDfLeastA
import Derived.Test.YtidghjalfbklnaaDfNonePlain
import Derived.Test.YtidghjalfbklnaaDfMore
namespace Go.Proofs.Ytidghjalfbklnaa
open Go.RowKit

section
variable {α : Type} [DecidableEq α]
theorem lst_self : ∀ (a : List α) (i j : Int) (acc : List Ed), lst a a i j acc = acc
  | [], i, j, acc => lst_none i j acc
  | x :: a, i, j, acc => by rw [lst_same, lst_self a]
end
theorem leastL_small {la lb : List (List UInt8)} (h : la.length ≤ 4096 ∧ lb.length ≤ 4096) : leastL la lb = lst la lb 0 0 [] := by
  unfold leastL
  by_cases he : la = lb
  · rw [if_pos he, he, lst_self]
  · rw [if_neg he, if_pos h]
theorem ext_len (acc : List Ed) (e : Ed) : (ext acc e).length ≤ acc.length + 1 := by
  rcases List.eq_nil_or_concat acc with rfl | ⟨r, l, rfl⟩
  · rw [ext_nil]; simp
  · rw [List.concat_eq_append]
    by_cases hf : l.f + l.d = e.f
    · rw [ext_join r l e hf]; simp
    · rw [ext_new r l e hf]; simp
/-- Both places are as far behind the last edit. -/
def Al (acc : List Ed) (i j : Nat) : Prop := ∀ r l, acc = r ++ [l] → (i : Int) - (l.f + l.d) = j - (l.t + l.i)
theorem lst_len {α : Type} [DecidableEq α] : ∀ (a b : List α) (i j : Int) (acc : List Ed), (lst a b i j acc).length ≤ acc.length + a.length + b.length
  | [], [], i, j, acc => by rw [lst_none]; simp
  | x :: a, [], i, j, acc => by
    rw [lst_left _ (by simp)]
    have := ext_len acc ⟨i, ((x :: a).length : Int), j, 0⟩
    simp only [List.length_cons, List.length_nil] at this ⊢
    omega
  | [], y :: b, i, j, acc => by
    rw [lst_right _ (by simp)]
    have := ext_len acc ⟨i, 0, j, ((y :: b).length : Int)⟩
    simp only [List.length_cons, List.length_nil] at this ⊢
    omega
  | x :: a, y :: b, i, j, acc => by
    by_cases e : x = y
    · subst e
      have := lst_len a b (i + 1) (j + 1) acc
      rw [lst_same]
      simp only [List.length_cons]
      omega
    · by_cases hl : lcs (x :: a) b ≤ lcs a (y :: b)
      · have := lst_len a (y :: b) (i + 1) j (ext acc ⟨i, 1, j, 0⟩)
        have h2 := ext_len acc ⟨i, 1, j, 0⟩
        rw [lst_del e hl]
        simp only [List.length_cons] at this ⊢
        omega
      · have := lst_len (x :: a) b i (j + 1) (ext acc ⟨i, 0, j, 1⟩)
        have h2 := ext_len acc ⟨i, 0, j, 1⟩
        rw [lst_ins e hl]
        simp only [List.length_cons] at this ⊢
        omega
termination_by a b => a.length + b.length
theorem leastL_len (la lb : List (List UInt8)) : (leastL la lb).length ≤ 1 + la.length + lb.length := by
  unfold leastL
  split
  · simp
  · split
    · have := lst_len la lb 0 0 []
      simp only [List.length_nil] at this
      omega
    · simp
      omega
theorem leastL_val {la lb : List (List UInt8)} (h : la.length ≤ 4096 ∧ lb.length ≤ 4096) : valL la lb (leastL la lb) true 0 0 = true := by
  rw [leastL_small h]
  exact lst_val la lb la lb 0 0 [] (Ahead.nil _ _) (by simp) (by simp)
theorem leastL_cost {la lb : List (List UInt8)} (h : la.length ≤ 4096 ∧ lb.length ≤ 4096) : csum (leastL la lb) + 2 * (lcs la lb : Nat) = la.length + lb.length := by
  rw [leastL_small h]
  have := lst_cost la lb 0 0 []
  rw [csum] at this
  omega
theorem wrap_small {x : Int} (h : 0 ≤ x) (h2 : x ≤ 1099511627776) : wrap64 x = x := by
  unfold wrap64
  omega
theorem stL_len (W : Int → Int) (n : Int) : ∀ (l : List Ed) (i j : Int) (acc : List Rn), (stL W n l i j acc).length ≤ acc.length + l.length + 1
  | [], i, j, acc => by
    rw [stL]
    split <;> simp
  | e :: l, i, j, acc => by
    rw [stL]
    refine Nat.le_trans (stL_len W n l _ _ _) ?_
    split <;> simp <;> omega
end Go.Proofs.Ytidghjalfbklnaa
