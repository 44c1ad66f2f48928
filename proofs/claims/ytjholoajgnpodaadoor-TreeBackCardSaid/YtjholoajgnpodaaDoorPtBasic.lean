/-
  The walks of path's small functions, and of the reference's.
-/
import Derived.Test.YtjholoajgnpodaaDoorRow
namespace Go.Proofs.YtjholoajgnpodaaDoor
open Go.RowKit

theorem none_true {s : ByteArray} (h : s.size = 0) : s.toList.isEmpty = true := by
  rw [ByteArray.toList_eq, List.eq_nil_of_length_eq_zero (l := s.data.toList) (by rw [list_len]; exact h)]
  rfl
theorem none_false {s : ByteArray} (h : 0 < s.size) : s.toList.isEmpty = false := by
  rw [ByteArray.toList_eq]
  cases hx : s.data.toList with
  | nil =>
    have := list_len s
    rw [hx] at this
    simp at this
    omega
  | cons a t => rfl

/-- The path of an entry in a directory. -/
def undr (d n : ByteArray) : ByteArray := if d.size = 0 then n else d ++ ⟨#[47]⟩ ++ n
theorem undr_none {d n : ByteArray} (h : d.size = 0) : undr d n = n := if_pos h
theorem undr_some {d n : ByteArray} (h : 0 < d.size) : undr d n = d ++ ⟨#[47]⟩ ++ n := if_neg (by omega)

/-- Whether a path lies in a directory. -/
def wthn (d p : ByteArray) : Bool := if d.size = 0 then p.size != 0 else decide (d.size + 1 < p.size) && ((p.extract 0 d.size).toList == d.toList) && (p.data.toList.getD d.size 0 == 47)
theorem pt_at (s : ByteArray) (i : Nat) (h : i < s.size) : s.data.toList.getD i 0 = s[i] := by
  rw [List.getD_eq_getElem?_getD, List.getElem?_eq_getElem (by rw [list_len]; exact h)]
  rfl
theorem pt47 (c : UInt8) : ((c.toNat : Int) == 47) = (c == 47) := by
  by_cases h : c = 47
  · subst h; rfl
  · have : ¬ c.toNat = 47 := fun e => h (UInt8.toNat_inj.mp (by rw [e]; rfl))
    have e1 : (c == 47) = false := by simp [h]
    rw [e1, beq_eq_false_iff_ne]
    omega

end Go.Proofs.YtjholoajgnpodaaDoor
