/-
  The walks of half, allDigits and Is.
-/
import Derived.Test.YtjholoajgnpodaaDoorAid
namespace Go.Proofs.YtjholoajgnpodaaDoor
open Go.RowKit

/-- The value of a digit. -/
def halfOf (b : UInt8) : Option Nat := if 48 ≤ b.toNat ∧ b.toNat ≤ 57 then some (b.toNat - 48) else if 97 ≤ b.toNat ∧ b.toNat ≤ 102 then some (b.toNat - 87) else none

set_option maxHeartbeats 1000000 in
theorem half_any (b : UInt8) (w : World) :
    Calls Tryd.prog 47 #[.int .u8 b.toNat] w fun e w' => e = .returned (.tuple #[.int .u8 ((halfOf b).getD 0 : Nat), .bool (halfOf b).isSome]) ∧ w = w' := by
  have hb := UInt8.toNat_lt b
  obtain ⟨c, hc⟩ : ∃ c, c = b.toNat := ⟨_, rfl⟩
  have HC : Hid (c = b.toNat) := hc
  rw [← hc] at hb ⊢
  clear hc
  go_enter Tryd.func47, Tryd.ntmps47
  have r {x y : Nat} {p q : Bool} (h : x = y) (h2 : p = q) : Ending.returned (.tuple #[.int .u8 (x : Int), .bool p]) = .returned (.tuple #[.int .u8 (y : Int), .bool q]) := by rw [h, h2]
  by_cases h1 : 48 ≤ c ∧ c ≤ 57
  · have HO : Hid (halfOf b = some (c - 48)) := by show _ = _; rw [halfOf, ← HC.out, if_pos h1]
    obtain ⟨h1, h2⟩ := h1
    obtain ⟨y, hy⟩ : ∃ y, y = c - 48 := ⟨_, rfl⟩
    rw [← hy] at HO
    have e1 : IntKind.u8.wrap ((c : Int) - 48) = (y : Int) := by rw [IntKind.wrap_u8]; omega
    clear hy
    go_wp2
    go_ret2
    exact ⟨r (by rw [HO.out]; rfl) (by rw [HO.out]; rfl), rfl⟩
  · by_cases h2 : 97 ≤ c ∧ c ≤ 102
    · have HO : Hid (halfOf b = some (c - 87)) := by show _ = _; rw [halfOf, ← HC.out, if_neg h1, if_pos h2]
      obtain ⟨h3, h4⟩ := h2
      obtain ⟨y, hy⟩ : ∃ y, y = c - 87 := ⟨_, rfl⟩
      rw [← hy] at HO
      have e1 : IntKind.u8.wrap ((c : Int) - 97) = (c : Int) - 97 := by rw [IntKind.wrap_u8]; omega
      have e2 : IntKind.u8.wrap ((c : Int) - 97 + 10) = (y : Int) := by rw [IntKind.wrap_u8]; omega
      have e3 : 57 < c := by omega
      have e4 : 48 ≤ c := by omega
      clear hy h1
      go_wp2
      go_ret2
      exact ⟨r (by rw [HO.out]; rfl) (by rw [HO.out]; rfl), rfl⟩
    · have HO : Hid (halfOf b = none) := by show _ = _; rw [halfOf, ← HC.out, if_neg h1, if_neg h2]
      have hcs : c < 48 ∨ (57 < c ∧ c < 97) ∨ 102 < c := by omega
      clear h1 h2
      rcases hcs with h | ⟨h, h'⟩ | h
      · have e4 : c < 97 := by omega
        go_wp2
        go_ret2
        exact ⟨r (x := 0) (by rw [HO.out]; rfl) (by rw [HO.out]; rfl), rfl⟩
      · have e4 : 48 ≤ c := by omega
        go_wp2
        go_ret2
        exact ⟨r (x := 0) (by rw [HO.out]; rfl) (by rw [HO.out]; rfl), rfl⟩
      · have e4 : 97 ≤ c := by omega
        have e5 : 57 < c := by omega
        have e6 : 48 ≤ c := by omega
        go_wp2
        go_ret2
        exact ⟨r (x := 0) (by rw [HO.out]; rfl) (by rw [HO.out]; rfl), rfl⟩
end Go.Proofs.YtjholoajgnpodaaDoor
