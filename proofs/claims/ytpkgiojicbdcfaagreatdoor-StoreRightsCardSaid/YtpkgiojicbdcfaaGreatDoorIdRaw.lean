/-
  The walk of Raw.
-/
import Derived.Test.YtpkgiojicbdcfaaGreatDoorIdDigitPk
import Derived.RegionTactic
import Derived.Deep.MidRow
import Derived.WalkSmall
import Derived.BigQuiet
import Derived.Deep.QuietTactic
import Derived.IntWalk
namespace Go.Proofs.YtpkgiojicbdcfaaGreatDoor
open Go.RowKit

def hv (b : UInt8) : Nat := (halfOf b).getD 0
theorem hv_lt (b : UInt8) : hv b < 16 := by
  unfold hv halfOf
  split
  · simp; omega
  · split
    · simp; omega
    · simp
/-- n bytes, from two digits each. -/
def rawL (l : List UInt8) (n : Nat) : List UInt8 := (List.range n).map fun i => UInt8.ofNat (hv (l.getD (2 * i) 0) * 16 + hv (l.getD (2 * i + 1) 0))
theorem rawL_next (l : List UInt8) (n : Nat) : rawL l (n + 1) = rawL l n ++ [UInt8.ofNat (hv (l.getD (2 * n) 0) * 16 + hv (l.getD (2 * n + 1) 0))] := by
  simp [rawL, List.range_succ]
theorem or_half (x y : Nat) (hx : x < 16) (hy : y < 16) : bits .or .u8 ((x : Int) * 16) (y : Int) = (((UInt8.ofNat (x * 16 + y)).toNat : Nat) : Int) := by
  rw [show ((x : Int) * 16) = ((x * 16 : Nat) : Int) by omega, u8_or_nat _ _ (by omega) (by omega), nat_join 4 (x * 16) y (by omega) (by omega), u8nat (by omega)]
theorem half_id (b : UInt8) (w : World) : ∃ p, Calls Tryz.prog 216 #[.int .u8 b.toNat] w fun e w' => e = .returned (.tuple #[.int .u8 (hv b : Nat), .bool p]) ∧ w = w' := ⟨_, half_any b w⟩

end Go.Proofs.YtpkgiojicbdcfaaGreatDoor
