/-
 The walk of Raw.
-/
import Derived.Test.YtnoopcenogbjiaaGreatDoorIdDigitPk
import Derived.RegionTactic
import Derived.Deep.MidRow
import Derived.WalkSmall
import Derived.BigQuiet
import Derived.Deep.QuietTactic
import Derived.IntWalk
set_option linter.unusedVariables false
set_option linter.unusedSimpArgs false
namespace Go.Proofs.YtnoopcenogbjiaaGreatDoor
open Go.RowKit
def hv (b:UInt8):Nat:=(halfOf b).getD 0
def rawL (l:List UInt8) (n:Nat):List UInt8:=(List.range n).map fun i=>UInt8.ofNat (hv (l.getD (2*i) 0)*16+hv (l.getD (2*i+1) 0))
theorem rawL_next (l:List UInt8) (n:Nat):rawL l (n+1)=rawL l n++[UInt8.ofNat (hv (l.getD (2*n) 0)*16+hv (l.getD (2*n+1) 0))]:=by
 simp [rawL,List.range_succ]
end Go.Proofs.YtnoopcenogbjiaaGreatDoor
