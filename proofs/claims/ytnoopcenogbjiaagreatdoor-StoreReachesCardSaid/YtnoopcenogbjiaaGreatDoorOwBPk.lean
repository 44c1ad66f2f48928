/-
 Appends to a row of bytes of the call's own: of a string's bytes, of one byte.
-/
import Derived.Test.YtnoopcenogbjiaaGreatDoorRow
import Derived.Test.YtnoopcenogbjiaaGreatDoorIdRDigit
import Derived.Test.YtnoopcenogbjiaaGreatDoorIdRaw
import Derived.Test.YtnoopcenogbjiaaGreatDoorLawPostPk
set_option linter.unusedVariables false
set_option linter.unusedSimpArgs false
namespace Go.Proofs.YtnoopcenogbjiaaGreatDoor
open Go.RowKit
theorem Ow.bel {B base:Nat} {w0 w w':World} {v:Value} {l:List UInt8} (h:Ow w base v l) (hb:Below B w0 w) (hB:B≤base) (hs:B≤w.heap.size) (hg:w.grownBy w' v.ownBlock):Below B w0 w' :=
 app_step0 hb h hg hB hs
theorem Ow.bel1 {B base:Nat} {w0 w w':World} {v:Value} {l:List UInt8} {o:Obj} (h:Ow w base v l) (hb:Below B w0 w) (hB:B≤base) (hs:B≤w.heap.size) (hg:(w.alloc o).grownBy w' v.ownBlock):Below B w0 w' :=
 app_step hb h hg hB hs
theorem Ow.keep {w w':World} {base P:Nat} {v:Value} {l:List UInt8} {t:TypeId} {c:Array Value} (h:Ow w base v l) (hr:w.heap[P]?=some (.cells c t (0,0))) (ht:t≠5) (hg:w.grownBy w' v.ownBlock):w'.heap[P]?=some (.cells c t (0,0)) :=
 own_row h hr ht (row_lt hr) hg
theorem Ow.conv {w:World} {base:Nat} {v:Value} {l:List UInt8} (h:Ow w base v l):(convert 131 9 v).run Tryz.prog w=.ok (.string (str l)) w :=
 conv_owned (P:=Tryz.prog) 131 9 5 Tryz.underlying131 Tryz.underlying5 Tryz.underlying9 h
end Go.Proofs.YtnoopcenogbjiaaGreatDoor
/-
 The walk of the reference's Raw.
-/
namespace Go.Proofs.YtnoopcenogbjiaaGreatDoor
open Go.RowKit
end Go.Proofs.YtnoopcenogbjiaaGreatDoor
