/-
  No cell of these rows narrows 'for every input' (looked for: loops, veiled, ifaces, maps, wideKeys, modest, calm, conditions, laid).
  DERIVED. THE GIVEN ROWS OF THIS SEAT. 6 by the template 'for every input the law returns true; each argument reads behind the call as it read before'; 0 by the template 'total and deterministic' (their statements: YthfnnbeaggkhkabTotals.lean).
  GIVEN WITH THE SEED: the statements are not yours to turn. If you find one false, say at which input.
  Laid BY PROGRAM, IN A SANDBOX (cutbox-rows.mjs): the forced cells as the released guide's own fill.sh prints them over the translation ab4066bc3493c25e… (all of the seat's roots in one cut). By AI agents, Wed Nov 11 2026. No macro, syntax, notation, axiom, sorry.
-/
import Derived.Test.YthfnnbeaggkhkabChecked
import GoSem.Claim
import GoSem.ClaimJoined
import GoSem.ClaimMapViews
import Derived.JoinedTies
import Derived.KernelRfl
namespace Go.Proofs.Ythfnnbeaggkhkab
/- THE CELL 'sum', in the pinned program and in every row, IS THE sha256 OF THE DUMP (.gsa) THAT YthfnnbeaggkhkabProg.lean LOADS. Nothing in Lean hashes anything: it is a label: what it is worth is what the hold of that sum in a sandbox is worth. -/
noncomputable def Try.pinned : Pinned := { name := "ythfnnbeaggkhkab", sum := "ab4066bc3493c25eea41ef0c2f38760e4d7ae997b4d8872038fe08ff501c1089", checked := Try.checked }
namespace Rows
def none {H : Type} : Left H := { results := [], args := [] }

/-- 'graftagelaw05.LinesSplit': WHATEVER THE INPUT: true; the input reads as it did. -/
def linesSplitSpec : ChangeSpec := { name := "linesSplit", fn := fun _ => fun
  | [d1, d2] => { results := [.lit (.bool true)], args := [d1, d2] }
  | _ => none }
def linesSplitRow : OpenClaim := { program := "ythfnnbeaggkhkab", sum := "ab4066bc3493c25eea41ef0c2f38760e4d7ae997b4d8872038fe08ff501c1089", func := "graftage/graftagelaw05.LinesSplit", spec := "linesSplit", unfollowed := true, recurses := true, apart := false }
def LinesSplitSaid : Prop := linesSplitRow.holds Try.pinned (OpenSpec.ofChange linesSplitSpec)

/-- ITS FALSE NEIGHBOUR: 'it returns false'. Refute it at one input. -/
def linesSplitWrong : ChangeSpec := { name := "linesSplit", fn := fun _ => fun
  | [d1, d2] => { results := [.lit (.bool false)], args := [d1, d2] }
  | _ => none }
def LinesSplitWrongFalsely : Prop := linesSplitRow.holds Try.pinned (OpenSpec.ofChange linesSplitWrong)

/-- 'graftagelaw05.LinesEnds': WHATEVER THE INPUT: true; the input reads as it did. -/
def linesEndsSpec : ChangeSpec := { name := "linesEnds", fn := fun _ => fun
  | [d] => { results := [.lit (.bool true)], args := [d] }
  | _ => none }
def linesEndsRow : OpenClaim := { program := "ythfnnbeaggkhkab", sum := "ab4066bc3493c25eea41ef0c2f38760e4d7ae997b4d8872038fe08ff501c1089", func := "graftage/graftagelaw05.LinesEnds", spec := "linesEnds", unfollowed := true, recurses := true, apart := false }
def LinesEndsSaid : Prop := linesEndsRow.holds Try.pinned (OpenSpec.ofChange linesEndsSpec)

/-- ITS FALSE NEIGHBOUR: 'it returns false'. Refute it at one input. -/
def linesEndsWrong : ChangeSpec := { name := "linesEnds", fn := fun _ => fun
  | [d] => { results := [.lit (.bool false)], args := [d] }
  | _ => none }
def LinesEndsWrongFalsely : Prop := linesEndsRow.holds Try.pinned (OpenSpec.ofChange linesEndsWrong)

/-- 'graftagelaw05.LinesClean': WHATEVER THE INPUT: true; the input reads as it did. -/
def linesCleanSpec : ChangeSpec := { name := "linesClean", fn := fun _ => fun
  | [d] => { results := [.lit (.bool true)], args := [d] }
  | _ => none }
def linesCleanRow : OpenClaim := { program := "ythfnnbeaggkhkab", sum := "ab4066bc3493c25eea41ef0c2f38760e4d7ae997b4d8872038fe08ff501c1089", func := "graftage/graftagelaw05.LinesClean", spec := "linesClean", unfollowed := true, recurses := true, apart := false }
def LinesCleanSaid : Prop := linesCleanRow.holds Try.pinned (OpenSpec.ofChange linesCleanSpec)

/-- ITS FALSE NEIGHBOUR: 'it returns false'. Refute it at one input. -/
def linesCleanWrong : ChangeSpec := { name := "linesClean", fn := fun _ => fun
  | [d] => { results := [.lit (.bool false)], args := [d] }
  | _ => none }
def LinesCleanWrongFalsely : Prop := linesCleanRow.holds Try.pinned (OpenSpec.ofChange linesCleanWrong)

/-- 'graftagelaw05.LinesBack': WHATEVER THE INPUT: true; the input reads as it did. -/
def linesBackSpec : ChangeSpec := { name := "linesBack", fn := fun _ => fun
  | [d1, d2] => { results := [.lit (.bool true)], args := [d1, d2] }
  | _ => none }
def linesBackRow : OpenClaim := { program := "ythfnnbeaggkhkab", sum := "ab4066bc3493c25eea41ef0c2f38760e4d7ae997b4d8872038fe08ff501c1089", func := "graftage/graftagelaw05.LinesBack", spec := "linesBack", unfollowed := true, recurses := true, apart := false }
def LinesBackSaid : Prop := linesBackRow.holds Try.pinned (OpenSpec.ofChange linesBackSpec)

/-- ITS FALSE NEIGHBOUR: 'it returns false'. Refute it at one input. -/
def linesBackWrong : ChangeSpec := { name := "linesBack", fn := fun _ => fun
  | [d1, d2] => { results := [.lit (.bool false)], args := [d1, d2] }
  | _ => none }
def LinesBackWrongFalsely : Prop := linesBackRow.holds Try.pinned (OpenSpec.ofChange linesBackWrong)

/-- 'graftagelaw05.LinesTwice': WHATEVER THE INPUT: true; the input reads as it did. -/
def linesTwiceSpec : ChangeSpec := { name := "linesTwice", fn := fun _ => fun
  | [d] => { results := [.lit (.bool true)], args := [d] }
  | _ => none }
def linesTwiceRow : OpenClaim := { program := "ythfnnbeaggkhkab", sum := "ab4066bc3493c25eea41ef0c2f38760e4d7ae997b4d8872038fe08ff501c1089", func := "graftage/graftagelaw05.LinesTwice", spec := "linesTwice", unfollowed := true, recurses := true, apart := false }
def LinesTwiceSaid : Prop := linesTwiceRow.holds Try.pinned (OpenSpec.ofChange linesTwiceSpec)

/-- ITS FALSE NEIGHBOUR: 'it returns false'. Refute it at one input. -/
def linesTwiceWrong : ChangeSpec := { name := "linesTwice", fn := fun _ => fun
  | [d] => { results := [.lit (.bool false)], args := [d] }
  | _ => none }
def LinesTwiceWrongFalsely : Prop := linesTwiceRow.holds Try.pinned (OpenSpec.ofChange linesTwiceWrong)

/-- 'graftagelaw05.LinesTidy': WHATEVER THE INPUT: true; the input reads as it did. -/
def linesTidySpec : ChangeSpec := { name := "linesTidy", fn := fun _ => fun
  | [d] => { results := [.lit (.bool true)], args := [d] }
  | _ => none }
def linesTidyRow : OpenClaim := { program := "ythfnnbeaggkhkab", sum := "ab4066bc3493c25eea41ef0c2f38760e4d7ae997b4d8872038fe08ff501c1089", func := "graftage/graftagelaw05.LinesTidy", spec := "linesTidy", unfollowed := true, recurses := true, apart := false }
def LinesTidySaid : Prop := linesTidyRow.holds Try.pinned (OpenSpec.ofChange linesTidySpec)

/-- ITS FALSE NEIGHBOUR: 'it returns false'. Refute it at one input. -/
def linesTidyWrong : ChangeSpec := { name := "linesTidy", fn := fun _ => fun
  | [d] => { results := [.lit (.bool false)], args := [d] }
  | _ => none }
def LinesTidyWrongFalsely : Prop := linesTidyRow.holds Try.pinned (OpenSpec.ofChange linesTidyWrong)

/- THE SECOND FORM. 'bulk': how many values and letters a reading holds, each counted each time it is reached (what is shared counts as often as it is met; a slice's spare places count too). A statement '..UptoSaid' is the law's where the arguments, and the package variables that the reading takes, are together of bulk at most 1048576: NARROWER than '..Said'. Prove '..Said' where nothing that the law and all that it calls make is longer than what came in: it says more and counts as full. Else prove '..UptoSaid'. A law counts once. -/
mutual
def uptoBulk {H : Type} : DataW H → Nat
  | .lit (.string bytes) => bytes.length + 1
  | .lit _ => 1
  | .nil => 1
  | .ptr d => uptoBulk d + 1
  | .slice elems spare => uptoBulkAll elems + uptoBulkAll spare + 1
  | .agg parts => uptoBulkAll parts + 1
  | .iface _ d => uptoBulk d + 1
  | .map entries => uptoBulkEntries entries + 1
  | .held _ => 1
def uptoBulkAll {H : Type} : List (DataW H) → Nat
  | [] => 0
  | d :: r => uptoBulk d + uptoBulkAll r
def uptoBulkEntries {H : Type} : List (Lit × DataW H) → Nat
  | [] => 0
  | x :: r => uptoBulkEntry x + uptoBulkEntries r
def uptoBulkEntry {H : Type} : Lit × DataW H → Nat
  | (.string bytes, d) => bytes.length + uptoBulk d + 1
  | (_, d) => uptoBulk d + 1
 end
def uptoSmall : (H : Type) → List (DataW H) → Bool := fun _ ds => decide (uptoBulkAll ds ≤ 1048576)
def OpenSpec.upto (s : _root_.Go.ChangeSpec) : _root_.Go.OpenSpec := { _root_.Go.OpenSpec.ofChange s with cond := some uptoSmall }

/-- 'graftagelaw05.LinesSplit', WHERE WHAT IT READS IS OF BULK AT MOST 1048576: true; the input reads as it did. -/
def linesSplitUptoRow : OpenClaim := { program := "ythfnnbeaggkhkab", sum := "ab4066bc3493c25eea41ef0c2f38760e4d7ae997b4d8872038fe08ff501c1089", func := "graftage/graftagelaw05.LinesSplit", spec := "linesSplit", unfollowed := true, recurses := true, apart := false, narrowed := true }
def LinesSplitUptoSaid : Prop := linesSplitUptoRow.holds Try.pinned (OpenSpec.upto linesSplitSpec)

/-- 'graftagelaw05.LinesEnds', WHERE WHAT IT READS IS OF BULK AT MOST 1048576: true; the input reads as it did. -/
def linesEndsUptoRow : OpenClaim := { program := "ythfnnbeaggkhkab", sum := "ab4066bc3493c25eea41ef0c2f38760e4d7ae997b4d8872038fe08ff501c1089", func := "graftage/graftagelaw05.LinesEnds", spec := "linesEnds", unfollowed := true, recurses := true, apart := false, narrowed := true }
def LinesEndsUptoSaid : Prop := linesEndsUptoRow.holds Try.pinned (OpenSpec.upto linesEndsSpec)

/-- 'graftagelaw05.LinesClean', WHERE WHAT IT READS IS OF BULK AT MOST 1048576: true; the input reads as it did. -/
def linesCleanUptoRow : OpenClaim := { program := "ythfnnbeaggkhkab", sum := "ab4066bc3493c25eea41ef0c2f38760e4d7ae997b4d8872038fe08ff501c1089", func := "graftage/graftagelaw05.LinesClean", spec := "linesClean", unfollowed := true, recurses := true, apart := false, narrowed := true }
def LinesCleanUptoSaid : Prop := linesCleanUptoRow.holds Try.pinned (OpenSpec.upto linesCleanSpec)

/-- 'graftagelaw05.LinesBack', WHERE WHAT IT READS IS OF BULK AT MOST 1048576: true; the input reads as it did. -/
def linesBackUptoRow : OpenClaim := { program := "ythfnnbeaggkhkab", sum := "ab4066bc3493c25eea41ef0c2f38760e4d7ae997b4d8872038fe08ff501c1089", func := "graftage/graftagelaw05.LinesBack", spec := "linesBack", unfollowed := true, recurses := true, apart := false, narrowed := true }
def LinesBackUptoSaid : Prop := linesBackUptoRow.holds Try.pinned (OpenSpec.upto linesBackSpec)

/-- 'graftagelaw05.LinesTwice', WHERE WHAT IT READS IS OF BULK AT MOST 1048576: true; the input reads as it did. -/
def linesTwiceUptoRow : OpenClaim := { program := "ythfnnbeaggkhkab", sum := "ab4066bc3493c25eea41ef0c2f38760e4d7ae997b4d8872038fe08ff501c1089", func := "graftage/graftagelaw05.LinesTwice", spec := "linesTwice", unfollowed := true, recurses := true, apart := false, narrowed := true }
def LinesTwiceUptoSaid : Prop := linesTwiceUptoRow.holds Try.pinned (OpenSpec.upto linesTwiceSpec)

/-- 'graftagelaw05.LinesTidy', WHERE WHAT IT READS IS OF BULK AT MOST 1048576: true; the input reads as it did. -/
def linesTidyUptoRow : OpenClaim := { program := "ythfnnbeaggkhkab", sum := "ab4066bc3493c25eea41ef0c2f38760e4d7ae997b4d8872038fe08ff501c1089", func := "graftage/graftagelaw05.LinesTidy", spec := "linesTidy", unfollowed := true, recurses := true, apart := false, narrowed := true }
def LinesTidyUptoSaid : Prop := linesTidyUptoRow.holds Try.pinned (OpenSpec.upto linesTidySpec)

end Rows
end Go.Proofs.Ythfnnbeaggkhkab
