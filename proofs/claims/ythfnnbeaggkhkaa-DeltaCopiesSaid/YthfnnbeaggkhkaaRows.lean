/-
  No cell of these rows narrows 'for every input' (looked for: loops, veiled, ifaces, maps, wideKeys, modest, calm, conditions, laid).
  DERIVED. THE GIVEN ROWS OF THIS SEAT. 11 by the template 'for every input the law returns true; each argument reads behind the call as it read before'; 0 by the template 'total and deterministic' (their statements: YthfnnbeaggkhkaaTotals.lean).
  GIVEN WITH THE SEED: the statements are not yours to turn. If you find one false, say at which input.
  Laid BY PROGRAM, IN A SANDBOX (cutbox-rows.mjs): the forced cells as the released guide's own fill.sh prints them over the translation 93a5c98328281336… (all of the seat's roots in one cut). By AI agents, Wed Nov 11 2026. No macro, syntax, notation, axiom, sorry.
-/
import Derived.Test.YthfnnbeaggkhkaaChecked
import GoSem.Claim
import GoSem.ClaimJoined
import GoSem.ClaimMapViews
import Derived.JoinedTies
import Derived.KernelRfl
namespace Go.Proofs.Ythfnnbeaggkhkaa
/- THE CELL 'sum', in the pinned program and in every row, IS THE sha256 OF THE DUMP (.gsa) THAT YthfnnbeaggkhkaaProg.lean LOADS. Nothing in Lean hashes anything: it is a label: what it is worth is what the hold of that sum in a sandbox is worth. -/
noncomputable def Try.pinned : Pinned := { name := "ythfnnbeaggkhkaa", sum := "93a5c98328281336fa833af61c4e04e5a6141e02f5700e13168a0f3fba7f77da", checked := Try.checked }
namespace Rows
def none {H : Type} : Left H := { results := [], args := [] }

/-- 'graftagelaw03.SqueezePresses': WHATEVER THE INPUT: true; the input reads as it did. -/
def squeezePressesSpec : ChangeSpec := { name := "squeezePresses", fn := fun _ => fun
  | [d] => { results := [.lit (.bool true)], args := [d] }
  | _ => none }
def squeezePressesRow : OpenClaim := { program := "ythfnnbeaggkhkaa", sum := "93a5c98328281336fa833af61c4e04e5a6141e02f5700e13168a0f3fba7f77da", func := "graftage/graftagelaw03.SqueezePresses", spec := "squeezePresses", apart := false }
def SqueezePressesSaid : Prop := squeezePressesRow.holds Try.pinned (OpenSpec.ofChange squeezePressesSpec)

/-- ITS FALSE NEIGHBOUR: 'it returns false'. Refute it at one input. -/
def squeezePressesWrong : ChangeSpec := { name := "squeezePresses", fn := fun _ => fun
  | [d] => { results := [.lit (.bool false)], args := [d] }
  | _ => none }
def SqueezePressesWrongFalsely : Prop := squeezePressesRow.holds Try.pinned (OpenSpec.ofChange squeezePressesWrong)

/-- 'graftagelaw03.SqueezeSpreads': WHATEVER THE INPUT: true; the input reads as it did. -/
def squeezeSpreadsSpec : ChangeSpec := { name := "squeezeSpreads", fn := fun _ => fun
  | [d1, d2] => { results := [.lit (.bool true)], args := [d1, d2] }
  | _ => none }
def squeezeSpreadsRow : OpenClaim := { program := "ythfnnbeaggkhkaa", sum := "93a5c98328281336fa833af61c4e04e5a6141e02f5700e13168a0f3fba7f77da", func := "graftage/graftagelaw03.SqueezeSpreads", spec := "squeezeSpreads", apart := false }
def SqueezeSpreadsSaid : Prop := squeezeSpreadsRow.holds Try.pinned (OpenSpec.ofChange squeezeSpreadsSpec)

/-- ITS FALSE NEIGHBOUR: 'it returns false'. Refute it at one input. -/
def squeezeSpreadsWrong : ChangeSpec := { name := "squeezeSpreads", fn := fun _ => fun
  | [d1, d2] => { results := [.lit (.bool false)], args := [d1, d2] }
  | _ => none }
def SqueezeSpreadsWrongFalsely : Prop := squeezeSpreadsRow.holds Try.pinned (OpenSpec.ofChange squeezeSpreadsWrong)

/-- 'graftagelaw03.SqueezeBack': WHATEVER THE INPUT: true; the input reads as it did. -/
def squeezeBackSpec : ChangeSpec := { name := "squeezeBack", fn := fun _ => fun
  | [d1, d2, d3] => { results := [.lit (.bool true)], args := [d1, d2, d3] }
  | _ => none }
def squeezeBackRow : OpenClaim := { program := "ythfnnbeaggkhkaa", sum := "93a5c98328281336fa833af61c4e04e5a6141e02f5700e13168a0f3fba7f77da", func := "graftage/graftagelaw03.SqueezeBack", spec := "squeezeBack", apart := false }
def SqueezeBackSaid : Prop := squeezeBackRow.holds Try.pinned (OpenSpec.ofChange squeezeBackSpec)

/-- ITS FALSE NEIGHBOUR: 'it returns false'. Refute it at one input. -/
def squeezeBackWrong : ChangeSpec := { name := "squeezeBack", fn := fun _ => fun
  | [d1, d2, d3] => { results := [.lit (.bool false)], args := [d1, d2, d3] }
  | _ => none }
def SqueezeBackWrongFalsely : Prop := squeezeBackRow.holds Try.pinned (OpenSpec.ofChange squeezeBackWrong)

/-- 'graftagelaw03.SqueezeFew': WHATEVER THE INPUT: true; the input reads as it did. -/
def squeezeFewSpec : ChangeSpec := { name := "squeezeFew", fn := fun _ => fun
  | [d1, d2, d3] => { results := [.lit (.bool true)], args := [d1, d2, d3] }
  | _ => none }
def squeezeFewRow : OpenClaim := { program := "ythfnnbeaggkhkaa", sum := "93a5c98328281336fa833af61c4e04e5a6141e02f5700e13168a0f3fba7f77da", func := "graftage/graftagelaw03.SqueezeFew", spec := "squeezeFew", apart := false }
def SqueezeFewSaid : Prop := squeezeFewRow.holds Try.pinned (OpenSpec.ofChange squeezeFewSpec)

/-- ITS FALSE NEIGHBOUR: 'it returns false'. Refute it at one input. -/
def squeezeFewWrong : ChangeSpec := { name := "squeezeFew", fn := fun _ => fun
  | [d1, d2, d3] => { results := [.lit (.bool false)], args := [d1, d2, d3] }
  | _ => none }
def SqueezeFewWrongFalsely : Prop := squeezeFewRow.holds Try.pinned (OpenSpec.ofChange squeezeFewWrong)

/-- 'graftagelaw03.SqueezeBound': WHATEVER THE INPUT: true; the input reads as it did. -/
def squeezeBoundSpec : ChangeSpec := { name := "squeezeBound", fn := fun _ => fun
  | [d] => { results := [.lit (.bool true)], args := [d] }
  | _ => none }
def squeezeBoundRow : OpenClaim := { program := "ythfnnbeaggkhkaa", sum := "93a5c98328281336fa833af61c4e04e5a6141e02f5700e13168a0f3fba7f77da", func := "graftage/graftagelaw03.SqueezeBound", spec := "squeezeBound", apart := false }
def SqueezeBoundSaid : Prop := squeezeBoundRow.holds Try.pinned (OpenSpec.ofChange squeezeBoundSpec)

/-- ITS FALSE NEIGHBOUR: 'it returns false'. Refute it at one input. -/
def squeezeBoundWrong : ChangeSpec := { name := "squeezeBound", fn := fun _ => fun
  | [d] => { results := [.lit (.bool false)], args := [d] }
  | _ => none }
def SqueezeBoundWrongFalsely : Prop := squeezeBoundRow.holds Try.pinned (OpenSpec.ofChange squeezeBoundWrong)

/-- 'graftagelaw04.DeltaBack': WHATEVER THE INPUT: true; the input reads as it did. -/
def deltaBackSpec : ChangeSpec := { name := "deltaBack", fn := fun _ => fun
  | [d1, d2] => { results := [.lit (.bool true)], args := [d1, d2] }
  | _ => none }
def deltaBackRow : OpenClaim := { program := "ythfnnbeaggkhkaa", sum := "93a5c98328281336fa833af61c4e04e5a6141e02f5700e13168a0f3fba7f77da", func := "graftage/graftagelaw04.DeltaBack", spec := "deltaBack", unfollowed := true, recurses := true, apart := false }
def DeltaBackSaid : Prop := deltaBackRow.holds Try.pinned (OpenSpec.ofChange deltaBackSpec)

/-- ITS FALSE NEIGHBOUR: 'it returns false'. Refute it at one input. -/
def deltaBackWrong : ChangeSpec := { name := "deltaBack", fn := fun _ => fun
  | [d1, d2] => { results := [.lit (.bool false)], args := [d1, d2] }
  | _ => none }
def DeltaBackWrongFalsely : Prop := deltaBackRow.holds Try.pinned (OpenSpec.ofChange deltaBackWrong)

/-- 'graftagelaw04.DeltaMakes': WHATEVER THE INPUT: true; the input reads as it did. -/
def deltaMakesSpec : ChangeSpec := { name := "deltaMakes", fn := fun _ => fun
  | [d1, d2] => { results := [.lit (.bool true)], args := [d1, d2] }
  | _ => none }
def deltaMakesRow : OpenClaim := { program := "ythfnnbeaggkhkaa", sum := "93a5c98328281336fa833af61c4e04e5a6141e02f5700e13168a0f3fba7f77da", func := "graftage/graftagelaw04.DeltaMakes", spec := "deltaMakes", unfollowed := true, recurses := true, apart := false }
def DeltaMakesSaid : Prop := deltaMakesRow.holds Try.pinned (OpenSpec.ofChange deltaMakesSpec)

/-- ITS FALSE NEIGHBOUR: 'it returns false'. Refute it at one input. -/
def deltaMakesWrong : ChangeSpec := { name := "deltaMakes", fn := fun _ => fun
  | [d1, d2] => { results := [.lit (.bool false)], args := [d1, d2] }
  | _ => none }
def DeltaMakesWrongFalsely : Prop := deltaMakesRow.holds Try.pinned (OpenSpec.ofChange deltaMakesWrong)

/-- 'graftagelaw04.DeltaApplies': WHATEVER THE INPUT: true; the input reads as it did. -/
def deltaAppliesSpec : ChangeSpec := { name := "deltaApplies", fn := fun _ => fun
  | [d1, d2] => { results := [.lit (.bool true)], args := [d1, d2] }
  | _ => none }
def deltaAppliesRow : OpenClaim := { program := "ythfnnbeaggkhkaa", sum := "93a5c98328281336fa833af61c4e04e5a6141e02f5700e13168a0f3fba7f77da", func := "graftage/graftagelaw04.DeltaApplies", spec := "deltaApplies", unfollowed := true, recurses := true, apart := false }
def DeltaAppliesSaid : Prop := deltaAppliesRow.holds Try.pinned (OpenSpec.ofChange deltaAppliesSpec)

/-- ITS FALSE NEIGHBOUR: 'it returns false'. Refute it at one input. -/
def deltaAppliesWrong : ChangeSpec := { name := "deltaApplies", fn := fun _ => fun
  | [d1, d2] => { results := [.lit (.bool false)], args := [d1, d2] }
  | _ => none }
def DeltaAppliesWrongFalsely : Prop := deltaAppliesRow.holds Try.pinned (OpenSpec.ofChange deltaAppliesWrong)

/-- 'graftagelaw04.DeltaReads': WHATEVER THE INPUT: true; the input reads as it did. -/
def deltaReadsSpec : ChangeSpec := { name := "deltaReads", fn := fun _ => fun
  | [d] => { results := [.lit (.bool true)], args := [d] }
  | _ => none }
def deltaReadsRow : OpenClaim := { program := "ythfnnbeaggkhkaa", sum := "93a5c98328281336fa833af61c4e04e5a6141e02f5700e13168a0f3fba7f77da", func := "graftage/graftagelaw04.DeltaReads", spec := "deltaReads", unfollowed := true, recurses := true, apart := false }
def DeltaReadsSaid : Prop := deltaReadsRow.holds Try.pinned (OpenSpec.ofChange deltaReadsSpec)

/-- ITS FALSE NEIGHBOUR: 'it returns false'. Refute it at one input. -/
def deltaReadsWrong : ChangeSpec := { name := "deltaReads", fn := fun _ => fun
  | [d] => { results := [.lit (.bool false)], args := [d] }
  | _ => none }
def DeltaReadsWrongFalsely : Prop := deltaReadsRow.holds Try.pinned (OpenSpec.ofChange deltaReadsWrong)

/-- 'graftagelaw04.DeltaCopies': WHATEVER THE INPUT: true; the input reads as it did. -/
def deltaCopiesSpec : ChangeSpec := { name := "deltaCopies", fn := fun _ => fun
  | [d1, d2] => { results := [.lit (.bool true)], args := [d1, d2] }
  | _ => none }
def deltaCopiesRow : OpenClaim := { program := "ythfnnbeaggkhkaa", sum := "93a5c98328281336fa833af61c4e04e5a6141e02f5700e13168a0f3fba7f77da", func := "graftage/graftagelaw04.DeltaCopies", spec := "deltaCopies", unfollowed := true, recurses := true, apart := false }
def DeltaCopiesSaid : Prop := deltaCopiesRow.holds Try.pinned (OpenSpec.ofChange deltaCopiesSpec)

/-- ITS FALSE NEIGHBOUR: 'it returns false'. Refute it at one input. -/
def deltaCopiesWrong : ChangeSpec := { name := "deltaCopies", fn := fun _ => fun
  | [d1, d2] => { results := [.lit (.bool false)], args := [d1, d2] }
  | _ => none }
def DeltaCopiesWrongFalsely : Prop := deltaCopiesRow.holds Try.pinned (OpenSpec.ofChange deltaCopiesWrong)

/-- 'graftagelaw04.DeltaSelf': WHATEVER THE INPUT: true; the input reads as it did. -/
def deltaSelfSpec : ChangeSpec := { name := "deltaSelf", fn := fun _ => fun
  | [d1, d2] => { results := [.lit (.bool true)], args := [d1, d2] }
  | _ => none }
def deltaSelfRow : OpenClaim := { program := "ythfnnbeaggkhkaa", sum := "93a5c98328281336fa833af61c4e04e5a6141e02f5700e13168a0f3fba7f77da", func := "graftage/graftagelaw04.DeltaSelf", spec := "deltaSelf", unfollowed := true, recurses := true, apart := false }
def DeltaSelfSaid : Prop := deltaSelfRow.holds Try.pinned (OpenSpec.ofChange deltaSelfSpec)

/-- ITS FALSE NEIGHBOUR: 'it returns false'. Refute it at one input. -/
def deltaSelfWrong : ChangeSpec := { name := "deltaSelf", fn := fun _ => fun
  | [d1, d2] => { results := [.lit (.bool false)], args := [d1, d2] }
  | _ => none }
def DeltaSelfWrongFalsely : Prop := deltaSelfRow.holds Try.pinned (OpenSpec.ofChange deltaSelfWrong)

/- THE SECOND FORM. 'bulk': how many values and letters a reading holds, each counted each time it is reached (what is shared counts as often as it is met; a slice's spare places count too). A statement '..UptoSaid' is the law's where the arguments, and the package variables that the reading takes, are together of bulk at most 1048576: NARROWER than '..Said'. Prove '..Said' where nothing that the law and all that it calls make is longer than what came in: it says more and counts as full. Else prove '..UptoSaid'. A law counts once. -/
mutual
def uptoBulk {H : Type} : DataW H → Nat
  | .lit (.string bytes) => bytes.length + 1
  | .lit _ => 1
  | .nil => 1
  | .ptr d => uptoBulk d + 1
  | .slice elems spare => uptoBulkAll elems + uptoBulkAll spare + 1
  | .agg parts => uptoBulkAll parts + 1
  | .iface _ d => uptoBulk d + 1
  | .map entries => uptoBulkEntries entries + 1
  | .held _ => 1
def uptoBulkAll {H : Type} : List (DataW H) → Nat
  | [] => 0
  | d :: r => uptoBulk d + uptoBulkAll r
def uptoBulkEntries {H : Type} : List (Lit × DataW H) → Nat
  | [] => 0
  | x :: r => uptoBulkEntry x + uptoBulkEntries r
def uptoBulkEntry {H : Type} : Lit × DataW H → Nat
  | (.string bytes, d) => bytes.length + uptoBulk d + 1
  | (_, d) => uptoBulk d + 1
 end
def uptoSmall : (H : Type) → List (DataW H) → Bool := fun _ ds => decide (uptoBulkAll ds ≤ 1048576)
def OpenSpec.upto (s : _root_.Go.ChangeSpec) : _root_.Go.OpenSpec := { _root_.Go.OpenSpec.ofChange s with cond := some uptoSmall }

/-- 'graftagelaw03.SqueezePresses', WHERE WHAT IT READS IS OF BULK AT MOST 1048576: true; the input reads as it did. -/
def squeezePressesUptoRow : OpenClaim := { program := "ythfnnbeaggkhkaa", sum := "93a5c98328281336fa833af61c4e04e5a6141e02f5700e13168a0f3fba7f77da", func := "graftage/graftagelaw03.SqueezePresses", spec := "squeezePresses", apart := false, narrowed := true }
def SqueezePressesUptoSaid : Prop := squeezePressesUptoRow.holds Try.pinned (OpenSpec.upto squeezePressesSpec)

/-- 'graftagelaw03.SqueezeSpreads', WHERE WHAT IT READS IS OF BULK AT MOST 1048576: true; the input reads as it did. -/
def squeezeSpreadsUptoRow : OpenClaim := { program := "ythfnnbeaggkhkaa", sum := "93a5c98328281336fa833af61c4e04e5a6141e02f5700e13168a0f3fba7f77da", func := "graftage/graftagelaw03.SqueezeSpreads", spec := "squeezeSpreads", apart := false, narrowed := true }
def SqueezeSpreadsUptoSaid : Prop := squeezeSpreadsUptoRow.holds Try.pinned (OpenSpec.upto squeezeSpreadsSpec)

/-- 'graftagelaw03.SqueezeBack', WHERE WHAT IT READS IS OF BULK AT MOST 1048576: true; the input reads as it did. -/
def squeezeBackUptoRow : OpenClaim := { program := "ythfnnbeaggkhkaa", sum := "93a5c98328281336fa833af61c4e04e5a6141e02f5700e13168a0f3fba7f77da", func := "graftage/graftagelaw03.SqueezeBack", spec := "squeezeBack", apart := false, narrowed := true }
def SqueezeBackUptoSaid : Prop := squeezeBackUptoRow.holds Try.pinned (OpenSpec.upto squeezeBackSpec)

/-- 'graftagelaw03.SqueezeFew', WHERE WHAT IT READS IS OF BULK AT MOST 1048576: true; the input reads as it did. -/
def squeezeFewUptoRow : OpenClaim := { program := "ythfnnbeaggkhkaa", sum := "93a5c98328281336fa833af61c4e04e5a6141e02f5700e13168a0f3fba7f77da", func := "graftage/graftagelaw03.SqueezeFew", spec := "squeezeFew", apart := false, narrowed := true }
def SqueezeFewUptoSaid : Prop := squeezeFewUptoRow.holds Try.pinned (OpenSpec.upto squeezeFewSpec)

/-- 'graftagelaw03.SqueezeBound', WHERE WHAT IT READS IS OF BULK AT MOST 1048576: true; the input reads as it did. -/
def squeezeBoundUptoRow : OpenClaim := { program := "ythfnnbeaggkhkaa", sum := "93a5c98328281336fa833af61c4e04e5a6141e02f5700e13168a0f3fba7f77da", func := "graftage/graftagelaw03.SqueezeBound", spec := "squeezeBound", apart := false, narrowed := true }
def SqueezeBoundUptoSaid : Prop := squeezeBoundUptoRow.holds Try.pinned (OpenSpec.upto squeezeBoundSpec)

/-- 'graftagelaw04.DeltaBack', WHERE WHAT IT READS IS OF BULK AT MOST 1048576: true; the input reads as it did. -/
def deltaBackUptoRow : OpenClaim := { program := "ythfnnbeaggkhkaa", sum := "93a5c98328281336fa833af61c4e04e5a6141e02f5700e13168a0f3fba7f77da", func := "graftage/graftagelaw04.DeltaBack", spec := "deltaBack", unfollowed := true, recurses := true, apart := false, narrowed := true }
def DeltaBackUptoSaid : Prop := deltaBackUptoRow.holds Try.pinned (OpenSpec.upto deltaBackSpec)

/-- 'graftagelaw04.DeltaMakes', WHERE WHAT IT READS IS OF BULK AT MOST 1048576: true; the input reads as it did. -/
def deltaMakesUptoRow : OpenClaim := { program := "ythfnnbeaggkhkaa", sum := "93a5c98328281336fa833af61c4e04e5a6141e02f5700e13168a0f3fba7f77da", func := "graftage/graftagelaw04.DeltaMakes", spec := "deltaMakes", unfollowed := true, recurses := true, apart := false, narrowed := true }
def DeltaMakesUptoSaid : Prop := deltaMakesUptoRow.holds Try.pinned (OpenSpec.upto deltaMakesSpec)

/-- 'graftagelaw04.DeltaApplies', WHERE WHAT IT READS IS OF BULK AT MOST 1048576: true; the input reads as it did. -/
def deltaAppliesUptoRow : OpenClaim := { program := "ythfnnbeaggkhkaa", sum := "93a5c98328281336fa833af61c4e04e5a6141e02f5700e13168a0f3fba7f77da", func := "graftage/graftagelaw04.DeltaApplies", spec := "deltaApplies", unfollowed := true, recurses := true, apart := false, narrowed := true }
def DeltaAppliesUptoSaid : Prop := deltaAppliesUptoRow.holds Try.pinned (OpenSpec.upto deltaAppliesSpec)

/-- 'graftagelaw04.DeltaReads', WHERE WHAT IT READS IS OF BULK AT MOST 1048576: true; the input reads as it did. -/
def deltaReadsUptoRow : OpenClaim := { program := "ythfnnbeaggkhkaa", sum := "93a5c98328281336fa833af61c4e04e5a6141e02f5700e13168a0f3fba7f77da", func := "graftage/graftagelaw04.DeltaReads", spec := "deltaReads", unfollowed := true, recurses := true, apart := false, narrowed := true }
def DeltaReadsUptoSaid : Prop := deltaReadsUptoRow.holds Try.pinned (OpenSpec.upto deltaReadsSpec)

/-- 'graftagelaw04.DeltaCopies', WHERE WHAT IT READS IS OF BULK AT MOST 1048576: true; the input reads as it did. -/
def deltaCopiesUptoRow : OpenClaim := { program := "ythfnnbeaggkhkaa", sum := "93a5c98328281336fa833af61c4e04e5a6141e02f5700e13168a0f3fba7f77da", func := "graftage/graftagelaw04.DeltaCopies", spec := "deltaCopies", unfollowed := true, recurses := true, apart := false, narrowed := true }
def DeltaCopiesUptoSaid : Prop := deltaCopiesUptoRow.holds Try.pinned (OpenSpec.upto deltaCopiesSpec)

/-- 'graftagelaw04.DeltaSelf', WHERE WHAT IT READS IS OF BULK AT MOST 1048576: true; the input reads as it did. -/
def deltaSelfUptoRow : OpenClaim := { program := "ythfnnbeaggkhkaa", sum := "93a5c98328281336fa833af61c4e04e5a6141e02f5700e13168a0f3fba7f77da", func := "graftage/graftagelaw04.DeltaSelf", spec := "deltaSelf", unfollowed := true, recurses := true, apart := false, narrowed := true }
def DeltaSelfUptoSaid : Prop := deltaSelfUptoRow.holds Try.pinned (OpenSpec.upto deltaSelfSpec)

end Rows
end Go.Proofs.Ythfnnbeaggkhkaa
