/-
  Slices that were handed in: what is known of them.
-/
import Derived.Test.YtnmebnpldacngaaDfRows
namespace Go.Proofs.Ytnmebnpldacngaa
open Go.RowKit

/-- A slice of strings that was handed in. -/
structure SA (W : World) (ls : List (List UInt8)) (p : Option Addr) (n c : Nat) : Prop where
  len : n = ls.length
  cap : n ≤ c
  row : SRw W p ls
  few : n ≤ 8796093022208
  short : ∀ x ∈ ls, x.length ≤ 140737488355328
/-- A slice of edits, of runs, that was handed in. -/
structure EA (W : World) (es : List Ed) (p : Option Addr) (n : Nat) : Prop where
  len : n = es.length
  row : ERw W p es
  few : n ≤ 140737488355328
structure RA (W : World) (es : List Rn) (p : Option Addr) (n : Nat) : Prop where
  len : n = es.length
  row : RRw W p es
  few : n ≤ 140737488355328
end Go.Proofs.Ytnmebnpldacngaa
