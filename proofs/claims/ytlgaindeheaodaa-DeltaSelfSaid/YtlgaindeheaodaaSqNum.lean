/-
  The walks of appendNumber, appendLiteral and appendCopy.
-/
import Derived.Test.YtlgaindeheaodaaOwn
import Derived.IntWalk
namespace Go.Proofs.Ytlgaindeheaodaa
open Go.RowKit

/-- A literal piece. -/
def lit (t : List UInt8) : List UInt8 := if t.isEmpty then [] else digs (2 * t.length) ++ t
theorem lit_nil : lit [] = [] := rfl
theorem lit_cons {t : List UInt8} (h : t.isEmpty = false) : lit t = digs (2 * t.length) ++ t := by rw [lit, h]; rfl
theorem empty_of_size {s : ByteArray} (h : s.size = 0) : s.data.toList = [] := List.eq_nil_of_length_eq_zero (by rw [list_len]; exact h)

end Go.Proofs.Ytlgaindeheaodaa
