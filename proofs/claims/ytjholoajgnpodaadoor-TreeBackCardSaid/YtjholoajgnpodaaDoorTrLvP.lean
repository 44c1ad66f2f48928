/-
  The values of the law package's own check of trees.
-/
import Derived.Test.YtjholoajgnpodaaDoorTrPlain
namespace Go.Proofs.YtjholoajgnpodaaDoor
open Go.RowKit

def idC (c : UInt8) : ByteArray := str (List.replicate 40 c)
def enA : En := ⟨1, ⟨#[97, 46, 98]⟩, idC 49⟩
def enB : En := ⟨4, ⟨#[97]⟩, idC 50⟩
def bodyC : List UInt8 := bodyT [enA, enB]
theorem lv_chk : chkT [enA, enB] = 0 := by decide +kernel
theorem lv_chk2 : chkT [enB, enA] = 150 := by decide +kernel
theorem lv_body : (bodyT [enA, enB]).length = 59 ∧ (bodyT [enA, enB]).take 11 = [49, 48, 48, 54, 52, 52, 32, 97, 46, 98, 0] := by decide +kernel
theorem lv_par : parE (bodyT [enA, enB]) = (0, [enA, enB]) := by decide +kernel
theorem lv_less : lessE enA enB = true ∧ lessE enB enA = false := by decide +kernel
end Go.Proofs.YtjholoajgnpodaaDoor
