/-
  The constants of the law package's own check.
-/
import Derived.Test.YthfnnbeaggkhkaaSqDec
import Derived.Test.YthfnnbeaggkhkaaSqPressPlain
namespace Go.Proofs.Ythfnnbeaggkhkaa
open Go.RowKit

set_option maxRecDepth 100000 in
theorem lv_dec1 : dec ⟨#[4, 2, 97, 7, 1]⟩ 4 = ([], 2) := by decide +kernel
set_option maxRecDepth 100000 in
theorem lv_dec3 : dec ⟨#[5, 10, 97, 98, 99, 100, 101]⟩ 4 = ([], 4) := by decide +kernel
set_option maxRecDepth 100000 in
theorem lv_dec2 : dec ⟨#[10, 6, 97, 98, 99, 13, 3, 2, 120]⟩ 10 = ([97, 98, 99, 97, 98, 99, 97, 98, 99, 120], 0) := by decide +kernel
set_option maxRecDepth 100000 in
theorem lv_press : pressed [97, 98, 99, 97, 98, 99, 97, 98, 99, 120] = [10, 6, 97, 98, 99, 13, 3, 2, 120] := by decide +kernel
set_option maxRecDepth 100000 in
theorem lv_press0 : pressed [] = [0] := by decide +kernel
end Go.Proofs.Ythfnnbeaggkhkaa
