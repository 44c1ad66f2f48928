/-
  The walk of the law package's own check.
-/
import Derived.Test.YthfnnbeaggkhkaaSqConsts
import Derived.Test.YthfnnbeaggkhkaaSqBound
import Derived.Test.YthfnnbeaggkhkaaSqPress
namespace Go.Proofs.Ythfnnbeaggkhkaa
open Go.RowKit

/-- A step of the world: what is below a number reads as it did. -/
theorem compress_inv {w0 w : World} (h : Below w0.heap.size w0 w) (s : ByteArray) (hs : s.size ≤ 1048576) (r : ByteArray) (hr : str (pressed s.data.toList) = r) :
    Calls Try.prog 15 #[.string s] w fun e w' => e = .returned (.string r) ∧ Below w0.heap.size w0 w' :=
  (compress_any s w hs).mono fun _ _ x => ⟨by rw [x.1, hr], h.trans (x.2.mono h.size)⟩
theorem decompress_inv {w0 w : World} (h : Below w0.heap.size w0 w) (s : ByteArray) (hs : s.size ≤ 1048576) (m : Int) (hm : m ≤ 1048576) (hm2 : -9223372036854775808 ≤ m) (l : List UInt8) (k : Nat) (hr : dec s m = (l, k)) (r : ByteArray) (hl : str l = r) :
    Calls Try.prog 18 #[.string s, .int .i64 m] w fun e w' => e = .returned (.tuple #[.string r, .int .i64 k]) ∧ Below w0.heap.size w0 w' :=
  (decompress_any s m w hs hm hm2).mono fun _ _ x => ⟨by rw [x.1, hr, hl], h.trans (x.2.mono h.size)⟩
theorem bound64 (w : World) : Calls Try.prog 17 #[.int .i64 64] w fun e w' => e = .returned (.int .i64 81) ∧ w = w' := bound_nat 64 w (by decide)
theorem boundM (w : World) : Calls Try.prog 17 #[.int .i64 (-1)] w fun e w' => e = .returned (.int .i64 16) ∧ w = w' := bound_neg (-1) w (by decide)

section
variable {w0 w : World} (h : Below w0.heap.size w0 w)
include h
theorem lc_dec1 : Calls Try.prog 18 #[.string { data := #[4, 2, 97, 7, 1] }, .int .i64 4] w fun e w' => e = .returned (.tuple #[.string { data := #[] }, .int .i64 2]) ∧ Below w0.heap.size w0 w' := decompress_inv h _ (by decide) 4 (by decide) (by decide) _ _ lv_dec1 _ rfl
theorem lc_dec2 : Calls Try.prog 18 #[.string { data := #[10, 6, 97, 98, 99, 13, 3, 2, 120] }, .int .i64 10] w fun e w' => e = .returned (.tuple #[.string { data := #[97, 98, 99, 97, 98, 99, 97, 98, 99, 120] }, .int .i64 0]) ∧ Below w0.heap.size w0 w' := decompress_inv h _ (by decide) 10 (by decide) (by decide) _ _ lv_dec2 _ rfl
theorem lc_dec3 : Calls Try.prog 18 #[.string { data := #[5, 10, 97, 98, 99, 100, 101] }, .int .i64 4] w fun e w' => e = .returned (.tuple #[.string { data := #[] }, .int .i64 4]) ∧ Below w0.heap.size w0 w' := decompress_inv h _ (by decide) 4 (by decide) (by decide) _ _ lv_dec3 _ rfl
theorem lc_press : Calls Try.prog 15 #[.string { data := #[97, 98, 99, 97, 98, 99, 97, 98, 99, 120] }] w fun e w' => e = .returned (.string { data := #[10, 6, 97, 98, 99, 13, 3, 2, 120] }) ∧ Below w0.heap.size w0 w' := compress_inv h _ (by decide) _ (by rw [lv_press]; rfl)
theorem lc_press0 : Calls Try.prog 15 #[.string { data := #[] }] w fun e w' => e = .returned (.string { data := #[0] }) ∧ Below w0.heap.size w0 w' := compress_inv h _ (by decide) _ (by rw [lv_press0]; rfl)
end

set_option maxHeartbeats 1000000 in
set_option maxRecDepth 10000 in
theorem lives_inv {w0 w : World} (h : Below w0.heap.size w0 w) : Calls Try.prog 14 #[] w fun e w' => e = .returned (.bool true) ∧ Below w0.heap.size w0 w' := by
  go_enter Try.func14, Try.ntmps14
  go_wp2_with (first
    | (go_at_call 18; first | ((with_reducible refine (lc_dec1 (by assumption)).mono ?_); rintro e w' ⟨rfl, hi⟩) | ((with_reducible refine (lc_dec2 (by assumption)).mono ?_); rintro e w' ⟨rfl, hi⟩) | ((with_reducible refine (lc_dec3 (by assumption)).mono ?_); rintro e w' ⟨rfl, hi⟩))
    | (go_at_call 15; first | ((with_reducible refine (lc_press (by assumption)).mono ?_); rintro e w' ⟨rfl, hi⟩) | ((with_reducible refine (lc_press0 (by assumption)).mono ?_); rintro e w' ⟨rfl, hi⟩))
    | (go_at_call 17; first | ((with_reducible refine (bound64 _).mono ?_); rintro e w' ⟨rfl, rfl⟩) | ((with_reducible refine (boundM _).mono ?_); rintro e w' ⟨rfl, rfl⟩)))
  go_ret
  exact ⟨rfl, ‹_›⟩
end Go.Proofs.Ythfnnbeaggkhkaa
