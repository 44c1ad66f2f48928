/-
  The walk of the law package's own check of the deltas.
-/
import Derived.Test.YtlgaindeheaodaaDlMade
namespace Go.Proofs.Ytlgaindeheaodaa
open Go.RowKit

set_option maxRecDepth 100000 in
theorem lv_ap1 : dap ⟨#[97, 98, 99, 100]⟩ ⟨#[5, 0]⟩ = ([], 40) := by decide +kernel
set_option maxRecDepth 100000 in
theorem lv_ap2 : dap ⟨#[97, 98, 99, 100, 101, 102, 103, 104]⟩ ⟨#[8, 10, 17, 0, 4, 120, 121]⟩ = ([97, 98, 99, 100, 101, 102, 103, 104, 120, 121], 0) := by decide +kernel
theorem apply_inv {w0 w : World} (h : Below w0.heap.size w0 w) (b s : ByteArray) (hb : b.size ≤ 1048576) (hs : s.size ≤ 1048576) (l : List UInt8) (k : Nat) (hr : dap b s = (l, k)) (r : ByteArray) (hl : str l = r) :
    Calls Try.prog 7 #[.string b, .string s] w fun e w' => e = .returned (.tuple #[.string r, .int .i64 k]) ∧ Below w0.heap.size w0 w' :=
  (dApply_any b s w (by omega) (by omega)).mono fun _ _ x => ⟨by rw [x.1, hr, hl], h.trans (x.2.mono h.size)⟩

section
variable {w0 w : World} (h : Below w0.heap.size w0 w)
include h
theorem lc_ap1 : Calls Try.prog 7 #[.string { data := #[97, 98, 99, 100] }, .string { data := #[5, 0] }] w fun e w' => e = .returned (.tuple #[.string { data := #[] }, .int .i64 40]) ∧ Below w0.heap.size w0 w' := apply_inv h _ _ (by decide) (by decide) _ _ lv_ap1 _ rfl
theorem lc_ap2 : Calls Try.prog 7 #[.string { data := #[97, 98, 99, 100, 101, 102, 103, 104] }, .string { data := #[8, 10, 17, 0, 4, 120, 121] }] w fun e w' => e = .returned (.tuple #[.string { data := #[97, 98, 99, 100, 101, 102, 103, 104, 120, 121] }, .int .i64 0]) ∧ Below w0.heap.size w0 w' := apply_inv h _ _ (by decide) (by decide) _ _ lv_ap2 _ rfl
theorem lc_mk0 : Calls Try.prog 8 #[.string { data := #[] }, .string { data := #[97, 98] }] w fun e w' => e = .returned (.string { data := #[0, 2, 4, 97, 98] }) ∧ Below w0.heap.size w0 w' := (make_0 w).mono fun _ _ x => ⟨x.1, h.trans (x.2.mono h.size)⟩
theorem lc_mk8 : Calls Try.prog 8 #[.string { data := #[97, 98, 99, 100, 101, 102, 103, 104] }, .string { data := #[97, 98, 99, 100, 101, 102, 103, 104] }] w fun e w' => e = .returned (.string { data := #[8, 8, 17, 0] }) ∧ Below w0.heap.size w0 w' := (make_8 w).mono fun _ _ x => ⟨x.1, h.trans (x.2.mono h.size)⟩
end

set_option maxHeartbeats 1000000 in
set_option maxRecDepth 10000 in
theorem dLives_inv {w0 w : World} (h : Below w0.heap.size w0 w) : Calls Try.prog 6 #[] w fun e w' => e = .returned (.bool true) ∧ Below w0.heap.size w0 w' := by
  go_enter Try.func6, Try.ntmps6
  go_wp2_with (first
    | (go_at_call 7; first | ((with_reducible refine (lc_ap1 (by assumption)).mono ?_); rintro e w' ⟨rfl, hi⟩) | ((with_reducible refine (lc_ap2 (by assumption)).mono ?_); rintro e w' ⟨rfl, hi⟩))
    | (go_at_call 8; first | ((with_reducible refine (lc_mk0 (by assumption)).mono ?_); rintro e w' ⟨rfl, hi⟩) | ((with_reducible refine (lc_mk8 (by assumption)).mono ?_); rintro e w' ⟨rfl, hi⟩)))
  go_ret
  exact ⟨rfl, ‹_›⟩
end Go.Proofs.Ytlgaindeheaodaa
