/-
  The walk of the reference's Of.
-/
import Derived.Test.YtalbphlmebhjoaaDoorShaRDigest
import Derived.Test.YtalbphlmebhjoaaDoorIdRHex
import Derived.Test.YtalbphlmebhjoaaDoorIdOf
namespace Go.Proofs.YtalbphlmebhjoaaDoor
open Go.RowKit

set_option maxHeartbeats 1000000 in
set_option maxRecDepth 4000 in
theorem rof_any (s : ByteArray) (w : World) (hs : s.size ≤ 140737488355328) :
    Calls Tryd.prog 22 #[.string s] w fun e w' => e = .returned (.string (str (ofC s))) ∧ Below w.heap.size w w' := by
  obtain ⟨h, hh⟩ : ∃ h, h = str (shaC s) := ⟨_, rfl⟩
  have hl : h.size = 32 := by rw [hh, str_size]; exact stB_len _
  have HH : Hid (h = str (shaC s)) := hh
  have h1 : 20 ≤ h.size := by omega
  have hx : (h.extract 0 20).size ≤ 70368744177664 := by rw [ByteArray.size_extract]; omega
  obtain ⟨x, hxx⟩ : ∃ x, x = h.extract 0 20 := ⟨_, rfl⟩
  rw [← hxx] at hx
  have HX : Hid (x = h.extract 0 20) := hxx
  clear hh hl hxx
  go_enter Tryd.func22, Tryd.ntmps22
  go_wp2_with (first
    | (go_at_call 31; refine (rdigest_any s _ hs).mono ?_; rintro e w1 ⟨rfl, hb1⟩; rw [← HH.out])
    | (go_at_call 30; rw [← HX.out]; refine (rhex_any x _ hx).mono ?_; rintro e w2 ⟨rfl, hb2⟩))
  go_ret
  exact ⟨ret_str (by rw [HX.out, HH.out]; rfl), hb1.trans (hb2.mono hb1.size)⟩
end Go.Proofs.YtalbphlmebhjoaaDoor
