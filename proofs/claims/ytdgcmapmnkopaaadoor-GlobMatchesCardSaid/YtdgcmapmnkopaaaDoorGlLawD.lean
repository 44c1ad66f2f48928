/-
  The walk of the law GlobParts.
-/
import Derived.Test.YtdgcmapmnkopaaaDoorGlRPart
namespace Go.Proofs.YtdgcmapmnkopaaaDoor
open Go.RowKit

set_option maxHeartbeats 1000000 in
theorem gfew_any (p s : ByteArray) (B : Bool) (w : World) (hB : B = (decide (p.size ≤ 14) && decide (s.size ≤ 14))) :
    Calls Tryd.prog 38 #[.string p, .string s] w fun e w' => e = .returned (.bool B) ∧ w = w' := by
  by_cases h1 : p.size ≤ 14
  · by_cases h2 : s.size ≤ 14
    · have HB : Hid (B = true) := by show _ = _; rw [hB, decide_eq_true h1, decide_eq_true h2]; rfl
      clear hB
      go_enter Tryd.func38, Tryd.ntmps38
      go_wp2
      go_ret
      exact ⟨ret_bool (by rw [HB.out]; exact decide_eq_true (by omega)), rfl⟩
    · have HB : Hid (B = false) := by show _ = _; rw [hB, decide_eq_false h2, Bool.and_false]
      clear hB
      go_enter Tryd.func38, Tryd.ntmps38
      go_wp2
      go_ret
      exact ⟨ret_bool (by rw [HB.out]; exact decide_eq_false (by omega)), rfl⟩
  · have HB : Hid (B = false) := by show _ = _; rw [hB, decide_eq_false h1]; rfl
    clear hB
    go_enter Tryd.func38, Tryd.ntmps38
    go_wp2
    go_ret
    exact ⟨by rw [HB.out]; rfl, rfl⟩
set_option maxHeartbeats 4000000 in
set_option maxRecDepth 4000 in
theorem globParts_walk (p s : ByteArray) (W : World) (_hp0 : p.size ≤ 140737488355328) (_hs0 : s.size ≤ 140737488355328) (h0 : PI W W) :
    Calls Tryd.prog 9 #[.string p, .string s] W fun e W' => e = .returned (.bool true) ∧ Below W.heap.size W W' := by
  obtain ⟨F, hF⟩ : ∃ F, F = (decide (p.size ≤ 14) && decide (s.size ≤ 14)) := ⟨_, rfl⟩
  have HF := Lib.hid (fun (w : World) => gfew_any p s F w hF)
  cases F with
  | false =>
    clear hF
    go_enter Tryd.func9, Tryd.ntmps9
    go_wp2_with (first
      | (go_at_call 38; ((with_reducible refine (HF.out _).mono ?_); rintro e w1 ⟨rfl, rfl⟩))
      | (go_at_call 33; ((with_reducible refine (glives_any W _ (by assumption)).mono ?_); rintro e w' ⟨rfl, hi⟩)))
    go_ret
    exact ⟨rfl, hi.1⟩
  | true =>
    have hF2 := hF.symm
    rw [Bool.and_eq_true, decide_eq_true_iff, decide_eq_true_iff] at hF2
    obtain ⟨h1, h2⟩ := hF2
    obtain ⟨B, hB⟩ : ∃ B, B = gPart p s := ⟨_, rfl⟩
    have H1 := Lib.hid (fun (w : World) (h : PI W w) => pcl p s B hB.symm (by omega) (by omega) h)
    have H2 : Hid (∀ w, PI W w → Calls Tryd.prog 40 #[.string p, .string s] w fun e w' => e = .returned (.bool B) ∧ PI W w') := fun w h => (rgpart_any p s B w (by omega) (by omega) hB).mono fun _ _ x => ⟨x.1, h.step x.2⟩
    clear hF hB
    cases B <;>
    · go_enter Tryd.func9, Tryd.ntmps9
      go_wp2_with (first
        | (go_at_call 38; ((with_reducible refine (HF.out _).mono ?_); rintro e w1 ⟨rfl, rfl⟩))
        | (go_at_call 39; ((with_reducible refine (H1.out _ (by assumption)).mono ?_); rintro e w1 ⟨rfl, hi1⟩))
        | (go_at_call 40; ((with_reducible refine (H2.out _ (by assumption)).mono ?_); rintro e w1 ⟨rfl, hi2⟩))
        | (go_at_call 33; ((with_reducible refine (glives_any W _ (by assumption)).mono ?_); rintro e w' ⟨rfl, hi⟩)))
      go_ret
      exact ⟨rfl, hi.1⟩
end Go.Proofs.YtdgcmapmnkopaaaDoor
