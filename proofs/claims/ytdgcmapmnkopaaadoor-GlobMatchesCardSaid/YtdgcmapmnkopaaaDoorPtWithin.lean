/-
  The walk of Within.
-/
import Derived.Test.YtdgcmapmnkopaaaDoorPtBasic
import Derived.Test.YtdgcmapmnkopaaaDoorShelf
namespace Go.Proofs.YtdgcmapmnkopaaaDoor
open Go.RowKit

theorem prefix_is (d p : ByteArray) (h : d.size ≤ p.size) : Lib.hasPrefix p.data.toList d.data.toList = ((p.extract 0 d.size).toList == d.toList) := by
  have e : (p.extract 0 d.size).toList = p.data.toList.take d.data.toList.length := by
    rw [ByteArray.toList_eq, ext_bytes, List.drop_zero, Nat.sub_zero, list_len]
  rw [e, ByteArray.toList_eq]
  unfold Lib.hasPrefix
  apply Bool.eq_iff_iff.mpr
  rw [List.isPrefixOf_iff_prefix, beq_iff_eq, List.prefix_iff_eq_take]
  exact eq_comm

set_option maxHeartbeats 1000000 in
set_option maxRecDepth 4000 in
theorem within_any (d p : ByteArray) (w : World) (hd : d.size ≤ 1048576) (hp : p.size ≤ 1048576) :
    Calls Tryd.prog 29 #[.string d, .string p] w fun e w' => e = .returned (.bool (wthn d p)) ∧ w = w' := by
  by_cases h : d.size = 0
  · have he := none_true h
    have hw : wthn d p = !p.toList.isEmpty := by
      unfold wthn
      rw [if_pos h]
      by_cases hz : p.size = 0
      · rw [none_true hz, hz]; rfl
      · rw [none_false (by omega), bne_iff_ne.mpr hz]; rfl
    rw [hw]
    clear h hw
    go_enter Tryd.func29, Tryd.ntmps29
    go_wp2
    go_ret
    exact ⟨rfl, rfl⟩
  · have he := none_false (s := d) (by omega)
    by_cases hlt : d.size + 1 < p.size
    · have hds : d.size < p.size := by omega
      have h47 := pt47 (p[d.size])
      have HP : Hid (∀ w, Calls Tryd.prog 51 #[.string p, .string d] w fun e w' => e = .returned (.bool ((p.extract 0 d.size).toList == d.toList)) ∧ w' = w) := fun w => by
        have h := Tryd.strings_HasPrefix p d w
        rw [prefix_is d p (by omega)] at h
        exact h
      obtain ⟨R, hR⟩ : ∃ R, R = wthn d p := ⟨_, rfl⟩
      have HR : Hid (R = (((p.extract 0 d.size).toList == d.toList) && (p[d.size] == 47))) := by
        show _ = _
        rw [hR]
        unfold wthn
        rw [if_neg h, pt_at p d.size hds, decide_eq_true hlt, Bool.true_and]
      rw [← hR]
      clear hR h
      cases h48 : (p[d.size] == 47) with
      | false =>
        rw [h48] at h47
        have HX : Hid (R = false) := by show _ = _; rw [HR.out, h48, Bool.and_false]
        clear HR
        go_enter Tryd.func29, Tryd.ntmps29
        go_wp2
        go_ret
        exact ⟨by rw [HX.out]; rfl, rfl⟩
      | true =>
        rw [h48] at h47
        obtain ⟨B, hB⟩ : ∃ B, B = ((p.extract 0 d.size).toList == d.toList) := ⟨_, rfl⟩
        have HX : Hid (R = B) := by show _ = _; rw [HR.out, h48, Bool.and_true, hB]
        rw [← hB] at HP
        clear HR hB
        go_enter Tryd.func29, Tryd.ntmps29
        go_wp2_with (go_at_call 51; ((with_reducible refine (HP.out _).mono ?_); rintro e w1 ⟨rfl, rfl⟩))
        go_ret
        exact ⟨by rw [HX.out]; rfl, rfl⟩
    · have hw : wthn d p = false := by
        unfold wthn
        rw [if_neg h, decide_eq_false hlt]
        rfl
      rw [hw]
      clear hw h
      go_enter Tryd.func29, Tryd.ntmps29
      go_wp2
      go_ret
      exact ⟨rfl, rfl⟩
end Go.Proofs.YtdgcmapmnkopaaaDoor
