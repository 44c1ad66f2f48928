/-
  The walk of the law OctetSums.
-/
import Derived.Test.YtgnljpcnkmogfaaDoorOctLives
namespace Go.Proofs.YtgnljpcnkmogfaaDoor
open Go.RowKit

theorem openOf_seal (s : ByteArray) : openOf (sealOf s) = (s, true) := by
  have hsz : (sealOf s).size = s.size + 4 := by rw [sealOf, ByteArray.size_append, str_size, wbytes_len]
  have he : (sealOf s).extract 0 s.size = s := by
    apply ba_ext
    rw [Lib.extract_data, sealOf, app_list]
    simp only [List.drop_zero, Nat.sub_zero]
    rw [← list_len s, List.take_left]
  have h := (seal_iff (sealOf s) s.size hsz).1 (by rw [he])
  unfold openOf
  rw [hsz, Nat.add_sub_cancel, if_neg (by omega), if_pos h, he]

set_option maxHeartbeats 1000000 in
set_option maxRecDepth 10000 in
theorem sums_walk (s : ByteArray) (w : World) (hs : s.size ≤ 140737488355328) (ht : Tab w) :
    Calls Tryd.prog 5 #[.string s] w fun e w' => e = .returned (.bool true) ∧ Below w.heap.size w w' := by
  have h0 : Inv w w := Inv.self ht
  obtain ⟨ov, ob, ho⟩ : ∃ v b, openOf s = (v, b) := ⟨_, _, rfl⟩
  obtain ⟨c, hc⟩ : ∃ c, crc s.data.toList = c := ⟨_, rfl⟩
  obtain ⟨t, hst⟩ : ∃ t, sealOf s = t := ⟨_, rfl⟩
  have hos : openOf t = (s, true) := by rw [← hst]; exact openOf_seal s
  have htz : t.size ≤ 1125899906842624 := by rw [← hst, sealOf, ByteArray.size_append, str_size, wbytes_len]; omega
  have HO : Hid (openOf s = (ov, ob)) := ho
  have HC : Hid (crc s.data.toList = c) := hc
  have HT : Hid (sealOf s = t) := hst
  have HOS : Hid (openOf t = (s, true)) := hos
  clear ho hc hst hos ht
  go_enter Tryd.func5, Tryd.ntmps5
  go_wp2_with (first
    | (go_at_call 24; first | ((with_reducible refine (open_inv (by assumption) _ (by omega) _ _ HO.out).mono ?_); rintro e w' ⟨rfl, hi⟩) | ((with_reducible refine (open_inv (by assumption) _ (by omega) _ _ HOS.out).mono ?_); rintro e w' ⟨rfl, hi⟩))
    | (go_at_call 25; ((with_reducible refine (ropen_inv (by assumption) _ (by omega) _ _ HO.out).mono ?_); rintro e w' ⟨rfl, hi⟩))
    | (go_at_call 26; ((with_reducible refine (seal_inv (by assumption) _ (by omega) _ HT.out).mono ?_); rintro e w' ⟨rfl, hi⟩))
    | (go_at_call 29; ((with_reducible refine (rseal_inv (by assumption) _ (by omega) _ HT.out).mono ?_); rintro e w' ⟨rfl, hi⟩))
    | (go_at_call 27; ((with_reducible refine (sum_inv (by assumption) _ (by omega) _ HC.out).mono ?_); rintro e w' ⟨rfl, hi⟩))
    | (go_at_call 28; ((with_reducible refine (rsum_inv (by assumption) _ (by omega) _ HC.out).mono ?_); rintro e w' ⟨rfl, hi⟩))
    | (go_at_call 17; ((with_reducible refine (lives_inv (by assumption)).mono ?_); rintro e w' ⟨rfl, hi⟩)))

  go_ret
  exact ⟨rfl, Inv.below ‹_›⟩
end Go.Proofs.YtgnljpcnkmogfaaDoor
