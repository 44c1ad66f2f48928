/-
  The walk of the reference's Parts.
-/
import Derived.Test.YtjholoajgnpodaaDoorPtBasicPk
namespace Go.Proofs.YtjholoajgnpodaaDoor
open Go.RowKit

def prts (s : ByteArray) : List (List UInt8) := if s.size = 0 then [] else cut [] s.data.toList
theorem pt_drop (s : ByteArray) (k : Nat) (h : k < s.size) : s.data.toList.drop k = s[k] :: s.data.toList.drop (k + 1) := List.drop_eq_getElem_cons (by rw [list_len]; exact h)
theorem pt_next (s : ByteArray) (x k : Nat) (h : k < s.size) (hx : x ≤ k) : (s.data.toList.drop x).take (k + 1 - x) = (s.data.toList.drop x).take (k - x) ++ [s[k]] := by
  rw [show k + 1 - x = (k - x) + 1 by omega, List.take_succ_eq_append_getElem (by rw [List.length_drop, list_len]; omega), List.getElem_drop]
  congr 2
  simp only [show x + (k - x) = k by omega]
  rfl
theorem pt_one (t : ByteArray) : ∀ u ∈ [Value.string t], u.oneCell' = true := by intro u hu; simp at hu; subst hu; rfl
theorem pt_self (t : ByteArray) : str t.data.toList = t := ba_ext rfl
theorem strs_snoc (done : List (List UInt8)) (t : ByteArray) : strs done ++ [Value.string t] = strs (done ++ [t.data.toList]) := by simp [strs, pt_self]

set_option maxHeartbeats 1000000 in
set_option maxRecDepth 4000 in
theorem rparts_any (s : ByteArray) (w : World) (hs : s.size ≤ 1048576) :
    Calls Tryd.prog 58 #[.string s] w fun e w' => (∃ p cap, e = .returned (.slice p (prts s).length cap) ∧ SRw w' p (prts s)) ∧ Below w.heap.size w w' := by
  by_cases h0 : s.size = 0
  · have he := none_true h0
    rw [show prts s = [] from if_pos h0]
    clear h0
    go_enter Tryd.func58, Tryd.ntmps58
    go_wp2
    go_ret
    exact ⟨⟨none, 0, rfl, SRw.none _ _⟩, Below.refl _ _⟩
  · have he := none_false (s := s) (by omega)
    obtain ⟨i0, hi, hz0, hz1, hz2⟩ := info_parts Tryd.infoStr
    obtain ⟨R, hR⟩ : ∃ R, R = prts s := ⟨_, rfl⟩
    rw [← hR]
    have HR : Hid (R = [] ++ cut ((s.data.toList.drop 0).take (0 - 0)) (s.data.toList.drop 0)) := by show _ = _; rw [hR]; exact if_neg h0
    clear hR h0
    go_enter Tryd.func58, Tryd.ntmps58
    go_wp2
    go_loopw [3, 4, 5] (fun v xv i wr => ∃ (x k : Nat) (done : List (List UInt8)), xv = .int .i64 x ∧ i = .int .i64 k ∧ x ≤ k ∧ k ≤ s.size ∧ done.length ≤ k ∧ Hid (R = done ++ cut ((s.data.toList.drop x).take (k - x)) (s.data.toList.drop k)) ∧ wr.ownsRow w.heap.size 9 1 v done.length (strs done) ∧ Below w.heap.size w wr) (fun _ _ i _ => s.size - (intOf i).toNat)
    case atStart => exact ⟨0, 0, [], rfl, rfl, by omega, by omega, by simp, HR, World.ownsRow_nil _ _ _ _, Below.refl _ _⟩
    case round =>
      clear HR
      obtain ⟨x, k, done, rfl, rfl, hxk, hks, hdl, HR, ho, hb⟩ := hrel
      have hbw := hb.size
      by_cases hlt : k < s.size
      · have h47 := pt47 s[k]
        have hr := HR.out
        rw [pt_drop s k hlt, cut] at hr
        cases h48 : (s[k] == 47) with
        | true =>
          rw [h48] at h47
          rw [if_pos (by simpa using h48)] at hr
          have HX : Hid (R = (done ++ [(s.extract x k).data.toList]) ++ cut ((s.data.toList.drop (k + 1)).take (k + 1 - (k + 1))) (s.data.toList.drop (k + 1))) := by
            show _ = _
            rw [hr, ext_bytes, Nat.sub_self, List.take_zero]
            simp
          clear hr HR h48
          go_wp2_with (at_builtin; refine wpList_append_own _ rfl _ _ 71 rfl w.heap.size 9 i0 (.string ⟨#[]⟩) 1 16 Tryd.underlying71 hi hz0 hz1 hz2 rfl (by decide) _ _ _ rfl (ho.alloc _) ⟨wr.heap.size, 0, none⟩ 1 1 [.string (s.extract x k)] rfl rfl (new_cell wr _ _) (pt_one _) (by unfold maxLen; omega) (by omega) (by simp; omega) ?_; intro v1 w1 ho1 hg1 _)
          have hb1 : Below w.heap.size w w1 := below_own (below_new hb _) (ho.alloc _) (Nat.le_refl _) hg1
          rw [strs_snoc] at ho1
          go_roundw
          case rel => exact ⟨k + 1, k + 1, done ++ [(s.extract x k).data.toList], by go_num, by go_num, by omega, by omega, by simp; omega, HX, by rw [List.length_append]; exact ho1, hb1⟩
          case measure => simp [intOf]; omega
        | false =>
          rw [h48] at h47
          rw [if_neg (by simpa using h48)] at hr
          have HX : Hid (R = done ++ cut ((s.data.toList.drop x).take (k + 1 - x)) (s.data.toList.drop (k + 1))) := by
            show _ = _
            rw [hr, pt_next s x k hlt hxk]
          clear hr HR h48
          go_wp2
          go_roundw
          case rel => exact ⟨x, k + 1, done, rfl, by go_num, by omega, by omega, by omega, HX, ho, hb⟩
          case measure => simp [intOf]; omega
      · obtain rfl : k = s.size := by omega
        have HX : Hid (R = done ++ [(s.extract x s.size).data.toList]) := by
          show _ = _
          have hdn : s.data.toList.drop s.size = [] := List.drop_eq_nil_of_le (by rw [list_len]; exact Nat.le_refl _)
          rw [HR.out, hdn, cut, ext_bytes]
        go_wp2_with (at_builtin; refine wpList_append_own _ rfl _ _ 71 rfl w.heap.size 9 i0 (.string ⟨#[]⟩) 1 16 Tryd.underlying71 hi hz0 hz1 hz2 rfl (by decide) _ _ _ rfl (ho.alloc _) ⟨wr.heap.size, 0, none⟩ 1 1 [.string (s.extract x s.size)] rfl rfl (new_cell wr _ _) (pt_one _) (by unfold maxLen; omega) (by omega) (by simp; omega) ?_; intro v1 w1 ho1 hg1 _)
        have hb1 : Below w.heap.size w w1 := below_own (below_new hb _) (ho.alloc _) (Nat.le_refl _) hg1
        rw [strs_snoc] at ho1
        have ho2 : w1.ownsRow w.heap.size 9 1 v1 R.length (strs R) := by rw [HX.out, List.length_append]; exact ho1
        obtain ⟨p, cap, rfl, hsr⟩ := srw_of ho2
        clear ho1 ho2 hg1 ho
        go_wp2
        go_ret
        exact ⟨⟨p, cap, rfl, hsr⟩, hb1⟩
end Go.Proofs.YtjholoajgnpodaaDoor
