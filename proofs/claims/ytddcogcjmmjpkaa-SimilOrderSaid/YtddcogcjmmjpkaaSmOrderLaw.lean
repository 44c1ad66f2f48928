/-
  The walk of the law SimilOrder.
-/
import Derived.Test.YtddcogcjmmjpkaaSmTellsLaw
namespace Go.Proofs.Ytddcogcjmmjpkaa
open Go.RowKit Go.Maps Go.WideMaps

theorem rev_take (x : List (List UInt8)) (k z : Nat) (h : z + k + 1 = x.length) : x.reverse.take (k + 1) = x.reverse.take k ++ [x[z]'(by omega)] := by
  rw [List.take_succ_eq_append_getElem (by rw [List.length_reverse]; omega), List.getElem_reverse]
  congr 3
  omega
theorem str_cell (l : List UInt8) : [Value.string (str l)] = strs [l] := rfl

set_option maxHeartbeats 4000000 in
set_option maxRecDepth 8000 in
theorem smOrder_walk (a b : ByteArray) (W : World) : Calls Try.prog 9 #[.string a, .string b] W fun e W' => e = .returned (.bool true) ∧ Below W.heap.size W W' := by
  have hb0 := Below.refl W.heap.size W
  rcases hfa : fewB a with _ | _
  · have HFA := Lib.hid hfa.symm
    clear hfa
    go_enter Try.func9, Try.ntmps9
    go_wp2_with (first
      | (go_at_call 21; ((with_reducible refine (few_inv (by assumption) a false HFA.out).mono ?_); rintro e w' ⟨rfl, hi⟩))
      | (go_at_call 22; ((with_reducible refine (lives_inv (by assumption)).mono ?_); rintro e w' ⟨rfl, hi⟩)))
    go_ret
    exact ⟨rfl, by assumption⟩
  rcases hfb : fewB b with _ | _
  · have HFA := Lib.hid hfa.symm
    have HFB := Lib.hid hfb.symm
    clear hfa hfb
    go_enter Try.func9, Try.ntmps9
    go_wp2_with (first
      | (go_at_call 21; first
        | ((with_reducible refine (few_inv (by assumption) a true HFA.out).mono ?_); rintro e w' ⟨rfl, hi⟩)
        | ((with_reducible refine (few_inv (by assumption) b false HFB.out).mono ?_); rintro e w' ⟨rfl, hi⟩))
      | (go_at_call 22; ((with_reducible refine (lives_inv (by assumption)).mono ?_); rintro e w' ⟨rfl, hi⟩)))
    go_ret
    exact ⟨rfl, by assumption⟩
  have hsa := few_size hfa
  have hsb := few_size hfb
  have HFA := Lib.hid hfa.symm
  have HFB := Lib.hid hfb.symm
  clear hfa hfb
  by_cases hlast : ¬ a.size = 0 ∧ a.data.toList.getLast? ≠ some 10
  · obtain ⟨k, hk⟩ : ∃ k, k + 1 = a.size := ⟨a.size - 1, by omega⟩
    have hk2 : k < a.size := by omega
    have e0 := empty_not hlast.1
    have i1 : IntKind.i64.wrap ((a.size : Int) - 1) = (k : Int) := by rw [IntWalk.i64_in _ (by omega)]; omega
    have a1 : ((a[k].toNat : Int) != 10) = true := u8_notn (n := 10) (by decide) (fun e => hlast.2 (by rw [last_at hk]; congr 1))
    clear hlast hk
    go_enter Try.func9, Try.ntmps9
    go_wp2_with (first | (go_at_call 21; first | ((with_reducible refine (few_inv (by assumption) a true HFA.out).mono ?_); rintro e w' ⟨rfl, hi⟩) | ((with_reducible refine (few_inv (by assumption) b true HFB.out).mono ?_); rintro e w' ⟨rfl, hi⟩)) | (go_at_call 22; ((with_reducible refine (lives_inv (by assumption)).mono ?_); rintro e w' ⟨rfl, hi⟩)))
    go_ret
    exact ⟨rfl, by assumption⟩
  have hall : a.data.toList ≠ [] → a.data.toList.getLast? = some 10 := fun h => by
    refine Classical.byContradiction fun hc => hlast ⟨fun e => h ?_, hc⟩
    exact List.eq_nil_of_length_eq_zero (by rw [list_len]; exact e)
  obtain ⟨m, hm⟩ : ∃ m, m = shS a b := ⟨_, rfl⟩
  obtain ⟨s, hs⟩ : ∃ s, s = scS a b := ⟨_, rfl⟩
  obtain ⟨x, hx⟩ : ∃ x, x = split a.data.toList := ⟨_, rfl⟩
  obtain ⟨n, hn⟩ : ∃ n, n = x.length := ⟨_, rfl⟩
  obtain ⟨c, hc⟩ : ∃ c, c = str (join x.reverse) := ⟨_, rfl⟩
  have hperm : x.reverse.Perm x := List.reverse_perm x
  have hsc : split c.data.toList = x.reverse := by rw [hc, str_list, hx]; exact split_back _ hall
  have hcs : c.size = a.size := by rw [hc, str_size, join_perm hperm, hx, ← size_join]
  have hn1 : n ≤ a.size := by rw [hn, hx]; exact split_lines a
  have HM := Lib.hid hm
  have HS := Lib.hid hs
  have HM2 : Hid (m = shS c b) := by show _ = _; rw [hm, shS, shS, hsc, ← hx]; exact (shr_perm hperm _).symm
  have HS2 : Hid (s = scS c b) := by show _ = _; rw [hs, scS, scS, hsc, ← hx, hcs, scr, scr, shr_perm hperm]
  have HC := Lib.hid hc
  have HN := Lib.hid hn
  have HJ : Hid ((join x.reverse).length ≤ 1048576) := by show _ ≤ _; rw [join_perm hperm, hx, ← size_join]; omega
  have HSP : Hid (∀ w, Below W.heap.size W w → Calls Try.prog 32 #[.string a] w fun e w' => (∃ p cap, e = .returned (.slice p n cap) ∧ SRw w' p x ∧ n ≤ cap) ∧ Below W.heap.size W w') := fun w h => by
    have h := split_inv h a (by omega) n (by rw [hn, hx])
    rw [← hx] at h
    exact h
  obtain ⟨i0, hif, hz0, hz1, hz2⟩ := info_parts Try.infoStr
  have hE : (a.toList.isEmpty = true) ∨ (a.toList.isEmpty = false ∧ ∃ k, ∃ hk : k < a.size, IntKind.i64.wrap ((a.size : Int) - 1) = (k : Int) ∧ ((a[k].toNat : Int) != 10) = false) := by
    by_cases h0 : a.size = 0
    · exact .inl (empty_is h0)
    · refine .inr ⟨empty_not h0, a.size - 1, by omega, ?_, ?_⟩
      · rw [IntWalk.i64_in _ (by omega)]; omega
      · refine u8_isn (n := 10) (by decide) ?_
        have h2 := hall (fun e => h0 (by rw [← list_len, e]; rfl))
        rw [last_at (s := a) (n := a.size - 1) (by omega)] at h2
        exact Option.some.inj h2
  have HEE := Lib.hid hE
  clear hm hs hx hn hc hperm hsc hlast hall hE
  obtain ⟨y0, hy0⟩ : ∃ y, y = (n : Int) - 1 := ⟨_, rfl⟩
  have i0' : IntKind.i64.wrap ((n : Int) - 1) = y0 := by rw [IntWalk.i64_in _ (by omega)]; omega
  have HY : Hid (y0 = (n : Int) - 1) := hy0
  clear hy0
  go_enter Try.func9, Try.ntmps9
  rcases HEE.out with e0 | ⟨e0, k, hk, i1, a1⟩
  · go_upto_region 3 with (first | (go_at_call 21; first | ((with_reducible refine (few_inv (by assumption) a true HFA.out).mono ?_); rintro e w' ⟨rfl, hi⟩) | ((with_reducible refine (few_inv (by assumption) b true HFB.out).mono ?_); rintro e w' ⟨rfl, hi⟩)) | (go_at_call 22; ((with_reducible refine (lives_inv (by assumption)).mono ?_); rintro e w' ⟨rfl, hi⟩)))
    go_wp2_with (go_at_call 32; ((with_reducible refine (HSP.out _ (by assumption)).mono ?_); rintro e w1 ⟨⟨p1, c1, rfl, hp1, hc1⟩, hi1⟩))
    have HP1 := Lib.hid hp1
    have HI1 := Lib.hid hi1
    clear hp1 hi1 hb0 e0
    go_loopw [6, 7] (fun v iv wr => ∃ (k : Nat) (y : Int), k ≤ n ∧ iv = .int .i64 y ∧ y + k + 1 = n ∧ wr.ownsRow w1.heap.size 9 1 v k (strs (x.reverse.take k)) ∧ Hid (Below w1.heap.size w1 wr)) (fun _ iv _ => ((intOf iv) + 1).toNat)
    case atStart => exact ⟨0, y0, by omega, rfl, by have := HY.out; omega, World.ownsRow_nil _ _ _ _, Below.refl _ _⟩
    case round =>
      clear i0'
      obtain ⟨k, y, hk, rfl, hyk, ho, HB⟩ := hrel
      by_cases hlt : k < n
      · obtain ⟨z, rfl⟩ : ∃ z : Nat, y = z := ⟨y.toNat, by omega⟩
        have hzk : z + k + 1 = x.length := by rw [← HN.out]; omega
        have hzx : z < x.length := by omega
        have hzn : z < n := by omega
        obtain ⟨g, o, rfl, hg, a0⟩ := (HP1.out.below HB.out) z hzx
        have hrt := rev_take x k z hzk
        obtain ⟨t, ht⟩ : ∃ t, t = str x[z] := ⟨_, rfl⟩
        have HRT : Hid (strs (x.reverse.take k) ++ [Value.string t] = strs (x.reverse.take (k + 1))) := by show _ = _; rw [hrt, strs_append, ht, str_cell]
        rw [← ht] at a0
        obtain ⟨v, hv⟩ : ∃ v, v = (z : Int) - 1 := ⟨_, rfl⟩
        have i1 : IntKind.i64.wrap ((z : Int) - 1) = v := by rw [IntWalk.i64_in _ (by omega)]; omega
        have HV := Lib.hid hv
        have hbs := HB.out.size
        have hgw := Nat.lt_of_lt_of_le hg (Nat.le_refl _)
        clear ht hrt hzk hzx hv hlt
        go_wp2_with (at_builtin; (refine wpList_append_own _ rfl _ _ 22 rfl w1.heap.size 9 i0 (.string ⟨#[]⟩) 1 16 Try.underlying22 hif hz0 hz1 hz2 rfl (by decide) _ _ _ rfl (ho.alloc _) ⟨wr.heap.size, 0, none⟩ 1 1 [.string t] rfl rfl (new_cell wr _ _) (one_str _) (by unfold maxLen; omega) (by omega) (by simp; omega) ?_; intro v1 w2 ho1 hg1 _))
        have hb1 : Below w1.heap.size w1 w2 := app_step HB.out ho hg1 (Nat.le_refl _) HB.out.size
        rw [HRT.out] at ho1
        clear ho hg1
        go_wp2
        go_roundw
        case rel => exact ⟨k + 1, v, by omega, by go_num, by have := HV.out; omega, ho1, hb1⟩
        case measure => have := HV.out; simp [intOf]; omega
      · obtain rfl : k = n := by omega
        obtain rfl : y = -1 := by omega
        rw [List.take_of_length_le (by rw [List.length_reverse, ← HN.out]; exact Nat.le_refl _)] at ho
        have hnl : k = x.reverse.length := by rw [List.length_reverse]; exact HN.out
        obtain ⟨p, cap, rfl, hsr⟩ := srw_of (w := wr) (ls := x.reverse) (by rw [← hnl]; exact ho)
        rw [← hnl]
        have HNL := Lib.hid hnl
        have hiw := HI1.out.trans (HB.out.mono HI1.out.size)
        clear ho hnl hlt hyk
        go_wp2_with (first
          | (go_at_call 33; ((with_reducible refine (rJoin_any x.reverse p cap k c _ HNL.out hsr HC.out HJ.out (by omega)).mono ?_); rintro e w3 ⟨rfl, hb3⟩; have hi3 := hiw.trans (hb3.mono hiw.size); clear hb3))
          | (go_at_call 23; first | ((with_reducible refine (common_inv (by assumption) c b m (by omega) (by omega) HM2.out).mono ?_); rintro e w' ⟨rfl, hi⟩) | ((with_reducible refine (common_inv (by assumption) a b m (by omega) (by omega) HM.out).mono ?_); rintro e w' ⟨rfl, hi⟩))
          | (go_at_call 25; first | ((with_reducible refine (score_inv (by assumption) c b s (by omega) (by omega) HS2.out).mono ?_); rintro e w' ⟨rfl, hi⟩) | ((with_reducible refine (score_inv (by assumption) a b s (by omega) (by omega) HS.out).mono ?_); rintro e w' ⟨rfl, hi⟩))
          | (go_at_call 22; ((with_reducible refine (lives_inv (by assumption)).mono ?_); rintro e w' ⟨rfl, hi⟩)))
        go_ret
        exact ⟨rfl, by assumption⟩
  · go_upto_region 3 with (first | (go_at_call 21; first | ((with_reducible refine (few_inv (by assumption) a true HFA.out).mono ?_); rintro e w' ⟨rfl, hi⟩) | ((with_reducible refine (few_inv (by assumption) b true HFB.out).mono ?_); rintro e w' ⟨rfl, hi⟩)) | (go_at_call 22; ((with_reducible refine (lives_inv (by assumption)).mono ?_); rintro e w' ⟨rfl, hi⟩)))
    go_wp2_with (go_at_call 32; ((with_reducible refine (HSP.out _ (by assumption)).mono ?_); rintro e w1 ⟨⟨p1, c1, rfl, hp1, hc1⟩, hi1⟩))
    have HP1 := Lib.hid hp1
    have HI1 := Lib.hid hi1
    clear hp1 hi1 hb0 e0 i1 a1
    go_loopw [6, 7] (fun v iv wr => ∃ (k : Nat) (y : Int), k ≤ n ∧ iv = .int .i64 y ∧ y + k + 1 = n ∧ wr.ownsRow w1.heap.size 9 1 v k (strs (x.reverse.take k)) ∧ Hid (Below w1.heap.size w1 wr)) (fun _ iv _ => ((intOf iv) + 1).toNat)
    case atStart => exact ⟨0, y0, by omega, rfl, by have := HY.out; omega, World.ownsRow_nil _ _ _ _, Below.refl _ _⟩
    case round =>
      clear i0'
      obtain ⟨k, y, hk, rfl, hyk, ho, HB⟩ := hrel
      by_cases hlt : k < n
      · obtain ⟨z, rfl⟩ : ∃ z : Nat, y = z := ⟨y.toNat, by omega⟩
        have hzk : z + k + 1 = x.length := by rw [← HN.out]; omega
        have hzx : z < x.length := by omega
        have hzn : z < n := by omega
        obtain ⟨g, o, rfl, hg, a0⟩ := (HP1.out.below HB.out) z hzx
        have hrt := rev_take x k z hzk
        obtain ⟨t, ht⟩ : ∃ t, t = str x[z] := ⟨_, rfl⟩
        have HRT : Hid (strs (x.reverse.take k) ++ [Value.string t] = strs (x.reverse.take (k + 1))) := by show _ = _; rw [hrt, strs_append, ht, str_cell]
        rw [← ht] at a0
        obtain ⟨v, hv⟩ : ∃ v, v = (z : Int) - 1 := ⟨_, rfl⟩
        have i1 : IntKind.i64.wrap ((z : Int) - 1) = v := by rw [IntWalk.i64_in _ (by omega)]; omega
        have HV := Lib.hid hv
        have hbs := HB.out.size
        have hgw := Nat.lt_of_lt_of_le hg (Nat.le_refl _)
        clear ht hrt hzk hzx hv hlt
        go_wp2_with (at_builtin; (refine wpList_append_own _ rfl _ _ 22 rfl w1.heap.size 9 i0 (.string ⟨#[]⟩) 1 16 Try.underlying22 hif hz0 hz1 hz2 rfl (by decide) _ _ _ rfl (ho.alloc _) ⟨wr.heap.size, 0, none⟩ 1 1 [.string t] rfl rfl (new_cell wr _ _) (one_str _) (by unfold maxLen; omega) (by omega) (by simp; omega) ?_; intro v1 w2 ho1 hg1 _))
        have hb1 : Below w1.heap.size w1 w2 := app_step HB.out ho hg1 (Nat.le_refl _) HB.out.size
        rw [HRT.out] at ho1
        clear ho hg1
        go_wp2
        go_roundw
        case rel => exact ⟨k + 1, v, by omega, by go_num, by have := HV.out; omega, ho1, hb1⟩
        case measure => have := HV.out; simp [intOf]; omega
      · obtain rfl : k = n := by omega
        obtain rfl : y = -1 := by omega
        rw [List.take_of_length_le (by rw [List.length_reverse, ← HN.out]; exact Nat.le_refl _)] at ho
        have hnl : k = x.reverse.length := by rw [List.length_reverse]; exact HN.out
        obtain ⟨p, cap, rfl, hsr⟩ := srw_of (w := wr) (ls := x.reverse) (by rw [← hnl]; exact ho)
        rw [← hnl]
        have HNL := Lib.hid hnl
        have hiw := HI1.out.trans (HB.out.mono HI1.out.size)
        clear ho hnl hlt hyk
        go_wp2_with (first
          | (go_at_call 33; ((with_reducible refine (rJoin_any x.reverse p cap k c _ HNL.out hsr HC.out HJ.out (by omega)).mono ?_); rintro e w3 ⟨rfl, hb3⟩; have hi3 := hiw.trans (hb3.mono hiw.size); clear hb3))
          | (go_at_call 23; first | ((with_reducible refine (common_inv (by assumption) c b m (by omega) (by omega) HM2.out).mono ?_); rintro e w' ⟨rfl, hi⟩) | ((with_reducible refine (common_inv (by assumption) a b m (by omega) (by omega) HM.out).mono ?_); rintro e w' ⟨rfl, hi⟩))
          | (go_at_call 25; first | ((with_reducible refine (score_inv (by assumption) c b s (by omega) (by omega) HS2.out).mono ?_); rintro e w' ⟨rfl, hi⟩) | ((with_reducible refine (score_inv (by assumption) a b s (by omega) (by omega) HS.out).mono ?_); rintro e w' ⟨rfl, hi⟩))
          | (go_at_call 22; ((with_reducible refine (lives_inv (by assumption)).mono ?_); rintro e w' ⟨rfl, hi⟩)))
        go_ret
        exact ⟨rfl, by assumption⟩
end Go.Proofs.Ytddcogcjmmjpkaa
