/-
  The walks of the laws PathIs, PathJoins, PathWithin, PathMeets.
-/
import Derived.Test.YtlgagfjflaiajaaDoorPtLives
namespace Go.Proofs.YtlgagfjflaiajaaDoor
open Go.RowKit

theorem getD_app (a b : List UInt8) (c : UInt8) : (a ++ c :: b).getD a.length 0 = c := by
  rw [List.getD_eq_getElem?_getD, List.getElem?_append_right (Nat.le_refl _), Nat.sub_self]
  rfl
theorem undr_list {d p : ByteArray} (h : 0 < d.size) : (undr d p).data.toList = d.data.toList ++ 47 :: p.data.toList := by
  rw [undr_some h, app_list, app_list]
  show d.data.toList ++ [47] ++ p.data.toList = _
  simp
theorem undr_size {d p : ByteArray} (h : 0 < d.size) : (undr d p).size = d.size + 1 + p.size := by
  rw [undr_some h, ByteArray.size_append, ByteArray.size_append]
  rfl
theorem wthn_undr (d p : ByteArray) : wthn d (undr d p) = (p.size != 0) := by
  unfold wthn
  split
  · rename_i h
    rw [undr_none h]
  · rename_i h
    have h0 : 0 < d.size := by omega
    have e1 : ((undr d p).extract 0 d.size).toList = d.toList := by
      rw [ByteArray.toList_eq, ByteArray.toList_eq, ext_bytes, undr_list h0, List.drop_zero, Nat.sub_zero, ← list_len d, List.take_left]
    have e2 : (undr d p).data.toList.getD d.size 0 = 47 := by rw [undr_list h0, ← list_len d, getD_app]
    rw [e1, e2, undr_size h0]
    by_cases hp : p.size = 0
    · rw [hp, decide_eq_false (by omega)]; rfl
    · rw [decide_eq_true (by omega), bne_iff_ne.mpr hp]; simp

theorem lens_le (b : Nat) : ∀ ls : List (List UInt8), (∀ t ∈ ls, t.length ≤ b) → Lib.lens ls ≤ ls.length * b
  | [], _ => by simp [Lib.lens]
  | x :: r, h => by
    have h1 := lens_le b r (fun t ht => h t (by simp [ht]))
    have h2 := h x (by simp)
    simp only [Lib.lens, List.map_cons, List.sum_cons, List.length_cons, Nat.add_mul, Nat.one_mul] at h1 ⊢
    omega
theorem jn_small (ls : List (List UInt8)) (b : Nat) (h : ∀ t ∈ ls, t.length ≤ b) (hn : ls.length * b + ls.length ≤ 1048576) : (jn ls).length ≤ 1048576 := by
  cases ls with
  | nil => simp [jn, Lib.join_nil]
  | cons x r =>
    have := lens_le b (x :: r) h
    rw [jn, Lib.join_length]
    simp only [List.length_cons, List.length_nil] at hn ⊢
    simp only [List.length_cons] at this
    omega

set_option maxHeartbeats 2000000 in
set_option maxRecDepth 4000 in
theorem ptWithin_walk (d p : ByteArray) (W : World) (hd : d.size ≤ 140737488355328) (hp : p.size ≤ 140737488355328) (h0 : PI W W) :
    Calls Tryd.prog 6 #[.string d, .string p] W fun e W' => e = .returned (.bool true) ∧ Below W.heap.size W W' := by
  by_cases hs : d.size + p.size ≤ 2000
  · obtain ⟨u, hu⟩ : ∃ u, u = undr d p := ⟨_, rfl⟩
    have hus : u.size ≤ 1048576 := by
      rw [hu, undr]
      split
      · omega
      · rw [ByteArray.size_append, ByteArray.size_append]
        have h1 : (⟨#[47]⟩ : ByteArray).size = 1 := rfl
        omega
    have hw := wthn_undr d p
    rw [← hu] at hw
    obtain ⟨B1, hB1⟩ : ∃ B, B = wthn d p := ⟨_, rfl⟩
    obtain ⟨B2, hB2⟩ : ∃ B, B = wthn p d := ⟨_, rfl⟩
    have H1 : Hid (∀ w, Calls Tryd.prog 29 #[.string d, .string p] w fun e w' => e = .returned (.bool B1) ∧ w = w') := fun w => by rw [hB1]; exact within_any d p w (by omega) (by omega)
    have H2 : Hid (∀ w, Calls Tryd.prog 30 #[.string d, .string p] w fun e w' => e = .returned (.bool B1) ∧ w = w') := fun w => by rw [hB1]; exact rwithin_any d p w (by omega) (by omega)
    have H3 : Hid (∀ w, Calls Tryd.prog 29 #[.string p, .string d] w fun e w' => e = .returned (.bool B2) ∧ w = w') := fun w => by rw [hB2]; exact within_any p d w (by omega) (by omega)
    have H4 : Hid (∀ w, Calls Tryd.prog 30 #[.string p, .string d] w fun e w' => e = .returned (.bool B2) ∧ w = w') := fun w => by rw [hB2]; exact rwithin_any p d w (by omega) (by omega)
    have H5 : Hid (∀ w, Calls Tryd.prog 27 #[.string d, .string p] w fun e w' => e = .returned (.string u) ∧ w = w') := fun w => by rw [hu]; exact under_any d p w (by omega) (by omega)
    have H6 : Hid (∀ w, Calls Tryd.prog 29 #[.string d, .string u] w fun e w' => e = .returned (.bool (p.size != 0)) ∧ w = w') := fun w => by rw [← hw]; exact within_any d u w (by omega) hus
    clear hu hw hB1 hB2 hus
    by_cases hz : p.size = 0
    · have he := none_true hz
      have hb : (p.size != 0) = false := by rw [hz]; rfl
      rw [hb] at H6
      clear hb hz
      go_enter Tryd.func6, Tryd.ntmps6
      go_wp2_with (first
        | (go_at_call 15; ((with_reducible refine (lives_inv (by assumption)).mono ?_); rintro e w' ⟨rfl, hi⟩))
        | (go_at_call 29; first | ((with_reducible refine (H1.out _).mono ?_); rintro e w' ⟨rfl, rfl⟩) | ((with_reducible refine (H3.out _).mono ?_); rintro e w' ⟨rfl, rfl⟩) | ((with_reducible refine (H6.out _).mono ?_); rintro e w' ⟨rfl, rfl⟩))
        | (go_at_call 30; first | ((with_reducible refine (H2.out _).mono ?_); rintro e w' ⟨rfl, rfl⟩) | ((with_reducible refine (H4.out _).mono ?_); rintro e w' ⟨rfl, rfl⟩))
        | (go_at_call 27; ((with_reducible refine (H5.out _).mono ?_); rintro e w' ⟨rfl, rfl⟩)))
      go_ret
      exact ⟨rfl, hi.1⟩
    · have he := none_false (s := p) (by omega)
      have hb : (p.size != 0) = true := bne_iff_ne.mpr hz
      rw [hb] at H6
      clear hb hz
      go_enter Tryd.func6, Tryd.ntmps6
      go_wp2_with (first
        | (go_at_call 15; ((with_reducible refine (lives_inv (by assumption)).mono ?_); rintro e w' ⟨rfl, hi⟩))
        | (go_at_call 29; first | ((with_reducible refine (H1.out _).mono ?_); rintro e w' ⟨rfl, rfl⟩) | ((with_reducible refine (H3.out _).mono ?_); rintro e w' ⟨rfl, rfl⟩) | ((with_reducible refine (H6.out _).mono ?_); rintro e w' ⟨rfl, rfl⟩))
        | (go_at_call 30; first | ((with_reducible refine (H2.out _).mono ?_); rintro e w' ⟨rfl, rfl⟩) | ((with_reducible refine (H4.out _).mono ?_); rintro e w' ⟨rfl, rfl⟩))
        | (go_at_call 27; ((with_reducible refine (H5.out _).mono ?_); rintro e w' ⟨rfl, rfl⟩)))
      go_ret
      exact ⟨rfl, hi.1⟩
  · go_enter Tryd.func6, Tryd.ntmps6
    go_wp2_with (go_at_call 15; ((with_reducible refine (lives_inv (by assumption)).mono ?_); rintro e w' ⟨rfl, hi⟩))
    go_ret
    exact ⟨rfl, hi.1⟩

set_option maxHeartbeats 2000000 in
set_option maxRecDepth 4000 in
theorem ptIs_walk (s : ByteArray) (W : World) (hs0 : s.size ≤ 140737488355328) (h0 : PI W W) :
    Calls Tryd.prog 3 #[.string s] W fun e W' => e = .returned (.bool true) ∧ Below W.heap.size W W' := by
  by_cases hs : s.size ≤ 2000
  · obtain ⟨B, hB⟩ : ∃ B, isP s = B := ⟨_, rfl⟩
    obtain ⟨ls, hls⟩ : ∃ ls, ls = prts s := ⟨_, rfl⟩
    obtain ⟨n, hn⟩ : ∃ n, n = ls.length := ⟨_, rfl⟩
    obtain ⟨d, hd⟩ : ∃ d, d = dirOf s := ⟨_, rfl⟩
    obtain ⟨m, hm⟩ : ∃ m, m = nameOf s := ⟨_, rfl⟩
    have hnl : n ≤ 1048576 := by rw [hn, hls]; have := prts_count s; omega
    have hj : (jn ls).length ≤ 1048576 := by rw [hls, jn_prts, list_len]; omega
    have hr : s = str (jn ls) := by rw [hls, jn_prts]; exact (pt_self s).symm
    have HB := Lib.hid hB
    have HL := Lib.hid hls
    have HN := Lib.hid hn
    have HJ := Lib.hid hj
    have HR := Lib.hid hr
    have H1 : Hid (∀ w, Calls Tryd.prog 21 #[.string s] w fun e w' => e = .returned (.string d) ∧ w = w') := fun w => by rw [hd]; exact dir_any s w (by omega)
    have H2 : Hid (∀ w, Calls Tryd.prog 22 #[.string s] w fun e w' => e = .returned (.string d) ∧ w = w') := fun w => by rw [hd]; exact rdir_any s w (by omega)
    have H3 : Hid (∀ w, Calls Tryd.prog 23 #[.string s] w fun e w' => e = .returned (.string m) ∧ w = w') := fun w => by rw [hm]; exact name_any s w (by omega)
    have H4 : Hid (∀ w, Calls Tryd.prog 24 #[.string s] w fun e w' => e = .returned (.string m) ∧ w = w') := fun w => by rw [hm]; exact rname_any s w (by omega)
    clear hB hls hn hd hm hj hr
    go_enter Tryd.func3, Tryd.ntmps3
    go_wp2_with (first
      | (go_at_call 15; ((with_reducible refine (lives_inv (by assumption)).mono ?_); rintro e w' ⟨rfl, hi⟩))
      | (go_at_call 16; ((with_reducible refine (is_inv hi s B (by omega) HB.out).mono ?_); rintro e w' ⟨rfl, hi⟩))
      | (go_at_call 17; ((with_reducible refine (ris_inv hi s B (by omega) HB.out).mono ?_); rintro e w' ⟨rfl, hi⟩))
      | (go_at_call 19; ((with_reducible refine (parts_inv hi s ls n (by omega) HL.out HN.out).mono ?_); rintro e w' ⟨⟨p1, c1, rfl, hc1, r1⟩, hb⟩; have hi := hi.step hb; clear hb))
      | (go_at_call 20; ((with_reducible refine (rparts_inv s ls n (by omega) HL.out HN.out).mono ?_); rintro e w' ⟨⟨p2, c2, rfl, r2⟩, hb⟩; have hi := hi.step hb; have r1 := r1.below hb; clear hb))
      | (go_at_call 18; ((with_reducible refine (rsameS_any ls p1 p2 c1 c2 n _ HN.out r1 r2 (by have := HN.out; omega)).mono ?_); rintro e w' ⟨rfl, k, rfl⟩; have hi := hi.drewN k))
      | (go_at_call 21; ((with_reducible refine (H1.out _).mono ?_); rintro e w' ⟨rfl, rfl⟩))
      | (go_at_call 22; ((with_reducible refine (H2.out _).mono ?_); rintro e w' ⟨rfl, rfl⟩))
      | (go_at_call 23; ((with_reducible refine (H3.out _).mono ?_); rintro e w' ⟨rfl, rfl⟩))
      | (go_at_call 24; ((with_reducible refine (H4.out _).mono ?_); rintro e w' ⟨rfl, rfl⟩))
      | (go_at_call 25; ((with_reducible refine (pjoin_any ls p1 c1 n s _ HN.out r1 hc1 HJ.out (by omega) HR.out).mono ?_); rintro e w' ⟨rfl, hb⟩; have hi := hi.step hb; have r1 := r1.below hb; clear hb))
      | (go_at_call 26; ((with_reducible refine (prjoin_any ls p2 c2 n s _ HN.out r2 HJ.out (by omega) HR.out).mono ?_); rintro e w' ⟨rfl, rfl⟩)))
    go_ret
    exact ⟨rfl, hi.1⟩
  · go_enter Tryd.func3, Tryd.ntmps3
    go_wp2_with (go_at_call 15; ((with_reducible refine (lives_inv (by assumption)).mono ?_); rintro e w' ⟨rfl, hi⟩))
    go_ret
    exact ⟨rfl, hi.1⟩

set_option maxHeartbeats 2000000 in
set_option maxRecDepth 4000 in
theorem ptMeets_walk (ls : List (List UInt8)) (p : Option Addr) (cap n : Nat) (W : World) (hn : n = ls.length) (hp : SRw W p ls) (hl : ∀ t ∈ ls, t.length ≤ 140737488355328) (hn2 : n ≤ 140737488355328) (h0 : PI W W) :
    Calls Tryd.prog 7 #[.slice p n cap] W fun e W' => e = .returned (.bool true) ∧ Below W.heap.size W W' := by
  have HN := Lib.hid hn
  have HL := Lib.hid hl
  have HP := Lib.hid hp
  clear hn hl hp
  by_cases hs : n ≤ 60
  · go_enter Tryd.func7, Tryd.ntmps7
    go_wp2
    go_loopw [3] (fun iv wr => ∃ k : Nat, iv = .int .i64 k ∧ k ≤ n ∧ Hid (∀ j (h : j < ls.length), j < k → ls[j].length ≤ 300) ∧ wr = W) (fun iv _ => n - (intOf iv).toNat)
    case atStart => exact ⟨0, rfl, by omega, fun j _ h => absurd h (Nat.not_lt_zero _), rfl⟩
    case round =>
      obtain ⟨k, rfl, hk, HK, rfl⟩ := hrel
      by_cases hlt : k < n
      · have hkl : k < ls.length := by rw [← HN.out]; exact hlt
        obtain ⟨g, o, rfl, hg, hc⟩ := HP.out k hkl
        have hts := HL.out _ (List.getElem_mem hkl)
        obtain ⟨t, ht⟩ : ∃ t, t = str ls[k] := ⟨_, rfl⟩
        have hst : ls[k].length = t.size := by rw [ht, str_size]
        rw [← ht] at hc
        by_cases h3 : t.size ≤ 300
        · have HX : Hid (∀ j (h : j < ls.length), j < k + 1 → ls[j].length ≤ 300) := fun j h hj => by
            rcases Nat.lt_or_ge j k with hl | hl
            · exact HK.out j h hl
            · obtain rfl : j = k := by omega
              omega
          clear ht hst hts hkl HK
          go_wp2
          go_roundw
          case rel => exact ⟨k + 1, by go_num, by omega, HX, trivial⟩
          case measure => simp [intOf]; omega
        · rw [hst] at hts
          clear ht hst hkl HK
          go_wp2_with (go_at_call 15; ((with_reducible refine (lives_inv (by assumption)).mono ?_); rintro e w' ⟨rfl, hi⟩))
          go_ret
          exact ⟨rfl, hi.1⟩
      · have HM : Hid (∀ t ∈ ls, t.length ≤ 1048576) := fun t ht => by
          obtain ⟨j, hj, rfl⟩ := List.mem_iff_getElem.mp ht
          have := HK.out j hj (by have := HN.out; omega)
          omega
        clear HK
        go_wp2_with (first
          | (go_at_call 31; ((with_reducible refine (meet_any ls p cap n _ HN.out HP.out (by omega) HM.out).mono ?_); rintro e w1 ⟨⟨i, j, b, rfl, hm1⟩, hb1⟩; have hi := h0.step hb1; have HM1 := Lib.hid hm1; clear hm1))
          | (go_at_call 32; ((with_reducible refine (rmeet_any ls p cap n _ HN.out (HP.out.below hb1) (by omega) HM.out).mono ?_); rintro e w2 ⟨⟨i2, j2, b2, rfl, hm2⟩, hb2⟩; have hi := hi.step hb2; obtain ⟨rfl, rfl, rfl⟩ := HM1.out.one hm2; clear hm2))
          | (go_at_call 15; ((with_reducible refine (lives_inv hi).mono ?_); rintro e w' ⟨rfl, hi⟩)))
        go_ret
        exact ⟨rfl, hi.1⟩
  · go_enter Tryd.func7, Tryd.ntmps7
    go_wp2_with (go_at_call 15; ((with_reducible refine (lives_inv (by assumption)).mono ?_); rintro e w' ⟨rfl, hi⟩))
    go_ret
    exact ⟨rfl, hi.1⟩

set_option maxHeartbeats 2000000 in
set_option maxRecDepth 4000 in
theorem ptJoins_walk (ls : List (List UInt8)) (p : Option Addr) (cap n : Nat) (d m : ByteArray) (W : World) (hn : n = ls.length) (hc : n ≤ cap) (hp : SRw W p ls) (hl : ∀ t ∈ ls, t.length ≤ 140737488355328) (hn2 : n ≤ 140737488355328) (hd : d.size ≤ 140737488355328) (hm : m.size ≤ 140737488355328) (h0 : PI W W) :
    Calls Tryd.prog 4 #[.slice p n cap, .string d, .string m] W fun e W' => e = .returned (.bool true) ∧ Below W.heap.size W W' := by
  have HN := Lib.hid hn
  have HL := Lib.hid hl
  have HP := Lib.hid hp
  clear hn hl hp
  by_cases hs : n ≤ 40
  · by_cases hdm : d.size + m.size ≤ 1000
    · go_enter Tryd.func4, Tryd.ntmps4
      go_wp2
      go_loopw [7] (fun iv wr => ∃ k : Nat, iv = .int .i64 k ∧ k ≤ n ∧ Hid (∀ j (h : j < ls.length), j < k → ls[j].length ≤ 300) ∧ wr = W) (fun iv _ => n - (intOf iv).toNat)
      case atStart => exact ⟨0, rfl, by omega, fun j _ h => absurd h (Nat.not_lt_zero _), rfl⟩
      case round =>
        obtain ⟨k, rfl, hk, HK, rfl⟩ := hrel
        by_cases hlt : k < n
        · have hkl : k < ls.length := by rw [← HN.out]; exact hlt
          obtain ⟨g, o, rfl, hg, hc⟩ := HP.out k hkl
          have hts := HL.out _ (List.getElem_mem hkl)
          obtain ⟨t, ht⟩ : ∃ t, t = str ls[k] := ⟨_, rfl⟩
          have hst : ls[k].length = t.size := by rw [ht, str_size]
          rw [← ht] at hc
          by_cases h3 : t.size ≤ 300
          · have HX : Hid (∀ j (h : j < ls.length), j < k + 1 → ls[j].length ≤ 300) := fun j h hj => by
              rcases Nat.lt_or_ge j k with hl | hl
              · exact HK.out j h hl
              · obtain rfl : j = k := by omega
                omega
            clear ht hst hts hkl HK
            go_wp2
            go_roundw
            case rel => exact ⟨k + 1, by go_num, by omega, HX, trivial⟩
            case measure => simp [intOf]; omega
          · rw [hst] at hts
            clear ht hst hkl HK
            go_wp2_with (go_at_call 15; ((with_reducible refine (lives_inv (by assumption)).mono ?_); rintro e w' ⟨rfl, hi⟩))
            go_ret
            exact ⟨rfl, hi.1⟩
        · obtain ⟨r, hr⟩ : ∃ r, r = str (jn ls) := ⟨_, rfl⟩
          have HR := Lib.hid hr
          have HJ : Hid ((jn ls).length ≤ 1048576) := jn_small ls 300 (fun t ht => by
            obtain ⟨j, hj, rfl⟩ := List.mem_iff_getElem.mp ht
            exact HK.out j hj (by have := HN.out; omega)) (by have := HN.out; omega)
          obtain ⟨u, hu⟩ : ∃ u, u = undr d m := ⟨_, rfl⟩
          have H5 : Hid (∀ w, Calls Tryd.prog 27 #[.string d, .string m] w fun e w' => e = .returned (.string u) ∧ w = w') := fun w => by rw [hu]; exact under_any d m w (by omega) (by omega)
          have H6 : Hid (∀ w, Calls Tryd.prog 28 #[.string d, .string m] w fun e w' => e = .returned (.string u) ∧ w = w') := fun w => by rw [hu]; exact runder_any d m w (by omega) (by omega)
          clear HK hr hu
          go_wp2_with (first
            | (go_at_call 15; ((with_reducible refine (lives_inv h0).mono ?_); rintro e w' ⟨rfl, hi⟩; have hb0 := hi.1))
            | (go_at_call 25; ((with_reducible refine (pjoin_any ls p cap n r _ HN.out (HP.out.below hb0) hc HJ.out (by omega) HR.out).mono ?_); rintro e w' ⟨rfl, hb⟩; have hi := hi.step hb; have hb0 := hi.1; clear hb))
            | (go_at_call 26; ((with_reducible refine (prjoin_any ls p cap n r _ HN.out (HP.out.below hb0) HJ.out (by omega) HR.out).mono ?_); rintro e w' ⟨rfl, rfl⟩))
            | (go_at_call 27; ((with_reducible refine (H5.out _).mono ?_); rintro e w' ⟨rfl, rfl⟩))
            | (go_at_call 28; ((with_reducible refine (H6.out _).mono ?_); rintro e w' ⟨rfl, rfl⟩)))
          go_ret
          exact ⟨rfl, hi.1⟩
    · go_enter Tryd.func4, Tryd.ntmps4
      go_wp2_with (go_at_call 15; ((with_reducible refine (lives_inv (by assumption)).mono ?_); rintro e w' ⟨rfl, hi⟩))
      go_ret
      exact ⟨rfl, hi.1⟩
  · go_enter Tryd.func4, Tryd.ntmps4
    go_wp2_with (go_at_call 15; ((with_reducible refine (lives_inv (by assumption)).mono ?_); rintro e w' ⟨rfl, hi⟩))
    go_ret
    exact ⟨rfl, hi.1⟩
end Go.Proofs.YtlgagfjflaiajaaDoor
