/-
  The walk of the law LinesBack.
-/
import Derived.Test.YthfnnbeaggkhkabLnBackLaw
namespace Go.Proofs.Ythfnnbeaggkhkab
open Go.RowKit

set_option maxHeartbeats 8000000 in
set_option maxRecDepth 4000 in
theorem lnBack_walk (s : ByteArray) (p : Option Addr) (cap n : Nat) (ls : List (List UInt8)) (W : World) (hh : LnArg W p ls n) : Calls Try.prog 6 #[.string s, .slice p n cap] W fun e W' => e = .returned (.bool true) ∧ Below W.heap.size W W' := by
  have hb0 := Below.refl W.heap.size W
  have HH := Lib.hid hh
  clear hh
  by_cases h1 : 5000 < s.size
  · go_enter Try.func6, Try.ntmps6
    go_wp2_with (go_at_call 10; ((with_reducible refine (lives_inv hb0).mono ?_); rintro e w' ⟨rfl, hi⟩))
    go_ret
    exact ⟨rfl, hi⟩
  · by_cases h2 : (join ls).length ≤ 5000 ∧ n ≤ 500
    · have HSH : Hid (∀ w, SRw w p ls → Calls Try.prog 9 #[.slice p n cap, .int .i64 500, .int .i64 5000] w fun e w' => e = .returned (.bool true) ∧ w = w') := fun w hp =>
        rShort_any ls p cap n 500 5000 true w HH.out.len hp HH.out.few (by omega) (by omega) HH.out.short (by rw [decide_eq_true h2])
      obtain ⟨m, hm⟩ : ∃ m, m = (split s.data.toList).length := ⟨_, rfl⟩
      obtain ⟨j, hj⟩ : ∃ j, j = str (join ls) := ⟨_, rfl⟩
      obtain ⟨L, hL⟩ : ∃ L, L = split s.data.toList := ⟨_, rfl⟩
      have hm2 : m ≤ 5000 := by have := split_le s.data.toList; rw [list_len] at this; omega
      have HML : Hid (m = L.length) := by rw [hL]; exact hm
      have HS : Hid (s = str (join L)) := ba_ext (by rw [hL, split_join, str_list])
      have HSL : Hid ((join L).length ≤ 1048576) := by show _ ≤ _; rw [hL, split_join, list_len]; omega
      have HSP : Hid (∀ w, Below W.heap.size W w → Calls Try.prog 12 #[.string s] w fun e w' => (∃ p cap, e = .returned (.slice p m cap) ∧ SRw w' p L) ∧ Below W.heap.size W w') := fun w h => by rw [hL]; exact split_inv h s (by omega) m hm
      have HLX : Hid (∀ x ∈ L, x.length ≤ 1048576) := by
        intro x hx
        obtain ⟨i, hi, rfl⟩ := List.getElem_of_mem hx
        have := join_at_le L i hi
        have := HSL.out
        omega
      have HLO : Hid (okLines L = true) := by rw [hL]; exact split_ok _
      have HJ := Lib.hid hj
      have HJL : Hid (j.size ≤ 5000) := by show _ ≤ _; rw [hj, str_size]; exact h2.1
      have HT : Hid ((join ls).length ≤ 1048576) := by show _ ≤ _; omega
      have hn5 : n ≤ 500 := h2.2
      have HXS : Hid (∀ x ∈ ls, x.length ≤ 1048576) := by
        intro x hx
        obtain ⟨i, hi, rfl⟩ := List.getElem_of_mem hx
        have := join_at_le ls i hi
        have := HT.out
        omega
      obtain ⟨R, hR⟩ : ∃ R, R = rt s.data.toList := ⟨_, rfl⟩
      have HRT : Hid (rt s.data.toList = R) := hR.symm
      have HR0 : Hid (R = (true && pr (prv s.data.toList 0) (s.data.toList.drop 0))) := by show _ = _; rw [hR, rt_pr]; rfl
      clear hm hj hL h2 hR
      go_enter Try.func6, Try.ntmps6
      go_wp2_with (first
        | (go_at_call 9; ((with_reducible refine (HSH.out _ HH.out.row).mono ?_); rintro e w0 ⟨rfl, rfl⟩))
        | (go_at_call 12; first
          | ((with_reducible refine (HSP.out _ hb0).mono ?_); rintro e w1 ⟨⟨p1, c1, rfl, r1⟩, h1⟩)
          | ((with_reducible refine (HSP.out _ h2).mono ?_); rintro e w3 ⟨⟨p3, c3, rfl, r3⟩, h3⟩))
        | (go_at_call 14; ((with_reducible refine (join_any L p1 c1 m s _ HML.out r1 HS.out HSL.out (by omega)).mono ?_); rintro e w2 ⟨rfl, hb2⟩; have h2 := h1.trans (hb2.mono h1.size); clear hb2))
        | (go_at_call 28; ((with_reducible refine (rLines_any L p3 c3 m true _ HML.out r3 (by omega) HLX.out HLO.out).mono ?_); rintro e w4 ⟨rfl, rfl⟩)))
      go_loop [5, 29] (fun bv i => ∃ (k : Nat) (b : Bool), k ≤ s.size ∧ i = .int .i64 k ∧ bv = .bool b ∧ Hid (R = (b && pr (prv s.data.toList k) (s.data.toList.drop k)))) (fun _ i => s.size - (intOf i).toNat)
      case atStart => exact ⟨0, true, by omega, rfl, rfl, HR0⟩
      case round =>
        clear HR0
        obtain ⟨k, b, hk, rfl, rfl, HB⟩ := hrel
        by_cases hlt : k < s.size
        · have hn := HB.out
          rw [pr_drop s k hlt] at hn
          cases b with
          | false =>
            have HX : Hid (R = (false && pr (prv s.data.toList (k + 1)) (s.data.toList.drop (k + 1)))) := by show _ = _; rw [hn]; rfl
            clear hn HB
            go_wp2
            go_round
            case rel => exact ⟨k + 1, false, by omega, by go_num, rfl, HX⟩
            case measure => simp [intOf]; omega
          | true =>
            rw [Bool.true_and] at hn
            by_cases h10 : s[k] = 10
            · have a1 : ((s[k].toNat : Int) != 10) = false := u8_isn (n := 10) (by decide) h10
              by_cases h0 : k = 0
              · have a2 : ((k : Int) == 0) = true := by rw [h0]; rfl
                rw [if_neg (by rw [prv, if_pos h0]; simp)] at hn
                have HX : Hid (R = (true && pr (prv s.data.toList (k + 1)) (s.data.toList.drop (k + 1)))) := by show _ = _; rw [hn]; rfl
                clear hn HB h10 h0
                go_wp2
                go_round
                case rel => exact ⟨k + 1, true, by omega, by go_num, rfl, HX⟩
                case measure => simp [intOf]; omega
              · obtain ⟨q, hq⟩ : ∃ q, q + 1 = k := ⟨k - 1, by omega⟩
                have hq2 : q < s.size := by omega
                have i1 : IntKind.i64.wrap ((k : Int) - 1) = (q : Int) := by rw [IntWalk.i64_in _ (by omega)]; omega
                have a2 : ((k : Int) == 0) = false := by simp; omega
                have hpv : prv s.data.toList k = s[q] := by rw [prv, if_neg h0, show k - 1 = q by omega, getD_at s q hq2]
                rw [hpv] at hn
                by_cases h13 : s[q] = 13
                · have a3 : ((s[q].toNat : Int) != 13) = false := u8_isn (n := 13) (by decide) h13
                  rw [if_pos ⟨h10, h13⟩] at hn
                  have HX : Hid (R = (false && pr (prv s.data.toList (k + 1)) (s.data.toList.drop (k + 1)))) := by show _ = _; rw [hn]; rfl
                  clear hn HB h10 h0 hq hpv h13
                  go_wp2
                  go_round
                  case rel => exact ⟨k + 1, false, by omega, by go_num, rfl, HX⟩
                  case measure => simp [intOf]; omega
                · have a3 : ((s[q].toNat : Int) != 13) = true := u8_notn (n := 13) (by decide) h13
                  rw [if_neg (fun x => h13 x.2)] at hn
                  have HX : Hid (R = (true && pr (prv s.data.toList (k + 1)) (s.data.toList.drop (k + 1)))) := by show _ = _; rw [hn]; rfl
                  clear hn HB h10 h0 hq hpv h13
                  go_wp2
                  go_round
                  case rel => exact ⟨k + 1, true, by omega, by go_num, rfl, HX⟩
                  case measure => simp [intOf]; omega
            · have a1 : ((s[k].toNat : Int) != 10) = true := u8_notn (n := 10) (by decide) h10
              rw [if_neg (fun x => h10 x.1)] at hn
              have HX : Hid (R = (true && pr (prv s.data.toList (k + 1)) (s.data.toList.drop (k + 1)))) := by show _ = _; rw [hn]; rfl
              clear hn HB h10
              go_wp2
              go_round
              case rel => exact ⟨k + 1, true, by omega, by go_num, rfl, HX⟩
              case measure => simp [intOf]; omega
        · have hRb : R = b := by rw [HB.out, drop_none s k (by omega)]; simp [pr]
          subst hRb
          have HRB : Hid (∀ w, Calls Try.prog 24 #[.string s] w fun e w' => e = .returned (.bool R) ∧ w = w') := fun w => roundTrips_any s R w (by omega) HRT.out
          have q3 := HH.out.row.below h3
          cases hok : okLines ls with
          | true =>
            have HOK := Lib.hid hok
            have HSJ : Hid (split j.data.toList = ls) := by show _ = _; rw [HJ.out, str_list]; exact join_split hok
            have HNJ : Hid (n = (split j.data.toList).length) := by show _ = _; rw [HSJ.out]; exact HH.out.len
            clear hok HB
            cases R
            all_goals
              go_wp2_with (first
                | (go_at_call 24; ((with_reducible refine (HRB.out _).mono ?_); rintro e w5 ⟨rfl, rfl⟩))
                | (go_at_call 28; ((with_reducible refine (rLines_any ls p cap n true _ HH.out.len q3 (by omega) HXS.out HOK.out).mono ?_); rintro e w6 ⟨rfl, rfl⟩))
                | (go_at_call 14; ((with_reducible refine (join_any ls p cap n j _ HH.out.len q3 HJ.out HT.out (by omega)).mono ?_); rintro e w7 ⟨rfl, hb7⟩; have h7 := h3.trans (hb7.mono h3.size); clear hb7))
                | (go_at_call 12; ((with_reducible refine (split_inv h7 j (by have := HJL.out; omega) n HNJ.out).mono ?_); rintro e w8 ⟨⟨p8, c8, rfl, r8⟩, h8⟩; rw [HSJ.out] at r8; have q8 := HH.out.row.below h8))
                | (go_at_call 11; ((with_reducible refine (rSame_inv h8 ls p8 p c8 cap n HH.out.len r8 q8 (by omega)).mono ?_); rintro e w9 ⟨rfl, h9⟩))
                | (go_at_call 10; ((with_reducible refine (lives_inv h9).mono ?_); rintro e wa ⟨rfl, ha⟩)))
              go_ret
              exact ⟨rfl, ha⟩
          | false =>
            have HOK := Lib.hid hok
            clear hok HB
            cases R
            all_goals
              go_wp2_with (first
                | (go_at_call 24; ((with_reducible refine (HRB.out _).mono ?_); rintro e w5 ⟨rfl, rfl⟩))
                | (go_at_call 28; ((with_reducible refine (rLines_any ls p cap n false _ HH.out.len q3 (by omega) HXS.out HOK.out).mono ?_); rintro e w6 ⟨rfl, rfl⟩))
                | (go_at_call 10; ((with_reducible refine (lives_inv h3).mono ?_); rintro e wa ⟨rfl, ha⟩)))
              go_ret
              exact ⟨rfl, ha⟩
    · have HSH : Hid (∀ w, SRw w p ls → Calls Try.prog 9 #[.slice p n cap, .int .i64 500, .int .i64 5000] w fun e w' => e = .returned (.bool false) ∧ w = w') := fun w hp =>
        rShort_any ls p cap n 500 5000 false w HH.out.len hp HH.out.few (by omega) (by omega) HH.out.short (by rw [decide_eq_false h2])
      clear h2
      go_enter Try.func6, Try.ntmps6
      go_wp2_with (first
        | (go_at_call 9; ((with_reducible refine (HSH.out _ HH.out.row).mono ?_); rintro e w0 ⟨rfl, rfl⟩))
        | (go_at_call 10; ((with_reducible refine (lives_inv hb0).mono ?_); rintro e w' ⟨rfl, hi⟩)))
      go_ret
      exact ⟨rfl, hi⟩
end Go.Proofs.Ythfnnbeaggkhkab
