/-
  The walk of the reference's Clean; the laws LinesClean and LinesTwice.
-/
import Derived.Test.YthfnnbeaggkhkabLnRClean
namespace Go.Proofs.Ythfnnbeaggkhkab
open Go.RowKit

theorem flat_len (it : List (Bool × List UInt8)) : it.length ≤ (flat it).length := by
  induction it with
  | nil => simp
  | cons p r ih => obtain ⟨b, t⟩ := p; rw [flat_cons]; cases b <;> simp <;> omega
theorem istep_note {st : List (Bool × List UInt8) × Bool} {x : List UInt8} (h : x.head? = some 35) : istep st x = st := by rw [istep, if_pos h]
theorem istep_blank {st : List (Bool × List UInt8) × Bool} {x : List UInt8} (h : x.head? ≠ some 35) (h2 : trim x = []) : istep st x = (st.1, true) := by rw [istep, if_neg h, if_pos h2]
theorem istep_text {st : List (Bool × List UInt8) × Bool} {x : List UInt8} (h : x.head? ≠ some 35) (h2 : trim x ≠ []) : istep st x = (st.1 ++ [(st.2 && !st.1.isEmpty, trim x)], false) := by rw [istep, if_neg h, if_neg h2]
theorem ifold_next (ls : List (List UInt8)) (k : Nat) (h : k < ls.length) : ifold (ls.take (k + 1)) = istep (ifold (ls.take k)) ls[k] := by rw [take_next ls k h, ifold_snoc]
theorem strs_two (a b : List UInt8) (x y : ByteArray) (hx : x.data.toList = a) (hy : y.data.toList = b) : strs [a, b] = [Value.string x, Value.string y] := by
  subst hx hy
  simp [strs, str_self]
theorem strs_sing (a : List UInt8) (x : ByteArray) (hx : x.data.toList = a) : strs [a] = [Value.string x] := by
  subst hx
  simp [strs, str_self]
theorem isEmpty_iff_flat (it : List (Bool × List UInt8)) : it.isEmpty = decide ((flat it).length = 0) := by
  cases it with
  | nil => rfl
  | cons p r => have := flat_len (p :: r); simp at this ⊢; intro h; rw [h] at this; simp at this

set_option maxHeartbeats 4000000 in
set_option maxRecDepth 4000 in
theorem rClean_any (s r : ByteArray) (w : World) (hs : s.size ≤ 100000) (hr : r.data.toList = clean s.data.toList) :
    Calls Try.prog 27 #[.string s] w fun e w' => e = .returned (.string r) ∧ Below w.heap.size w w' := by
  obtain ⟨i0, hi, hz0, hz1, hz2⟩ := info_parts Try.infoStr
  obtain ⟨ls, hls⟩ : ∃ ls, ls = split s.data.toList := ⟨_, rfl⟩
  obtain ⟨n, hn⟩ : ∃ n, n = (split s.data.toList).length := ⟨_, rfl⟩
  have HSP : Hid (∀ w, Calls Try.prog 13 #[.string s] w fun e w' => (∃ p cap, e = .returned (.slice p n cap) ∧ SRw w' p ls) ∧ Below w.heap.size w w') := fun w => by rw [hls]; exact rSplit_any s w (by omega) n hn
  have HL : Hid (∀ k (h : k < ls.length), isLine ls[k] = true) := by subst hls; exact fun k h => split_line _ k h
  have HJ : Hid (∀ k (h : k < ls.length), ls[k].length ≤ 100000) := by
    subst hls
    intro k h
    have := join_at_le (split s.data.toList) k h
    rw [split_join, list_len] at this
    omega
  have hn2 : n ≤ 100000 := by have := split_le s.data.toList; rw [list_len] at this; omega
  have HN : Hid (n = ls.length) := by rw [hls]; exact hn
  have HR : Hid (r = str (join (flat (ifold ls).1))) := ba_ext (by rw [hr, clean_flat, ← hls, str_list])
  have HT : Hid ((join (flat (ifold ls).1)).length ≤ 300000) := by
    have h1 := cfold_len ls
    rw [cfold_ifold] at h1
    have h2 : (join ls).length = s.size := by rw [hls, split_join, list_len]
    have h3 : ls.length ≤ 100000 := by rw [← HN.out]; exact hn2
    show _ ≤ _
    simp only at h1
    omega
  clear hls hn hr
  go_enter Try.func27, Try.ntmps27
  go_wp2_with (go_at_call 13; ((with_reducible refine (HSP.out _).mono ?_); rintro e w1 ⟨⟨p, cap, rfl, hp⟩, hb1⟩))
  go_loopw [4, 5, 12] (fun v ev i wr => ∃ (k m : Nat) (it : List (Bool × List UInt8)) (e : Bool), k ≤ n ∧ i = .int .i64 k ∧ ev = .bool e ∧ Hid (ifold (ls.take k) = (it, e)) ∧ Hid (m = (flat it).length) ∧ m ≤ 2 * k ∧ wr.ownsRow w1.heap.size 9 1 v m (strs (flat it)) ∧ Below w1.heap.size w1 wr) (fun _ _ i _ => n - (intOf i).toNat)
  case atStart => exact ⟨0, 0, [], false, by omega, rfl, rfl, rfl, rfl, by omega, World.ownsRow_nil _ _ _ _, Below.refl _ _⟩
  case round =>
    obtain ⟨k, m, it, e, hk, rfl, rfl, HI, HM, hm, ho, hb⟩ := hrel
    have hsz := hb.size
    obtain ⟨po, capo, rfl, hpo⟩ : ∃ p cap, u4 = .slice p m cap ∧ SRw wr p (flat it) := by
      have hown : wr.ownsRow w1.heap.size 9 1 u4 (flat it).length (strs (flat it)) := by rw [← HM.out]; exact ho
      obtain ⟨p2, cap2, e2, hp2⟩ := srw_of hown
      exact ⟨p2, cap2, by rw [HM.out]; exact e2, hp2⟩
    by_cases hlt : k < n
    · have hkl : k < ls.length := by rw [← HN.out]; exact hlt
      obtain ⟨g, o, rfl, hg, hc⟩ := (hp.below hb) k hkl
      obtain ⟨x, hx⟩ : ∃ x, x = ls[k] := ⟨_, rfl⟩
      have hnext := ifold_next ls k hkl
      rw [HI.out, ← hx] at hnext
      rw [← hx] at hc
      have hxl : isLine x = true := by rw [hx]; exact HL.out k hkl
      have hxn : x.length ≤ 100000 := by rw [hx]; exact HJ.out k hkl
      have hx0 := line_pos hxl
      obtain ⟨t, ht⟩ : ∃ t, t = str x := ⟨_, rfl⟩
      rw [← ht] at hc
      have hts : t.size = x.length := by rw [ht, str_size]
      have htl : t.data.toList = x := by rw [ht, str_list]
      have ht0 : 0 < t.size := by omega
      have ht1 : t.size ≤ 100000 := by omega
      have hh := head_at t ht0
      rw [htl] at hh
      by_cases h35 : t[0] = 35
      · have a1 : ((t[0].toNat : Int) == 35) = true := u8_is (n := 35) (by decide) h35
        rw [istep_note (by rw [hh, h35])] at hnext
        have HX := Lib.hid hnext
        clear hnext hh h35 hx hxl hxn hx0 ht hts htl hkl
        go_wp2
        go_roundw
        case rel => exact ⟨k + 1, m, it, e, by omega, by go_num, rfl, HX, HM, by omega, ho, hb⟩
        case measure => simp [intOf]; omega
      · have a1 : ((t[0].toNat : Int) == 35) = false := u8_not (n := 35) (by decide) h35
        have hh2 : x.head? ≠ some 35 := by rw [hh]; simpa using h35
        obtain ⟨q, hq⟩ : ∃ q, q = str (trim x) := ⟨_, rfl⟩
        have hql : q.data.toList = trim x := by rw [hq, str_list]
        have hqs : q.size = (trim x).length := by rw [hq, str_size]
        have htr := trim_len x
        have hq1 : q.size ≤ 100000 := by omega
        have HB : Hid (∀ w, Calls Try.prog 36 #[.string t] w fun e w' => e = .returned (.string q) ∧ w = w') := fun w => bare_any t q w (by omega) ht0 (by rw [hql, htl])
        by_cases hbl : trim x = []
        · have he := empty_true (s := q) (by rw [hqs, hbl]; rfl)
          rw [istep_blank hh2 hbl] at hnext
          have HX := Lib.hid hnext
          clear hnext hh hh2 h35 hx hxl hxn hx0 ht hts htl hkl hq hql hqs htr hbl
          go_wp2_with (go_at_call 36; ((with_reducible refine (HB.out _).mono ?_); rintro e w4 ⟨rfl, rfl⟩))
          go_roundw
          case rel => exact ⟨k + 1, m, it, true, by omega, by go_num, rfl, HX, HM, by omega, ho, hb⟩
          case measure => simp [intOf]; omega
        · have he := empty_false (s := q) (by rw [hqs]; exact List.length_pos_iff.2 hbl)
          rw [istep_text hh2 hbl] at hnext
          simp only at hnext
          have HX := Lib.hid hnext
          have HQ : Hid ((q ++ ⟨#[10]⟩).data.toList = trim x ++ [10]) := by show _ = _; rw [app_list, hql]
          have HSM : Hid (it.isEmpty = decide ((flat it).length = 0)) := isEmpty_iff_flat it
          have hqsum : q.size + 1 ≤ 100001 := by omega
          have hq10 : (⟨#[10]⟩ : ByteArray).size = 1 := rfl
          clear hnext hh hh2 h35 hx hxl hxn hx0 ht hts htl hkl hq hql hqs htr hbl hq10
          by_cases hgap : e = true ∧ 0 < m
          · obtain ⟨rfl, hm0⟩ := hgap
            have d0 : decide ((0 : Int) < (m : Int)) = true := decide_eq_true (by omega)
            go_wp2_with (first | (go_at_call 36; ((with_reducible refine (HB.out _).mono ?_); rintro e w4 ⟨rfl, rfl⟩)) | (at_builtin; refine wpList_append_own _ rfl _ _ 22 rfl w1.heap.size 9 i0 (.string ⟨#[]⟩) 1 16 Try.underlying22 hi hz0 hz1 hz2 rfl (by decide) _ _ _ rfl (ho.alloc _) ⟨wr.heap.size, 0, none⟩ 1 1 [.string ⟨#[10]⟩] rfl rfl (new_cell wr _ _) (one_str _) (by unfold maxLen; omega) (by omega) (by have := hb.size; simp; omega) ?_; intro v2 w2 ho2 hg2 _; have hb2 := app_step hb ho hg2 (Nat.le_refl _) hsz) | (at_builtin; refine wpList_append_own _ rfl _ _ 22 rfl w1.heap.size 9 i0 (.string ⟨#[]⟩) 1 16 Try.underlying22 hi hz0 hz1 hz2 rfl (by decide) _ _ _ rfl (ho2.alloc _) ⟨w2.heap.size, 0, none⟩ 1 1 [.string (q ++ ⟨#[10]⟩)] rfl rfl (new_cell w2 _ _) (one_str _) (by unfold maxLen; omega) (by omega) (by have := hb2.size; simp; omega) ?_; intro v3 w3 ho3 hg3 _; have hb3 := app_step hb2 ho2 hg3 (Nat.le_refl _) hb2.size))
            have hf : flat (it ++ [(true && !it.isEmpty, trim x)]) = flat it ++ [[10], trim x ++ [10]] := by
              rw [flat_snoc, HSM.out, ← HM.out, decide_eq_false (by omega)]
              try rfl
            have ho4 : w3.ownsRow w1.heap.size 9 1 v3 (m + 2) (strs (flat (it ++ [(true && !it.isEmpty, trim x)]))) := by
              rw [hf, strs_append, strs_two [10] (trim x ++ [10]) ⟨#[10]⟩ (q ++ ⟨#[10]⟩) rfl HQ.out]
              simpa using ho3
            have HM2 : Hid (m + 2 = (flat (it ++ [(true && !it.isEmpty, trim x)])).length) := by show _ = _; rw [hf, List.length_append, ← HM.out]; rfl
            clear ho hg2 ho2 hb2 hg3 ho3 hf
            go_wp2
            go_roundw
            case rel => exact ⟨k + 1, m + 2, _, false, by omega, by go_num, rfl, HX, HM2, by omega, ho4, hb3⟩
            case measure => simp [intOf]; omega
          · have hno : (e && !it.isEmpty) = false := by
              cases e with
              | false => rfl
              | true =>
                have : ¬ 0 < m := fun h => hgap ⟨rfl, h⟩
                rw [HSM.out, ← HM.out, decide_eq_true (by omega)]
                rfl
            have hf : flat (it ++ [(e && !it.isEmpty, trim x)]) = flat it ++ [trim x ++ [10]] := by rw [flat_snoc, hno]; rfl
            have HF := Lib.hid hf
            have HM2 : Hid (m + 1 = (flat (it ++ [(e && !it.isEmpty, trim x)])).length) := by show _ = _; rw [hf, List.length_append, ← HM.out]; rfl
            clear hf hno
            cases e with
            | false =>
              clear hgap
              go_wp2_with (first | (go_at_call 36; ((with_reducible refine (HB.out _).mono ?_); rintro e w4 ⟨rfl, rfl⟩)) | (at_builtin; refine wpList_append_own _ rfl _ _ 22 rfl w1.heap.size 9 i0 (.string ⟨#[]⟩) 1 16 Try.underlying22 hi hz0 hz1 hz2 rfl (by decide) _ _ _ rfl (ho.alloc _) ⟨wr.heap.size, 0, none⟩ 1 1 [.string (q ++ ⟨#[10]⟩)] rfl rfl (new_cell wr _ _) (one_str _) (by unfold maxLen; omega) (by omega) (by have := hb.size; simp; omega) ?_; intro v3 w3 ho3 hg3 _; have hb3 := app_step hb ho hg3 (Nat.le_refl _) hsz))
              have ho4 : w3.ownsRow w1.heap.size 9 1 v3 (m + 1) (strs (flat (it ++ [(false && !it.isEmpty, trim x)]))) := by
                rw [HF.out, strs_append, strs_sing (trim x ++ [10]) (q ++ ⟨#[10]⟩) HQ.out]
                exact ho3
              clear ho hg3 ho3
              go_wp2
              go_roundw
              case rel => exact ⟨k + 1, m + 1, _, false, by omega, by go_num, rfl, HX, HM2, by omega, ho4, hb3⟩
              case measure => simp [intOf]; omega
            | true =>
              have hm0 : m = 0 := by have : ¬ 0 < m := fun h => hgap ⟨rfl, h⟩; omega
              have d0 : decide ((0 : Int) < (m : Int)) = false := decide_eq_false (by omega)
              have d1 : decide (0 < m) = false := decide_eq_false (by omega)
              have HM0 := Lib.hid hm0
              clear hgap hm0
              go_wp2_with (first | (go_at_call 36; ((with_reducible refine (HB.out _).mono ?_); rintro e w4 ⟨rfl, rfl⟩)) | (at_builtin; refine wpList_append_own _ rfl _ _ 22 rfl w1.heap.size 9 i0 (.string ⟨#[]⟩) 1 16 Try.underlying22 hi hz0 hz1 hz2 rfl (by decide) _ _ _ rfl (ho.alloc _) ⟨wr.heap.size, 0, none⟩ 1 1 [.string (q ++ ⟨#[10]⟩)] rfl rfl (new_cell wr _ _) (one_str _) (by unfold maxLen; omega) (by omega) (by have := hb.size; simp; omega) ?_; intro v3 w3 ho3 hg3 _; have hb3 := app_step hb ho hg3 (Nat.le_refl _) hsz))
              have ho4 : w3.ownsRow w1.heap.size 9 1 v3 (m + 1) (strs (flat (it ++ [(true && !it.isEmpty, trim x)]))) := by
                rw [HF.out, strs_append, strs_sing (trim x ++ [10]) (q ++ ⟨#[10]⟩) HQ.out]
                exact ho3
              clear ho hg3 ho3
              go_wp2
              go_roundw
              case rel => exact ⟨k + 1, m + 1, _, false, by omega, by go_num, rfl, HX, HM2, by omega, ho4, hb3⟩
              case measure => simp [intOf]; omega
    · have hkn : ls.take k = ls := List.take_of_length_le (by rw [← HN.out]; omega)
      have hI := HI.out
      rw [hkn] at hI
      have hR := HR.out
      have hT := HT.out
      rw [hI] at hR hT
      simp only at hR hT
      have HJ2 : Hid (∀ w, SRw w po (flat it) → Calls Try.prog 15 #[.slice po m capo] w fun e w' => e = .returned (.string r) ∧ Below w.heap.size w w') := fun w hp => rJoin_any (flat it) po capo _ r w HM.out hp hR (by omega) (by omega)
      clear hkn hI hR hT ho
      go_wp2_with (go_at_call 15; ((with_reducible refine (HJ2.out _ hpo).mono ?_); rintro e w5 ⟨rfl, hb5⟩))
      go_ret
      exact ⟨rfl, hb1.trans ((hb.trans (hb5.mono hsz)).mono hb1.size)⟩

set_option maxHeartbeats 1000000 in
set_option maxRecDepth 4000 in
theorem lnClean_walk (s : ByteArray) (W : World) : Calls Try.prog 5 #[.string s] W fun e W' => e = .returned (.bool true) ∧ Below W.heap.size W W' := by
  have hb0 := Below.refl W.heap.size W
  by_cases h1 : 3000 < s.size
  · have d2 : ¬ s.size ≤ 3000 := by omega
    go_enter Try.func5, Try.ntmps5
    go_wp2_with (go_at_call 10; ((with_reducible refine (lives_inv hb0).mono ?_); rintro e w' ⟨rfl, hi⟩))
    go_ret
    exact ⟨rfl, hi⟩
  · obtain ⟨m, hm⟩ : ∃ m, m = str (clean s.data.toList) := ⟨_, rfl⟩
    have HM : Hid (m.data.toList = clean s.data.toList) := by show _ = _; rw [hm, str_list]
    have d2 : s.size ≤ 3000 := by omega
    clear hm
    go_enter Try.func5, Try.ntmps5
    go_wp2_with (first
      | (go_at_call 26; ((with_reducible refine (clean_inv hb0 s m (by omega) HM.out).mono ?_); rintro e w1 ⟨rfl, h1⟩))
      | (go_at_call 27; ((with_reducible refine (rClean_any s m _ (by omega) HM.out).mono ?_); rintro e w2 ⟨rfl, hb2⟩; have h2 := h1.trans (hb2.mono h1.size)))
      | (go_at_call 10; ((with_reducible refine (lives_inv h2).mono ?_); rintro e w9 ⟨rfl, h9⟩)))
    go_ret
    exact ⟨rfl, h9⟩
end Go.Proofs.Ythfnnbeaggkhkab
