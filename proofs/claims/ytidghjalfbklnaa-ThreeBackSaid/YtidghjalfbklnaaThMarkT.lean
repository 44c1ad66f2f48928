/-
  The walk of Mark: its loop.
-/
import Derived.Test.YtidghjalfbklnaaThJoinPk
namespace Go.Proofs.Ytidghjalfbklnaa
open Go.RowKit

/-- The row grown by whatever, and stored in the box. -/
theorem MB.putAny {w w2 : World} {base B : Nat} {S : Nat → Prop} {v v' : Value} {acc ls : List (List UInt8)} (h : MB w base B S acc v)
    (ho2 : TOw w2 base v' (acc ++ ls)) (hg : w.grownBy w2 v.ownBlock) :
    MB (w2.setCell ⟨B, 0, none⟩ v') base B (fun b => v'.ownBlock = some b) (acc ++ ls) v' ∧ Chg (own2 S B) w (w2.setCell ⟨B, 0, none⟩ v') ∧ w2.heap[B]? = some (.cells #[v] 22 (0, 0)) := by
  have hvB : v.ownBlock ≠ some B := own_ty h.own h.box (by decide)
  have hB2 : w2.heap[B]? = some (.cells #[v] 22 (0, 0)) := (hg.block B (row_lt h.box) (fun e => hvB e.symm)).trans h.box
  have hv2 : v'.ownBlock ≠ some B := own_ty ho2 hB2 (by decide)
  refine ⟨⟨one_set hB2, own_set ho2 hv2, fun b hb => hb, fun b hb => ?_, h.bb⟩, ?_, hB2⟩
  · have := World.ownsRow.lt ho2 b hb
    exact ⟨this.1, by simpa using this.2⟩
  · exact (Chg.grown (S := own2 S B) hg fun k hk => .inl (h.blk k hk)).trans' (Chg.set _ (.inr rfl))
theorem endL_ge (s : List UInt8) : s.length ≤ (endL s).length := by
  unfold endL
  split <;> simp
theorem markAcc_step (oN tN : List UInt8) (two : Bool) (n : Nat) {gs : List Rg} {k : Nat} (h : k < gs.length) : markAcc oN tN two n (gs.drop k) k = markR oN tN two (decide (n ≤ k + 1)) gs[k] ++ markAcc oN tN two n (gs.drop (k + 1)) (k + 1) := by
  rw [List.drop_eq_getElem_cons h]
  rfl

set_option maxHeartbeats 8000000 in
set_option maxRecDepth 10000 in
theorem mark_any (gs : List Rg) (p : Option Addr) (c n : Nat) (d : Int) (two : Bool) (oN tN r0 : ByteArray) (w : World) (hn : n = gs.length) (hp : GRw w p gs) (hl : n ≤ 1000000) (hd : (d == 2) = two)
    (hT1 : (markAcc oN.data.toList tN.data.toList two n gs 0).length ≤ 1000000) (hT2 : ∀ x ∈ markAcc oN.data.toList tN.data.toList two n gs 0, x.length ≤ 1000000) (hT3 : (join (markAcc oN.data.toList tN.data.toList two n gs 0)).length ≤ 1048576)
    (hr0 : r0 = str (join (markAcc oN.data.toList tN.data.toList two n gs 0))) (ho : oN.size ≤ 900000) (ht : tN.size ≤ 900000) :
    Calls Try.prog 31 #[.slice p n c, .string oN, .string tN, .int .i64 d] w fun e w' => e = .returned (.string r0) ∧ Below w.heap.size w w' := by
  obtain ⟨T, hT⟩ : ∃ T, T = markAcc oN.data.toList tN.data.toList two n gs 0 := ⟨_, rfl⟩
  rw [← hT] at hT1 hT2 hT3 hr0
  have HT0 : Hid (T = [] ++ markAcc oN.data.toList tN.data.toList two n (gs.drop 0) 0) := hT
  have HN := Lib.hid hn
  have HP := Lib.hid hp
  have HT1 := Lib.hid hT1
  have HT2 := Lib.hid hT2
  have HT3 := Lib.hid hT3
  have HR0 := Lib.hid hr0
  have HO := Lib.hid ho
  have HTT := Lib.hid ht
  have HD := Lib.hid hd
  have HU : Hid (Try.prog.underlying 22 = some (.slice 9)) := Try.underlying22
  clear hn hp hT hT1 hT2 hT3 hr0 hd ho ht
  go_enter Try.func31, Try.ntmps31
  go_upto_region 2 with fail
  obtain ⟨B, hB⟩ : ∃ B, B = w.heap.size := ⟨_, rfl⟩
  obtain ⟨w1, hw1⟩ : ∃ w1, w1 = w.alloc (.cells #[.slice none 0 0] 22) := ⟨_, rfl⟩
  have hrow : w1.heap[B]? = some (.cells #[.slice none 0 0] 22 (0, 0)) := by rw [hw1, hB]; exact heap_alloc_new _ _
  have HMB0 : Hid (MB w1 w.heap.size B (fun _ => False) [] (.slice none 0 0)) := ⟨hrow, TOw.nil _ _, fun g hg => by simp [Value.ownBlock] at hg, fun b hb => hb.elim, by rw [hB]; exact Nat.le_refl _⟩
  have HBW0 : Hid (Below w.heap.size w w1) := by rw [hw1]; exact below_new (Below.refl _ _) _
  rw [← hw1, ← hB]
  clear hw1 hB hrow
  go_upto_region 3 with fail
  go_wp2
  go_loopw [16] (fun iv wr => ∃ (k : Nat) (acc : List (List UInt8)) (S : Nat → Prop) (v : Value), k ≤ n ∧ iv = .int .i64 (k : Int) ∧ Hid (MB wr w.heap.size B S acc v) ∧ Hid (Below w.heap.size w wr) ∧ Hid (T = acc ++ markAcc oN.data.toList tN.data.toList two n (gs.drop k) k)) (fun iv _ => n - (intOf iv).toNat)
  case atStart => exact ⟨0, [], _, _, Nat.zero_le _, rfl, HMB0.out, HBW0.out, HT0.out⟩
  case round =>
    clear HMB0 HBW0 HT0
    obtain ⟨k, acc, S, v, hk, rfl, HM, HW, HT⟩ := hrel
    by_cases hlt : k < n
    · have hkl : k < gs.length := by rw [← HN.out]; exact hlt
      obtain ⟨g, o, v0, v1, v2, v3, v4, rfl, hg, a0, a1, a2, a3, a4, hr⟩ := HP.out k hkl
      have tr : ∀ i v, w.cell? ⟨g, i, none⟩ = some v → wr.cell? ⟨g, i, none⟩ = some v := fun i v h => (HW.out.cell (p := ⟨g, i, none⟩) hg).trans h
      replace a0 := tr _ _ a0
      replace a1 := tr _ _ a1
      replace a2 := tr _ _ a2
      replace a3 := tr _ _ a3
      replace a4 := tr _ _ a4
      clear tr
      have hTk := HT.out
      rw [markAcc_step _ _ _ _ hkl, ← List.append_assoc] at hTk
      obtain ⟨r, hr0⟩ : ∃ r, r = gs[k] := ⟨_, rfl⟩
      rw [← hr0] at hr hTk
      obtain ⟨z, l, ol, bl, tl⟩ := r
      obtain ⟨rfl, ⟨p1, c1, rfl, hc1, s1⟩, ⟨p2, c2, rfl, hc2, s2⟩, ⟨p3, c3, rfl, hc3, s3⟩, ⟨p4, c4, rfl, hc4, s4⟩⟩ := hr
      simp only at *
      have HC := Lib.hid (conflicting_any z (.slice p1 l.length c1) (.slice p2 ol.length c2) (.slice p3 bl.length c3) (.slice p4 tl.length c4))
      have hacc : acc.length + (markR oN.data.toList tN.data.toList two (decide (n ≤ k + 1)) ⟨z, l, ol, bl, tl⟩).length ≤ 1000000 := by
        have h1 := HT1.out
        rw [hTk, List.length_append, List.length_append] at h1
        omega
      have hsz : ∀ x ∈ markR oN.data.toList tN.data.toList two (decide (n ≤ k + 1)) ⟨z, l, ol, bl, tl⟩, x.length ≤ 1000000 := fun x hx => HT2.out x (by rw [hTk]; exact List.mem_append_left _ (List.mem_append_right _ hx))
      obtain ⟨m1, hm1⟩ : ∃ m, m = l.length := ⟨_, rfl⟩
      obtain ⟨m2, hm2⟩ : ∃ m, m = ol.length := ⟨_, rfl⟩
      obtain ⟨m3, hm3⟩ : ∃ m, m = bl.length := ⟨_, rfl⟩
      obtain ⟨m4, hm4⟩ : ∃ m, m = tl.length := ⟨_, rfl⟩
      rw [← hm1] at a1 HC
      rw [← hm2] at a2 HC
      rw [← hm3] at a3 HC
      rw [← hm4] at a4 HC
      have HM1 := Lib.hid hm1
      have HM2 := Lib.hid hm2
      have HM3 := Lib.hid hm3
      have HM4 := Lib.hid hm4
      have HTK := Lib.hid hTk
      have HACC := Lib.hid hacc
      have HSZ := Lib.hid hsz
      have HSR1 := Lib.hid s1
      have HSR2 := Lib.hid s2
      have HSR3 := Lib.hid s3
      have HSR4 := Lib.hid s4
      clear hm1 hm2 hm3 hm4 s1 s2 s3 s4 hr0 hc1 hc2 hc3 hc4 HT hTk hacc hsz
      go_upto_region 7 with fail
      obtain ⟨E, hE⟩ : ∃ E, E = wr.heap.size := ⟨_, rfl⟩
      obtain ⟨w4, hw4⟩ : ∃ w4, w4 = wr.alloc (.cells #[.int .i64 z, .slice p1 m1 c1, .slice p2 m2 c2, .slice p3 m3 c3, .slice p4 m4 c4] 43) := ⟨_, rfl⟩
      have HBX : Hid (w4.heap[E]? = some (.cells #[.int .i64 z, .slice p1 m1 c1, .slice p2 m2 c2, .slice p3 m3 c3, .slice p4 m4 c4] 43 (0, 0))) := by show _ = _; rw [hw4, hE]; exact heap_alloc_new _ _
      have hbn : Below wr.heap.size wr w4 := by rw [hw4]; exact below_new (Below.refl _ _) _
      have HMS : Hid (MS w w4 B E #[.int .i64 z, .slice p1 m1 c1, .slice p2 m2 c2, .slice p3 m3 c3, .slice p4 m4 c4] acc S v) := ⟨HM.out.below hbn, HW.out.trans (hbn.mono HW.out.size), fun h => by have := (HM.out.low E h).2; omega, fun h => by have := row_lt HM.out.box; omega, HBX.out⟩
      have HSB1 : Hid (∀ w', Below w.heap.size w w' → SRw w' p1 l) := fun w' hb => HSR1.out.below hb
      have HSB2 : Hid (∀ w', Below w.heap.size w w' → SRw w' p2 ol) := fun w' hb => HSR2.out.below hb
      have HSB3 : Hid (∀ w', Below w.heap.size w w' → SRw w' p3 bl) := fun w' hb => HSR3.out.below hb
      have HSB4 : Hid (∀ w', Below w.heap.size w w' → SRw w' p4 tl) := fun w' hb => HSR4.out.below hb
      rw [← hw4, ← hE]
      clear hw4 hE a0 a1 a2 a3 a4 hbn HW HM
      have b0 := cell_of_row w4 E 0 _ _ _ HBX.out
      have b1 := cell_of_row w4 E 1 _ _ _ HBX.out
      have b2 := cell_of_row w4 E 2 _ _ _ HBX.out
      have b3 := cell_of_row w4 E 3 _ _ _ HBX.out
      have b4 := cell_of_row w4 E 4 _ _ _ HBX.out
      obtain ⟨Q, hQ⟩ : ∃ Q, Q = decide (z = 2) := ⟨_, rfl⟩
      have HC2 : Hid (∀ w, Calls Try.prog 50 #[.agg #[.int .i64 z, .slice p1 m1 c1, .slice p2 m2 c2, .slice p3 m3 c3, .slice p4 m4 c4]] w fun e w' => e = .returned (.bool Q) ∧ Below w.heap.size w w') := fun w => by
        have h := HC.out w
        rw [← hQ] at h
        exact h
      clear HC
      rcases Q with _ | _
      · have hz : ¬ z = 2 := by simpa using hQ.symm
        have hR : markR oN.data.toList tN.data.toList two (decide (n ≤ k + 1)) ⟨z, l, ol, bl, tl⟩ = if (decide (n ≤ k + 1)) = true then l else l.map endL := by rw [markR, if_neg hz]
        have h1 := HACC.out
        have h2 := HSZ.out
        have h3 := HTK.out
        rw [hR] at h1 h2 h3
        clear HACC HSZ HTK hR hQ hz
        by_cases hlast : k + 1 < n
        · have hdn : decide (n ≤ k + 1) = false := decide_eq_false (by omega)
          rw [hdn] at h1 h2 h3
          simp only [Bool.false_eq_true, if_false, List.length_map, List.mem_map, forall_exists_index, and_imp, forall_apply_eq_imp_iff₂] at h1 h2 h3
          rw [← HM1.out] at h1
          have HT4 := Lib.hid h3
          have HS1 : Hid (∀ s ∈ l, s.length ≤ 1000000) := fun s hs => Nat.le_trans (endL_ge s) (h2 s hs)
          have HL1 := Lib.hid h1
          have hlast2 : (k : Int) < (n : Int) - 1 := by omega
          clear h1 h2 h3 hdn
          go_upto_region 16 with (go_at_call 50; ((with_reducible refine (HC2.out _).mono ?_); rintro e w5 ⟨rfl, hb5⟩))
          have hm5 : MS w w5 B E #[.int .i64 z, .slice p1 m1 c1, .slice p2 m2 c2, .slice p3 m3 c3, .slice p4 m4 c4] acc S v := ⟨HMS.out.mb.below hb5, HMS.out.bel.trans (hb5.mono HMS.out.bel.size), HMS.out.nS, HMS.out.nB, (hb5.block E (row_lt HBX.out)).trans HBX.out⟩
          have y1 := cell_of_row w5 E 1 _ _ _ hm5.box
          have HA : Hid (Calls Try.prog 57 #[.slice p1 m1 c1, .pointer (some ⟨B, 0, none⟩)] w5 (MSR w B E #[.int .i64 z, .slice p1 m1 c1, .slice p2 m2 c2, .slice p3 m3 c3, .slice p4 m4 c4] (acc ++ l.map endL))) := addRow hm5 HM1.out HSB1.out HL1.out HS1.out
          clear hb5 hm5 b0 b1 b2 b3 b4
          go_upto_region 18 with (go_at_call 57; ((with_reducible refine HA.out.mono ?_); rintro e w6 ⟨rfl, S6, v6, hm6⟩))
          have HM6 := Lib.hid hm6
          clear hm6 y1
          go_wp2
          go_roundw
          case rel => exact ⟨k + 1, _, S6, v6, hlt, by go_num, HM6.out.mb, HM6.out.bel, HT4.out⟩
          case measure => simp [intOf]; omega
        · have hdn : decide (n ≤ k + 1) = true := decide_eq_true (by omega)
          rw [hdn] at h1 h3
          simp only [if_true] at h1 h3
          rw [← HM1.out] at h1
          have HT4 := Lib.hid h3
          have hlast2 : ¬ (k : Int) < (n : Int) - 1 := by omega
          clear h2 h3 hdn
          go_upto_region 16 with (go_at_call 50; ((with_reducible refine (HC2.out _).mono ?_); rintro e w5 ⟨rfl, hb5⟩))
          have hm5 : MS w w5 B E #[.int .i64 z, .slice p1 m1 c1, .slice p2 m2 c2, .slice p3 m3 c3, .slice p4 m4 c4] acc S v := ⟨HMS.out.mb.below hb5, HMS.out.bel.trans (hb5.mono HMS.out.bel.size), HMS.out.nS, HMS.out.nB, (hb5.block E (row_lt HBX.out)).trans HBX.out⟩
          have y1 := cell_of_row w5 E 1 _ _ _ hm5.box
          obtain ⟨L, hL⟩ : ∃ L, L = acc.length := ⟨_, rfl⟩
          obtain ⟨pv, cv, rfl, hsv⟩ := hm5.mb.own.shapeN hL
          have x0 := cell_of_row w5 B 0 _ _ _ hm5.mb.box
          have HL := Lib.hid hL
          have ho5 := hm5.mb.own.of hL
          have hs5 := hm5.bel.size
          have hlm : L + m1 ≤ 1000000 := by rw [hL]; exact h1
          clear h1
          have HM5 := Lib.hid hm5
          have hr5 := HSB1.out w5 hm5.bel
          clear hb5 hm5 b0 b1 b2 b3 b4 hsv hL
          go_upto_region 6 with fail
          go_wp2_with (at_builtin; refine app_srwT _ rfl _ _ 22 rfl HU.out w.heap.size _ L _ rfl ho5 _ m1 _ _ rfl HM1.out hr5 (by omega) hs5 ?_; intro v6 w6 ho6 hg6; have ho6' := TOw.app HL.out HM1.out ho6; obtain ⟨g6, cap6, rfl, _⟩ := ho6'.shapeN (n := L + m1) (by rw [List.length_append, ← HM1.out, ← HL.out]); obtain ⟨q1, q2, q3⟩ := HM5.out.mb.putAny ho6' hg6; have x6 := cell_of_row w6 B 0 _ _ _ q3; have z6 := frozen_of_row w6 B 0 _ _ q3)
          have HQ1 := Lib.hid q1
          have HQ2 : Hid (Below w.heap.size w (w6.setCell ⟨B, 0, none⟩ (.slice g6 (L + m1) cap6))) := HM5.out.bel.trans (q2.toBelow (fun b hb => by
            rcases hb with hb | rfl
            · exact (HM5.out.mb.low b hb).1
            · exact HM5.out.mb.bb) hs5)
          clear q1 q2 q3 x0 y1 x6 z6 ho5 ho6 ho6' hg6
          go_roundw
          case rel => exact ⟨k + 1, _, _, _, hlt, by go_num, HQ1.out, HQ2.out, HT4.out⟩
          case measure => simp [intOf]; omega
      · have hz : z = 2 := by simpa using hQ.symm
        have hR : markR oN.data.toList tN.data.toList two (decide (n ≤ k + 1)) ⟨z, l, ol, bl, tl⟩ = ((((([endL (openM ++ oN.data.toList)] ++ ol.map endL) ++ (if two then [endL baseM] ++ bl.map endL else [])) ++ [endL divM]) ++ tl.map endL ++ [endL (closeM ++ tN.data.toList)])) := by rw [markR, if_pos hz]
        have h1 := HACC.out
        have h2 := HSZ.out
        have h3 := HTK.out
        rw [hR] at h1 h2 h3
        clear HACC HSZ HTK hR hQ hz
        rcases two with _ | _
        · have e2 : (d == 2) = false := HD.out
          simp only [Bool.false_eq_true, if_false, List.append_nil] at h1 h2 h3
          obtain ⟨sO, hsO⟩ : ∃ s, s = (⟨#[60, 60, 60, 60, 60, 60, 60, 32]⟩ : ByteArray) ++ oN := ⟨_, rfl⟩
          obtain ⟨sC, hsC⟩ : ∃ s, s = (⟨#[62, 62, 62, 62, 62, 62, 62, 32]⟩ : ByteArray) ++ tN := ⟨_, rfl⟩
          have d1 : openM ++ oN.data.toList = sO.data.toList := by rw [hsO]; simp [openM]
          have d4 : closeM ++ tN.data.toList = sC.data.toList := by rw [hsC]; simp [closeM]
          have z1 : sO.size ≤ 1000000 := by have := HO.out; rw [hsO, ByteArray.size_append]; show 8 + _ ≤ _; omega
          have z2 : (⟨#[124, 124, 124, 124, 124, 124, 124]⟩ : ByteArray).size ≤ 1000000 := by decide
          have z3 : (⟨#[61, 61, 61, 61, 61, 61, 61]⟩ : ByteArray).size ≤ 1000000 := by decide
          have z4 : sC.size ≤ 1000000 := by have := HTT.out; rw [hsC, ByteArray.size_append]; show 8 + _ ≤ _; omega
          rw [d1, d4] at h1 h2 h3
          have h4 : T = (((((acc ++ [endL sO.data.toList]) ++ ol.map endL) ++ [endL divM]) ++ tl.map endL) ++ [endL sC.data.toList]) ++ markAcc oN.data.toList tN.data.toList false n (gs.drop (k + 1)) (k + 1) := by
            rw [h3]
            simp only [List.append_assoc]
          have HT4 := Lib.hid h4
          have sz2 : ∀ s ∈ ol, s.length ≤ 1000000 := fun s hs => Nat.le_trans (endL_ge s) (h2 _ (by simp only [List.mem_append, List.mem_map]; exact .inl (.inl (.inl (.inr ⟨s, hs, rfl⟩)))))
          have sz4 : ∀ s ∈ tl, s.length ≤ 1000000 := fun s hs => Nat.le_trans (endL_ge s) (h2 _ (by simp only [List.mem_append, List.mem_map]; exact .inl (.inr ⟨s, hs, rfl⟩)))
          have hb0 : acc.length + ((ol.length + tl.length) + 3) ≤ 1000000 := by
            simp only [List.length_append, List.length_map, List.length_singleton] at h1
            omega
          have HS2 := Lib.hid sz2
          have HS4 := Lib.hid sz4
          have HB0 := Lib.hid hb0
          clear h1 h2 h3 h4 sz2 sz4 hb0 d1 d4
          go_upto_region 8 with (go_at_call 50; ((with_reducible refine (HC2.out _).mono ?_); rintro e w5 ⟨rfl, hb5⟩))
          have hm5 : MS w w5 B E #[.int .i64 z, .slice p1 m1 c1, .slice p2 m2 c2, .slice p3 m3 c3, .slice p4 m4 c4] acc S v := ⟨HMS.out.mb.below hb5, HMS.out.bel.trans (hb5.mono HMS.out.bel.size), HMS.out.nS, HMS.out.nB, (hb5.block E (row_lt HBX.out)).trans HBX.out⟩
          have HM5 := Lib.hid hm5
          clear hb5 hm5 b0 b1 b2 b3 b4
          have HA5 : Hid (Calls Try.prog 57 #[.slice (some ⟨w5.heap.size, 0, none⟩) 1 1, .pointer (some ⟨B, 0, none⟩)] (w5.alloc (.cells #[.string sO] 9)) (MSR w B E #[.int .i64 z, .slice p1 m1 c1, .slice p2 m2 c2, .slice p3 m3 c3, .slice p4 m4 c4] (acc ++ [endL sO.data.toList]))) := addOne sO HM5.out (by have := HB0.out; omega) z1
          rw [hsO] at HA5
          have ho9 := HO.out
          go_upto_region 9 with (go_at_call 57; ((with_reducible refine HA5.out.mono ?_); rintro e w6 ⟨rfl, S6, v6, hm6⟩))
          rw [← hsO] at hm6
          have HM6 := Lib.hid hm6
          clear hm6 HA5
          have y6 := cell_of_row w6 E 2 _ _ _ HM6.out.box
          have HA6 : Hid (Calls Try.prog 57 #[.slice p2 m2 c2, .pointer (some ⟨B, 0, none⟩)] w6 (MSR w B E #[.int .i64 z, .slice p1 m1 c1, .slice p2 m2 c2, .slice p3 m3 c3, .slice p4 m4 c4] ((acc ++ [endL sO.data.toList]) ++ ol.map endL))) := addRow HM6.out HM2.out HSB2.out (by have h1 := HB0.out; have h2 := HM2.out; simp only [List.length_append, List.length_map, List.length_singleton]; omega) HS2.out
          go_upto_region 10 with (go_at_call 57; ((with_reducible refine HA6.out.mono ?_); rintro e w7 ⟨rfl, S7, v7, hm7⟩))
          have HM7 := Lib.hid hm7
          clear hm7 HA6 y6
          have HA7 : Hid (Calls Try.prog 57 #[.slice (some ⟨w7.heap.size, 0, none⟩) 1 1, .pointer (some ⟨B, 0, none⟩)] (w7.alloc (.cells #[.string ⟨#[61, 61, 61, 61, 61, 61, 61]⟩] 9)) (MSR w B E #[.int .i64 z, .slice p1 m1 c1, .slice p2 m2 c2, .slice p3 m3 c3, .slice p4 m4 c4] (((acc ++ [endL sO.data.toList]) ++ ol.map endL) ++ [endL divM]))) := addOne ⟨#[61, 61, 61, 61, 61, 61, 61]⟩ HM7.out (by have := HB0.out; simp only [List.length_append, List.length_map, List.length_singleton]; omega) z3
          go_upto_region 14 with (go_at_call 57; ((with_reducible refine HA7.out.mono ?_); rintro e w8 ⟨rfl, S8, v8, hm8⟩))
          have HM8 := Lib.hid hm8
          clear hm8 HA7
          have y8 := cell_of_row w8 E 4 _ _ _ HM8.out.box
          have HA8 : Hid (Calls Try.prog 57 #[.slice p4 m4 c4, .pointer (some ⟨B, 0, none⟩)] w8 (MSR w B E #[.int .i64 z, .slice p1 m1 c1, .slice p2 m2 c2, .slice p3 m3 c3, .slice p4 m4 c4] ((((acc ++ [endL sO.data.toList]) ++ ol.map endL) ++ [endL divM]) ++ tl.map endL))) := addRow HM8.out HM4.out HSB4.out (by have h1 := HB0.out; have h2 := HM4.out; simp only [List.length_append, List.length_map, List.length_singleton]; omega) HS4.out
          go_upto_region 15 with (go_at_call 57; ((with_reducible refine HA8.out.mono ?_); rintro e w9 ⟨rfl, S9, v9, hm9⟩))
          have HM9 := Lib.hid hm9
          clear hm9 HA8 y8
          have HA9 : Hid (Calls Try.prog 57 #[.slice (some ⟨w9.heap.size, 0, none⟩) 1 1, .pointer (some ⟨B, 0, none⟩)] (w9.alloc (.cells #[.string sC] 9)) (MSR w B E #[.int .i64 z, .slice p1 m1 c1, .slice p2 m2 c2, .slice p3 m3 c3, .slice p4 m4 c4] (((((acc ++ [endL sO.data.toList]) ++ ol.map endL) ++ [endL divM]) ++ tl.map endL) ++ [endL sC.data.toList]))) := addOne sC HM9.out (by have := HB0.out; simp only [List.length_append, List.length_map, List.length_singleton]; omega) z4
          rw [hsC] at HA9
          have ht9 := HTT.out
          go_upto_region 18 with (go_at_call 57; ((with_reducible refine HA9.out.mono ?_); rintro e w10 ⟨rfl, S10, v10, hm10⟩))
          rw [← hsC] at hm10
          have HM10 := Lib.hid hm10
          clear hm10 HA9
          go_wp2
          go_roundw
          case rel => exact ⟨k + 1, _, S10, v10, hlt, by go_num, HM10.out.mb, HM10.out.bel, HT4.out⟩
          case measure => simp [intOf]; omega
        · have e2 : (d == 2) = true := HD.out
          simp only [if_true] at h1 h2 h3
          obtain ⟨sO, hsO⟩ : ∃ s, s = (⟨#[60, 60, 60, 60, 60, 60, 60, 32]⟩ : ByteArray) ++ oN := ⟨_, rfl⟩
          obtain ⟨sC, hsC⟩ : ∃ s, s = (⟨#[62, 62, 62, 62, 62, 62, 62, 32]⟩ : ByteArray) ++ tN := ⟨_, rfl⟩
          have d1 : openM ++ oN.data.toList = sO.data.toList := by rw [hsO]; simp [openM]
          have d4 : closeM ++ tN.data.toList = sC.data.toList := by rw [hsC]; simp [closeM]
          have z1 : sO.size ≤ 1000000 := by have := HO.out; rw [hsO, ByteArray.size_append]; show 8 + _ ≤ _; omega
          have z2 : (⟨#[124, 124, 124, 124, 124, 124, 124]⟩ : ByteArray).size ≤ 1000000 := by decide
          have z3 : (⟨#[61, 61, 61, 61, 61, 61, 61]⟩ : ByteArray).size ≤ 1000000 := by decide
          have z4 : sC.size ≤ 1000000 := by have := HTT.out; rw [hsC, ByteArray.size_append]; show 8 + _ ≤ _; omega
          rw [d1, d4] at h1 h2 h3
          have h4 : T = (((((((acc ++ [endL sO.data.toList]) ++ ol.map endL) ++ [endL baseM]) ++ bl.map endL) ++ [endL divM]) ++ tl.map endL) ++ [endL sC.data.toList]) ++ markAcc oN.data.toList tN.data.toList true n (gs.drop (k + 1)) (k + 1) := by
            rw [h3]
            simp only [List.append_assoc]
          have HT4 := Lib.hid h4
          have sz2 : ∀ s ∈ ol, s.length ≤ 1000000 := fun s hs => Nat.le_trans (endL_ge s) (h2 _ (by simp only [List.mem_append, List.mem_map]; exact .inl (.inl (.inl (.inl (.inr ⟨s, hs, rfl⟩))))))
          have sz3 : ∀ s ∈ bl, s.length ≤ 1000000 := fun s hs => Nat.le_trans (endL_ge s) (h2 _ (by simp only [List.mem_append, List.mem_map]; exact .inl (.inl (.inl (.inr (.inr ⟨s, hs, rfl⟩))))))
          have sz4 : ∀ s ∈ tl, s.length ≤ 1000000 := fun s hs => Nat.le_trans (endL_ge s) (h2 _ (by simp only [List.mem_append, List.mem_map]; exact .inl (.inr ⟨s, hs, rfl⟩)))
          have hb0 : acc.length + ((ol.length + tl.length) + bl.length + 4) ≤ 1000000 := by
            simp only [List.length_append, List.length_map, List.length_singleton] at h1
            omega
          have HS2 := Lib.hid sz2
          have HS3 := Lib.hid sz3
          have HS4 := Lib.hid sz4
          have HB0 := Lib.hid hb0
          clear h1 h2 h3 h4 sz2 sz3 sz4 hb0 d1 d4
          go_upto_region 8 with (go_at_call 50; ((with_reducible refine (HC2.out _).mono ?_); rintro e w5 ⟨rfl, hb5⟩))
          have hm5 : MS w w5 B E #[.int .i64 z, .slice p1 m1 c1, .slice p2 m2 c2, .slice p3 m3 c3, .slice p4 m4 c4] acc S v := ⟨HMS.out.mb.below hb5, HMS.out.bel.trans (hb5.mono HMS.out.bel.size), HMS.out.nS, HMS.out.nB, (hb5.block E (row_lt HBX.out)).trans HBX.out⟩
          have HM5 := Lib.hid hm5
          clear hb5 hm5 b0 b1 b2 b3 b4
          have HA5 : Hid (Calls Try.prog 57 #[.slice (some ⟨w5.heap.size, 0, none⟩) 1 1, .pointer (some ⟨B, 0, none⟩)] (w5.alloc (.cells #[.string sO] 9)) (MSR w B E #[.int .i64 z, .slice p1 m1 c1, .slice p2 m2 c2, .slice p3 m3 c3, .slice p4 m4 c4] (acc ++ [endL sO.data.toList]))) := addOne sO HM5.out (by have := HB0.out; omega) z1
          rw [hsO] at HA5
          have ho9 := HO.out
          go_upto_region 9 with (go_at_call 57; ((with_reducible refine HA5.out.mono ?_); rintro e w6 ⟨rfl, S6, v6, hm6⟩))
          rw [← hsO] at hm6
          have HM6 := Lib.hid hm6
          clear hm6 HA5
          have y6 := cell_of_row w6 E 2 _ _ _ HM6.out.box
          have HA6 : Hid (Calls Try.prog 57 #[.slice p2 m2 c2, .pointer (some ⟨B, 0, none⟩)] w6 (MSR w B E #[.int .i64 z, .slice p1 m1 c1, .slice p2 m2 c2, .slice p3 m3 c3, .slice p4 m4 c4] ((acc ++ [endL sO.data.toList]) ++ ol.map endL))) := addRow HM6.out HM2.out HSB2.out (by have h1 := HB0.out; have h2 := HM2.out; simp only [List.length_append, List.length_map, List.length_singleton]; omega) HS2.out
          go_upto_region 10 with (go_at_call 57; ((with_reducible refine HA6.out.mono ?_); rintro e w7 ⟨rfl, S7, v7, hm7⟩))
          have HM7 := Lib.hid hm7
          clear hm7 HA6 y6
          have HA7 : Hid (Calls Try.prog 57 #[.slice (some ⟨w7.heap.size, 0, none⟩) 1 1, .pointer (some ⟨B, 0, none⟩)] (w7.alloc (.cells #[.string ⟨#[124, 124, 124, 124, 124, 124, 124]⟩] 9)) (MSR w B E #[.int .i64 z, .slice p1 m1 c1, .slice p2 m2 c2, .slice p3 m3 c3, .slice p4 m4 c4] (((acc ++ [endL sO.data.toList]) ++ ol.map endL) ++ [endL baseM]))) := addOne ⟨#[124, 124, 124, 124, 124, 124, 124]⟩ HM7.out (by have := HB0.out; simp only [List.length_append, List.length_map, List.length_singleton]; omega) z2
          go_upto_region 12 with (go_at_call 57; ((with_reducible refine HA7.out.mono ?_); rintro e w8 ⟨rfl, S8, v8, hm8⟩))
          have HM8 := Lib.hid hm8
          clear hm8 HA7
          have y8 := cell_of_row w8 E 3 _ _ _ HM8.out.box
          have HA8 : Hid (Calls Try.prog 57 #[.slice p3 m3 c3, .pointer (some ⟨B, 0, none⟩)] w8 (MSR w B E #[.int .i64 z, .slice p1 m1 c1, .slice p2 m2 c2, .slice p3 m3 c3, .slice p4 m4 c4] ((((acc ++ [endL sO.data.toList]) ++ ol.map endL) ++ [endL baseM]) ++ bl.map endL))) := addRow HM8.out HM3.out HSB3.out (by have h1 := HB0.out; have h2 := HM3.out; simp only [List.length_append, List.length_map, List.length_singleton]; omega) HS3.out
          go_upto_region 13 with (go_at_call 57; ((with_reducible refine HA8.out.mono ?_); rintro e w9 ⟨rfl, S9, v9, hm9⟩))
          have HM9 := Lib.hid hm9
          clear hm9 HA8 y8
          have HA9 : Hid (Calls Try.prog 57 #[.slice (some ⟨w9.heap.size, 0, none⟩) 1 1, .pointer (some ⟨B, 0, none⟩)] (w9.alloc (.cells #[.string ⟨#[61, 61, 61, 61, 61, 61, 61]⟩] 9)) (MSR w B E #[.int .i64 z, .slice p1 m1 c1, .slice p2 m2 c2, .slice p3 m3 c3, .slice p4 m4 c4] (((((acc ++ [endL sO.data.toList]) ++ ol.map endL) ++ [endL baseM]) ++ bl.map endL) ++ [endL divM]))) := addOne ⟨#[61, 61, 61, 61, 61, 61, 61]⟩ HM9.out (by have := HB0.out; simp only [List.length_append, List.length_map, List.length_singleton]; omega) z3
          go_upto_region 14 with (go_at_call 57; ((with_reducible refine HA9.out.mono ?_); rintro e w10 ⟨rfl, S10, v10, hm10⟩))
          have HM10 := Lib.hid hm10
          clear hm10 HA9
          have y10 := cell_of_row w10 E 4 _ _ _ HM10.out.box
          have HA10 : Hid (Calls Try.prog 57 #[.slice p4 m4 c4, .pointer (some ⟨B, 0, none⟩)] w10 (MSR w B E #[.int .i64 z, .slice p1 m1 c1, .slice p2 m2 c2, .slice p3 m3 c3, .slice p4 m4 c4] ((((((acc ++ [endL sO.data.toList]) ++ ol.map endL) ++ [endL baseM]) ++ bl.map endL) ++ [endL divM]) ++ tl.map endL))) := addRow HM10.out HM4.out HSB4.out (by have h1 := HB0.out; have h2 := HM4.out; simp only [List.length_append, List.length_map, List.length_singleton]; omega) HS4.out
          go_upto_region 15 with (go_at_call 57; ((with_reducible refine HA10.out.mono ?_); rintro e w11 ⟨rfl, S11, v11, hm11⟩))
          have HM11 := Lib.hid hm11
          clear hm11 HA10 y10
          have HA11 : Hid (Calls Try.prog 57 #[.slice (some ⟨w11.heap.size, 0, none⟩) 1 1, .pointer (some ⟨B, 0, none⟩)] (w11.alloc (.cells #[.string sC] 9)) (MSR w B E #[.int .i64 z, .slice p1 m1 c1, .slice p2 m2 c2, .slice p3 m3 c3, .slice p4 m4 c4] (((((((acc ++ [endL sO.data.toList]) ++ ol.map endL) ++ [endL baseM]) ++ bl.map endL) ++ [endL divM]) ++ tl.map endL) ++ [endL sC.data.toList]))) := addOne sC HM11.out (by have := HB0.out; simp only [List.length_append, List.length_map, List.length_singleton]; omega) z4
          rw [hsC] at HA11
          have ht9 := HTT.out
          go_upto_region 18 with (go_at_call 57; ((with_reducible refine HA11.out.mono ?_); rintro e w12 ⟨rfl, S12, v12, hm12⟩))
          rw [← hsC] at hm12
          have HM12 := Lib.hid hm12
          clear hm12 HA11
          go_wp2
          go_roundw
          case rel => exact ⟨k + 1, _, S12, v12, hlt, by go_num, HM12.out.mb, HM12.out.bel, HT4.out⟩
          case measure => simp [intOf]; omega
    · obtain rfl : k = n := by omega
      have hTa : T = acc := by rw [HT.out, List.drop_of_length_le (by have := HN.out; omega)]; simp [markAcc]
      obtain ⟨L, hL⟩ : ∃ L, L = acc.length := ⟨_, rfl⟩
      obtain ⟨pv, cv, rfl, hsv⟩ := HM.out.own.shapeN hL
      have c0 := cell_of_row wr B 0 _ _ _ HM.out.box
      have HJ : Hid (Calls Try.prog 59 #[.slice pv L cv] wr fun e w' => e = .returned (.string r0) ∧ Below wr.heap.size wr w') := join_any acc pv cv L r0 wr hL hsv (by rw [HR0.out, hTa]) (by rw [← hTa]; exact HT3.out) (by rw [hL, ← hTa]; have := HT1.out; omega)
      clear hTa hL hsv
      go_wp2_with (go_at_call 59; ((with_reducible refine HJ.out.mono ?_); rintro e w2 ⟨rfl, hb2⟩))
      go_ret
      exact ⟨rfl, HW.out.trans (hb2.mono HW.out.size)⟩
end Go.Proofs.Ytidghjalfbklnaa
