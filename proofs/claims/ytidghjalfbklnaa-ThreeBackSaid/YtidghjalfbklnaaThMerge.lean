/-
  The walk of three's Merge.
-/
import Derived.Test.YtidghjalfbklnaaThResPk
import Derived.StillTailTactics
namespace Go.Proofs.Ytidghjalfbklnaa
open Go.RowKit

theorem RS.start {w : World} {R : Nat} (h : w.heap[R]? = some (.cells #[.slice none 0 0] 70 (0, 0))) (base : Nat) (hb : base ≤ R) : RS w base R (fun _ => False) [] (.slice none 0 0) [] where
  box := ⟨_, _, h, rfl, by decide, by decide⟩
  own := World.ownsRow_nil _ _ _ _
  blk := fun g hg => by cases hg
  st := fun k hk => absurd hk (Nat.not_lt_zero _)
  last := fun k hk => absurd hk (Nat.not_lt_zero _)
  low := fun b hb => hb.elim
  rb := hb

set_option maxHeartbeats 8000000 in
set_option maxRecDepth 10000 in
theorem merge_any (X Y Z : List (List UInt8)) (nb cb no co nt ct : Nat) (pb po pt : Option Addr) (w : World) (hnb : nb = X.length) (hno : no = Y.length) (hnt : nt = Z.length)
    (hpb : SRw w pb X) (hpo : SRw w po Y) (hpt : SRw w pt Z) (hcb : nb ≤ cb) (hco : no ≤ co) (hct : nt ≤ ct) (hb1 : nb ≤ 2000) (ho1 : no ≤ 2000) (ht1 : nt ≤ 2000)
    (hsb : ∀ s ∈ X, s.length ≤ 140737488355328) (hso : ∀ s ∈ Y, s.length ≤ 140737488355328) (hst : ∀ s ∈ Z, s.length ≤ 140737488355328) :
    Calls Try.prog 18 #[.slice pb nb cb, .slice po no co, .slice pt nt ct] w fun e w' => (∃ p n cap, e = .returned (.slice p n cap) ∧ n = (mergeL X Y Z).length ∧ n ≤ cap ∧ GRw w' p (mergeL X Y Z)) ∧ Below w.heap.size w w' := by
  obtain ⟨p, hp⟩ : ∃ p, p = kpL X Y := ⟨_, rfl⟩
  obtain ⟨q, hq⟩ : ∃ q, q = kpL X Z := ⟨_, rfl⟩
  obtain ⟨ip, jp, hmp, hjp⟩ := kpL_mon (X := X) (Y := Y) (by omega) (by omega)
  obtain ⟨iq, jq, hmq, hjq⟩ := kpL_mon (X := X) (Y := Z) (by omega) (by omega)
  rw [← hp] at hmp
  rw [← hq] at hmq
  have hpl : p.length = nb := by rw [hp, kpL_len, hnb]
  have hql : q.length = nb := by rw [hq, kpL_len, hnb]
  obtain ⟨T, hT⟩ : ∃ T, T = mergeL X Y Z := ⟨_, rfl⟩
  have HT : Hid (T = mrg X Y Z p q (nb - 0) 0 [] 0 0 0) := by show _ = _; rw [hT, mergeL, ← hp, ← hq, Nat.sub_zero, ← hnb]
  have HKo : Hid (Calls Try.prog 43 #[.slice pb nb cb, .slice po no co] w fun e w' => (∃ G, e = .returned (.slice (some ⟨G, 0, none⟩) nb nb) ∧ w.heap.size ≤ G ∧ Hid (w'.heap[G]? = some (.cells (ints p).toArray 3 (0, 0)))) ∧ Below w.heap.size w w') := by
    rw [hp]
    exact kept_any X Y pb po cb co nb no w hnb hno hpb hpo hcb hco hb1 ho1 hsb hso
  have HKt : Hid (∀ w', Below w.heap.size w w' → Calls Try.prog 43 #[.slice pb nb cb, .slice pt nt ct] w' fun e w'' => (∃ G, e = .returned (.slice (some ⟨G, 0, none⟩) nb nb) ∧ w'.heap.size ≤ G ∧ Hid (w''.heap[G]? = some (.cells (ints q).toArray 3 (0, 0)))) ∧ Below w'.heap.size w' w'') := fun w' hb => by
    rw [hq]
    exact kept_any X Z pb pt cb ct nb nt w' hnb hnt (hpb.below hb) (hpt.below hb) hcb hct hb1 ht1 hsb hst
  rw [← hT]
  have HMP := Lib.hid hmp
  have HMQ := Lib.hid hmq
  have HPL := Lib.hid hpl
  have HQL := Lib.hid hql
  have HNB := Lib.hid hnb
  have HNO := Lib.hid hno
  have HNT := Lib.hid hnt
  have HPB := Lib.hid hpb
  have HPO := Lib.hid hpo
  have HPT := Lib.hid hpt
  have hjp2 : jp ≤ no := by omega
  have hjq2 : jq ≤ nt := by omega
  clear hp hq hmp hmq hpl hql hT hnb hno hnt hpb hpo hpt hsb hso hst hjp hjq
  go_enter Try.func18, Try.ntmps18
  go_upto_region 3 with (go_at_call 43; first
    | ((with_reducible refine HKo.out.mono ?_); rintro e w1 ⟨⟨G1, rfl, hg1, hr1⟩, hb1'⟩)
    | ((with_reducible refine (HKt.out _ hb1').mono ?_); rintro e w2 ⟨⟨G2, rfl, hg2, hr2⟩, hb2'⟩))
  obtain ⟨R, hR⟩ : ∃ R, R = w2.heap.size := ⟨_, rfl⟩
  obtain ⟨w3, hw3⟩ : ∃ w3, w3 = w2.alloc (.cells #[.slice none 0 0] 70) := ⟨_, rfl⟩
  have hrow : w3.heap[R]? = some (.cells #[.slice none 0 0] 70 (0, 0)) := by rw [hw3, hR]; exact heap_alloc_new _ _
  have hb13 : Below w1.heap.size w1 w3 := by rw [hw3]; exact below_new hb2' _
  have hb03 : Below w.heap.size w w3 := hb1'.trans (hb13.mono hb1'.size)
  have hr13 : w3.heap[G1]? = some (.cells (ints p).toArray 3 (0, 0)) := (hb13.block G1 (row_lt hr1.out)).trans hr1.out
  have hr23 : w3.heap[G2]? = some (.cells (ints q).toArray 3 (0, 0)) := by rw [hw3]; exact row_alloc hr2.out (row_lt hr2.out)
  have hG1 : G1 < R := by have := row_lt hr1.out; have := hb2'.size; omega
  have hG2 : G2 < R := by rw [hR]; exact row_lt hr2.out
  have hRw : w.heap.size ≤ R := by have := hb1'.size; have := hb2'.size; omega
  have hR3 : R < w3.heap.size := row_lt hrow
  rw [← hw3, ← hR]
  have HRS0 : Hid (RS w3 R R (fun _ => False) [] (.slice none 0 0) []) := RS.start hrow R (Nat.le_refl _)
  have HSA : Hid (∀ w', Below R w3 w' → SRw w' pb X ∧ SRw w' po Y ∧ SRw w' pt Z) := fun w' hb => by
    have h1 : Below w.heap.size w w' := hb03.trans (hb.mono hRw)
    exact ⟨HPB.out.below h1, HPO.out.below h1, HPT.out.below h1⟩
  have HB03 := Lib.hid hb03
  have HR1 : Hid (∀ w', Below R w3 w' → w'.heap[G1]? = some (.cells (ints p).toArray 3 (0, 0))) := fun w' hb => (hb.block G1 hG1).trans hr13
  have HR2 : Hid (∀ w', Below R w3 w' → w'.heap[G2]? = some (.cells (ints q).toArray 3 (0, 0))) := fun w' hb => (hb.block G2 hG2).trans hr23
  have HP0 : Hid (∀ (k' : Nat) (x : Int), 0 ≤ k' → p[k']? = some x → 0 ≤ x → ((0 : Nat) : Int) ≤ x) := fun k' x _ _ h => by omega
  have HQ0 : Hid (∀ (k' : Nat) (x : Int), 0 ≤ k' → q[k']? = some x → 0 ≤ x → ((0 : Nat) : Int) ≤ x) := fun k' x _ _ h => by omega
  clear hR hw3 hrow hb13 hb03 hr13 hr23 hr1 hr2 hb1' hb2' hg1 hg2 HKo HKt
  go_upto_region 4 with fail
  go_wp2_with fail
  go_loopw [24, 10, 11, 12] (fun kv bv ov tv wr => ∃ (k b o t : Nat) (gs : List Rg) (S : Nat → Prop) (v : Value) (xs : List Value), k ≤ nb ∧ b ≤ k ∧ o ≤ no ∧ t ≤ nt ∧ kv = .int .i64 (k : Int) ∧ bv = .int .i64 (b : Int) ∧ ov = .int .i64 (o : Int) ∧ tv = .int .i64 (t : Int) ∧ Hid (RS wr R R S gs v xs) ∧ Hid (T = mrg X Y Z p q (nb - k) k gs b o t) ∧ Hid (Below R w3 wr) ∧ gs.length ≤ 4 * k ∧ Hid (lastN gs ≤ o + t + k) ∧ Hid (∀ (k' : Nat) (x : Int), k ≤ k' → p[k']? = some x → 0 ≤ x → (o : Int) ≤ x) ∧ Hid (∀ (k' : Nat) (x : Int), k ≤ k' → q[k']? = some x → 0 ≤ x → (t : Int) ≤ x)) (fun kv _ _ _ _ => nb - (intOf kv).toNat)
  case atStart => exact ⟨0, 0, 0, 0, [], _, _, _, Nat.zero_le _, Nat.zero_le _, Nat.zero_le _, Nat.zero_le _, rfl, rfl, rfl, rfl, HRS0.out, HT.out, Below.refl _ _, by simp, by show 0 ≤ _; omega, HP0.out, HQ0.out⟩
  case round =>
    clear HT HRS0 HP0 HQ0
    obtain ⟨k, b, o, t, gs, S, v, xs, hk, hbk, hon, htn, rfl, rfl, rfl, rfl, HRS, HT, HW, hgl, HLN, HPO2, HPT2⟩ := hrel
    by_cases hlt : k < nb
    · obtain ⟨x, hx⟩ : ∃ x, p[k]? = some x := ⟨_, List.getElem?_eq_getElem (by rw [HPL.out]; exact hlt)⟩
      obtain ⟨y, hy⟩ : ∃ y, q[k]? = some y := ⟨_, List.getElem?_eq_getElem (by rw [HQL.out]; exact hlt)⟩
      have cellp : wr.cell? ⟨G1, k, none⟩ = some (.int .i64 x) := by
        rw [cell_of_row wr G1 k _ _ _ (HR1.out wr HW.out), ints_at p k (by rw [HPL.out]; exact hlt)]
        rw [List.getElem?_eq_getElem (by rw [HPL.out]; exact hlt)] at hx
        rw [Option.some.inj hx]
      have cellq : wr.cell? ⟨G2, k, none⟩ = some (.int .i64 y) := by
        rw [cell_of_row wr G2 k _ _ _ (HR2.out wr HW.out), ints_at q k (by rw [HQL.out]; exact hlt)]
        rw [List.getElem?_eq_getElem (by rw [HQL.out]; exact hlt)] at hy
        rw [Option.some.inj hy]
      have hstep : T = if x < 0 ∨ y < 0 then mrg X Y Z p q (nb - (k + 1)) (k + 1) gs b o t else mrg X Y Z p q (nb - (k + 1)) (k + 1) (clG (resL gs ((X.drop b).take (k - b)) ((Y.drop o).take (x.toNat - o)) ((Z.drop t).take (y.toNat - t))) ((X.drop k).take 1)) (k + 1) (x.toNat + 1) (y.toNat + 1) := by
        rw [HT.out, show nb - k = (nb - (k + 1)) + 1 by omega, mrg, hx, hy]
        rfl
      have hvx := HMP.out.val k x hx
      have hvy := HMQ.out.val k y hy
      have HX := Lib.hid hx
      have HY := Lib.hid hy
      clear hx hy HT
      by_cases hneg : x < 0 ∨ y < 0
      · rw [if_pos hneg] at hstep
        have HT2 := Lib.hid hstep
        have HP3 : Hid (∀ (k' : Nat) (x : Int), k + 1 ≤ k' → p[k']? = some x → 0 ≤ x → (o : Int) ≤ x) := fun k' x h => HPO2.out k' x (by omega)
        have HQ3 : Hid (∀ (k' : Nat) (x : Int), k + 1 ≤ k' → q[k']? = some x → 0 ≤ x → (t : Int) ≤ x) := fun k' x h => HPT2.out k' x (by omega)
        have HL3 : Hid (lastN gs ≤ o + t + (k + 1)) := Nat.le_trans HLN.out (by omega)
        clear hstep hvx hvy
        by_cases hx0 : x < 0
        · clear hneg
          go_upto_region 7 with fail
          go_quiet (fail)
          go_wp2
          go_roundw
          case rel => exact ⟨k + 1, b, o, t, gs, S, v, xs, by omega, by omega, hon, htn, by go_num, rfl, rfl, rfl, HRS.out.keep (below_drewN (Below.refl _ _) _), HT2.out, below_drewN HW.out _, by omega, HL3.out, HP3.out, HQ3.out⟩
          case measure => simp [intOf]; omega
        · have hy0 : y < 0 := by omega
          clear hneg
          go_upto_region 7 with fail
          go_quiet (fail)
          go_wp2
          go_roundw
          case rel => exact ⟨k + 1, b, o, t, gs, S, v, xs, by omega, by omega, hon, htn, by go_num, rfl, rfl, rfl, HRS.out.keep (below_drewN (Below.refl _ _) _), HT2.out, below_drewN HW.out _, by omega, HL3.out, HP3.out, HQ3.out⟩
          case measure => simp [intOf]; omega
      · rw [if_neg hneg] at hstep
        obtain ⟨i, rfl⟩ : ∃ i : Nat, x = (i : Int) := ⟨x.toNat, by omega⟩
        obtain ⟨j, rfl⟩ : ∃ j : Nat, y = (j : Int) := ⟨y.toNat, by omega⟩
        simp only [Int.toNat_natCast] at hstep
        have hio : i < no := by omega
        have hjt : j < nt := by omega
        have hoi : o ≤ i := by have := HPO2.out k i (Nat.le_refl _) HX.out (by omega); omega
        have htj : t ≤ j := by have := HPT2.out k j (Nat.le_refl _) HY.out (by omega); omega
        have HT2 := Lib.hid hstep
        have HP3 : Hid (∀ (k' : Nat) (x : Int), k + 1 ≤ k' → p[k']? = some x → 0 ≤ x → ((i + 1 : Nat) : Int) ≤ x) := fun k' x h hx' h0 => by
          have := HMP.out.mono k k' i x (by omega) HX.out hx' (by omega) h0
          omega
        have HQ3 : Hid (∀ (k' : Nat) (x : Int), k + 1 ≤ k' → q[k']? = some x → 0 ≤ x → ((j + 1 : Nat) : Int) ≤ x) := fun k' x h hx' h0 => by
          have := HMQ.out.mono k k' j x (by omega) HY.out hx' (by omega) h0
          omega
        clear hstep hvx hvy hneg
        go_upto_region 7 with fail
        go_quiet (fail)
        go_upto_region 9 with fail
        obtain ⟨Pb, hPb⟩ : ∃ P, (if cb = b then pb else pb.map (·.add b)) = P := ⟨_, rfl⟩
        obtain ⟨Po, hPo⟩ : ∃ P, (if co = o then po else po.map (·.add o)) = P := ⟨_, rfl⟩
        obtain ⟨Pt, hPt⟩ : ∃ P, (if ct = t then pt else pt.map (·.add t)) = P := ⟨_, rfl⟩
        have r1 : k ≤ cb := by omega
        have r2 : i ≤ co := by omega
        have r3 : j ≤ ct := by omega
        have HPB1 := Lib.hid hPb
        have HPO1 := Lib.hid hPo
        have HPT1 := Lib.hid hPt
        go_still_tail 12, (by kernel_rfl)
        change wpList _ _ _ _ _ (wr.drewN nq).drew
        have hbk5 : Below wr.heap.size wr (wr.drewN nq).drew := (below_drewN (Below.refl _ _) nq).drew
        have HW5 : Hid (Below R w3 (wr.drewN nq).drew) := HW.out.trans (hbk5.mono (by have := HW.out.size; omega))
        have HR5 := Lib.hid (HRS.out.keep hbk5)
        clear cellp cellq hbk5 HRS HW
        generalize (wr.drewN nq).drew = w5 at HW5 HR5 ⊢
        have HCH : Hid (∀ w', Chg (own2 S R) w5 w' → Below R w3 w') := fun w' hw' => HW5.out.trans (hw'.toBelow (fun b hb => by
          rcases hb with hb | rfl
          · exact (HR5.out.low b hb).1
          · exact Nat.le_refl _) (by have := HW5.out.size; omega))
        have HRV : Hid (Calls Try.prog 44 #[.pointer (some ⟨R, 0, none⟩), .slice Pb (k - b) (cb - b), .slice Po (i - o) (co - o), .slice Pt (j - t) (ct - t)] w5 (PCl w5 R R S (resL gs ((X.drop b).take (k - b)) ((Y.drop o).take (i - o)) ((Z.drop t).take (j - t))))) := by
          refine presolve_any gs _ _ _ R R (k - b) (cb - b) (i - o) (co - o) (j - t) (ct - t) Pb Po Pt S v xs w5 HR5.out (by rw [List.length_take, List.length_drop, ← HNB.out]; omega) (by rw [List.length_take, List.length_drop, ← HNO.out]; omega) (by rw [List.length_take, List.length_drop, ← HNT.out]; omega) (fun w' hw' => ?_) (fun w' hw' => ?_) (fun w' hw' => ?_) (by omega) (by omega) (by omega) (by have := HLN.out; omega) (by omega) (by omega) (by omega) (by have := HW5.out.size; omega)
          · rw [← HPB1.out]; exact srw_cut (HSA.out w' (HCH.out w' hw')).1 b k HNB.out hcb hbk (by omega)
          · rw [← HPO1.out]; exact srw_cut (HSA.out w' (HCH.out w' hw')).2.1 o i HNO.out hco hoi (by omega)
          · rw [← HPT1.out]; exact srw_cut (HSA.out w' (HCH.out w' hw')).2.2 t j HNT.out hct htj (by omega)
        clear hPb hPo hPt
        go_upto_region 10 with (go_at_call 44; ((with_reducible refine HRV.out.mono ?_); rintro e w6 ⟨rfl, S6, v6, xs6, hr6, hc6, hs6, _⟩))
        obtain ⟨Pk, hPk⟩ : ∃ P, (if cb = k then pb else pb.map (·.add k)) = P := ⟨_, rfl⟩
        have HPK1 := Lib.hid hPk
        have HW6 : Hid (Below R w3 w6) := HCH.out w6 hc6
        have HLR := Lib.hid (lastN_res gs ((X.drop b).take (k - b)) ((Y.drop o).take (i - o)) ((Z.drop t).take (j - t)))
        obtain ⟨g2, hg2⟩ : ∃ g2, g2 = resL gs ((X.drop b).take (k - b)) ((Y.drop o).take (i - o)) ((Z.drop t).take (j - t)) := ⟨_, rfl⟩
        rw [← hg2] at hr6 HLR HT2
        have hl2 : lastN g2 ≤ i + j + k ∧ g2.length ≤ 4 * k + 3 := by
          have h1 := HLR.out
          have h2 := HLN.out
          rw [List.length_take, List.length_take, List.length_drop, List.length_drop] at h1
          omega
        have HL2 := Lib.hid hl2
        have HR6 := Lib.hid hr6
        have HCH6 : Hid (∀ w', Chg (own2 S6 R) w6 w' → Below R w3 w') := fun w' hw' => HW6.out.trans (hw'.toBelow (fun b hb => by
          rcases hb with hb | rfl
          · exact (HR6.out.low b hb).1
          · exact Nat.le_refl _) (by have := HW6.out.size; omega))
        have HCN : Hid (Calls Try.prog 45 #[.pointer (some ⟨R, 0, none⟩), .slice Pk 1 (cb - k)] w6 (PCl w6 R R S6 (clG g2 ((X.drop k).take 1)))) := by
          refine pclean_any g2 ((X.drop k).take 1) R R 1 (cb - k) Pk S6 v6 xs6 w6 HR6.out (by rw [List.length_take, List.length_drop, ← HNB.out]; omega) (fun w' hw' => ?_) (by have := HL2.out; omega) (fun r hr => ?_) (by omega) (by have := HW6.out.size; omega)
          · rw [← HPK1.out]
            have := srw_cut (c := cb) (n := nb) (HSA.out w' (HCH6.out w' hw')).1 k (k + 1) HNB.out hcb (by omega) (by omega)
            rw [show k + 1 - k = 1 by omega] at this
            exact this
          · rw [lastN_of hr]
            have := HL2.out
            omega
        have i1 : IntKind.i64.wrap ((k : Int) + 1) = ((k + 1 : Nat) : Int) := by rw [IntWalk.i64_in _ (by omega)]; omega
        have q1 : k + 1 ≤ cb := by omega
        have q2 : k + 1 - k = 1 := by omega
        clear hg2 hl2 hr6 hc6 hs6 HRV HR5 HW5 HCH
        go_upto_region 11 with (go_at_call 45; ((with_reducible refine HCN.out.mono ?_); rintro e w7 ⟨rfl, S7, v7, xs7, hr7, hc7, hs7, _⟩))
        have HR7 := Lib.hid hr7
        have HW7 : Hid (Below R w3 w7) := HCH6.out w7 hc7
        have HL7 : Hid (lastN (clG g2 ((X.drop k).take 1)) ≤ (i + 1) + (j + 1) + (k + 1)) := by
          have h1 := (lastN_cl g2 ((X.drop k).take 1)).1
          have h2 := HL2.out.1
          have h3 : ((X.drop k).take 1).length ≤ 1 := by rw [List.length_take]; omega
          show _ ≤ _
          omega
        have hg7 : (clG g2 ((X.drop k).take 1)).length ≤ 4 * (k + 1) := by
          have h1 := (lastN_cl g2 ((X.drop k).take 1)).2
          have h2 := HL2.out.2
          omega
        have i2 : IntKind.i64.wrap ((i : Int) + 1) = ((i + 1 : Nat) : Int) := by rw [IntWalk.i64_in _ (by omega)]; omega
        have i3 : IntKind.i64.wrap ((j : Int) + 1) = ((j + 1 : Nat) : Int) := by rw [IntWalk.i64_in _ (by omega)]; omega
        clear hr7 hc7 hs7 HCN HCH6 HR6 hPk
        go_wp2
        go_roundw
        case rel => exact ⟨k + 1, k + 1, i + 1, j + 1, clG g2 ((X.drop k).take 1), S7, v7, xs7, by omega, by omega, by omega, by omega, by go_num, by first | rfl | go_num, by first | rfl | go_num, by first | rfl | go_num, HR7.out, HT2.out, HW7.out, hg7, HL7.out, HP3.out, HQ3.out⟩
        case measure => simp [intOf]; omega
    · obtain rfl : k = nb := by omega
      have ht := HT.out
      rw [Nat.sub_self, mrg] at ht
      have HT2 := Lib.hid ht
      clear ht HT HPO2 HPT2
      go_upto_region 13 with fail
      obtain ⟨Pb, hPb⟩ : ∃ P, (if cb = b then pb else pb.map (·.add b)) = P := ⟨_, rfl⟩
      obtain ⟨Po, hPo⟩ : ∃ P, (if co = o then po else po.map (·.add o)) = P := ⟨_, rfl⟩
      obtain ⟨Pt, hPt⟩ : ∃ P, (if ct = t then pt else pt.map (·.add t)) = P := ⟨_, rfl⟩
      have HPB1 := Lib.hid hPb
      have HPO1 := Lib.hid hPo
      have HPT1 := Lib.hid hPt
      go_still_tail 9, (by kernel_rfl)
      change wpList _ _ _ _ _ wr.drew
      have hbk5 : Below wr.heap.size wr wr.drew := (Below.refl _ _).drew
      have HW5 : Hid (Below R w3 wr.drew) := HW.out.trans (hbk5.mono (by have := HW.out.size; omega))
      have HR5 := Lib.hid (HRS.out.keep hbk5)
      clear hbk5 HRS HW
      generalize wr.drew = w5 at HW5 HR5 ⊢
      have HCH : Hid (∀ w', Chg (own2 S R) w5 w' → Below R w3 w') := fun w' hw' => HW5.out.trans (hw'.toBelow (fun b hb => by
        rcases hb with hb | rfl
        · exact (HR5.out.low b hb).1
        · exact Nat.le_refl _) (by have := HW5.out.size; omega))
      have HRV : Hid (Calls Try.prog 44 #[.pointer (some ⟨R, 0, none⟩), .slice Pb (k - b) (cb - b), .slice Po (no - o) (co - o), .slice Pt (nt - t) (ct - t)] w5 (PCl w5 R R S (resL gs (X.drop b) (Y.drop o) (Z.drop t)))) := by
        refine presolve_any gs _ _ _ R R (k - b) (cb - b) (no - o) (co - o) (nt - t) (ct - t) Pb Po Pt S v xs w5 HR5.out (by rw [List.length_drop, ← HNB.out]) (by rw [List.length_drop, ← HNO.out]) (by rw [List.length_drop, ← HNT.out]) (fun w' hw' => ?_) (fun w' hw' => ?_) (fun w' hw' => ?_) (by omega) (by omega) (by omega) (by have := HLN.out; omega) (by omega) (by omega) (by omega) (by have := HW5.out.size; omega)
        · rw [← HPB1.out]; exact (HSA.out w' (HCH.out w' hw')).1.cut b (by rw [← HNB.out]; exact hcb) (by rw [← HNB.out]; omega)
        · rw [← HPO1.out]; exact (HSA.out w' (HCH.out w' hw')).2.1.cut o (by rw [← HNO.out]; exact hco) (by rw [← HNO.out]; omega)
        · rw [← HPT1.out]; exact (HSA.out w' (HCH.out w' hw')).2.2.cut t (by rw [← HNT.out]; exact hct) (by rw [← HNT.out]; omega)
      clear hPb hPo hPt
      go_upto_region 14 with (go_at_call 44; ((with_reducible refine HRV.out.mono ?_); rintro e w6 ⟨rfl, S6, v6, xs6, hr6, hc6, hs6, _⟩))
      rw [← HT2.out] at hr6
      have HW6 : Hid (Below R w3 w6) := HCH.out w6 hc6
      obtain ⟨cs6, t6, hbox6, hcs6, _, _⟩ := hr6.box
      have y6 := (cell_of_row w6 R 0 _ _ _ hbox6).trans hcs6
      obtain ⟨p6, c6, rfl, hpc6, hg6⟩ := hr6.grw
      have HG6 := Lib.hid hg6
      obtain ⟨n6, hn6⟩ : ∃ n6, n6 = T.length := ⟨_, rfl⟩
      rw [← hn6] at y6 hpc6
      have HN6 := Lib.hid hn6
      clear hn6 hbox6 hcs6 hr6 hc6 hs6 HRV HR5 HW5 HCH hg6
      go_wp2
      go_ret
      exact ⟨⟨p6, n6, c6, rfl, HN6.out, hpc6, HG6.out⟩, HB03.out.trans (HW6.out.mono hRw)⟩
end Go.Proofs.Ytidghjalfbklnaa
