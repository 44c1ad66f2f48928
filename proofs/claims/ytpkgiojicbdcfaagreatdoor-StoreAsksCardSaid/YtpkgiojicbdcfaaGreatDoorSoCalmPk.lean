/-
 The walks of the reference's Calm and Small: Calm answers something and ends; what Small holds of is right, and small.
-/
import Derived.Test.YtpkgiojicbdcfaaGreatDoorSoLivesPk
import Derived.Test.YtpkgiojicbdcfaaGreatDoorSoReachPk
import Derived.Test.YtpkgiojicbdcfaaGreatDoorSoValPk
namespace Go.Proofs.YtpkgiojicbdcfaaGreatDoor
open Go Go.RowKit Go.Maps Go.WideMaps
theorem Tryz.infoSlE : (Tryz.prog.info? 74).map (fun i => (i.zero, i.size, i.bytes)) = some (some (.slice none 0 0), 1, 24) := by kernel_rfl
theorem make_sles (n : Nat) (hn : n ≤ 1048576) (w : World) : (Instr.makeSlice 104 (.int .i64 (n : Int)) (.int .i64 (n : Int))).run Tryz.prog w = .ok (.slice (some ⟨w.heap.size, 0, none⟩) n n) (w.alloc (.cells (fRow n (fun _ => .slice none 0 0)) 74)) := by
 obtain ⟨i0, hi, hz0, hz1, hz2⟩ := info_parts Tryz.infoSlE
 have h := run_makeSlice (P := Tryz.prog) w 104 74 i0 (.slice none 0 0) Tryz.underlying104 hi hz0 .i64 .i64 (n : Int) (n : Int) (by omega) (by omega) (by rw [hz1]; omega) (by rw [hz2]; omega) (by omega)
 rw [hz1] at h
 simp only [Int.toNat_natCast, Nat.mul_one] at h
 rw [← fRow_made]
 exact h
theorem make_intsF (n : Nat) (hn : n ≤ 1048576) (w : World) : (Instr.makeSlice 105 (.int .i64 (n : Int)) (.int .i64 (n : Int))).run Tryz.prog w = .ok (.slice (some ⟨w.heap.size, 0, none⟩) n n) (w.alloc (.cells (fRow n (fun _ => .int .i64 0)) 3)) := by
 obtain ⟨i0, hi, hz0, hz1, hz2⟩ := info_parts Tryz.infoIntS
 have h := run_makeSlice (P := Tryz.prog) w 105 3 i0 (.int .i64 0) Tryz.underlying105 hi hz0 .i64 .i64 (n : Int) (n : Int) (by omega) (by omega) (by rw [hz1]; omega) (by rw [hz2]; omega) (by omega)
 rw [hz1] at h
 simp only [Int.toNat_natCast, Nat.mul_one] at h
 rw [← fRow_made]
 exact h
theorem setF_int (f : Nat → Nat) (i v : Nat) : setF (fun j => Value.int .i64 (f j : Int)) i (.int .i64 (v : Int)) = fun j => .int .i64 ((setF f i v j : Nat) : Int) := by
 funext j
 by_cases e : j = i
 ·subst e; rw [setF_at, setF_at]
 ·rw [setF_ne _ _ e, setF_ne _ _ e]
structure ELs (w : World) (L N : Nat) (vf : Nat → Value) (es : Nat → List En) : Prop where
 row : FRw w L N 74 vf
 own : ∀ i, i < N → ∃ p c, vf i = .slice p (es i).length c ∧ NRw w p (es i) ∧ (es i).length ≤ 1048576
section
variable {w w' : World} {L N : Nat} {vf : Nat → Value} {es : Nat → List En}
theorem ELs.below (h : ELs w L N vf es) (hb : Below w.heap.size w w') : ELs w' L N vf es :=
 ⟨h.row.below hb, fun i hi => by
  obtain ⟨p, c, h1, h2, h3⟩ := h.own i hi
  exact ⟨p, c, h1, h2.below hb, h3⟩⟩
theorem ELs.start (hr : FRw w L N 74 (fun _ => .slice none 0 0)) : ELs w L N (fun _ => .slice none 0 0) (fun _ => []) :=
 ⟨hr, fun _ _ => ⟨none, 0, rfl, fun k hk => absurd hk (Nat.not_lt_zero _), Nat.zero_le _⟩⟩
theorem ELs.far (h : ELs w L N vf es) {p : Option Addr} {l : List En} (hr : NRw w p l) (i : Nat) (v : Value) : NRw (w.setCell ⟨L, i, none⟩ v) p l := fun k hk => by
 obtain ⟨g, o, rfl, hg, a0, a1, a2⟩ := hr k hk
 have hne : g ≠ L := fun e => by
  subst e
  rw [cell_of_row _ _ _ _ _ _ h.row] at a0
  by_cases hj : o + k * 3 < N
  ·rw [fRow_at hj] at a0
   obtain ⟨p, c, h1, _⟩ := h.own _ hj
   rw [h1] at a0
   cases a0
  ·rw [Array.getElem?_eq_none (by rw [fRow_size]; omega)] at a0
   cases a0
 have keep : ∀ j, (w.setCell ⟨L, i, none⟩ v).cell? ⟨g, j, none⟩ = w.cell? ⟨g, j, none⟩ := fun j => World.cell?_of_block (a := ⟨g, j, none⟩) (Below.heap_setCell w ⟨L, i, none⟩ v g hne)
 exact ⟨g, o, rfl, by simpa using hg, (keep _).trans a0, (keep _).trans a1, (keep _).trans a2⟩
theorem ELs.set (h : ELs w L N vf es) {i : Nat} {p : Option Addr} {l : List En} {c : Nat} (hr : NRw w p l) (hl : l.length ≤ 1048576) : ELs (w.setCell ⟨L, i, none⟩ (.slice p l.length c)) L N (setF vf i (.slice p l.length c)) (setF es i l) :=
 ⟨h.row.set i _, fun j hj => by
  by_cases e : j = i
  ·subst e
   rw [setF_at, setF_at]
   exact ⟨p, c, rfl, h.far hr j _, hl⟩
  ·rw [setF_ne _ _ e, setF_ne _ _ e]
   obtain ⟨p', c', h1, h2, h3⟩ := h.own j hj
   exact ⟨p', c', h1, h.far h2 i _, h3⟩⟩
end
set_option maxHeartbeats 16000000 in
set_option maxRecDepth 8000 in
theorem calm_any (l : List It) (p : Option Addr) (n c : Nat) (w : World) (hn : n = l.length) (hp : ItRw w p l) (hs : ∀ x ∈ l, x.b.size ≤ 1048576) (hn2 : n ≤ 1000) :
  Calls Tryz.prog 42 #[.agg #[.slice p n c]] w fun e w' => (∃ b, e = .returned (.bool b)) ∧ Below w.heap.size w w' := by
 obtain ⟨w1, hw1⟩ : ∃ w1, w1 = w.alloc (.cells #[.slice p n c] 24) := ⟨_, rfl⟩
 obtain ⟨B, hB⟩ : ∃ B, B = w.heap.size := ⟨_, rfl⟩
 have hx : w1.heap[B]? = some (.cells #[.slice p n c] 24 (0, 0)) := by rw [hw1, hB]; exact heap_alloc_new w _
 have hbx : Below w.heap.size w w1 := by rw [hw1]; exact below_new (Below.refl _ _) _
 have x0 : w1.cell? ⟨B, 0, none⟩ = some (.slice p n c) := cell_of_row _ _ 0 _ _ _ hx
 have HRG := Lib.hid (ringed_any l p n c w1 hn (hp.below hbx) (fun x hx => Nat.le_trans (hs x hx) (by decide)) hn2)
 have hmk := fun w' => make_sles n (by omega) w'
 have hmi := fun w' => make_intsF n (by omega) w'
 have HN := Lib.hid hn
 have HP := Lib.hid (hp.below hbx)
 have HS := Lib.hid hs
 have HBX := Lib.hid hbx
 have HW1 := Lib.hid hw1
 have HB := Lib.hid hB
 clear hn hp hs hbx hw1 hB hx
 go_enter Tryz.func42, Tryz.ntmps42
 go_upto_region 1 with fail
 rw [← HW1.out, ← HB.out]
 go_cut [13] from 12 to 13 (fun v wx => (∃ b, v = .bool b) ∧ Hid (Below w1.heap.size w1 wx))
 case first =>
  go_wp2_with (go_at_call 75; ((with_reducible refine HRG.out.mono ?_); rintro e w2 ⟨⟨b, rfl⟩, hb2⟩))
  go_meet
  exact ⟨⟨b, rfl⟩, hb2⟩
 case rest =>
  obtain ⟨⟨b, rfl⟩, HB1⟩ := hcut
  rename World => w0
  clear HRG
  have y0 := cell_bel x0 HB1.out
  clear x0
  rcases b with _ | _
  case true =>
   go_wp2_with fail
   go_ret
   exact ⟨⟨_, rfl⟩, HBX.out.trans (HB1.out.mono HBX.out.size)⟩
  obtain ⟨L, hL⟩ : ∃ L, L = w0.heap.size := ⟨_, rfl⟩
  obtain ⟨w2, hw2⟩ : ∃ w2, w2 = w0.alloc (.cells (fRow n (fun _ => .slice none 0 0)) 74) := ⟨_, rfl⟩
  have hfr : FRw w2 L n 74 (fun _ => .slice none 0 0) := by rw [hw2, hL]; exact heap_alloc_new w0 _
  have hb2 : Below w0.heap.size w0 w2 := by rw [hw2]; exact below_new (Below.refl _ _) _
  have HES := Lib.hid (ELs.start hfr)
  have HB2 := Lib.hid hb2
  have HW2 := Lib.hid hw2
  have HL := Lib.hid hL
  have HLL : Hid (w0.heap.size ≤ L) := by show _ ≤ L; rw [hL]; exact Nat.le_refl _
  clear hfr hb2 hw2 hL
  go_upto_region 4 with fail
  rw [← HW2.out, ← HL.out]
  go_wp2_with fail
  clear hmk
  go_loopw [4] (fun iv wr => ∃ k : Nat, k ≤ n ∧ iv = .int .i64 (k : Int) ∧ Hid (∃ vf es, ELs wr L n vf es) ∧ Hid (Below w0.heap.size w0 wr)) (fun iv _ => n - (intOf iv).toNat)
  case atStart => exact ⟨0, by omega, rfl, ⟨_, _, HES.out⟩, HB2.out⟩
  case round =>
   clear HES HB2
   rename World => wa
   obtain ⟨k, hk, rfl, HI, HBW⟩ := hrel
   have c0 := cell_bel y0 HBW.out
   have HBV := Lib.hid (HB1.out.trans (HBW.out.mono HB1.out.size))
   by_cases hlt : k < n
   ·have hkl : k < l.length := by rw [← HN.out]; exact hlt
    have q1 : (k : Int) < (n : Int) := by omega
    obtain ⟨g, o, hpe, hg, a0, a1, a2⟩ := HP.out.below HBV.out k hkl
    subst hpe
    have hbs := HS.out _ (List.getElem_mem hkl)
    obtain ⟨e, he⟩ : ∃ e, e = l[k] := ⟨_, rfl⟩
    rw [← he] at a0 a1 a2 hbs
    obtain ⟨id, kd, bd⟩ := e
    simp only at a0 a1 a2 hbs
    clear he hg hkl
    obtain ⟨vf, es, hE⟩ := HI.out
    have HE := Lib.hid hE
    clear hE HI
    by_cases hk2 : kd = 2
    ·subst hk2
     obtain ⟨⟨K, E⟩, hq⟩ : ∃ q, q = parE bd.data.toList := ⟨_, rfl⟩
     have hlen := parE_len bd.data.toList
     have hpa := trparse_any bd wa hbs
     rw [← hq] at hpa hlen
     simp only at hlen
     obtain ⟨m, hm⟩ : ∃ m, m = E.length := ⟨_, rfl⟩
     have hpa2 : Calls Tryz.prog 50 #[.string bd] wa fun e w'' => (∃ q d, e = .returned (.tuple #[.slice q m d, .int .i64 (K : Int)]) ∧ NRw w'' q E) ∧ Below wa.heap.size wa w'' := hpa.mono fun e w'' ⟨⟨v, h1, q, d, h2, h3, h4⟩, h5⟩ => by
      rw [h2] at h1
      simp only [← hm] at h1
      exact ⟨⟨q, d, h1, h4⟩, h5⟩
     have HPA := Lib.hid hpa2
     have HM := Lib.hid hm
     have HLN := Lib.hid hlen
     clear hpa hpa2 hq hm hlen
     go_wp2_with (go_at_call 50; ((with_reducible refine HPA.out.mono ?_); rintro e w5 ⟨⟨q, d, rfl, hr⟩, hb5⟩; have HR5 := Lib.hid (HE.out.row.below hb5); have f5 := HR5.out.at hlt; have z5 := HR5.out.fz k))
     go_roundw
     case rel =>
      have h := (HE.out.below hb5).set (i := k) (c := d) hr (by have := HLN.out; omega)
      rw [← HM.out] at h
      exact ⟨k + 1, by omega, by go_num, ⟨_, _, h⟩, (HBW.out.trans (hb5.mono HBW.out.size)).setCell (p := ⟨L, k, none⟩) HLL.out _⟩
     case measure => simp [intOf]; omega
    ·have g2 : (kd == 2) = false := by simp [hk2]
     clear hk2
     go_wp2_with fail
     go_roundw
     case rel => exact ⟨k + 1, by omega, by go_num, ⟨_, _, HE.out⟩, HBW.out⟩
     case measure => simp [intOf]; omega
   ·obtain rfl : n = k := by omega
    obtain ⟨vf, es, hE⟩ := HI.out
    obtain ⟨M, hM⟩ : ∃ M, M = wa.heap.size := ⟨_, rfl⟩
    obtain ⟨w3, hw3⟩ : ∃ w3, w3 = wa.alloc (.cells (fRow n (fun _ => .int .i64 0)) 3) := ⟨_, rfl⟩
    have hfd : FRw w3 M n 3 (fun _ => .int .i64 0) := by rw [hw3, hM]; exact heap_alloc_new wa _
    have hb3 : Below wa.heap.size wa w3 := by rw [hw3]; exact below_new (Below.refl _ _) _
    have HE := Lib.hid hE
    have HFD := Lib.hid hfd
    have HB3 := Lib.hid hb3
    have HW3 := Lib.hid hw3
    have HM := Lib.hid hM
    have HML : Hid (wa.heap.size ≤ M) := by show _ ≤ M; rw [hM]; exact Nat.le_refl _
    clear HI hE hfd hb3 hw3 hM hlt
    go_upto_region 10 with fail
    rw [← HW3.out, ← HM.out]
    clear hmi
    go_wp2_with fail
    go_loopg [6] (leftM (fun _ => 0) n + 2) (fun k mv wx => ∃ (mf : Nat → Nat) (Mo : Bool), mv = .bool Mo ∧ Hid (OkM l n es mf) ∧ Hid ((if Mo = true then leftM mf n + 1 else 0) < k) ∧ Hid (FRw wx M n 3 (fun j => .int .i64 (mf j : Int))) ∧ Hid (Below wa.heap.size wa wx))
    case atStart => exact ⟨fun _ => 0, true, rfl, OkM.start l n es, by show (if true = true then _ else _) < _; rw [if_pos rfl]; omega, by have h := HFD.out; exact h, HB3.out⟩
    case round =>
     clear HFD HB3
     rename World => wx
     obtain ⟨mf, Mo, rfl, HOK, HPH, HF, HBY⟩ := hrel
     rcases Mo with _ | _
     ·go_wp2_with fail
      go_ret
      exact ⟨⟨_, rfl⟩, HBX.out.trans ((HBV.out.trans (HBY.out.mono HBV.out.size)).mono HBX.out.size)⟩
     ·obtain ⟨C, hC⟩ : ∃ C, C = leftM mf n := ⟨_, rfl⟩
      have HC := Lib.hid hC
      clear hC
      go_wp2_with fail
      go_loopw [6, 7] (fun mv iv wy => ∃ (m2 : Nat → Nat) (Mo : Bool) (i : Nat), i ≤ n ∧ mv = .bool Mo ∧ iv = .int .i64 (i : Int) ∧ Hid (OkM l n es m2) ∧ Hid (leftM m2 n + (if Mo = true then 1 else 0) ≤ C) ∧ Hid (FRw wy M n 3 (fun j => .int .i64 (m2 j : Int))) ∧ Hid (Below wa.heap.size wa wy)) (fun _ iv _ => n - (intOf iv).toNat)
      case atStart => exact ⟨mf, false, 0, by omega, rfl, rfl, HOK.out, by show leftM mf n + _ ≤ C; rw [HC.out]; simp, HF.out, HBY.out⟩
      case round =>
       clear HF HBY HOK
       rename World => wy
       obtain ⟨m2, Mo, i, hi, rfl, rfl, HOK, HLE, HF, HBY⟩ := hrel
       have HBZ := Lib.hid (HBV.out.trans (HBY.out.mono HBV.out.size))
       have e0 := cell_bel y0 (HBW.out.trans (HBY.out.mono HBW.out.size))
       by_cases hin : i < n
       ·have q3 : (i : Int) < (n : Int) := by omega
        have hEY := HE.out.below HBY.out
        obtain ⟨pv, cv, hv, hnr, hzl⟩ := hEY.own i hin
        have r0 := hEY.row.at hin
        rw [hv] at r0
        obtain ⟨E, hE⟩ : ∃ E, E = es i := ⟨_, rfl⟩
        rw [← hE] at r0 hnr hzl
        obtain ⟨z, hz⟩ : ∃ z, z = E.length := ⟨_, rfl⟩
        rw [← hz] at r0 hzl
        have d0 := HF.out.at hin
        obtain ⟨v0, hv0⟩ : ∃ v0, v0 = m2 i := ⟨_, rfl⟩
        rw [← hv0] at d0
        have HV0 := Lib.hid hv0
        have HNR := Lib.hid hnr
        have HZ := Lib.hid hz
        have HEE := Lib.hid hE
        clear hv hnr hE hz hEY hv0
        go_wp2_with fail
        go_loopw [8, 9] (fun nv tv wz => ∃ t : Nat, t ≤ z ∧ nv = .int .i64 (sumE l m2 (E.take t) : Int) ∧ tv = .int .i64 (t : Int) ∧ Hid (Below wy.heap.size wy wz)) (fun _ tv _ => z - (intOf tv).toNat)
        case atStart => exact ⟨0, by omega, by simp [sumE], rfl, Below.refl _ _⟩
        case round =>
         rename World => wz
         obtain ⟨t, ht, rfl, rfl, HBT⟩ := hrel
         obtain ⟨S, hS⟩ : ∃ S, S = sumE l m2 (E.take t) := ⟨_, rfl⟩
         rw [← hS]
         have HSS := Lib.hid hS
         have r1 := cell_bel r0 HBT.out
         have d1 := cell_bel d0 HBT.out
         have e1 := cell_bel e0 HBT.out
         have HBU := Lib.hid (HBZ.out.trans (HBT.out.mono HBZ.out.size))
         clear hS
         by_cases hS2 : S ≤ 20000
         ·have q4 : (S : Int) ≤ 20000 := by omega
          by_cases htz : t < z
          ·have q5 : (t : Int) < (z : Int) := by omega
           have htE : t < E.length := by rw [← HZ.out]; exact htz
           obtain ⟨g, o, hpe, hg, a0, a1, a2⟩ := (HNR.out.below HBT.out) t htE
           subst hpe
           obtain ⟨en, hen⟩ : ∃ en, en = E[t] := ⟨_, rfl⟩
           have hsm := sumE_more (l := l) (m := m2) htE
           rw [← hen, ← HSS.out] at hsm
           rw [← hen] at a0 a1 a2
           obtain ⟨em, nm, ei⟩ := en
           simp only at a0 a1 a2
           obtain ⟨A, hA⟩ : ∃ A, A = atI l ei := ⟨_, rfl⟩
           obtain ⟨H, hH⟩ : ∃ H, H = hasI l ei := ⟨_, rfl⟩
           have hAn : H = true → A < n := fun h => by
            rw [hH] at h
            rw [hA, HN.out]
            exact hasI_lt h
           have HPL : Hid (∀ y : BelW wz, Calls Tryz.prog 47 #[.slice p n c, .string ei] y.w fun e w'' => e = .returned (.tuple #[.int .i64 (A : Int), .bool H]) ∧ ∃ x : BelW wz, w'' = x.w) := fun y => by
            rw [hA, hH]
            exact Calls.bel_class ((rplace_any l ei p n c y.w HN.out ((HP.out.below HBU.out).below y.h) (by omega)).mono fun e w'' ⟨h1, k7, h2⟩ => ⟨h1, by rw [h2]; exact below_drewN (Below.refl _ _) k7⟩)
           unfold perE at hsm
           simp only [← hA, ← hH] at hsm
           have HSM := Lib.hid hsm
           have k0 : ∀ y : BelW wz, y.w.cell? ⟨B, 0, none⟩ = some (.slice p n c) := fun y => cell_bel e1 y.h
           have k1 : ∀ y : BelW wz, y.w.cell? ⟨L, i, none⟩ = some (.slice (some ⟨g, o, none⟩) z cv) := fun y => cell_bel r1 y.h
           have k2 : ∀ y : BelW wz, y.w.cell? ⟨g, o + t * 3 + 2, none⟩ = some (.string ei) := fun y => cell_bel a2 y.h
           have hqn : Nonempty (BelW wz) := ⟨⟨wz, Below.refl _ _⟩⟩
           clear hA hH hsm hen hg htE
           go_upto_region 21 with fail
           refine wp_region_bel (w0 := wz) (Below.refl _ _) (by kernel_rfl) (by kernel_rfl) ?_
           repeat (go_big_quiet_step (first
            | (go_at_call 47; (with_reducible exact HPL.out _))))
           refine wpQuiet_nil ?_
           rintro _ ⟨zz, rfl⟩
           have hbk := zz.h
           have HT6 := Lib.hid (HBT.out.trans (hbk.mono HBT.out.size))
           have HF6 := Lib.hid ((HF.out.below HBT.out).below hbk)
           replace a0 := cell_bel a0 hbk
           replace r1 := cell_bel r1 hbk
           obtain ⟨w6, hw6⟩ : ∃ w6, w6 = zz.w := ⟨_, rfl⟩
           rw [← hw6] at HT6 HF6 a0 r1 ⊢
           clear k0 k1 k2 hqn HPL a1 a2 d1 e1 hbk HBU HBT hw6 zz
           rcases H with _ | _
           ·clear hAn
            go_wp2_with fail
            go_roundw
            case rel =>
             refine ⟨t + 1, by omega, ?_, by go_num, HT6.out⟩
             rw [HSM.out]
             simp only [Bool.false_eq_true, false_and, if_false]
             go_num
            case measure => simp [intOf]; omega
           ·have hA2 := hAn rfl
            clear hAn
            by_cases hm4 : em = 4
            ·subst hm4
             have dA := HF6.out.at hA2
             obtain ⟨v, hv⟩ : ∃ v, v = m2 A := ⟨_, rfl⟩
             rw [← hv] at dA
             have hvb : v ≤ 20000 := by rw [hv]; exact HOK.out.1 A
             have q6 : (A : Int) < (n : Int) := by omega
             have HVV := Lib.hid hv
             clear hv
             go_wp2_with fail
             go_roundw
             case rel =>
              refine ⟨t + 1, by omega, ?_, by go_num, HT6.out⟩
              rw [HSM.out, if_pos ⟨rfl, rfl⟩, ← HVV.out]
              go_num
             case measure => simp [intOf]; omega
            ·have g4 : (em == 4) = false := by simp [hm4]
             have HM4 := Lib.hid hm4
             clear hm4
             go_wp2_with fail
             go_roundw
             case rel =>
              refine ⟨t + 1, by omega, ?_, by go_num, HT6.out⟩
              rw [HSM.out, if_neg (fun h => HM4.out h.2)]
              go_num
             case measure => simp [intOf]; omega
          ·obtain rfl : z = t := by omega
           have hS3 : S = sumE l m2 (es i) := by rw [HSS.out, List.take_of_length_le (by have := HZ.out; omega), HEE.out]
           have HS3 := Lib.hid hS3
           have HST := Lib.hid (HOK.out.set hin (by rw [← hS3]; exact hS2))
           have HSL := Lib.hid (leftM_set HOK.out hin (by rw [← hS3]; exact hS2))
           have HFT := Lib.hid (HF.out.below HBT.out)
           have z0 := HFT.out.fz i
           have HRL : Hid (∀ Mo2 : Bool, Mo2 = (Mo || !(decide (S = v0))) → leftM (setF m2 i S) n + (if Mo2 = true then 1 else 0) ≤ C) := fun Mo2 h => by
            have h1 := HSL.out
            have h2 := HLE.out
            rw [← HS3.out, ← HV0.out] at h1
            subst h
            cases Mo with
            | true => simp only [Bool.true_or, if_true] at h2 ⊢; omega
            | false =>
             simp only [Bool.false_or, Bool.false_eq_true, if_false] at h2 ⊢
             by_cases e : S = v0
             ·rw [if_pos e] at h1
              simp [e]
              rw [e] at h1
              omega
             ·rw [if_neg e] at h1
              simp [e]
              omega
           have HFS : Hid (FRw (wz.setCell ⟨M, i, none⟩ (.int .i64 (S : Int))) M n 3 (fun j => .int .i64 ((setF m2 i S j : Nat) : Int))) := by
            have h := HFT.out.set i (.int .i64 (S : Int))
            rw [setF_int] at h
            exact h
           clear hS3
           rcases Mo with _ | _
           ·by_cases hne : S = v0
            ·have g5 : ((S : Int) != (v0 : Int)) = false := by simp [hne]
             have HRM := Lib.hid (HRL.out false (by simp [hne]))
             clear hne HRL
             go_wp2_with fail
             go_roundw
             case rel => exact ⟨setF m2 i S, false, i + 1, by omega, rfl, by go_num, by rw [HS3.out]; exact HST.out, HRM.out, HFS.out, (HBY.out.trans (HBT.out.mono HBY.out.size)).setCell (p := ⟨M, i, none⟩) HML.out _⟩
             case measure => simp [intOf]; omega
            ·have g5 : ((S : Int) != (v0 : Int)) = true := by simp; omega
             have HRM := Lib.hid (HRL.out true (by simp [hne]))
             clear hne HRL
             go_wp2_with fail
             go_roundw
             case rel => exact ⟨setF m2 i S, true, i + 1, by omega, rfl, by go_num, by rw [HS3.out]; exact HST.out, HRM.out, HFS.out, (HBY.out.trans (HBT.out.mono HBY.out.size)).setCell (p := ⟨M, i, none⟩) HML.out _⟩
             case measure => simp [intOf]; omega
           ·have HRM := Lib.hid (HRL.out true (by simp))
            clear HRL
            go_wp2_with fail
            go_roundw
            case rel => exact ⟨setF m2 i S, true, i + 1, by omega, rfl, by go_num, by rw [HS3.out]; exact HST.out, HRM.out, HFS.out, (HBY.out.trans (HBT.out.mono HBY.out.size)).setCell (p := ⟨M, i, none⟩) HML.out _⟩
            case measure => simp [intOf]; omega
         ·have q4 : ¬ (S : Int) ≤ 20000 := by omega
          have q6 : (20000 : Int) < (S : Int) := by omega
          clear hS2
          by_cases htz : t < z
          ·have q5 : (t : Int) < (z : Int) := by omega
           go_wp2_with fail
           go_ret
           exact ⟨(by first | exact ⟨_, rfl⟩ | exact .inl rfl), HBX.out.trans (HBU.out.mono HBX.out.size)⟩
          ·obtain rfl : z = t := by omega
           go_wp2_with fail
           go_ret
           exact ⟨(by first | exact ⟨_, rfl⟩ | exact .inl rfl), HBX.out.trans (HBU.out.mono HBX.out.size)⟩
       ·obtain rfl : n = i := by omega
        go_wp2_with fail
        go_roundg (C + 1)
        case measure =>
         have h := HPH.out
         simp only [if_true] at h
         rw [HC.out]
         exact h
        case rel =>
         refine ⟨m2, Mo, rfl, HOK.out, ?_, HF.out, HBY.out⟩
         have h := HLE.out
         show _ < C + 1
         cases Mo <;> simp at h ⊢ <;> omega
def SmI (l : List It) : Prop := rightI l = true ∧ l.length ≤ 80 ∧ ∀ e ∈ l, e.b.size ≤ 4000
set_option maxHeartbeats 4000000 in
set_option maxRecDepth 8000 in
theorem small_any (l : List It) (p : Option Addr) (n c : Nat) (w : World) (hn : n = l.length) (hp : ItRw w p l) (hs : ∀ x ∈ l, x.b.size ≤ 140737488355328) (hn2 : n ≤ 140737488355328) :
  Calls Tryz.prog 11 #[.agg #[.slice p n c]] w fun e w' => (∃ b, e = .returned (.bool b) ∧ (b = true → SmI l)) ∧ Below w.heap.size w w' := by
 obtain ⟨w1, hw1⟩ : ∃ w1, w1 = w.alloc (.cells #[.slice p n c] 24) := ⟨_, rfl⟩
 obtain ⟨B, hB⟩ : ∃ B, B = w.heap.size := ⟨_, rfl⟩
 have hx : w1.heap[B]? = some (.cells #[.slice p n c] 24 (0, 0)) := by rw [hw1, hB]; exact heap_alloc_new w _
 have hbx : Below w.heap.size w w1 := by rw [hw1]; exact below_new (Below.refl _ _) _
 have x0 : w1.cell? ⟨B, 0, none⟩ = some (.slice p n c) := cell_of_row _ _ 0 _ _ _ hx
 have HRR := Lib.hid (fun w' (hb : Below w1.heap.size w1 w') => rright_any l p n c w' hn ((hp.below hbx).below hb) hs hn2)
 have HCA := Lib.hid (fun w' (hb : Below w1.heap.size w1 w') (h1 : ∀ x ∈ l, x.b.size ≤ 1048576) (h2 : n ≤ 1000) => calm_any l p n c w' hn ((hp.below hbx).below hb) h1 h2)
 have HN := Lib.hid hn
 have HP := Lib.hid (hp.below hbx)
 have HS := Lib.hid hs
 have HBX := Lib.hid hbx
 have HW1 := Lib.hid hw1
 have HB := Lib.hid hB
 clear hn hp hs hbx hw1 hB hx
 go_enter Tryz.func11, Tryz.ntmps11
 by_cases k1 : 80 < n
 ·have g1 : (80 : Int) < (n : Int) := by omega
  clear k1
  go_upto_region 1 with fail
  rw [← HW1.out, ← HB.out]
  go_wp2_with fail
  go_ret
  exact ⟨⟨_, rfl, fun h => by cases h⟩, HBX.out⟩
 have g1 : ¬ (80 : Int) < (n : Int) := by omega
 have hn80 : n ≤ 80 := by omega
 clear k1 hn2
 go_upto_region 1 with fail
 rw [← HW1.out, ← HB.out]
 go_wp2_with fail
 clear g1
 go_loopw [3] (fun iv wa => ∃ k : Nat, k ≤ n ∧ iv = .int .i64 (k : Int) ∧ Hid (∀ e ∈ l.take k, e.b.size ≤ 4000) ∧ Hid (wa = w1)) (fun iv _ => n - (intOf iv).toNat)
 case atStart => exact ⟨0, by omega, rfl, fun e he => by simp at he, rfl⟩
 case round =>
  obtain ⟨k, hk, rfl, HJ, HWR⟩ := hrel
  obtain rfl := HWR.out
  clear HWR
  by_cases hlt : k < n
  ·have hkl : k < l.length := by rw [← HN.out]; exact hlt
   have q1 : (k : Int) < (n : Int) := by omega
   obtain ⟨g, o, hpe, hg, a0, a1, a2⟩ := HP.out k hkl
   subst hpe
   obtain ⟨z, hz⟩ : ∃ z, z = (l[k]).b := ⟨_, rfl⟩
   rw [← hz] at a2
   have HZ := Lib.hid hz
   have HKL := Lib.hid hkl
   clear hz hg a0 a1
   by_cases hb : 4000 < z.size
   ·have q2 : (4000 : Int) < (z.size : Int) := by omega
    clear hb
    go_wp2_with fail
    go_ret
    exact ⟨⟨_, rfl, fun h => by cases h⟩, HBX.out⟩
   ·have q2 : ¬ (4000 : Int) < (z.size : Int) := by omega
    have HB4 : Hid (z.size ≤ 4000) := by show _ ≤ _; omega
    clear hb
    go_wp2_with fail
    go_roundw
    case rel =>
     refine ⟨k + 1, by omega, by go_num, fun e he => ?_, (by first | exact rfl | trivial)⟩
     rw [List.take_succ_eq_append_getElem HKL.out, List.mem_append, List.mem_singleton] at he
     rcases he with he | rfl
     ·exact HJ.out e he
     ·rw [← HZ.out]; exact HB4.out
    case measure => simp [intOf]; omega
  ·obtain rfl : n = k := by omega
   have HALL : Hid (∀ e ∈ l, e.b.size ≤ 4000) := by
    have h := HJ.out
    rw [List.take_of_length_le (by have := HN.out; omega)] at h
    exact h
   obtain ⟨R, hR⟩ : ∃ R, R = rightI l := ⟨_, rfl⟩
   have HRV := HRR.out _ (Below.refl _ _)
   rw [← hR] at HRV
   have HRW := Lib.hid HRV
   have HR := Lib.hid hR
   clear HRV hR HJ
   rcases R with _ | _
   ·go_wp2_with (go_at_call 10; ((with_reducible refine HRW.out.mono ?_); rintro e w2 ⟨rfl, hb2⟩))
    go_ret
    exact ⟨⟨_, rfl, fun h => by cases h⟩, HBX.out.trans (hb2.mono HBX.out.size)⟩
   ·go_wp2_with (first
     | (go_at_call 10; ((with_reducible refine HRW.out.mono ?_); rintro e w2 ⟨rfl, hb2⟩; have x1 := cell_bel x0 hb2))
     | (go_at_call 42; ((with_reducible refine (HCA.out _ hb2 (fun x hx => Nat.le_trans (HALL.out x hx) (by decide)) (by omega)).mono ?_); rintro e w3 ⟨⟨b, rfl⟩, hb3⟩)))
    go_ret
    exact ⟨⟨_, rfl, fun _ => ⟨HR.out.symm, by have := HN.out; omega, HALL.out⟩⟩, HBX.out.trans ((hb2.trans (hb3.mono hb2.size)).mono HBX.out.size)⟩
end Go.Proofs.YtpkgiojicbdcfaaGreatDoor
/-
 The reference's sorted lists of strings, plain.
-/
namespace Go.Proofs.YtpkgiojicbdcfaaGreatDoor
open Go Go.RowKit
theorem bsN_spec (f : Nat → Bool) : ∀ (d lo hi : Nat), hi - lo ≤ d → lo ≤ hi → (∀ i j, lo ≤ i → i ≤ j → j < hi → f j = true → f i = true) →
  (∀ j, lo ≤ j → j < bsN f lo hi → f j = true) ∧ (∀ j, bsN f lo hi ≤ j → j < hi → f j = false)
 | d, lo, hi, hd, hl, hm => by
  by_cases h : lo < hi
  ·cases d with
   | zero => omega
   | succ d =>
    cases hf : f ((lo + hi) / 2) with
    | true =>
     obtain ⟨h1, h2⟩ := bsN_spec f d ((lo + hi) / 2 + 1) hi (by omega) (by omega) (fun i j a b c e => hm i j (by omega) b c e)
     rw [bsN_up h hf]
     refine ⟨fun j hj hb => ?_, h2⟩
     by_cases hj2 : j ≤ (lo + hi) / 2
     ·exact hm j _ hj hj2 (by omega) hf
     ·exact h1 j (by omega) hb
    | false =>
     obtain ⟨h1, h2⟩ := bsN_spec f d lo ((lo + hi) / 2) (by omega) (by omega) (fun i j a b c e => hm i j a b (by omega) e)
     rw [bsN_dn h hf]
     refine ⟨h1, fun j hj hb => ?_⟩
     by_cases hj2 : j < (lo + hi) / 2
     ·exact h2 j hj hj2
     ·cases hfj : f j with
      | false => rfl
      | true => rw [hm _ j (by omega) (by omega) hb hfj] at hf; cases hf
  ·rw [bsN_end h]
   exact ⟨fun j a b => by omega, fun j a b => by omega⟩
theorem spotS_lt {l : List (List UInt8)} (h : SrtS l) (s : ByteArray) {j : Nat} (hj : j < spotS l s) : ltB (str (l.getD j [])) s = true :=
 (bsN_spec (fun m => ltB (str (l.getD m [])) s) _ 0 l.length (Nat.le_refl _) (Nat.zero_le _) (fun i j _ hij hl hf => by
  rcases Nat.lt_or_ge i j with h1 | h1
  ·exact ltB_trans (srt_getS h h1 hl) hf
  ·obtain rfl : i = j := by omega
   exact hf)).1 j (Nat.zero_le _) hj
theorem spotS_ge {l : List (List UInt8)} (h : SrtS l) (s : ByteArray) {j : Nat} (hj : spotS l s ≤ j) (hl : j < l.length) : ltB (str (l.getD j [])) s = false :=
 (bsN_spec (fun m => ltB (str (l.getD m [])) s) _ 0 l.length (Nat.le_refl _) (Nat.zero_le _) (fun i j _ hij hl hf => by
  rcases Nat.lt_or_ge i j with h1 | h1
  ·exact ltB_trans (srt_getS h h1 hl) hf
  ·obtain rfl : i = j := by omega
   exact hf)).2 j hj hl
theorem mem_getS {l : List (List UInt8)} {x : List UInt8} (h : x ∈ l) : ∃ j, j < l.length ∧ l.getD j [] = x := by
 obtain ⟨j, hj, e⟩ := List.getElem_of_mem h
 exact ⟨j, hj, by rw [List.getD_eq_getElem?_getD, List.getElem?_eq_getElem hj]; exact e⟩
theorem dl_str (x : List UInt8) : (str x).data.toList = x := rfl
theorem insS_srt {l : List (List UInt8)} (h : SrtS l) (s : ByteArray) : SrtS (insS l s) := by
 unfold insS
 by_cases hh : holdsS l s = true
 ·rw [if_pos hh]; exact h
 rw [if_neg hh]
 have hn : s.data.toList ∉ l := fun hm => hh ((holdsS_iff h s).mpr hm)
 have hlt : ∀ x ∈ l.take (spotS l s), ltB (str x) s = true := fun x hx => by
  obtain ⟨j, hj, e⟩ := mem_getS hx
  rw [List.length_take] at hj
  have h1 := spotS_lt h s (j := j) (by omega)
  rw [List.getD_eq_getElem?_getD, List.getElem?_take_of_lt (by omega), ← List.getD_eq_getElem?_getD] at e
  rw [e] at h1
  exact h1
 have hgt : ∀ x ∈ l.drop (spotS l s), ltB s (str x) = true := fun x hx => by
  obtain ⟨j, hj, e⟩ := mem_getS hx
  rw [List.length_drop] at hj
  have h1 := spotS_ge h s (j := spotS l s + j) (by omega) (by omega)
  rw [List.getD_eq_getElem?_getD, List.getElem?_drop, ← List.getD_eq_getElem?_getD] at e
  rw [e] at h1
  have hne : s ≠ str x := fun e2 => hn (by rw [e2, dl_str]; exact List.mem_of_mem_drop hx)
  rcases ltB_total hne with h2 | h2
  ·exact h2
  ·rw [h1] at h2; cases h2
 have h2 : SrtS (l.take (spotS l s) ++ l.drop (spotS l s)) := by rw [List.take_append_drop]; exact h
 unfold SrtS at h2 ⊢
 rw [List.pairwise_append] at h2 ⊢
 refine ⟨h2.1, List.pairwise_cons.mpr ⟨fun x hx => hgt x hx, h2.2.1⟩, fun a ha b hb => ?_⟩
 rcases List.mem_cons.mp hb with rfl | hb
 ·exact hlt a ha
 ·exact h2.2.2 a ha b hb
theorem mem_insS {l : List (List UInt8)} (h : SrtS l) (s : ByteArray) (x : List UInt8) : x ∈ insS l s ↔ x ∈ l ∨ x = s.data.toList := by
 unfold insS
 by_cases hh : holdsS l s = true
 ·rw [if_pos hh]
  have := (holdsS_iff h s).mp hh
  constructor
  ·exact .inl
  ·rintro (h1 | rfl)
   ·exact h1
   ·exact this
 ·rw [if_neg hh]
  conv => rhs; rw [← List.take_append_drop (spotS l s) l]
  simp only [List.mem_append, List.mem_cons]
  constructor
  ·rintro (h1 | h1 | h1)
   ·exact .inl (.inl h1)
   ·exact .inr h1
   ·exact .inl (.inr h1)
  ·rintro ((h1 | h1) | h1)
   ·exact .inl h1
   ·exact .inr (.inr h1)
   ·exact .inr (.inl h1)
theorem insS_len (l : List (List UInt8)) (s : ByteArray) : (insS l s).length ≤ l.length + 1 := by
 unfold insS
 split
 ·omega
 ·simp only [List.length_append, List.length_cons, List.length_take, List.length_drop]
  have := spotS_le l s
  omega
def srtS (l : List (List UInt8)) : List (List UInt8) := l.foldl (fun a x => insS a (str x)) []
theorem srtS_more {l : List (List UInt8)} {k : Nat} (h : k < l.length) : srtS (l.take (k + 1)) = insS (srtS (l.take k)) (str l[k]) := by
 unfold srtS
 rw [List.take_succ_eq_append_getElem h, List.foldl_append]
 rfl
theorem srtS_at (l : List (List UInt8)) : SrtS (srtS l) ∧ ∀ x, x ∈ srtS l ↔ x ∈ l := by
 have all : ∀ k, k ≤ l.length → SrtS (srtS (l.take k)) ∧ ∀ x, x ∈ srtS (l.take k) ↔ x ∈ l.take k := fun k => by
  induction k with
  | zero => exact fun _ => ⟨List.Pairwise.nil, fun x => by simp [srtS]⟩
  | succ k ih =>
   intro hk
   obtain ⟨h1, h2⟩ := ih (by omega)
   rw [srtS_more (by omega)]
   refine ⟨insS_srt h1 _, fun x => ?_⟩
   rw [mem_insS h1, h2, List.take_succ_eq_append_getElem (by omega), List.mem_append, List.mem_singleton, dl_str]
 have h := all l.length (Nat.le_refl _)
 rw [List.take_length] at h
 exact h
theorem srtS_len (l : List (List UInt8)) : (srtS l).length ≤ l.length := by
 have all : ∀ k, k ≤ l.length → (srtS (l.take k)).length ≤ k := fun k => by
  induction k with
  | zero => exact fun _ => by simp [srtS]
  | succ k ih =>
   intro hk
   rw [srtS_more (by omega)]
   have := insS_len (srtS (l.take k)) (str l[k])
   have := ih (by omega)
   omega
 have h := all l.length (Nat.le_refl _)
 rw [List.take_length] at h
 exact h
theorem onlyI_srt (l : List It) (ids : List (List UInt8)) : l.filter (fun e => holdsS (srtS ids) e.i) = onlyI l ids := by
 unfold onlyI
 refine List.filter_congr fun e _ => ?_
 obtain ⟨h1, h2⟩ := srtS_at ids
 rw [Bool.eq_iff_iff, holdsS_iff h1, h2, decide_eq_true_eq]
end Go.Proofs.YtpkgiojicbdcfaaGreatDoor
/-
 The walks of the reference's Holds, Insert and Sorted.
-/
namespace Go.Proofs.YtpkgiojicbdcfaaGreatDoor
open Go Go.RowKit Go.Maps Go.WideMaps
theorem SRw.takeS {w : World} {p : Option Addr} {ls : List (List UInt8)} (h : SRw w p ls) (k : Nat) : SRw w p (ls.take k) := fun i hi => by
 have h2 : i < ls.length := by rw [List.length_take] at hi; omega
 obtain ⟨g, o, rfl, hg, hc⟩ := h i h2
 exact ⟨g, o, rfl, hg, by rw [hc]; congr 3; simp⟩
theorem SRw.dropS {w : World} {p : Option Addr} {ls : List (List UInt8)} {c n : Nat} (h : SRw w p ls) (i : Nat) (hn : n = ls.length) (hc : n ≤ c) (hi : i ≤ n) : SRw w (if c = i then p else p.map (·.add i)) (ls.drop i) := fun k hk => by
 rw [List.length_drop] at hk
 have h2 : i + k < ls.length := by omega
 obtain ⟨g, o, rfl, hg, hx⟩ := h (i + k) h2
 rw [if_neg (by omega)]
 refine ⟨g, o + i, by rw [Option.map_some, Addr.add_lit], hg, ?_⟩
 rw [Nat.add_assoc, hx, List.getElem_drop]
theorem SOw.empty (w : World) {base : Nat} (hb : base ≤ w.heap.size) : SOw (w.alloc (.cells #[] 9)) base (.slice (some ⟨w.heap.size, 0, none⟩) 0 0) [] :=
 ⟨rfl, .inr ⟨w.heap.size, 0, #[], rfl, hb, heap_alloc_new _ _, Nat.le_refl _, Nat.zero_le _, rfl, rfl⟩⟩
theorem SOw.rw2 {w : World} {base : Nat} {v : Value} {l : List (List UInt8)} (h : SOw w base v l) : ∃ p n cap, v = .slice p n cap ∧ n = l.length ∧ n ≤ cap ∧ (p = none → cap = 0) ∧ SRw w p l := by
 obtain ⟨p, cap, hv, hr⟩ := h.rw
 refine ⟨p, l.length, cap, hv, rfl, ?_, ?_, hr⟩
 ·rcases h.2 with ⟨hx, h0⟩ | ⟨g, cap', cur, hx, _, _, hc, _⟩
  ·omega
  ·rw [hv] at hx
   injection hx with _ _ h3
   omega
 ·intro hp
  rcases h.2 with ⟨hx, _⟩ | ⟨g, cap', cur, hx, _⟩
  ·rw [hv] at hx; injection hx
  ·rw [hv, hp] at hx; cases hx
set_option maxHeartbeats 1000000 in
set_option maxRecDepth 4000 in
theorem rholds_any (l : List (List UInt8)) (s : ByteArray) (p : Option Addr) (n c : Nat) (w : World) (hn : n = l.length) (hp : SRw w p l) (hn2 : n ≤ 140737488355328) :
  Calls Tryz.prog 36 #[.slice p n c, .string s] w fun e w' => e = .returned (.bool (holdsS l s)) ∧ w = w' := by
 have HC := Lib.hid (rspot_any l s p n c w hn hp hn2)
 obtain ⟨A, hA⟩ : ∃ A, A = spotS l s := ⟨_, rfl⟩
 have hhs : holdsS l s = (decide (A < n) && decide (str (l.getD A []) = s)) := by rw [holdsS, hA, hn]
 rw [hhs]
 rw [← hA] at HC
 have hAn : A ≤ n := by rw [hA, hn]; exact spotS_le l s
 by_cases hlt : A < n
 ·have hAl : A < l.length := by rw [← hn]; exact hlt
  obtain ⟨g, o, hpe, hg, a9⟩ := hp A hAl
  subst hpe
  obtain ⟨x, hx⟩ : ∃ x, x = str l[A] := ⟨_, rfl⟩
  rw [getS_at hAl, ← hx]
  have a0 : w.cell? ⟨g, o + A, none⟩ = some (.string x) := by rw [hx]; exact a9
  have q1 : (A : Int) < (n : Int) := by omega
  obtain ⟨B, hB⟩ : ∃ B, B = decide (x = s) := ⟨_, rfl⟩
  have gB : (x.toList == s.toList) = B := by rw [hB]; exact str_dec
  have HQ : Hid ((decide (A < n) && decide (x = s)) = B) := by show _ = _; rw [decide_eq_true hlt, hB]; rfl
  clear hn hp hA hhs a9 hAl hg hx hB
  go_enter Tryz.func36, Tryz.ntmps36
  go_wp2_with (go_at_call 69; ((with_reducible refine HC.out.mono ?_); rintro e w2 ⟨rfl, rfl⟩))
  go_ret
  exact ⟨by rw [HQ.out]; rfl, rfl⟩
 ·have q1 : ¬ (A : Int) < (n : Int) := by omega
  have HQ : Hid ((decide (A < n) && decide (str (l.getD A []) = s)) = false) := by show _ = _; rw [decide_eq_false hlt]; rfl
  clear hn hp hA hhs hlt hAn
  go_enter Tryz.func36, Tryz.ntmps36
  go_wp2_with (go_at_call 69; ((with_reducible refine HC.out.mono ?_); rintro e w2 ⟨rfl, rfl⟩))
  go_ret
  exact ⟨by rw [HQ.out]; rfl, rfl⟩
set_option maxHeartbeats 4000000 in
set_option maxRecDepth 4000 in
theorem rinsert_any (l : List (List UInt8)) (s : ByteArray) (p : Option Addr) (n c : Nat) (w : World) (hn : n = l.length) (hnc : n ≤ c) (hpc : p = none → c = 0) (hp : SRw w p l) (hn2 : n ≤ 1000000) :
  Calls Tryz.prog 91 #[.slice p n c, .string s] w fun e w' => (∃ q m d, e = .returned (.slice q m d) ∧ m = (insS l s).length ∧ m ≤ d ∧ (q = none → d = 0) ∧ SRw w' q (insS l s)) ∧ Below w.heap.size w w' := by
 have HC := Lib.hid (rspot_any l s p n c w hn hp (by omega))
 obtain ⟨A, hA⟩ : ∃ A, A = spotS l s := ⟨_, rfl⟩
 have hhs : holdsS l s = (decide (A < n) && decide (str (l.getD A []) = s)) := by rw [holdsS, hA, hn]
 rw [← hA] at HC
 have hAn : A ≤ n := by rw [hA, hn]; exact spotS_le l s
 obtain ⟨I, hI⟩ : ∃ I, I = insS l s := ⟨_, rfl⟩
 rw [← hI]
 have hins : holdsS l s = false → I = l.take A ++ [s.data.toList] ++ l.drop A := fun h => by rw [hI, insS, if_neg (by rw [h]; decide), ← hA]; simp
 have hsame : holdsS l s = true → I = l := fun h => by rw [hI, insS, if_pos h]
 rw [hhs] at hins hsame
 have HN := Lib.hid hn
 have HP := Lib.hid hp
 have HPC := Lib.hid hpc
 have HINS := Lib.hid hins
 have HSAME := Lib.hid hsame
 have hAc : A ≤ c := by omega
 have HT := Lib.hid (hp.takeS A)
 have HD := Lib.hid (hp.dropS A hn hnc hAn)
 obtain ⟨Q, hQ⟩ : ∃ Q, (if c = A then p else p.map (·.add A)) = Q := ⟨_, rfl⟩
 rw [hQ] at HD
 have HTL : Hid (A = (l.take A).length) := by show A = _; rw [List.length_take]; omega
 have HDL : Hid (n - A = (l.drop A).length) := by show _ = _; rw [List.length_drop]; omega
 have HO := fun w' => SOw.empty (base := w.heap.size) w'
 clear hn hpc hA hhs hI hins hsame
 by_cases hlt : A < n
 ·have hAl : A < l.length := by rw [← HN.out]; exact hlt
  obtain ⟨g, o, hpe, hg, a9⟩ := hp A hAl
  have HPE := Lib.hid hpe
  obtain ⟨x, hx⟩ : ∃ x, x = str l[A] := ⟨_, rfl⟩
  have hgd := getS_at hAl
  have a0 : w.cell? ⟨g, o + A, none⟩ = some (.string x) := by rw [hx]; exact a9
  have q1 : (A : Int) < (n : Int) := by omega
  have HX : Hid (str (l.getD A []) = x) := by show _ = _; rw [hgd, hx]
  clear a9 hx hgd hp
  by_cases hxs : x = s
  ·have gB : (x.toList == s.toList) = true := by rw [str_dec]; exact decide_eq_true hxs
   have HQ : Hid (I = l) := HSAME.out (by rw [decide_eq_true hlt, HX.out, decide_eq_true hxs]; rfl)
   clear hxs
   subst hpe
   go_enter Tryz.func91, Tryz.ntmps91
   go_wp2_with (go_at_call 69; ((with_reducible refine HC.out.mono ?_); rintro e w2 ⟨rfl, rfl⟩))
   go_ret
   exact ⟨⟨_, _, _, rfl, by rw [HQ.out]; exact HN.out, hnc, HPC.out, by rw [HQ.out]; exact HP.out⟩, Below.refl _ _⟩
  ·have gB : (x.toList == s.toList) = false := by rw [str_dec]; exact decide_eq_false hxs
   have HQ : Hid (I = l.take A ++ [s.data.toList] ++ l.drop A) := HINS.out (by rw [decide_eq_true hlt, HX.out, decide_eq_false hxs]; rfl)
   clear hxs
   subst hpe
   rw [Option.map_some, Addr.add_lit, if_neg (by omega)] at hQ
   subst hQ
   go_enter Tryz.func91, Tryz.ntmps91
   go_upto_region 4 with (go_at_call 69; ((with_reducible refine HC.out.mono ?_); rintro e w2 ⟨rfl, rfl⟩))
   go_upto_region 5 with (at_builtin; refine wp_so_many rfl _ _ rfl rfl (HO w (Nat.le_refl _)) _ A c rfl HTL.out (HT.out.below (below_new (Below.refl _ _) _)) (by simp <;> omega) (by simp) ?_; intro v1 w1 h1 g1; have H1 := Lib.hid h1; have B1 := Lib.hid ((below_new (Below.refl w.heap.size w) (.cells #[] 9)).grown g1 (by simp) (fun j hj => ((HO w (Nat.le_refl _)).lt j hj).1)); clear h1 g1)
   go_upto_region 6 with (at_builtin; refine wp_so_one rfl _ _ rfl rfl H1.out s rfl (by simp <;> omega) B1.out.size ?_; intro v2 w2 h2 g2; have H2 := Lib.hid h2; have B2 := Lib.hid (H1.out.bel1 B1.out (Nat.le_refl _) B1.out.size g2); clear h2 g2)
   go_wp2_with (at_builtin; refine wp_so_many rfl _ _ rfl rfl H2.out _ (n - A) (c - A) rfl HDL.out (HD.out.below B2.out) (by simp <;> omega) B2.out.size ?_; intro v3 w3 h3 g3; have H3 := Lib.hid h3; have B3 := Lib.hid (app_step0 B2.out H2.out g3 (Nat.le_refl _) B2.out.size); clear h3 g3; obtain ⟨q, m, d, rfl, hm, hmd, hqd, hr⟩ := H3.out.rw2; have HM := Lib.hid hm; clear hm)
   go_ret
   have hm := HM.out
   rw [List.nil_append, ← HQ.out] at hm hr
   exact ⟨⟨q, m, d, rfl, hm, hmd, hqd, hr⟩, B3.out⟩
 ·have q1 : ¬ (A : Int) < (n : Int) := by omega
  have HQ : Hid (I = l.take A ++ [s.data.toList] ++ l.drop A) := HINS.out (by rw [decide_eq_false hlt]; rfl)
  clear hlt
  rcases p with _ | a
  ·obtain rfl : c = 0 := HPC.out rfl
   obtain rfl : n = 0 := by omega
   obtain rfl : A = 0 := by omega
   rw [if_pos rfl] at hQ
   subst hQ
   clear q1
   go_enter Tryz.func91, Tryz.ntmps91
   go_upto_region 4 with (go_at_call 69; ((with_reducible refine HC.out.mono ?_); rintro e w2 ⟨rfl, rfl⟩))
   go_upto_region 5 with (at_builtin; refine wp_so_many rfl _ _ rfl rfl (HO w (Nat.le_refl _)) _ 0 0 rfl HTL.out (HT.out.below (below_new (Below.refl _ _) _)) (by simp <;> omega) (by simp) ?_; intro v1 w1 h1 g1; have H1 := Lib.hid h1; have B1 := Lib.hid ((below_new (Below.refl w.heap.size w) (.cells #[] 9)).grown g1 (by simp) (fun j hj => ((HO w (Nat.le_refl _)).lt j hj).1)); clear h1 g1)
   go_upto_region 6 with (at_builtin; refine wp_so_one rfl _ _ rfl rfl H1.out s rfl (by simp <;> omega) B1.out.size ?_; intro v2 w2 h2 g2; have H2 := Lib.hid h2; have B2 := Lib.hid (H1.out.bel1 B1.out (Nat.le_refl _) B1.out.size g2); clear h2 g2)
   go_wp2_with (at_builtin; refine wp_so_many rfl _ _ rfl rfl H2.out _ 0 0 rfl HDL.out (HD.out.below B2.out) (by simp <;> omega) B2.out.size ?_; intro v3 w3 h3 g3; have H3 := Lib.hid h3; have B3 := Lib.hid (app_step0 B2.out H2.out g3 (Nat.le_refl _) B2.out.size); clear h3 g3; obtain ⟨q, m, d, rfl, hm, hmd, hqd, hr⟩ := H3.out.rw2; have HM := Lib.hid hm; clear hm)
   go_ret
   have hm := HM.out
   rw [List.nil_append, ← HQ.out] at hm hr
   exact ⟨⟨q, m, d, rfl, hm, hmd, hqd, hr⟩, B3.out⟩
  ·have HDN : Hid (∀ w' p', SRw w' p' (l.drop A)) := fun w' p' => by
    rw [List.drop_eq_nil_of_le (by have := HN.out; omega)]
    exact SRw.none _ _
   clear HD hQ
   by_cases hcA : c = A
   ·obtain rfl : A = c := hcA.symm
    have HD0 : Hid (0 = (l.drop A).length) := by show 0 = _; rw [← HDL.out]; omega
    go_enter Tryz.func91, Tryz.ntmps91
    go_upto_region 4 with (go_at_call 69; ((with_reducible refine HC.out.mono ?_); rintro e w2 ⟨rfl, rfl⟩))
    go_upto_region 5 with (at_builtin; refine wp_so_many rfl _ _ rfl rfl (HO w (Nat.le_refl _)) _ A A rfl HTL.out (HT.out.below (below_new (Below.refl _ _) _)) (by simp <;> omega) (by simp) ?_; intro v1 w1 h1 g1; have H1 := Lib.hid h1; have B1 := Lib.hid ((below_new (Below.refl w.heap.size w) (.cells #[] 9)).grown g1 (by simp) (fun j hj => ((HO w (Nat.le_refl _)).lt j hj).1)); clear h1 g1)
    go_upto_region 6 with (at_builtin; refine wp_so_one rfl _ _ rfl rfl H1.out s rfl (by simp <;> omega) B1.out.size ?_; intro v2 w2 h2 g2; have H2 := Lib.hid h2; have B2 := Lib.hid (H1.out.bel1 B1.out (Nat.le_refl _) B1.out.size g2); clear h2 g2)
    go_wp2_with (at_builtin; refine wp_so_many rfl _ _ rfl rfl H2.out _ 0 0 rfl HD0.out (HDN.out _ _) (by simp <;> omega) B2.out.size ?_; intro v3 w3 h3 g3; have H3 := Lib.hid h3; have B3 := Lib.hid (app_step0 B2.out H2.out g3 (Nat.le_refl _) B2.out.size); clear h3 g3; obtain ⟨q, m, d, rfl, hm, hmd, hqd, hr⟩ := H3.out.rw2; have HM := Lib.hid hm; clear hm)
    go_ret
    have hm := HM.out
    rw [List.nil_append, ← HQ.out] at hm hr
    exact ⟨⟨q, m, d, rfl, hm, hmd, hqd, hr⟩, B3.out⟩
   ·have hcA2 : ¬ (c : Int) = (A : Int) := by omega
    go_enter Tryz.func91, Tryz.ntmps91
    go_upto_region 4 with (go_at_call 69; ((with_reducible refine HC.out.mono ?_); rintro e w2 ⟨rfl, rfl⟩))
    go_upto_region 5 with (at_builtin; refine wp_so_many rfl _ _ rfl rfl (HO w (Nat.le_refl _)) _ A c rfl HTL.out (HT.out.below (below_new (Below.refl _ _) _)) (by simp <;> omega) (by simp) ?_; intro v1 w1 h1 g1; have H1 := Lib.hid h1; have B1 := Lib.hid ((below_new (Below.refl w.heap.size w) (.cells #[] 9)).grown g1 (by simp) (fun j hj => ((HO w (Nat.le_refl _)).lt j hj).1)); clear h1 g1)
    go_upto_region 6 with (at_builtin; refine wp_so_one rfl _ _ rfl rfl H1.out s rfl (by simp <;> omega) B1.out.size ?_; intro v2 w2 h2 g2; have H2 := Lib.hid h2; have B2 := Lib.hid (H1.out.bel1 B1.out (Nat.le_refl _) B1.out.size g2); clear h2 g2)
    go_wp2_with (at_builtin; refine wp_so_many rfl _ _ rfl rfl H2.out _ (n - A) (c - A) rfl HDL.out (HDN.out _ _) (by simp <;> omega) B2.out.size ?_; intro v3 w3 h3 g3; have H3 := Lib.hid h3; have B3 := Lib.hid (app_step0 B2.out H2.out g3 (Nat.le_refl _) B2.out.size); clear h3 g3; obtain ⟨q, m, d, rfl, hm, hmd, hqd, hr⟩ := H3.out.rw2; have HM := Lib.hid hm; clear hm)
    go_ret
    have hm := HM.out
    rw [List.nil_append, ← HQ.out] at hm hr
    exact ⟨⟨q, m, d, rfl, hm, hmd, hqd, hr⟩, B3.out⟩
end Go.Proofs.YtpkgiojicbdcfaaGreatDoor
