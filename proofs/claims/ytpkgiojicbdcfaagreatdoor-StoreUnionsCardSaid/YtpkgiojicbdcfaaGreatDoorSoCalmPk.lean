/-
 The walks of the reference's Calm and Small: Calm answers something and ends; what Small holds of is right, and small.
-/
import Derived.Test.YtpkgiojicbdcfaaGreatDoorSoLivesPk
import Derived.Test.YtpkgiojicbdcfaaGreatDoorSoReachPk
import Derived.Test.YtpkgiojicbdcfaaGreatDoorSoValPk
set_option linter.unusedVariables false
set_option linter.unusedSimpArgs false
namespace Go.Proofs.YtpkgiojicbdcfaaGreatDoor
open Go Go.RowKit Go.Maps Go.WideMaps
theorem Tryz.infoSlE : (Tryz.prog.info? 74).map (fun i => (i.zero,i.size,i.bytes)) = some (some (.slice none 0 0),1,24):=by kernel_rfl
theorem make_sles (n : Nat) (hn : n ≤ 1048576) (w : World) : (Instr.makeSlice 104 (.int .i64 (n : Int)) (.int .i64 (n : Int))).run Tryz.prog w = .ok (.slice (some ⟨w.heap.size,0,none⟩) n n) (w.alloc (.cells (fRow n (fun _ => .slice none 0 0)) 74)):=by
 obtain ⟨i0,hi,hz0,hz1,hz2⟩:=info_parts Tryz.infoSlE
 have h:=run_makeSlice (P:=Tryz.prog) w 104 74 i0 (.slice none 0 0) Tryz.underlying104 hi hz0 .i64 .i64 (n : Int) (n : Int) (by omega) (by omega) (by rw [hz1];omega) (by rw [hz2];omega) (by omega)
 rw [hz1] at h
 simp only [Int.toNat_natCast,Nat.mul_one] at h
 rw [← fRow_made]
 exact h
theorem make_intsF (n : Nat) (hn : n ≤ 1048576) (w : World) : (Instr.makeSlice 105 (.int .i64 (n : Int)) (.int .i64 (n : Int))).run Tryz.prog w = .ok (.slice (some ⟨w.heap.size,0,none⟩) n n) (w.alloc (.cells (fRow n (fun _ => .int .i64 0)) 3)):=by
 obtain ⟨i0,hi,hz0,hz1,hz2⟩:=info_parts Tryz.infoIntS
 have h:=run_makeSlice (P:=Tryz.prog) w 105 3 i0 (.int .i64 0) Tryz.underlying105 hi hz0 .i64 .i64 (n : Int) (n : Int) (by omega) (by omega) (by rw [hz1];omega) (by rw [hz2];omega) (by omega)
 rw [hz1] at h
 simp only [Int.toNat_natCast,Nat.mul_one] at h
 rw [← fRow_made]
 exact h
theorem setF_int (f : Nat → Nat) (i v : Nat) : setF (fun j => Value.int .i64 (f j : Int)) i (.int .i64 (v : Int)) = fun j => .int .i64 ((setF f i v j : Nat) : Int):=by
 funext j
 by_cases e : j = i
 ·subst e;rw [setF_at,setF_at]
 ·rw [setF_ne _ _ e,setF_ne _ _ e]
structure ELs (w : World) (L N : Nat) (vf : Nat → Value) (es : Nat → List En) : Prop where
 row : FRw w L N 74 vf
 own : ∀ i,i < N → ∃ p c,vf i = .slice p (es i).length c ∧ NRw w p (es i) ∧ (es i).length ≤ 1048576
section
variable {w w' : World} {L N : Nat} {vf : Nat → Value} {es : Nat → List En}
theorem ELs.below (h : ELs w L N vf es) (hb : Below w.heap.size w w') : ELs w' L N vf es :=
 ⟨h.row.below hb,fun i hi => by
  obtain ⟨p,c,h1,h2,h3⟩:=h.own i hi
  exact ⟨p,c,h1,h2.below hb,h3⟩⟩
theorem ELs.start (hr : FRw w L N 74 (fun _ => .slice none 0 0)) : ELs w L N (fun _ => .slice none 0 0) (fun _ => []) :=
 ⟨hr,fun _ _ => ⟨none,0,rfl,fun k hk => absurd hk (Nat.not_lt_zero _),Nat.zero_le _⟩⟩
theorem ELs.far (h : ELs w L N vf es) {p : Option Addr} {l : List En} (hr : NRw w p l) (i : Nat) (v : Value) : NRw (w.setCell ⟨L,i,none⟩ v) p l:=fun k hk => by
 obtain ⟨g,o,rfl,hg,a0,a1,a2⟩:=hr k hk
 have hne : g ≠ L:=fun e => by
  subst e
  rw [cell_of_row _ _ _ _ _ _ h.row] at a0
  by_cases hj : o + k * 3 < N
  ·rw [fRow_at hj] at a0
   obtain ⟨p,c,h1,_⟩:=h.own _ hj
   rw [h1] at a0
   cases a0
  ·rw [Array.getElem?_eq_none (by rw [fRow_size];omega)] at a0
   cases a0
 have keep : ∀ j,(w.setCell ⟨L,i,none⟩ v).cell? ⟨g,j,none⟩ = w.cell? ⟨g,j,none⟩:=fun j => World.cell?_of_block (a:=⟨g,j,none⟩) (Below.heap_setCell w ⟨L,i,none⟩ v g hne)
 exact ⟨g,o,rfl,by simpa using hg,(keep _).trans a0,(keep _).trans a1,(keep _).trans a2⟩
theorem ELs.set (h : ELs w L N vf es) {i : Nat} {p : Option Addr} {l : List En} {c : Nat} (hr : NRw w p l) (hl : l.length ≤ 1048576) : ELs (w.setCell ⟨L,i,none⟩ (.slice p l.length c)) L N (setF vf i (.slice p l.length c)) (setF es i l) :=
 ⟨h.row.set i _,fun j hj => by
  by_cases e : j = i
  ·subst e
   rw [setF_at,setF_at]
   exact ⟨p,c,rfl,h.far hr j _,hl⟩
  ·rw [setF_ne _ _ e,setF_ne _ _ e]
   obtain ⟨p',c',h1,h2,h3⟩:=h.own j hj
   exact ⟨p',c',h1,h.far h2 i _,h3⟩⟩
end
set_option maxHeartbeats 16000000 in
set_option maxRecDepth 8000 in
theorem calm_any (l : List It) (p : Option Addr) (n c : Nat) (w : World) (hn : n = l.length) (hp : ItRw w p l) (hs : ∀ x ∈ l,x.b.size ≤ 1048576) (hn2 : n ≤ 1000) :
  Calls Tryz.prog 42 #[.agg #[.slice p n c]] w fun e w' => (∃ b,e = .returned (.bool b)) ∧ Below w.heap.size w w':=by
 obtain ⟨w1,hw1⟩ : ∃ w1,w1 = w.alloc (.cells #[.slice p n c] 24):=⟨_,rfl⟩
 obtain ⟨B,hB⟩ : ∃ B,B = w.heap.size:=⟨_,rfl⟩
 have hx : w1.heap[B]? = some (.cells #[.slice p n c] 24 (0,0)):=by rw [hw1,hB];exact heap_alloc_new w _
 have hbx : Below w.heap.size w w1:=by rw [hw1];exact below_new (Below.refl _ _) _
 have x0 : w1.cell? ⟨B,0,none⟩ = some (.slice p n c):=cell_of_row _ _ 0 _ _ _ hx
 have HRG:=Lib.hid (ringed_any l p n c w1 hn (hp.below hbx) (fun x hx => Nat.le_trans (hs x hx) (by decide)) hn2)
 have hmk:=fun w' => make_sles n (by omega) w'
 have hmi:=fun w' => make_intsF n (by omega) w'
 have HN:=Lib.hid hn
 have HP:=Lib.hid (hp.below hbx)
 have HS:=Lib.hid hs
 have HBX:=Lib.hid hbx
 have HW1:=Lib.hid hw1
 have HB:=Lib.hid hB
 clear hn hp hs hbx hw1 hB hx
 go_enter Tryz.func42,Tryz.ntmps42
 go_upto_region 1 with fail
 rw [← HW1.out,← HB.out]
 go_cut [13] from 12 to 13 (fun v wx => (∃ b,v = .bool b) ∧ Hid (Below w1.heap.size w1 wx))
 case first =>
  go_wp2_with (go_at_call 75;((with_reducible refine HRG.out.mono ?_);rintro e w2 ⟨⟨b,rfl⟩,hb2⟩))
  go_meet
  exact ⟨⟨b,rfl⟩,hb2⟩
 case rest =>
  obtain ⟨⟨b,rfl⟩,HB1⟩:=hcut
  rename World => w0
  clear HRG
  have y0:=cell_bel x0 HB1.out
  clear x0
  rcases b with _ | _
  case true =>
   go_wp2_with fail
   go_ret
   exact ⟨⟨_,rfl⟩,HBX.out.trans (HB1.out.mono HBX.out.size)⟩
  obtain ⟨L,hL⟩ : ∃ L,L = w0.heap.size:=⟨_,rfl⟩
  obtain ⟨w2,hw2⟩ : ∃ w2,w2 = w0.alloc (.cells (fRow n (fun _ => .slice none 0 0)) 74):=⟨_,rfl⟩
  have hfr : FRw w2 L n 74 (fun _ => .slice none 0 0):=by rw [hw2,hL];exact heap_alloc_new w0 _
  have hb2 : Below w0.heap.size w0 w2:=by rw [hw2];exact below_new (Below.refl _ _) _
  have HES:=Lib.hid (ELs.start hfr)
  have HB2:=Lib.hid hb2
  have HW2:=Lib.hid hw2
  have HL:=Lib.hid hL
  have HLL : Hid (w0.heap.size ≤ L):=by show _ ≤ L;rw [hL];exact Nat.le_refl _
  clear hfr hb2 hw2 hL
  go_upto_region 4 with fail
  rw [← HW2.out,← HL.out]
  go_wp2_with fail
  clear hmk
  go_loopw [4] (fun iv wr => ∃ k : Nat,k ≤ n ∧ iv = .int .i64 (k : Int) ∧ Hid (∃ vf es,ELs wr L n vf es) ∧ Hid (Below w0.heap.size w0 wr)) (fun iv _ => n - (intOf iv).toNat)
  case atStart => exact ⟨0,by omega,rfl,⟨_,_,HES.out⟩,HB2.out⟩
  case round =>
   clear HES HB2
   rename World => wa
   obtain ⟨k,hk,rfl,HI,HBW⟩:=hrel
   have c0:=cell_bel y0 HBW.out
   have HBV:=Lib.hid (HB1.out.trans (HBW.out.mono HB1.out.size))
   by_cases hlt : k < n
   ·have hkl : k < l.length:=by rw [← HN.out];exact hlt
    have q1 : (k : Int) < (n : Int):=by omega
    obtain ⟨g,o,hpe,hg,a0,a1,a2⟩:=HP.out.below HBV.out k hkl
    subst hpe
    have hbs:=HS.out _ (List.getElem_mem hkl)
    obtain ⟨e,he⟩ : ∃ e,e = l[k]:=⟨_,rfl⟩
    rw [← he] at a0 a1 a2 hbs
    obtain ⟨id,kd,bd⟩:=e
    simp only at a0 a1 a2 hbs
    clear he hg hkl
    obtain ⟨vf,es,hE⟩:=HI.out
    have HE:=Lib.hid hE
    clear hE HI
    by_cases hk2 : kd = 2
    ·subst hk2
     obtain ⟨⟨K,E⟩,hq⟩ : ∃ q,q = parE bd.data.toList:=⟨_,rfl⟩
     have hlen:=parE_len bd.data.toList
     have hpa:=trparse_any bd wa hbs
     rw [← hq] at hpa hlen
     simp only at hlen
     obtain ⟨m,hm⟩ : ∃ m,m = E.length:=⟨_,rfl⟩
     have hpa2 : Calls Tryz.prog 50 #[.string bd] wa fun e w'' => (∃ q d,e = .returned (.tuple #[.slice q m d,.int .i64 (K : Int)]) ∧ NRw w'' q E) ∧ Below wa.heap.size wa w'':=hpa.mono fun e w'' ⟨⟨v,h1,q,d,h2,h3,h4⟩,h5⟩ => by
      rw [h2] at h1
      simp only [← hm] at h1
      exact ⟨⟨q,d,h1,h4⟩,h5⟩
     have HPA:=Lib.hid hpa2
     have HM:=Lib.hid hm
     have HLN:=Lib.hid hlen
     clear hpa hpa2 hq hm hlen
     go_wp2_with (go_at_call 50;((with_reducible refine HPA.out.mono ?_);rintro e w5 ⟨⟨q,d,rfl,hr⟩,hb5⟩;have HR5:=Lib.hid (HE.out.row.below hb5);have f5:=HR5.out.at hlt;have z5:=HR5.out.fz k))
     go_roundw
     case rel =>
      have h:=(HE.out.below hb5).set (i:=k) (c:=d) hr (by have:=HLN.out;omega)
      rw [← HM.out] at h
      exact ⟨k + 1,by omega,by go_num,⟨_,_,h⟩,(HBW.out.trans (hb5.mono HBW.out.size)).setCell (p:=⟨L,k,none⟩) HLL.out _⟩
     case measure => simp [intOf];omega
    ·have g2 : (kd == 2) = false:=by simp [hk2]
     clear hk2
     go_wp2_with fail
     go_roundw
     case rel => exact ⟨k + 1,by omega,by go_num,⟨_,_,HE.out⟩,HBW.out⟩
     case measure => simp [intOf];omega
   ·obtain rfl : n = k:=by omega
    obtain ⟨vf,es,hE⟩:=HI.out
    obtain ⟨M,hM⟩ : ∃ M,M = wa.heap.size:=⟨_,rfl⟩
    obtain ⟨w3,hw3⟩ : ∃ w3,w3 = wa.alloc (.cells (fRow n (fun _ => .int .i64 0)) 3):=⟨_,rfl⟩
    have hfd : FRw w3 M n 3 (fun _ => .int .i64 0):=by rw [hw3,hM];exact heap_alloc_new wa _
    have hb3 : Below wa.heap.size wa w3:=by rw [hw3];exact below_new (Below.refl _ _) _
    have HE:=Lib.hid hE
    have HFD:=Lib.hid hfd
    have HB3:=Lib.hid hb3
    have HW3:=Lib.hid hw3
    have HM:=Lib.hid hM
    have HML : Hid (wa.heap.size ≤ M):=by show _ ≤ M;rw [hM];exact Nat.le_refl _
    clear HI hE hfd hb3 hw3 hM hlt
    go_upto_region 10 with fail
    rw [← HW3.out,← HM.out]
    clear hmi
    go_wp2_with fail
    go_loopg [6] (leftM (fun _ => 0) n + 2) (fun k mv wx => ∃ (mf : Nat → Nat) (Mo : Bool),mv = .bool Mo ∧ Hid (OkM l n es mf) ∧ Hid ((if Mo = true then leftM mf n + 1 else 0) < k) ∧ Hid (FRw wx M n 3 (fun j => .int .i64 (mf j : Int))) ∧ Hid (Below wa.heap.size wa wx))
    case atStart => exact ⟨fun _ => 0,true,rfl,OkM.start l n es,by show (if true = true then _ else _) < _;rw [if_pos rfl];omega,by have h:=HFD.out;exact h,HB3.out⟩
    case round =>
     clear HFD HB3
     rename World => wx
     obtain ⟨mf,Mo,rfl,HOK,HPH,HF,HBY⟩:=hrel
     rcases Mo with _ | _
     ·go_wp2_with fail
      go_ret
      exact ⟨⟨_,rfl⟩,HBX.out.trans ((HBV.out.trans (HBY.out.mono HBV.out.size)).mono HBX.out.size)⟩
     ·obtain ⟨C,hC⟩ : ∃ C,C = leftM mf n:=⟨_,rfl⟩
      have HC:=Lib.hid hC
      clear hC
      go_wp2_with fail
      go_loopw [6,7] (fun mv iv wy => ∃ (m2 : Nat → Nat) (Mo : Bool) (i : Nat),i ≤ n ∧ mv = .bool Mo ∧ iv = .int .i64 (i : Int) ∧ Hid (OkM l n es m2) ∧ Hid (leftM m2 n + (if Mo = true then 1 else 0) ≤ C) ∧ Hid (FRw wy M n 3 (fun j => .int .i64 (m2 j : Int))) ∧ Hid (Below wa.heap.size wa wy)) (fun _ iv _ => n - (intOf iv).toNat)
      case atStart => exact ⟨mf,false,0,by omega,rfl,rfl,HOK.out,by show leftM mf n + _ ≤ C;rw [HC.out];simp,HF.out,HBY.out⟩
      case round =>
       clear HF HBY HOK
       rename World => wy
       obtain ⟨m2,Mo,i,hi,rfl,rfl,HOK,HLE,HF,HBY⟩:=hrel
       have HBZ:=Lib.hid (HBV.out.trans (HBY.out.mono HBV.out.size))
       have e0:=cell_bel y0 (HBW.out.trans (HBY.out.mono HBW.out.size))
       by_cases hin : i < n
       ·have q3 : (i : Int) < (n : Int):=by omega
        have hEY:=HE.out.below HBY.out
        obtain ⟨pv,cv,hv,hnr,hzl⟩:=hEY.own i hin
        have r0:=hEY.row.at hin
        rw [hv] at r0
        obtain ⟨E,hE⟩ : ∃ E,E = es i:=⟨_,rfl⟩
        rw [← hE] at r0 hnr hzl
        obtain ⟨z,hz⟩ : ∃ z,z = E.length:=⟨_,rfl⟩
        rw [← hz] at r0 hzl
        have d0:=HF.out.at hin
        obtain ⟨v0,hv0⟩ : ∃ v0,v0 = m2 i:=⟨_,rfl⟩
        rw [← hv0] at d0
        have HV0:=Lib.hid hv0
        have HNR:=Lib.hid hnr
        have HZ:=Lib.hid hz
        have HEE:=Lib.hid hE
        clear hv hnr hE hz hEY hv0
        go_wp2_with fail
        go_loopw [8,9] (fun nv tv wz => ∃ t : Nat,t ≤ z ∧ nv = .int .i64 (sumE l m2 (E.take t) : Int) ∧ tv = .int .i64 (t : Int) ∧ Hid (Below wy.heap.size wy wz)) (fun _ tv _ => z - (intOf tv).toNat)
        case atStart => exact ⟨0,by omega,by simp [sumE],rfl,Below.refl _ _⟩
        case round =>
         rename World => wz
         obtain ⟨t,ht,rfl,rfl,HBT⟩:=hrel
         obtain ⟨S,hS⟩ : ∃ S,S = sumE l m2 (E.take t):=⟨_,rfl⟩
         rw [← hS]
         have HSS:=Lib.hid hS
         have r1:=cell_bel r0 HBT.out
         have d1:=cell_bel d0 HBT.out
         have e1:=cell_bel e0 HBT.out
         have HBU:=Lib.hid (HBZ.out.trans (HBT.out.mono HBZ.out.size))
         clear hS
         by_cases hS2 : S ≤ 20000
         ·have q4 : (S : Int) ≤ 20000:=by omega
          by_cases htz : t < z
          ·have q5 : (t : Int) < (z : Int):=by omega
           have htE : t < E.length:=by rw [← HZ.out];exact htz
           obtain ⟨g,o,hpe,hg,a0,a1,a2⟩:=(HNR.out.below HBT.out) t htE
           subst hpe
           obtain ⟨en,hen⟩ : ∃ en,en = E[t]:=⟨_,rfl⟩
           have hsm:=sumE_more (l:=l) (m:=m2) htE
           rw [← hen,← HSS.out] at hsm
           rw [← hen] at a0 a1 a2
           obtain ⟨em,nm,ei⟩:=en
           simp only at a0 a1 a2
           obtain ⟨A,hA⟩ : ∃ A,A = atI l ei:=⟨_,rfl⟩
           obtain ⟨H,hH⟩ : ∃ H,H = hasI l ei:=⟨_,rfl⟩
           have hAn : H = true → A < n:=fun h => by
            rw [hH] at h
            rw [hA,HN.out]
            exact hasI_lt h
           have HPL : Hid (∀ y : BelW wz,Calls Tryz.prog 47 #[.slice p n c,.string ei] y.w fun e w'' => e = .returned (.tuple #[.int .i64 (A : Int),.bool H]) ∧ ∃ x : BelW wz,w'' = x.w):=fun y => by
            rw [hA,hH]
            exact Calls.bel_class ((rplace_any l ei p n c y.w HN.out ((HP.out.below HBU.out).below y.h) (by omega)).mono fun e w'' ⟨h1,k7,h2⟩ => ⟨h1,by rw [h2];exact below_drewN (Below.refl _ _) k7⟩)
           unfold perE at hsm
           simp only [← hA,← hH] at hsm
           have HSM:=Lib.hid hsm
           have k0 : ∀ y : BelW wz,y.w.cell? ⟨B,0,none⟩ = some (.slice p n c):=fun y => cell_bel e1 y.h
           have k1 : ∀ y : BelW wz,y.w.cell? ⟨L,i,none⟩ = some (.slice (some ⟨g,o,none⟩) z cv):=fun y => cell_bel r1 y.h
           have k2 : ∀ y : BelW wz,y.w.cell? ⟨g,o + t * 3 + 2,none⟩ = some (.string ei):=fun y => cell_bel a2 y.h
           have hqn : Nonempty (BelW wz):=⟨⟨wz,Below.refl _ _⟩⟩
           clear hA hH hsm hen hg htE
           go_upto_region 21 with fail
           refine wp_region_bel (w0:=wz) (Below.refl _ _) (by kernel_rfl) (by kernel_rfl) ?_
           repeat (go_big_quiet_step (first
            | (go_at_call 47;(with_reducible exact HPL.out _))))
           refine wpQuiet_nil ?_
           rintro _ ⟨zz,rfl⟩
           have hbk:=zz.h
           have HT6:=Lib.hid (HBT.out.trans (hbk.mono HBT.out.size))
           have HF6:=Lib.hid ((HF.out.below HBT.out).below hbk)
           replace a0:=cell_bel a0 hbk
           replace r1:=cell_bel r1 hbk
           obtain ⟨w6,hw6⟩ : ∃ w6,w6 = zz.w:=⟨_,rfl⟩
           rw [← hw6] at HT6 HF6 a0 r1 ⊢
           clear k0 k1 k2 hqn HPL a1 a2 d1 e1 hbk HBU HBT hw6 zz
           rcases H with _ | _
           ·clear hAn
            go_wp2_with fail
            go_roundw
            case rel =>
             refine ⟨t + 1,by omega,?_,by go_num,HT6.out⟩
             rw [HSM.out]
             simp only [Bool.false_eq_true,false_and,if_false]
             go_num
            case measure => simp [intOf];omega
           ·have hA2:=hAn rfl
            clear hAn
            by_cases hm4 : em = 4
            ·subst hm4
             have dA:=HF6.out.at hA2
             obtain ⟨v,hv⟩ : ∃ v,v = m2 A:=⟨_,rfl⟩
             rw [← hv] at dA
             have hvb : v ≤ 20000:=by rw [hv];exact HOK.out.1 A
             have q6 : (A : Int) < (n : Int):=by omega
             have HVV:=Lib.hid hv
             clear hv
             go_wp2_with fail
             go_roundw
             case rel =>
              refine ⟨t + 1,by omega,?_,by go_num,HT6.out⟩
              rw [HSM.out,if_pos ⟨rfl,rfl⟩,← HVV.out]
              go_num
             case measure => simp [intOf];omega
            ·have g4 : (em == 4) = false:=by simp [hm4]
             have HM4:=Lib.hid hm4
             clear hm4
             go_wp2_with fail
             go_roundw
             case rel =>
              refine ⟨t + 1,by omega,?_,by go_num,HT6.out⟩
              rw [HSM.out,if_neg (fun h => HM4.out h.2)]
              go_num
             case measure => simp [intOf];omega
          ·obtain rfl : z = t:=by omega
           have hS3 : S = sumE l m2 (es i):=by rw [HSS.out,List.take_of_length_le (by have:=HZ.out;omega),HEE.out]
           have HS3:=Lib.hid hS3
           have HST:=Lib.hid (HOK.out.set hin (by rw [← hS3];exact hS2))
           have HSL:=Lib.hid (leftM_set HOK.out hin (by rw [← hS3];exact hS2))
           have HFT:=Lib.hid (HF.out.below HBT.out)
           have z0:=HFT.out.fz i
           have HRL : Hid (∀ Mo2 : Bool,Mo2 = (Mo || !(decide (S = v0))) → leftM (setF m2 i S) n + (if Mo2 = true then 1 else 0) ≤ C):=fun Mo2 h => by
            have h1:=HSL.out
            have h2:=HLE.out
            rw [← HS3.out,← HV0.out] at h1
            subst h
            cases Mo with
            | true => simp only [Bool.true_or,if_true] at h2 ⊢;omega
            | false =>
             simp only [Bool.false_or,Bool.false_eq_true,if_false] at h2 ⊢
             by_cases e : S = v0
             ·rw [if_pos e] at h1
              simp [e]
              rw [e] at h1
              omega
             ·rw [if_neg e] at h1
              simp [e]
              omega
           have HFS : Hid (FRw (wz.setCell ⟨M,i,none⟩ (.int .i64 (S : Int))) M n 3 (fun j => .int .i64 ((setF m2 i S j : Nat) : Int))):=by
            have h:=HFT.out.set i (.int .i64 (S : Int))
            rw [setF_int] at h
            exact h
           clear hS3
           rcases Mo with _ | _
           ·by_cases hne : S = v0
            ·have g5 : ((S : Int) != (v0 : Int)) = false:=by simp [hne]
             have HRM:=Lib.hid (HRL.out false (by simp [hne]))
             clear hne HRL
             go_wp2_with fail
             go_roundw
             case rel => exact ⟨setF m2 i S,false,i + 1,by omega,rfl,by go_num,by rw [HS3.out];exact HST.out,HRM.out,HFS.out,(HBY.out.trans (HBT.out.mono HBY.out.size)).setCell (p:=⟨M,i,none⟩) HML.out _⟩
             case measure => simp [intOf];omega
            ·have g5 : ((S : Int) != (v0 : Int)) = true:=by simp;omega
             have HRM:=Lib.hid (HRL.out true (by simp [hne]))
             clear hne HRL
             go_wp2_with fail
             go_roundw
             case rel => exact ⟨setF m2 i S,true,i + 1,by omega,rfl,by go_num,by rw [HS3.out];exact HST.out,HRM.out,HFS.out,(HBY.out.trans (HBT.out.mono HBY.out.size)).setCell (p:=⟨M,i,none⟩) HML.out _⟩
             case measure => simp [intOf];omega
           ·have HRM:=Lib.hid (HRL.out true (by simp))
            clear HRL
            go_wp2_with fail
            go_roundw
            case rel => exact ⟨setF m2 i S,true,i + 1,by omega,rfl,by go_num,by rw [HS3.out];exact HST.out,HRM.out,HFS.out,(HBY.out.trans (HBT.out.mono HBY.out.size)).setCell (p:=⟨M,i,none⟩) HML.out _⟩
            case measure => simp [intOf];omega
         ·have q4 : ¬ (S : Int) ≤ 20000:=by omega
          have q6 : (20000 : Int) < (S : Int):=by omega
          clear hS2
          by_cases htz : t < z
          ·have q5 : (t : Int) < (z : Int):=by omega
           go_wp2_with fail
           go_ret
           exact ⟨(by first | exact ⟨_,rfl⟩ | exact .inl rfl),HBX.out.trans (HBU.out.mono HBX.out.size)⟩
          ·obtain rfl : z = t:=by omega
           go_wp2_with fail
           go_ret
           exact ⟨(by first | exact ⟨_,rfl⟩ | exact .inl rfl),HBX.out.trans (HBU.out.mono HBX.out.size)⟩
       ·obtain rfl : n = i:=by omega
        go_wp2_with fail
        go_roundg (C + 1)
        case measure =>
         have h:=HPH.out
         simp only [if_true] at h
         rw [HC.out]
         exact h
        case rel =>
         refine ⟨m2,Mo,rfl,HOK.out,?_,HF.out,HBY.out⟩
         have h:=HLE.out
         show _ < C + 1
         cases Mo <;> simp at h ⊢ <;> omega
def SmI (l : List It) : Prop:=rightI l = true ∧ l.length ≤ 80 ∧ ∀ e ∈ l,e.b.size ≤ 4000
set_option maxHeartbeats 4000000 in
set_option maxRecDepth 8000 in
theorem small_any (l : List It) (p : Option Addr) (n c : Nat) (w : World) (hn : n = l.length) (hp : ItRw w p l) (hs : ∀ x ∈ l,x.b.size ≤ 140737488355328) (hn2 : n ≤ 140737488355328) :
  Calls Tryz.prog 11 #[.agg #[.slice p n c]] w fun e w' => (∃ b,e = .returned (.bool b) ∧ (b = true → SmI l)) ∧ Below w.heap.size w w':=by
 obtain ⟨w1,hw1⟩ : ∃ w1,w1 = w.alloc (.cells #[.slice p n c] 24):=⟨_,rfl⟩
 obtain ⟨B,hB⟩ : ∃ B,B = w.heap.size:=⟨_,rfl⟩
 have hx : w1.heap[B]? = some (.cells #[.slice p n c] 24 (0,0)):=by rw [hw1,hB];exact heap_alloc_new w _
 have hbx : Below w.heap.size w w1:=by rw [hw1];exact below_new (Below.refl _ _) _
 have x0 : w1.cell? ⟨B,0,none⟩ = some (.slice p n c):=cell_of_row _ _ 0 _ _ _ hx
 have HRR:=Lib.hid (fun w' (hb : Below w1.heap.size w1 w') => rright_any l p n c w' hn ((hp.below hbx).below hb) hs hn2)
 have HCA:=Lib.hid (fun w' (hb : Below w1.heap.size w1 w') (h1 : ∀ x ∈ l,x.b.size ≤ 1048576) (h2 : n ≤ 1000) => calm_any l p n c w' hn ((hp.below hbx).below hb) h1 h2)
 have HN:=Lib.hid hn
 have HP:=Lib.hid (hp.below hbx)
 have HS:=Lib.hid hs
 have HBX:=Lib.hid hbx
 have HW1:=Lib.hid hw1
 have HB:=Lib.hid hB
 clear hn hp hs hbx hw1 hB hx
 go_enter Tryz.func11,Tryz.ntmps11
 by_cases k1 : 80 < n
 ·have g1 : (80 : Int) < (n : Int):=by omega
  clear k1
  go_upto_region 1 with fail
  rw [← HW1.out,← HB.out]
  go_wp2_with fail
  go_ret
  exact ⟨⟨_,rfl,fun h => by cases h⟩,HBX.out⟩
 have g1 : ¬ (80 : Int) < (n : Int):=by omega
 have hn80 : n ≤ 80:=by omega
 clear k1 hn2
 go_upto_region 1 with fail
 rw [← HW1.out,← HB.out]
 go_wp2_with fail
 clear g1
 go_loopw [3] (fun iv wa => ∃ k : Nat,k ≤ n ∧ iv = .int .i64 (k : Int) ∧ Hid (∀ e ∈ l.take k,e.b.size ≤ 4000) ∧ Hid (wa = w1)) (fun iv _ => n - (intOf iv).toNat)
 case atStart => exact ⟨0,by omega,rfl,fun e he => by simp at he,rfl⟩
 case round =>
  obtain ⟨k,hk,rfl,HJ,HWR⟩:=hrel
  obtain rfl:=HWR.out
  clear HWR
  by_cases hlt : k < n
  ·have hkl : k < l.length:=by rw [← HN.out];exact hlt
   have q1 : (k : Int) < (n : Int):=by omega
   obtain ⟨g,o,hpe,hg,a0,a1,a2⟩:=HP.out k hkl
   subst hpe
   obtain ⟨z,hz⟩ : ∃ z,z = (l[k]).b:=⟨_,rfl⟩
   rw [← hz] at a2
   have HZ:=Lib.hid hz
   have HKL:=Lib.hid hkl
   clear hz hg a0 a1
   by_cases hb : 4000 < z.size
   ·have q2 : (4000 : Int) < (z.size : Int):=by omega
    clear hb
    go_wp2_with fail
    go_ret
    exact ⟨⟨_,rfl,fun h => by cases h⟩,HBX.out⟩
   ·have q2 : ¬ (4000 : Int) < (z.size : Int):=by omega
    have HB4 : Hid (z.size ≤ 4000):=by show _ ≤ _;omega
    clear hb
    go_wp2_with fail
    go_roundw
    case rel =>
     refine ⟨k + 1,by omega,by go_num,fun e he => ?_,(by first | exact rfl | trivial)⟩
     rw [List.take_succ_eq_append_getElem HKL.out,List.mem_append,List.mem_singleton] at he
     rcases he with he | rfl
     ·exact HJ.out e he
     ·rw [← HZ.out];exact HB4.out
    case measure => simp [intOf];omega
  ·obtain rfl : n = k:=by omega
   have HALL : Hid (∀ e ∈ l,e.b.size ≤ 4000):=by
    have h:=HJ.out
    rw [List.take_of_length_le (by have:=HN.out;omega)] at h
    exact h
   obtain ⟨R,hR⟩ : ∃ R,R = rightI l:=⟨_,rfl⟩
   have HRV:=HRR.out _ (Below.refl _ _)
   rw [← hR] at HRV
   have HRW:=Lib.hid HRV
   have HR:=Lib.hid hR
   clear HRV hR HJ
   rcases R with _ | _
   ·go_wp2_with (go_at_call 10;((with_reducible refine HRW.out.mono ?_);rintro e w2 ⟨rfl,hb2⟩))
    go_ret
    exact ⟨⟨_,rfl,fun h => by cases h⟩,HBX.out.trans (hb2.mono HBX.out.size)⟩
   ·go_wp2_with (first
     | (go_at_call 10;((with_reducible refine HRW.out.mono ?_);rintro e w2 ⟨rfl,hb2⟩;have x1:=cell_bel x0 hb2))
     | (go_at_call 42;((with_reducible refine (HCA.out _ hb2 (fun x hx => Nat.le_trans (HALL.out x hx) (by decide)) (by omega)).mono ?_);rintro e w3 ⟨⟨b,rfl⟩,hb3⟩)))
    go_ret
    exact ⟨⟨_,rfl,fun _ => ⟨HR.out.symm,by have:=HN.out;omega,HALL.out⟩⟩,HBX.out.trans ((hb2.trans (hb3.mono hb2.size)).mono HBX.out.size)⟩
end Go.Proofs.YtpkgiojicbdcfaaGreatDoor
/-
 The union of two stores, plain.
-/
namespace Go.Proofs.YtpkgiojicbdcfaaGreatDoor
open Go Go.RowKit
def mrgI : List It → List It → Option (List It)
 | [],b => some b
 | x :: a,[] => some (x :: a)
 | x :: a,y :: b => if ltB x.i y.i = true then (mrgI a (y :: b)).map (x :: ·) else if ltB y.i x.i = true then (mrgI (x :: a) b).map (y :: ·) else if x = y then (mrgI a b).map (x :: ·) else none
termination_by a b => a.length + b.length
theorem mrgI_nil (b : List It) : mrgI [] b = some b:=by rw [mrgI]
theorem mrgI_nil2 (a : List It) : mrgI a [] = some a:=by cases a <;> rw [mrgI]
theorem mrgI_lt {x y : It} {a b : List It} (h : ltB x.i y.i = true) : mrgI (x :: a) (y :: b) = (mrgI a (y :: b)).map (x :: ·):=by rw [mrgI,if_pos h]
theorem mrgI_gt {x y : It} {a b : List It} (h : ltB y.i x.i = true) : mrgI (x :: a) (y :: b) = (mrgI (x :: a) b).map (y :: ·):=by
 rw [mrgI,if_neg (by rw [ltB_asym h];decide),if_pos h]
theorem mrgI_eq {x : It} {a b : List It} : mrgI (x :: a) (x :: b) = (mrgI a b).map (x :: ·):=by
 rw [mrgI,if_neg (by rw [ltB_irr];decide),if_neg (by rw [ltB_irr];decide),if_pos rfl]
theorem mrgI_ne {x y : It} {a b : List It} (h1 : ltB x.i y.i = false) (h2 : ltB y.i x.i = false) (h : x ≠ y) : mrgI (x :: a) (y :: b) = none:=by
 rw [mrgI,if_neg (by rw [h1];decide),if_neg (by rw [h2];decide),if_neg h]
theorem mrgI_comm : ∀ (N : Nat) (a b : List It),a.length + b.length ≤ N → mrgI a b = mrgI b a
 | _,[],b,_ => by rw [mrgI_nil,mrgI_nil2]
 | _,x :: a,[],_ => by rw [mrgI_nil,mrgI_nil2]
 | 0,x :: a,y :: b,h => by simp at h
 | N + 1,x :: a,y :: b,h => by
  simp only [List.length_cons] at h
  by_cases h1 : ltB x.i y.i = true
  ·rw [mrgI_lt h1,mrgI_gt h1,mrgI_comm N a (y :: b) (by simp only [List.length_cons];omega)]
  ·by_cases h2 : ltB y.i x.i = true
   ·rw [mrgI_gt h2,mrgI_lt h2,mrgI_comm N (x :: a) b (by simp only [List.length_cons];omega)]
   ·by_cases h3 : x = y
    ·subst h3
     rw [mrgI_eq,mrgI_eq,mrgI_comm N a b (by omega)]
    ·have e1 : ltB x.i y.i = false:=by simpa using h1
     have e2 : ltB y.i x.i = false:=by simpa using h2
     rw [mrgI_ne e1 e2 h3,mrgI_ne e2 e1 (Ne.symm h3)]
theorem mrgI_spec (P : It → Bool) : ∀ (N : Nat) (a b u : List It),a.length + b.length ≤ N → mrgI a b = some u → u.length ≤ a.length + b.length ∧ (∀ z ∈ u,z ∈ a ∨ z ∈ b) ∧ ((∀ y ∈ b,P y = false) → u.filter P = a.filter P) ∧
  (SrtI a → SrtI b → SrtI u)
 | _,[],b,u,_,hu => by
  rw [mrgI_nil] at hu
  cases hu
  refine ⟨by simp,fun z hz => .inr hz,fun hP => ?_,fun _ h => h⟩
  rw [List.filter_nil,List.filter_eq_nil_iff]
  exact fun z hz => by rw [hP z hz];decide
 | _,x :: a,[],u,_,hu => by
  rw [mrgI_nil2] at hu
  cases hu
  exact ⟨by simp,fun z hz => .inl hz,fun _ => rfl,fun h _ => h⟩
 | 0,x :: a,y :: b,u,h,hu => by simp at h
 | N + 1,x :: a,y :: b,u,h,hu => by
  simp only [List.length_cons] at h
  by_cases h1 : ltB x.i y.i = true
  ·rw [mrgI_lt h1] at hu
   obtain ⟨u',hu',rfl⟩:=Option.map_eq_some_iff.mp hu
   obtain ⟨i1,i2,i3,i4⟩:=mrgI_spec P N a (y :: b) u' (by simp only [List.length_cons];omega) hu'
   refine ⟨by simp only [List.length_cons] at i1 ⊢;omega,fun z hz => ?_,fun hP => ?_,fun ha hb => ?_⟩
   ·rcases List.mem_cons.mp hz with rfl | hz
    ·exact .inl (by simp)
    ·rcases i2 z hz with h | h
     ·exact .inl (List.mem_cons_of_mem _ h)
     ·exact .inr h
   ·rw [List.filter_cons,List.filter_cons,i3 hP]
   ·refine List.pairwise_cons.mpr ⟨fun z hz => ?_,i4 (List.pairwise_cons.mp ha).2 hb⟩
    rcases i2 z hz with h | h
    ·exact (List.pairwise_cons.mp ha).1 z h
    ·rcases List.mem_cons.mp h with rfl | h
     ·exact h1
     ·exact ltB_trans h1 ((List.pairwise_cons.mp hb).1 z h)
  ·by_cases h2 : ltB y.i x.i = true
   ·rw [mrgI_gt h2] at hu
    obtain ⟨u',hu',rfl⟩:=Option.map_eq_some_iff.mp hu
    obtain ⟨i1,i2,i3,i4⟩:=mrgI_spec P N (x :: a) b u' (by simp only [List.length_cons];omega) hu'
    refine ⟨by simp only [List.length_cons] at i1 ⊢;omega,fun z hz => ?_,fun hP => ?_,fun ha hb => ?_⟩
    ·rcases List.mem_cons.mp hz with rfl | hz
     ·exact .inr (by simp)
     ·rcases i2 z hz with h | h
      ·exact .inl h
      ·exact .inr (List.mem_cons_of_mem _ h)
    ·rw [List.filter_cons,hP y (by simp)]
     exact i3 fun z hz => hP z (List.mem_cons_of_mem _ hz)
    ·refine List.pairwise_cons.mpr ⟨fun z hz => ?_,i4 ha (List.pairwise_cons.mp hb).2⟩
     rcases i2 z hz with h | h
     ·rcases List.mem_cons.mp h with rfl | h
      ·exact h2
      ·exact ltB_trans h2 ((List.pairwise_cons.mp ha).1 z h)
     ·exact (List.pairwise_cons.mp hb).1 z h
   ·have e1 : ltB x.i y.i = false:=by simpa using h1
    have e2 : ltB y.i x.i = false:=by simpa using h2
    by_cases h3 : x = y
    ·subst h3
     rw [mrgI_eq] at hu
     obtain ⟨u',hu',rfl⟩:=Option.map_eq_some_iff.mp hu
     obtain ⟨i1,i2,i3,i4⟩:=mrgI_spec P N a b u' (by omega) hu'
     refine ⟨by simp only [List.length_cons] at i1 ⊢;omega,fun z hz => ?_,fun hP => ?_,fun ha hb => ?_⟩
     ·rcases List.mem_cons.mp hz with rfl | hz
      ·exact .inl (by simp)
      ·rcases i2 z hz with h | h
       ·exact .inl (List.mem_cons_of_mem _ h)
       ·exact .inr (List.mem_cons_of_mem _ h)
     ·rw [List.filter_cons,List.filter_cons,i3 fun z hz => hP z (List.mem_cons_of_mem _ hz)]
     ·refine List.pairwise_cons.mpr ⟨fun z hz => ?_,i4 (List.pairwise_cons.mp ha).2 (List.pairwise_cons.mp hb).2⟩
      rcases i2 z hz with h | h
      ·exact (List.pairwise_cons.mp ha).1 z h
      ·exact (List.pairwise_cons.mp hb).1 z h
    ·rw [mrgI_ne e1 e2 h3] at hu
     cases hu
def okI (e : It) : Prop:=(lnkL e.k e.b.data.toList).1 = 0 ∧ str (idL e.k e.b.data.toList) = e.i
theorem rightI_of {l : List It} (h1 : l.length ≤ 65536) (h2 : SrtI l) (h3 : ∀ e ∈ l,okI e) : rightI l = true:=by
 refine rightI_ok h1 fun k hk => ?_
 obtain ⟨h4,h5⟩:=h3 _ (List.getElem_mem hk)
 unfold badI
 rw [getDI_at hk,h4,h5,decide_eq_true rfl,decide_eq_true rfl]
 by_cases h0 : 0 < k
 ·have h6:=srt_getI h2 (j:=k - 1) (k:=k) (by omega) hk
  rw [getDI_at hk] at h6
  rw [h6]
  simp
 ·rw [decide_eq_false h0]
  rfl
theorem rightI_all {l : List It} (h : rightI l = true) : ∀ e ∈ l,okI e:=fun e he => by
 obtain ⟨k,hk,rfl⟩:=List.getElem_of_mem he
 have:=rightI_at h hk
 rw [getDI_at hk] at this
 exact this
theorem union_right {a b u : List It} (ha : SmI a) (hb : SmI b) (hu : mrgI a b = some u) : rightI u = true ∧ u.length ≤ 160 ∧ lessI u b = lessI a b:=by
 obtain ⟨h1,h2,h3,h4⟩:=mrgI_spec (fun e => !(hasI b e.i)) _ a b u (Nat.le_refl _) hu
 have hl : u.length ≤ 160:=by have:=ha.2.1;have:=hb.2.1;omega
 refine ⟨rightI_of (by omega) (h4 (rightI_srt ha.1) (rightI_srt hb.1)) fun e he => ?_,hl,h3 fun y hy => ?_⟩
 ·rcases h2 e he with h | h
  ·exact rightI_all ha.1 e h
  ·exact rightI_all hb.1 e h
 ·rw [(hasI_iff (rightI_srt hb.1) y.i).mpr ⟨y,hy,rfl⟩]
  rfl
end Go.Proofs.YtpkgiojicbdcfaaGreatDoor
/-
 A row of items that is read, appended to a row of the call's own.
-/
namespace Go.Proofs.YtpkgiojicbdcfaaGreatDoor
open Go Go.RowKit Go.Maps Go.WideMaps
theorem wp_it_rw {ops : Array Oper} {rest : List Oper} {o : Oper} {a : Act} {Q : Exit → Act → World → Prop} {w : World} {base : Nat} {l : List It} {v : Value} (hgd : o.guard = none) (sl x : Operand) (ho : o.op = .call { callee:=.builtin .append,args:=#[sl,x],argTypes:=#[22,22] }) (hs : a.eval sl = v) (hown : ItOw w base v l) (p : Option Addr) (m c : Nat) (mid : List It) (hm : m = mid.length) (hx : a.eval x = .slice p m c)
  (hr : ItRw w p mid) (hb : l.length + m ≤ 1048576) (hbase : base ≤ w.heap.size)
  (h : ∀ v' w',ItOw w' base v' (l ++ mid) → w.grownBy w' v.ownBlock → wpList Tryz.prog ops Q rest (a.put o.dst v') w') : wpList Tryz.prog ops Q (o :: rest) a w:=by
 cases p with
 | some ad => exact wp_it_many hgd sl x ho hs hown ad m c mid hm hx hr.src hb hbase h
 | none =>
  obtain rfl:=itrw_nil hr
  obtain rfl : m = 0:=hm
  obtain ⟨i0,hi,hz0,hz1,hz2⟩:=info_parts Tryz.infoIt
  refine wpList_plain hgd fun K hK => ?_
  have hrun:=app_noneS w base 22 o.type 39 i0 3 Tryz.underlying22 hi v l.length (itcells l) hown c
  unfold Oper.wp
  simp [execOp,ho,resolve,invoke,builtin,hs,hx,hrun,Result.andThen]
  exact hK _ _ (h v w (by simpa using hown) ⟨rfl,rfl,rfl,Nat.le_refl _,fun _ _ _ => rfl⟩)
end Go.Proofs.YtpkgiojicbdcfaaGreatDoor
