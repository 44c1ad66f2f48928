/-
 The walk of the law StoreReaches.
-/
import Derived.Test.YtnoopcenogbjiaaGreatDoorSoLivesPk
import Derived.Test.YtnoopcenogbjiaaGreatDoorSoRingPk
import Derived.Test.YtnoopcenogbjiaaGreatDoorSoSrtPk
import Derived.Test.YtnoopcenogbjiaaGreatDoorSoRowsPk
import Derived.Test.YtnoopcenogbjiaaGreatDoorSoReachPk
import Derived.Test.YtnoopcenogbjiaaGreatDoorSoInsBPk
import Derived.Test.YtnoopcenogbjiaaGreatDoorSoLkdPk
set_option linter.unusedVariables false
set_option linter.unusedSimpArgs false
namespace Go.Proofs.YtnoopcenogbjiaaGreatDoor
open Go Go.RowKit Go.Maps Go.WideMaps
theorem sow_row {w:World} {base:Nat} {v:Value} {X:List (List UInt8)} {z:Nat} (h:SOw w base v X) (hz:z=X.length):∃ p c,v=.slice p z c∧z≤c∧SRw w p X:=by
 obtain ⟨p,n,c,h1,h2,h3,-,h4⟩:=h.rw2
 rw [hz,←h2]
 exact ⟨p,c,h1,h3,h4⟩
theorem reach_len {l:List It} (hr:rightI l=true) (hl:l.length≤80) {ids:List (List UInt8)} (hi:ids.length≤40):(reachI l ids).length≤200000:=by
 obtain ⟨-,h2,h3,h4⟩:=reach_ref hr ids
 by_cases h:reachC l ids=0
 ·rw [h3 h]
  have h5:=rwk_len (cs:=[]) hr (rwkF l [] ids) [] [] ids List.Pairwise.nil
  have h6:=rwkF_le (l:=l) (cuts:=[]) (ids:=ids) hl hi
  unfold rwkA
  unfold rwkF at h6
  simp at h5
  omega
 ·rw [(h4 h).1];simp
theorem miss_len {l:List It} (hr:rightI l=true) (hl:l.length≤80) {ids:List (List UInt8)} (hi:ids.length≤40):(missI l ids).length≤200000:=by
 have h:=fol_cnt l [] accM List.length (fun s lk kd=>cnt_M s lk kd) (rndS l [] ids) (fun _=>none) [toL 0 ids] [] []
 have h2:=rndS_le (l:=l) (cuts:=[]) (ids:=ids) hl hi
 have h3:(missI l ids).length≤(missF l ids).1.length:=by rw [missI,keysL_length];exact disL_len _
 unfold missF at h3
 simp at h
 omega
theorem emptyS {w:World} {base g:Nat} (hb:base≤g) (h:w.heap[g]?=some (.cells #[] 9 (0,0))):SOw w base (.slice (some ⟨g,0,none⟩) 0 0) [] :=
 ⟨rfl,.inr ⟨g,0,#[],rfl,hb,h,Nat.le_refl _,Nat.zero_le _,rfl,rfl⟩⟩
theorem nmR_len (k:Int) (b:List UInt8) (cut:Bool):(nmR k b cut).length≤1100:=by
 have h:=lnkL_len2 k b
 unfold nmR
 split
 ·rw [List.length_take];omega
 ·exact h
set_option maxHeartbeats 16000000 in
set_option maxRecDepth 8000 in
theorem storeReaches_walk (l:List It) (cuts:List (List UInt8)) (L:List (List (List UInt8))) (p q r:Option Addr) (n c m d N b:Nat) (W:World) (hT:StrTab W) (hO:WoTab W) (hTr:TrTab W) (hK:KTab W) (hn:n=l.length) (hm:m=cuts.length) (hN:N=L.length) (hr:ItRw W p l) (hq:SRw W q cuts) (hR:RRw W r L)
  (hs:∀ x∈l,x.b.size≤140737488355328∧(Lit.int .i64 x.k).wf=true) (hcl:∀ x∈cuts,x.length≤140737488355328) (hn2:n≤140737488355328) (hm2:m≤140737488355328) :
  Calls Tryz.prog 7 #[.agg #[.slice p n c],.slice q m d,.slice r N b] W fun e W'=>e=.returned (.bool true)∧Below W.heap.size W W':=by
 obtain ⟨w1,hw1⟩:∃ w1,w1=W.alloc (.cells #[.slice p n c] 24):=⟨_,rfl⟩
 obtain ⟨S,hS⟩:∃ S,S=W.heap.size:=⟨_,rfl⟩
 have hx:w1.heap[S]?=some (.cells #[.slice p n c] 24 (0,0)):=by rw [hw1,hS];exact heap_alloc_new W _
 have hbx:Below W.heap.size W w1:=by rw [hw1];exact below_new (Below.refl _ _) _
 have HLV:Hid (∀ w',Below w1.heap.size w1 w'→Calls Tryz.prog 8 #[] w' fun e w''=>e=.returned (.bool true)∧Below w'.heap.size w' w''):=fun w' h=>lives_any w' ((hT.below hbx).below h) ((hO.below hbx).below h) ((hTr.below hbx).below h) ((hK.below hbx).below h)
 have HSM:=Lib.hid (fun w' (h:Below w1.heap.size w1 w')=>small_any l p n c w' hn ((hr.below hbx).below h) (fun x hx=>(hs x hx).1) hn2)
 have x0:=(st_at hx).1
 have HN:=Lib.hid hn
 have HM:=Lib.hid hm
 have HNL:=Lib.hid hN
 have HR:=Lib.hid (hr.below hbx)
 have HQ:=Lib.hid (hq.below hbx)
 have HRR:=Lib.hid (hR.below hbx)
 have HKW:Hid (∀ e∈l,(Lit.int .i64 e.k).wf=true):=fun e he=>(hs e he).2
 have HCL:=Lib.hid hcl
 have HTA:Hid (StrTab w1∧WoTab w1∧TrTab w1):=⟨hT.below hbx,hO.below hbx,hTr.below hbx⟩
 have HBX:=Lib.hid hbx
 have HW1:=Lib.hid hw1
 have HS:=Lib.hid hS
 clear hT hO hTr hK hn hm hN hr hq hR hs hcl hx hbx hw1 hS hn2
 by_cases hN2':N=2
 ·have g0:((N:Int) != 2)=false:=by simp [hN2']
  obtain ⟨fr,mr,rfl⟩:∃ fr mr,L=[fr,mr]:=by
   have:=HNL.out
   rw [hN2'] at this
   match L,this with
   | [a,b],_=>exact ⟨a,b,rfl⟩
  obtain ⟨gR,oR,qf,cf,hpe,hgR,a0,hrf,hfl,hf2⟩:=HRR.out 0 (by simp)
  obtain ⟨gR',oR',qm,cm,hpe',hgR',a1,hrm,hml,hmm2⟩:=HRR.out 1 (by simp)
  rw [hpe] at hpe'
  simp only [Option.some.injEq,Addr.mk.injEq,and_true] at hpe'
  obtain ⟨rfl,rfl⟩:=hpe'
  simp only [List.getElem_cons_zero,List.getElem_cons_succ,Nat.add_zero] at a0 a1 hrf hfl hrm hml hf2 hmm2
  subst hpe
  obtain ⟨mf,hmf⟩:∃ mf,mf=fr.length:=⟨_,rfl⟩
  obtain ⟨mm,hmm⟩:∃ mm,mm=mr.length:=⟨_,rfl⟩
  rw [←hmf] at a0
  rw [←hmm] at a1
  have g1:(0:Int)<(N:Int):=by omega
  have g2:(1:Int)<(N:Int):=by omega
  have g3:0<N:=by omega
  have g4:1<N:=by omega
  have HRF:=Lib.hid hrf
  have HRM:=Lib.hid hrm
  have HFL:=Lib.hid hfl
  have HML:=Lib.hid hml
  have HMF:=Lib.hid hmf
  have HMM:=Lib.hid hmm
  rw [←hmf] at hf2
  rw [←hmm] at hmm2
  clear hN2' hgR hgR' hrf hrm hfl hml hmf hmm HRR HNL
  go_enter Tryz.func7,Tryz.ntmps7
  go_upto_region 1 with fail
  rw [←HW1.out,←HS.out]
  go_upto_region 3 with fail
  go_quiet (fail)
  have HQB:Hid (Below w1.heap.size w1 (w1.drewN nq)):=below_drewN (Below.refl _ _) nq
  generalize w1.drewN nq=wq at HQB ⊢
  replace x0:=cell_bel x0 HQB.out
  go_upto_region 4 with fail
  clear a0 a1 g0 g1 g2 g3 g4 HW1 HS
  go_cut [48] from 31 to 48 (fun v wx=>(∃ b,v=.bool b∧Hid (b=false→SmI l∧mf≤20∧mm≤20∧m≤20))∧Hid (Below w1.heap.size w1 wx∧wx.cell? ⟨S,0,none⟩=some (.slice p n c)))
  case first =>
   by_cases k1:20<mf
   ·have g1:(20:Int)<(mf:Int):=by omega
    clear k1
    go_wp2_with (go_at_call 11;((with_reducible refine (HSM.out _ HQB.out).mono ?_);rintro e w2 ⟨⟨b,rfl,hb⟩,hb2⟩;have HB:=Lib.hid hb;clear hb;rcases b with _|_))
    all_goals go_meet
    all_goals exact ⟨⟨_,rfl,fun h=>by cases h⟩,HQB.out.trans (hb2.mono HQB.out.size),cell_bel x0 hb2⟩
   ·have g1:¬ (20:Int)<(mf:Int):=by omega
    have H1:Hid (mf≤20):=by show mf≤20;omega
    clear k1
    by_cases k2:20<mm
    ·have g2:(20:Int)<(mm:Int):=by omega
     clear k2
     go_wp2_with (go_at_call 11;((with_reducible refine (HSM.out _ HQB.out).mono ?_);rintro e w2 ⟨⟨b,rfl,hb⟩,hb2⟩;have HB:=Lib.hid hb;clear hb;rcases b with _|_))
     all_goals go_meet
     all_goals exact ⟨⟨_,rfl,fun h=>by cases h⟩,HQB.out.trans (hb2.mono HQB.out.size),cell_bel x0 hb2⟩
    ·have g2:¬ (20:Int)<(mm:Int):=by omega
     have H2:Hid (mm≤20):=by show mm≤20;omega
     clear k2
     by_cases k3:20<m
     ·have g3:(20:Int)<(m:Int):=by omega
      clear k3
      go_wp2_with (go_at_call 11;((with_reducible refine (HSM.out _ HQB.out).mono ?_);rintro e w2 ⟨⟨b,rfl,hb⟩,hb2⟩;have HB:=Lib.hid hb;clear hb;rcases b with _|_))
      all_goals go_meet
      all_goals exact ⟨⟨_,rfl,fun h=>by cases h⟩,HQB.out.trans (hb2.mono HQB.out.size),cell_bel x0 hb2⟩
     ·have g3:¬ (20:Int)<(m:Int):=by omega
      have H3:Hid (m≤20):=by show m≤20;omega
      clear k3
      go_wp2_with (go_at_call 11;((with_reducible refine (HSM.out _ HQB.out).mono ?_);rintro e w2 ⟨⟨b,rfl,hb⟩,hb2⟩;have HB:=Lib.hid hb;clear hb;rcases b with _|_))
      ·go_meet
       exact ⟨⟨_,rfl,fun h=>by cases h⟩,HQB.out.trans (hb2.mono HQB.out.size),cell_bel x0 hb2⟩
      ·go_meet
       exact ⟨⟨_,rfl,fun _=>⟨HB.out (by first|rfl|trivial),H1.out,H2.out,H3.out⟩⟩,HQB.out.trans (hb2.mono HQB.out.size),cell_bel x0 hb2⟩
  case rest =>
   obtain ⟨⟨b1,rfl,HB⟩,hcut2⟩:=hcut
   rename World=>w2
   have HB1:=Lib.hid hcut2.out.1
   have c0:=hcut2.out.2
   clear hcut2
   clear HSM
   rcases b1 with _|_
   case true =>
    go_wp2_with (go_at_call 8;((with_reducible refine (HLV.out _ HB1.out).mono ?_);rintro e w3 ⟨rfl,hb3⟩))
    go_ret
    exact ⟨rfl,HBX.out.trans ((HB1.out.trans (hb3.mono HB1.out.size)).mono HBX.out.size)⟩
   obtain ⟨hsm,hf20,hm20,hc20⟩:=HB.out rfl
   have hn80:n≤80:=by rw [HN.out];exact hsm.2.1
   have HRI:Hid (rightI l=true):=hsm.1
   have HSO:Hid (∀ w',Below w1.heap.size w1 w'→StOk w' l p n):=fun w' h=>⟨HN.out,by omega,fun e he=>by have:=hsm.2.2 e he;omega,HKW.out,HR.out.below h,HTA.out.1.below h,HTA.out.2.1.below h,HTA.out.2.2.below h⟩
   have hfl20:fr.length≤20:=by rw [←HMF.out];exact hf20
   have hml20:mr.length≤20:=by rw [←HMM.out];exact hm20
   have HBZ:Hid (∀ x∈l,x.b.size≤1048576):=fun e he=>by have:=hsm.2.2 e he;omega
   have HBZ2:Hid (∀ x∈l,x.b.size≤140737488355328):=fun e he=>by have:=hsm.2.2 e he;omega
   have hrw:=rwkF_le (l:=l) (cuts:=[]) (ids:=fr) hsm.2.1 (by omega)
   have hrw2:=rwkF_le (l:=l) (cuts:=srtS cuts) (ids:=fr) hsm.2.1 (by omega)
   have hrn:=rndS_le (l:=l) (cuts:=[]) (ids:=fr) hsm.2.1 (by omega)
   have hrn2:=rndS_le (l:=l) (cuts:=cuts) (ids:=fr) hsm.2.1 (by omega)
   have hrn3:=rndS_le (l:=l) (cuts:=[]) (ids:=fr++mr) hsm.2.1 (by rw [List.length_append];omega)
   have hzl:=reach_len hsm.1 hsm.2.1 (ids:=fr) (by omega)
   have hzm:=miss_len hsm.1 hsm.2.1 (ids:=fr) (by omega)
   obtain ⟨LR,hLR⟩:∃ LR,LR=reachI l fr:=⟨_,rfl⟩
   obtain ⟨z,hz⟩:∃ z,z=LR.length:=⟨_,rfl⟩
   obtain ⟨C,hC⟩:∃ C,C=reachC l fr:=⟨_,rfl⟩
   obtain ⟨LM,hLM⟩:∃ LM,LM=missI l fr:=⟨_,rfl⟩
   obtain ⟨zm,hzmL⟩:∃ zm,zm=LM.length:=⟨_,rfl⟩
   obtain ⟨WB,hWB⟩:∃ WB,WB=wholeI l cuts fr:=⟨_,rfl⟩
   have hfl:∀ x∈fr,x.length≤140737488355328:=HFL.out
   have HRFZ:Hid (∀ w',Below w1.heap.size w1 w'→SRw w' qf fr):=fun w' h=>HRF.out.below h
   have HC1:Hid (∀ w',Below w1.heap.size w1 w'→Calls Tryz.prog 29 #[.agg #[.slice p n c],.slice qf mf cf] w' fun e w''=>(∃ p9 c9,e=.returned (.tuple #[.slice p9 z c9,.int .i64 (C:Int)])∧SRw w'' p9 LR)∧Below w'.heap.size w' w''):=fun w' h =>
    (sreach_any l fr p qf n c mf cf w' (HSO.out w' h) HMF.out (HRFZ.out w' h) hfl (by omega) (by omega)).mono fun e w'' ⟨v,h1,h2,h3⟩=>by
     rw [←hLR] at h2
     rw [←hC] at h1
     obtain ⟨p9,c9,rfl,-,h4⟩:=sow_row h2 hz
     exact ⟨⟨p9,c9,h1,h4⟩,h3⟩
   have HC2:Hid (∀ w',Below w1.heap.size w1 w'→Calls Tryz.prog 30 #[.agg #[.slice p n c],.slice qf mf cf] w' fun e w''=>(∃ p9 c9,e=.returned (.tuple #[.slice p9 z c9,.int .i64 (C:Int)])∧SRw w'' p9 LR)∧Below w'.heap.size w' w''):=fun w' h =>
    (rreach_any l fr p qf n c mf cf w' HRI.out HN.out (HR.out.below h) (by omega) HMF.out (HRFZ.out w' h) HBZ2.out (by omega)).mono fun e w'' ⟨⟨p3,n3,c3,h1,h2,h3⟩,h4⟩=>by
     rw [←hLR,←hz] at h2
     rw [←hC,h2] at h1
     rw [←hLR] at h3
     exact ⟨⟨p3,c3,h1,h3⟩,h4⟩
   have HM1:Hid (∀ w',Below w1.heap.size w1 w'→Calls Tryz.prog 31 #[.agg #[.slice p n c],.slice qf mf cf] w' fun e w''=>(∃ p9 c9,e=.returned (.slice p9 zm c9)∧SRw w'' p9 LM)∧Below w'.heap.size w' w''):=fun w' h =>
    (smissing_any l fr p qf n c mf cf w' (HSO.out w' h) HMF.out (HRFZ.out w' h) hfl (by omega) (by omega)).mono fun e w'' ⟨v,h1,h2,h3⟩=>by
     rw [←hLM] at h2
     obtain ⟨p9,c9,rfl,-,h4⟩:=sow_row h2 hzmL
     exact ⟨⟨p9,c9,h1,h4⟩,h3⟩
   have HM2:Hid (∀ w',Below w1.heap.size w1 w'→Calls Tryz.prog 32 #[.agg #[.slice p n c],.slice qf mf cf] w' fun e w''=>(∃ p9 c9,e=.returned (.slice p9 zm c9)∧SRw w'' p9 LM)∧Below w'.heap.size w' w''):=fun w' h =>
    (rmissing_any l fr p qf n c mf cf w' HRI.out HN.out (HR.out.below h) (by omega) HMF.out (HRFZ.out w' h) HBZ2.out (by omega)).mono fun e w'' ⟨⟨p3,n3,c3,h1,h2,h3⟩,h4⟩=>by
     rw [←hLM,←hzmL] at h2
     rw [h2] at h1
     rw [←hLM] at h3
     exact ⟨⟨p3,c3,h1,h3⟩,h4⟩
   have HW1':Hid (∀ w',Below w1.heap.size w1 w'→Calls Tryz.prog 33 #[.agg #[.slice p n c],.slice q m d,.slice qf mf cf] w' fun e w''=>e=.returned (.bool WB)∧Below w'.heap.size w' w''):=fun w' h=>by
    rw [hWB]
    exact swhole_any l cuts fr p q qf n c m d mf cf w' (HSO.out w' h) HM.out HMF.out (HQ.out.below h) (HRFZ.out w' h) HCL.out hfl (by omega) (by omega) (by omega)
   have HW2':Hid (∀ w',Below w1.heap.size w1 w'→Calls Tryz.prog 34 #[.agg #[.slice p n c],.slice q m d,.slice qf mf cf] w' fun e w''=>e=.returned (.bool WB)∧Below w'.heap.size w' w''):=fun w' h=>by
    rw [hWB]
    exact rwholeS_any l cuts fr p q qf n c m d mf cf w' HRI.out HN.out (HR.out.below h) (by omega) HM.out (HQ.out.below h) (by omega) HMF.out (HRFZ.out w' h) HBZ.out hrw2
   have hz4:z≤200000:=by rw [hz,hLR];exact hzl
   have hzm4:zm≤200000:=by rw [hzmL,hLM];exact hzm
   have HLR:=Lib.hid hLR
   have HZ:=Lib.hid hz
   have HC:=Lib.hid hC
   have HLM:=Lib.hid hLM
   have HZM:=Lib.hid hzmL
   have HSMI:=Lib.hid hsm
   have HRN3:=Lib.hid hrn3
   have HL20:Hid (fr.length≤20∧mr.length≤20):=⟨hfl20,hml20⟩
   clear hLR hz hC hLM hzmL hWB hsm hrw hrw2 hrn hrn2 hrn3 hzl hzm hfl HB hf2 hmm2 hm2 HBZ HBZ2 HCL HQ hfl20 hml20
   clear x0
   go_upto_region 7 with (go_at_call 29;((with_reducible refine (HC1.out _ HB1.out).mono ?_);rintro e w3 ⟨⟨p9,c9,rfl,hr9⟩,hb3⟩))
   replace c0:=cell_bel c0 hb3
   have HB3:=Lib.hid (HB1.out.trans (hb3.mono HB1.out.size))
   have HR9:=Lib.hid hr9
   clear hb3 hr9
   go_upto_region 8 with (go_at_call 30;((with_reducible refine (HC2.out _ HB3.out).mono ?_);rintro e w4 ⟨⟨p11,c11,rfl,hr11⟩,hb4⟩))
   replace c0:=cell_bel c0 hb4
   have HB4:=Lib.hid (HB3.out.trans (hb4.mono HB3.out.size))
   have HR94:=Lib.hid (HR9.out.below hb4)
   have HR114:=Lib.hid hr11
   clear hb4 hr11 HR9 HB3 HC2
   have hS:∀ w',Below w4.heap.size w4 w'→Below w1.heap.size w1 w':=fun w' h=>HB4.out.trans (h.mono HB4.out.size)
   have HLW:Hid (∀ w',(Below w4.heap.size w4 w'∧w'.cell? ⟨S,0,none⟩=some (.slice p n c))→Calls Tryz.prog 8 #[] w' fun e w''=>e=.returned (.bool true)∧Below w'.heap.size w' w''∧Below w4.heap.size w4 w''):=fun w' h=>(HLV.out w' (hS w' h.1)).mono fun e w'' ⟨h1,h2⟩=>⟨h1,h2,h.1.trans (h2.mono h.1.size)⟩
   have HT1:Hid (∀ w',(Below w4.heap.size w4 w'∧w'.cell? ⟨S,0,none⟩=some (.slice p n c))→Calls Tryz.prog 18 #[.slice p9 z c9,.slice p11 z c11] w' fun e w''=>e=.returned (.bool true)∧Below w'.heap.size w' w''∧Below w4.heap.size w4 w''):=fun w' h=>(sametx_any LR LR p9 p11 c9 c11 z z w' HZ.out HZ.out (HR94.out.below h.1) (HR114.out.below h.1) (by omega)).mono fun e w'' ⟨h1,k,h2⟩=>by
    subst h2
    rw [decide_eq_true rfl] at h1
    exact ⟨h1,below_drewN (Below.refl _ _) k,h.1.trans ((below_drewN (Below.refl _ _) k).mono h.1.size)⟩
   have HT2:Hid (∀ w' p1 p2 c1 c2,(Below w4.heap.size w4 w'∧w'.cell? ⟨S,0,none⟩=some (.slice p n c))→SRw w' p1 LM→SRw w' p2 LM→Calls Tryz.prog 18 #[.slice p1 zm c1,.slice p2 zm c2] w' fun e w''=>e=.returned (.bool true)∧Below w'.heap.size w' w''∧Below w4.heap.size w4 w''):=fun w' p1 p2 c1 c2 h hr1 hr2=>(sametx_any LM LM p1 p2 c1 c2 zm zm w' HZM.out HZM.out hr1 hr2 (by omega)).mono fun e w'' ⟨h1,k,h2⟩=>by
    subst h2
    rw [decide_eq_true rfl] at h1
    exact ⟨h1,below_drewN (Below.refl _ _) k,h.1.trans ((below_drewN (Below.refl _ _) k).mono h.1.size)⟩
   have HN1:Hid (∀ w',(Below w4.heap.size w4 w'∧w'.cell? ⟨S,0,none⟩=some (.slice p n c))→Calls Tryz.prog 31 #[.agg #[.slice p n c],.slice qf mf cf] w' fun e w''=>(∃ p9 c9,e=.returned (.slice p9 zm c9)∧SRw w'' p9 LM)∧Below w'.heap.size w' w''∧Below w4.heap.size w4 w''):=fun w' h=>(HM1.out w' (hS w' h.1)).mono fun e w'' ⟨h1,h2⟩=>⟨h1,h2,h.1.trans (h2.mono h.1.size)⟩
   have HN2:Hid (∀ w',(Below w4.heap.size w4 w'∧w'.cell? ⟨S,0,none⟩=some (.slice p n c))→Calls Tryz.prog 32 #[.agg #[.slice p n c],.slice qf mf cf] w' fun e w''=>(∃ p9 c9,e=.returned (.slice p9 zm c9)∧SRw w'' p9 LM)∧Below w'.heap.size w' w''∧Below w4.heap.size w4 w''):=fun w' h=>(HM2.out w' (hS w' h.1)).mono fun e w'' ⟨h1,h2⟩=>⟨h1,h2,h.1.trans (h2.mono h.1.size)⟩
   have HV1:Hid (∀ w',(Below w4.heap.size w4 w'∧w'.cell? ⟨S,0,none⟩=some (.slice p n c))→Calls Tryz.prog 33 #[.agg #[.slice p n c],.slice q m d,.slice qf mf cf] w' fun e w''=>e=.returned (.bool WB)∧Below w'.heap.size w' w''∧Below w4.heap.size w4 w''):=fun w' h=>(HW1'.out w' (hS w' h.1)).mono fun e w'' ⟨h1,h2⟩=>⟨h1,h2,h.1.trans (h2.mono h.1.size)⟩
   have HV2:Hid (∀ w',(Below w4.heap.size w4 w'∧w'.cell? ⟨S,0,none⟩=some (.slice p n c))→Calls Tryz.prog 34 #[.agg #[.slice p n c],.slice q m d,.slice qf mf cf] w' fun e w''=>e=.returned (.bool WB)∧Below w'.heap.size w' w''∧Below w4.heap.size w4 w''):=fun w' h=>(HW2'.out w' (hS w' h.1)).mono fun e w'' ⟨h1,h2⟩=>⟨h1,h2,h.1.trans (h2.mono h.1.size)⟩
   have e1:((C:Int) != (C:Int))=false:=by simp
   have e2:(WB != WB)=false:=by simp
   clear HW1' HW2' HM2 hS HLV
   go_region_held3 (fun w'=>(Below w4.heap.size w4 w'∧w'.cell? ⟨S,0,none⟩=some (.slice p n c))) (first
    | exact keepS1 hb11 (by assumption)
    | exact keepS1 hb10 (by assumption)
    | exact keepS1 hb9 (by assumption)
    | exact keepS1 hb8 (by assumption)
    | exact keepS1 hb7 (by assumption)
    | exact keepS1 hb6 (by assumption)
    | exact keepS1 hb5 (by assumption)
    | exact keepS1 one_drew ⟨Below.refl _ _,c0⟩) (first
    | (go_at_call 8;((with_reducible refine (HLW.out _ (by assumption)).mono ?_);rintro e v5 ⟨rfl,hb5,hd5⟩))
    | (go_at_call 31;((with_reducible refine (HN1.out _ (by assumption)).mono ?_);rintro e v7 ⟨⟨p7,c7,rfl,hr7⟩,hb7,hd7⟩))
    | (go_at_call 32;((with_reducible refine (HN2.out _ (by assumption)).mono ?_);rintro e v8 ⟨⟨p8,c8,rfl,hr8⟩,hb8,hd8⟩;have hr7:=hr7.below hb8))
    | (go_at_call 33;((with_reducible refine (HV1.out _ (by assumption)).mono ?_);rintro e v10 ⟨rfl,hb10,hd10⟩))
    | (go_at_call 34;((with_reducible refine (HV2.out _ (by assumption)).mono ?_);rintro e v11 ⟨rfl,hb11,hd11⟩))
    | (go_at_call 18;first
     | ((with_reducible refine (HT1.out _ (by assumption)).mono ?_);rintro e v6 ⟨rfl,hb6,hd6⟩)
     | ((with_reducible refine (HT2.out _ _ _ _ _ (by assumption) hr7 hr8).mono ?_);rintro e v9 ⟨rfl,hb9,hd9⟩)))
   have HBV:=Lib.hid (HB4.out.trans (hd11.mono HB4.out.size))
   have HR9V:=Lib.hid (HR94.out.below hd11)
   replace c0:=cell_bel c0 hd11
   clear HR94 HR114 HLW HT1 HT2 HN1 HN2 HV1 HV2 e1 e2 hb5 hd5 hb6 hd6 hb7 hd7 hb8 hd8 hb9 hd9 hb10 hd10 hb11 hd11 hr7 hr8 HB4 HC1
   by_cases hC0:C=0
   ·have g5:((C:Int) != 0)=false:=by simp [hC0]
    have hrc:reachC l fr=0:=by rw [←HC.out];exact hC0
    have HSL:Hid (SrtS LR):=by
     show SrtS LR
     rw [HLR.out,(reach_ref HRI.out fr).2.2.1 hrc]
     exact (rwkA_all HRI.out [] fr).1
    have HCLO:Hid (∀ x∈LR,hasI l (str x)=true∧∀ y∈nmR (getI l (str x)).k (getI l (str x)).b.data.toList false,y∈LR):=fun x hx=>by
     rw [HLR.out] at hx ⊢
     exact reach_closed HRI.out hrc hx
    obtain ⟨L2,hL2⟩:∃ L2,L2=reachI l (fr++mr):=⟨_,rfl⟩
    obtain ⟨z2,hz2⟩:∃ z2,z2=L2.length:=⟨_,rfl⟩
    obtain ⟨C2,hC2⟩:∃ C2,C2=reachC l (fr++mr):=⟨_,rfl⟩
    obtain ⟨zz,hzz⟩:∃ zz,zz=(fr++mr).length:=⟨_,rfl⟩
    have hzz2:zz≤40:=by rw [hzz,List.length_append];have:=HL20.out;omega
    have hz2m:z2≤200000:=by
     rw [hz2,hL2]
     exact reach_len HRI.out HSMI.out.2.1 (by rw [←hzz];exact hzz2)
    have HMO:Hid (C2=0→SrtS L2∧∀ x∈LR,x∈L2):=fun h=>by
     have h2:reachC l (fr++mr)=0:=by rw [←hC2];exact h
     refine ⟨?_,fun x hx=>?_⟩
     ·rw [hL2,(reach_ref HRI.out (fr++mr)).2.2.1 h2]
      exact (rwkA_all HRI.out [] (fr++mr)).1
     ·rw [HLR.out] at hx
      rw [hL2]
      exact reach_mono HRI.out (fun y hy=>List.mem_append_left _ hy) hrc h2 hx
    have HC3:Hid (∀ w' pp cc,Below w1.heap.size w1 w'→SRw w' pp (fr++mr)→Calls Tryz.prog 29 #[.agg #[.slice p n c],.slice pp zz cc] w' fun e w''=>(∃ p9 c9,e=.returned (.tuple #[.slice p9 z2 c9,.int .i64 (C2:Int)])∧SRw w'' p9 L2)∧Below w'.heap.size w' w''):=fun w' pp cc h hpp =>
     (sreach_any l (fr++mr) p pp n c zz cc w' (HSO.out w' h) hzz hpp (fun x hx=>(List.mem_append.1 hx).elim (HFL.out x) (HML.out x)) (by omega) (by have:=HRN3.out;omega)).mono fun e w'' ⟨v,h1,h2,h3⟩=>by
      rw [←hL2] at h2
      rw [←hC2] at h1
      obtain ⟨p9,c9,rfl,-,h4⟩:=sow_row h2 hz2
      exact ⟨⟨p9,c9,h1,h4⟩,h3⟩
    have HZ2:=Lib.hid hz2
    have HZZ:=Lib.hid hzz
    clear hL2 hz2 hC2 hzz hrc hC0
    go_wp2_with fail
    go_loopw [13] (fun iv wr=>∃ j:Nat,j≤z∧iv=.int .i64 (j:Int)∧Hid (Below v11.heap.size v11 wr)) (fun iv _=>z-(intOf iv).toNat)
    case atStart=>exact ⟨0,by omega,rfl,Below.refl _ _⟩
    case round =>
     obtain ⟨j,hj,rfl,HBW⟩:=hrel
     have c1:=cell_bel c0 HBW.out
     have HB1W:=Lib.hid (HBV.out.trans (HBW.out.mono HBV.out.size))
     clear c0 g5
     by_cases hlt:j<z
     ·have hjl:j<LR.length:=by rw [←HZ.out];exact hlt
      obtain ⟨g,o,hpe,hg,a0⟩:=HR9V.out.below HBW.out j hjl
      subst hpe
      obtain ⟨x,hx⟩:∃ x,x=LR[j]:=⟨_,rfl⟩
      obtain ⟨s,hs⟩:∃ s,s=str x:=⟨_,rfl⟩
      rw [←hx,←hs] at a0
      obtain ⟨hxh,hcl⟩:=HCLO.out x (by rw [hx];exact List.getElem_mem hjl)
      rw [←hs] at hxh hcl
      have hE0:getE l s=0:=by rw [getE,if_pos hxh]
      have hsz:=getI_sizeW (l:=l) (fun e he=>by have:=HSMI.out.2.2 e he;omega) s
      obtain ⟨⟨xi,xk,xb⟩,hXG⟩:∃ G,G=getI l s:=⟨_,rfl⟩
      rw [←hXG] at hcl hsz
      simp only at hcl hsz
      obtain ⟨NM,hNM⟩:∃ NM,NM=nmR xk xb.data.toList false:=⟨_,rfl⟩
      rw [←hNM] at hcl
      have hnml:NM.length≤1100:=by rw [hNM];exact nmR_len _ _ _
      have q1:(j:Int)<(z:Int):=by omega
      have HRG2:Hid (∀ w',Below wr.heap.size wr w'→Calls Tryz.prog 21 #[.agg #[.slice p n c],.string s] w' fun e w''=>e=.returned (.tuple #[.agg #[.int .i64 xk,.string xb],.int .i64 0])∧Below w'.heap.size w' w''∧Below wr.heap.size wr w''):=fun w' h=>by
       have:=rsget_any l s p n c w' HN.out (HR.out.below (HB1W.out.trans (h.mono HB1W.out.size))) (by omega)
       rw [←hXG,hE0] at this
       exact this.mono fun e w'' ⟨h1,h2⟩=>⟨h1,h2,h.trans (h2.mono h.size)⟩
      have HNC:Hid (∀ w',Calls Tryz.prog 35 #[.agg #[.int .i64 xk,.string xb],.bool false] w' fun e w''=>(∃ p n c,e=.returned (.slice p n c)∧n=NM.length∧n≤c∧SRw w'' p NM)∧Below w'.heap.size w' w''):=fun w'=>by
       rw [hNM]
       exact rnames_any xk xb false w' hsz
      have HCL2:=Lib.hid hcl
      clear hcl hE0 hsz hXG hNM hxh hs hx hg
      go_upto_region 15 with fail
      go_cut [14,15] from 109 to 117 (fun pv ev wx=>∃ O,pv=.pointer (some ⟨O,0,none⟩)∧ev=.int .i64 0∧Hid (wx.heap[O]?=some (.cells #[.int .i64 xk,.string xb] 29 (0,0)))∧Hid (Below wr.heap.size wr wx))
      case first =>
       have za:=fun ob=>cell_bel a0 (below_new (Below.refl wr.heap.size wr) ob)
       have zc:=fun ob=>cell_bel c1 (below_new (Below.refl wr.heap.size wr) ob)
       have zb:=fun ob=>cell_bel (w':=wr.drew.alloc ob) a0 (below_new (Below.refl wr.heap.size wr).drew ob)
       have zd:=fun ob=>cell_bel (w':=wr.drew.alloc ob) c1 (below_new (Below.refl wr.heap.size wr).drew ob)
       go_region_law (go_simp;go_at_call 21;((with_reducible refine (HRG2.out _ (by first|exact Below.refl _ _|exact (Below.refl _ _).drew|exact below_new (Below.refl _ _) _|exact (below_new (Below.refl _ _) _).drew|exact below_new (Below.refl _ _).drew _)).mono ?_);rintro e w5 ⟨rfl,hb5,hd5⟩;first
        | (have hy:=(hb5.block _ (by simp)).trans (heap_alloc_new wr (.cells #[.int .i64 0,.string ⟨#[]⟩] 29));obtain ⟨o0,o1,f0,f1⟩:=ob_at hy)
        | (have hy:=(hb5.block _ (by simp)).trans (heap_alloc_new wr.drew (.cells #[.int .i64 0,.string ⟨#[]⟩] 29));obtain ⟨o0,o1,f0,f1⟩:=ob_at hy)
        | skip))
       all_goals go_wp2_with fail
       all_goals go_meet
       all_goals first
        | exact ⟨_,rfl,rfl,heap_alloc_new _ _,below_new hd5 _⟩
        | exact ⟨_,rfl,rfl,ob_row hy,set2_below hd5 (Nat.le_refl _)⟩
      case rest =>
      obtain ⟨O1,rfl,rfl,HO1,HB5⟩:=hcut
      rename World=>w5
      obtain ⟨p0,p1,-,-⟩:=ob_at HO1.out
      clear HRG2 HO1 a0 c1
      go_upto_region 17 with (go_at_call 35;((with_reducible refine (HNC.out _).mono ?_);rintro e w6 ⟨⟨p6,n6,c6,rfl,hn6,hnc6,hr6⟩,hb6⟩;have HN6:=Lib.hid hn6;have HR6:=Lib.hid hr6;clear hn6 hr6 hnc6))
      have hn6b:n6≤1100:=by rw [HN6.out];exact hnml
      have HBW6:=Lib.hid (HBW.out.trans ((HB5.out.trans (hb6.mono HB5.out.size)).mono HBW.out.size))
      clear HNC p0 p1 hb6 HB5
      go_wp2_with fail
      go_loopw [17] (fun kv wx=>∃ k:Nat,k≤n6∧kv=.int .i64 (k:Int)∧Hid (Below w6.heap.size w6 wx)) (fun kv _=>n6-(intOf kv).toNat)
      case atStart=>exact ⟨0,by omega,rfl,Below.refl _ _⟩
      case round =>
       obtain ⟨k,hk,rfl,HBX6⟩:=hrel
       have HBN:=Lib.hid (HBW6.out.trans (HBX6.out.mono HBW6.out.size))
       by_cases hkn:k<n6
       ·have hkl:k<NM.length:=by rw [←HN6.out];exact hkn
        obtain ⟨g2,o2,hpe2,hg2,b0⟩:=HR6.out.below HBX6.out k hkl
        subst hpe2
        obtain ⟨t,ht⟩:∃ t,t=str NM[k]:=⟨_,rfl⟩
        rw [←ht] at b0
        have q2:(k:Int)<(n6:Int):=by omega
        have hhold:=rholds_any LR t _ z c9 wr HZ.out (HR9V.out.below HBN.out) (by omega)
        have htm:holdsS LR t=true:=by rw [ht];exact (holds_mem HSL.out).2 (HCL2.out _ (List.getElem_mem hkl))
        rw [htm] at hhold
        have HHO:=Lib.hid hhold
        clear hhold ht htm hg2 hkl
        go_wp2_with (go_at_call 36;((with_reducible refine HHO.out.mono ?_);rintro e w8 ⟨rfl,rfl⟩))
        go_roundw
        case rel=>exact ⟨k+1,by omega,by go_num,HBX6.out⟩
        case measure=>simp [intOf];omega
       ·have q2:¬ (k:Int)<(n6:Int):=by omega
        clear hkn
        go_wp2_with fail
        go_roundw
        case rel=>exact ⟨j+1,by omega,by go_num,HBN.out⟩
        case measure=>simp [intOf];omega
     ·have q1:¬ (j:Int)<(z:Int):=by omega
      have HRFW:Hid (∀ w',Below wr.heap.size wr w'→SRw w' qf fr):=fun w' h=>HRFZ.out w' (HB1W.out.trans (h.mono HB1W.out.size))
      have HRMW:Hid (∀ w',Below wr.heap.size wr w'→SRw w' qm mr):=fun w' h=>HRM.out.below (HB1W.out.trans (h.mono HB1W.out.size))
      have HC4:Hid (∀ w' pp cc,Below wr.heap.size wr w'→SRw w' pp (fr++mr)→Calls Tryz.prog 29 #[.agg #[.slice p n c],.slice pp zz cc] w' fun e w''=>(∃ p9 c9,e=.returned (.tuple #[.slice p9 z2 c9,.int .i64 (C2:Int)])∧SRw w'' p9 L2)∧Below wr.heap.size wr w''):=fun w' pp cc h hpp=>(HC3.out w' pp cc (HB1W.out.trans (h.mono HB1W.out.size)) hpp).mono fun e w'' ⟨h1,h2⟩=>⟨h1,h.trans (h2.mono h.size)⟩
      clear hlt HC3
      go_upto_region 24 with fail
      go_cut [18,19] from 135 to 144 (fun mv gv wx=>∃ p18 c18,mv=.slice p18 z2 c18∧gv=.int .i64 (C2:Int)∧Hid (SRw wx p18 L2)∧Hid (Below wr.heap.size wr wx))
      case first =>
       have zc:=fun ob=>cell_bel c1 (below_new (Below.refl wr.heap.size wr) ob)
       have zd:=fun ob=>cell_bel (w':=wr.drew.alloc ob) c1 (below_new (Below.refl wr.heap.size wr).drew ob)
       go_region_law (first
        | (refine step_so_many (by rfl) _ _ (by rfl) (by rfl) (emptyS (base:=wr.heap.size) (g:=wr.heap.size) (Nat.le_refl _) (by first|exact heap_alloc_new wr _|exact heap_alloc_new wr.drew _)) qf mf cf (by rfl) HMF.out (HRFW.out _ (by first|exact below_new (Below.refl _ _) _|exact below_new (Below.refl _ _).drew _|exact (below_new (Below.refl _ _) _).drew|exact (below_new (Below.refl _ _).drew _).drew)) (by have h8:=HL20.out;have h9:=HMF.out;simp;omega) (by simp) ?_;intro v1 wA ho1 hg1 ha1;have hbA:Below wr.heap.size wr wA:=Below.grown (by first|exact below_new (Below.refl _ _) _|exact below_new (Below.refl _ _).drew _|exact (below_new (Below.refl _ _) _).drew|exact (below_new (Below.refl _ _).drew _).drew) hg1 (by simp) (fun k hk=>by cases hk;exact Nat.le_refl _);have cA:=cell_bel c1 hbA)
        | (refine step_so_many (by rfl) _ _ (by rfl) (by rfl) (by first|exact ho1|exact ho1.below (Below.refl _ _).drew) qm mm cm (by rfl) HMM.out (HRMW.out _ (by first|exact hbA|exact hbA.drew)) (by have h8:=HL20.out;have h9:=HMM.out;simp;omega) hbA.size ?_;intro v2 wB ho2 hg2 ha2;have hbB:Below wr.heap.size wr wB:=Below.grown (by first|exact hbA|exact hbA.drew) hg2 hbA.size (fun k hk=>(ho1.lt k hk).1);have cB:=cell_bel c1 hbB;obtain ⟨pp,cc,rfl,-,hrr⟩:=sow_row ho2 (show zz=([]++fr++mr).length from HZZ.out);have hrr2:SRw wB pp (fr++mr):=hrr)
        | (go_simp;go_at_call 29;((with_reducible refine (HC4.out _ _ _ (by first|exact hbB|exact hbB.drew) (by first|exact hrr2|exact hrr2.below (Below.refl _ _).drew)).mono ?_);rintro e wC ⟨⟨p18,c18,rfl,hr18⟩,hb18⟩)))
       all_goals go_wp2_with fail
       all_goals go_meet
       all_goals exact ⟨_,_,rfl,rfl,hr18,hb18⟩
      case rest =>
      obtain ⟨p18,c18,rfl,rfl,HR18,HB18⟩:=hcut
      rename World=>wd
      have HBD:=Lib.hid (HBW.out.trans (HB18.out.mono HBW.out.size))
      clear HC4 HRFW HRMW c1
      by_cases hC2:C2=0
      ·have g7:((C2:Int)==0)=true:=by simp [hC2]
       obtain ⟨hs2,hm2⟩:=HMO.out hC2
       have HS2:=Lib.hid hs2
       have HME:=Lib.hid hm2
       clear hs2 hm2 HMO hC2
       go_wp2_with fail
       go_loopw [20] (fun iv wx=>∃ k:Nat,k≤z∧iv=.int .i64 (k:Int)∧Hid (Below wd.heap.size wd wx)) (fun iv _=>z-(intOf iv).toNat)
       case atStart=>exact ⟨0,by omega,rfl,Below.refl _ _⟩
       case round =>
        obtain ⟨k,hk,rfl,HBX6⟩:=hrel
        have HBN:=Lib.hid (HBD.out.trans (HBX6.out.mono HBD.out.size))
        by_cases hkn:k<z
        ·have hkl:k<LR.length:=by rw [←HZ.out];exact hkn
         obtain ⟨g2,o2,hpe2,hg2,b0⟩:=HR9V.out.below HBN.out k hkl
         subst hpe2
         obtain ⟨t,ht⟩:∃ t,t=str LR[k]:=⟨_,rfl⟩
         rw [←ht] at b0
         have q2:(k:Int)<(z:Int):=by omega
         have hhold:=rholds_any L2 t p18 z2 c18 wr HZ2.out (HR18.out.below HBX6.out) (by omega)
         have htm:holdsS L2 t=true:=by rw [ht];exact (holds_mem HS2.out).2 (HME.out _ (List.getElem_mem hkl))
         rw [htm] at hhold
         have HHO:=Lib.hid hhold
         clear hhold ht htm hg2 hkl
         go_wp2_with (go_at_call 36;((with_reducible refine HHO.out.mono ?_);rintro e w8 ⟨rfl,rfl⟩))
         go_roundw
         case rel=>exact ⟨k+1,by omega,by go_num,HBX6.out⟩
         case measure=>simp [intOf];omega
        ·have q2:¬ (k:Int)<(z:Int):=by omega
         clear hkn
         go_wp2_with fail
         go_ret
         exact ⟨rfl,HBX.out.trans ((HBV.out.trans (HBN.out.mono HBV.out.size)).mono HBX.out.size)⟩
      ·have g7:((C2:Int)==0)=false:=by
        simp only [beq_eq_false_iff_ne,ne_eq]
        omega
       clear hC2 HMO
       go_wp2_with fail
       go_loopw [20] (fun iv wx=>iv=.int .i64 0∧Hid (Below wd.heap.size wd wx)) (fun iv _=>1)
       case atStart=>exact ⟨rfl,Below.refl _ _⟩
       case round =>
        obtain ⟨rfl,HBX6⟩:=hrel
        have HBN:=Lib.hid (HBD.out.trans (HBX6.out.mono HBD.out.size))
        go_wp2_with fail
        go_ret
        exact ⟨rfl,HBX.out.trans ((HBV.out.trans (HBN.out.mono HBV.out.size)).mono HBX.out.size)⟩
   ·have g5:((C:Int) != 0)=true:=by
     simp only [bne_iff_ne,ne_eq]
     omega
    have hpos:=miss_pos HRI.out (ids:=fr) (by rw [←HC.out];exact hC0)
    have HZP:Hid (0<zm):=by show 0<zm;rw [HZM.out,HLM.out];exact hpos
    clear hC0 hpos
    go_wp2_with (go_at_call 31;((with_reducible refine (HM1.out _ HBV.out).mono ?_);rintro e w12 ⟨⟨p12,c12,rfl,hr12⟩,hb12⟩))
    go_ret
    exact ⟨by rw [←decide_eq_true HZP.out];rfl,HBX.out.trans ((HBV.out.trans (hb12.mono HBV.out.size)).mono HBX.out.size)⟩
 ·have g0:((N:Int) != 2)=true:=by
   simp only [bne_iff_ne,ne_eq]
   omega
  go_enter Tryz.func7,Tryz.ntmps7
  go_upto_region 1 with fail
  rw [←HW1.out,←HS.out]
  go_wp2_with (go_at_call 8;((with_reducible refine (HLV.out _ (Below.refl _ _)).mono ?_);rintro e w3 ⟨rfl,hb3⟩))
  go_ret
  exact ⟨rfl,HBX.out.trans (hb3.mono HBX.out.size)⟩
end Go.Proofs.YtnoopcenogbjiaaGreatDoor
