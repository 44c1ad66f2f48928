/-
 The walk of the reference's ringed: it answers something, and leaves what was there.
-/
import Derived.Test.YtnoopcenogbjiaaGreatDoorSoLivesPk
import Derived.Test.YtnoopcenogbjiaaGreatDoorSoValPk
import Derived.StillTailTactics
set_option linter.unusedVariables false
set_option linter.unusedSimpArgs false
namespace Go.Proofs.YtnoopcenogbjiaaGreatDoor
open Go Go.RowKit Go.Maps Go.WideMaps
theorem Tryz.infoSlI:(Tryz.prog.info? 105).map (fun i=>(i.zero,i.size,i.bytes))=some (some (.slice none 0 0),1,24):=by kernel_rfl
theorem Tryz.infoBoolS:(Tryz.prog.info? 4).map (fun i=>(i.zero,i.size,i.bytes))=some (some (.bool false),1,1):=by kernel_rfl
theorem make_slis (n:Nat) (hn:n≤1048576) (w:World):(Instr.makeSlice 133 (.int .i64 (n:Int)) (.int .i64 (n:Int))).run Tryz.prog w=.ok (.slice (some ⟨w.heap.size,0,none⟩) n n) (w.alloc (.cells (fRow n (fun _=>.slice none 0 0)) 105)):=by
 obtain ⟨i0,hi,hz0,hz1,hz2⟩:=info_parts Tryz.infoSlI
 have h:=run_makeSlice (P:=Tryz.prog) w 133 105 i0 (.slice none 0 0) Tryz.underlying133 hi hz0 .i64 .i64 (n:Int) (n:Int) (by omega) (by omega) (by rw [hz1];omega) (by rw [hz2];omega) (by omega)
 rw [hz1] at h
 simp only [Int.toNat_natCast,Nat.mul_one] at h
 rw [←fRow_made]
 exact h
theorem make_bools (n:Nat) (hn:n≤1048576) (w:World):(Instr.makeSlice 134 (.int .i64 (n:Int)) (.int .i64 (n:Int))).run Tryz.prog w=.ok (.slice (some ⟨w.heap.size,0,none⟩) n n) (w.alloc (.cells (fRow n (fun _=>.bool false)) 4)):=by
 obtain ⟨i0,hi,hz0,hz1,hz2⟩:=info_parts Tryz.infoBoolS
 have h:=run_makeSlice (P:=Tryz.prog) w 134 4 i0 (.bool false) Tryz.underlying134 hi hz0 .i64 .i64 (n:Int) (n:Int) (by omega) (by omega) (by rw [hz1];omega) (by rw [hz2];omega) (by omega)
 rw [hz1] at h
 simp only [Int.toNat_natCast,Nat.mul_one] at h
 rw [←fRow_made]
 exact h
theorem SOw.grownI {w w':World} {b1 b2 n:Nat} {v u:Value} {l:List (List UInt8)} {xs:List Value} {o:Obj} (h:SOw w b1 v l) (hu:w.ownsRow b2 3 1 u n xs) (hg:(w.alloc o).grownBy w' u.ownBlock):SOw w' b1 v l:=by
 refine World.ownsRow.kept (World.ownsRow.alloc h o) hg ?_
 rcases h.2 with ⟨rfl,_⟩|⟨g,cap,cur,rfl,_,hg1,_⟩
 ·exact .inl rfl
 ·right
  intro e
  rcases hu.2 with ⟨rfl,_⟩|⟨g',cap',cur',rfl,_,hg2,_⟩
  ·simp [Value.ownBlock] at e
  ·simp only [Value.ownBlock,Option.some.injEq] at e
   subst e
   rw [hg1] at hg2
   simp at hg2
theorem lnkL_len2 (k:Int) (l:List UInt8):(lnkL k l).2.length≤1100:=by
 by_cases h0:bytesE k l=0
 ·rcases bytesE_kinds h0 with rfl|rfl|rfl|rfl
  ·rw [lnkL_1 h0];simp
  ·rw [lnkL_2 h0]
   have h1:=disL_len (trL l).2
   have h2:=trL_len l
   show (disL (trL l).2).length≤1100
   omega
  ·rw [lnkL_3 h0]
   have h1:=disL_len (cmL l).2
   have h2:=cmL_len l
   show (disL (cmL l).2).length≤1100
   omega
  ·rw [lnkL_4 h0,tgL]
   show (if (parG l).1=0 then [(parG l).2.o.data.toList] else []).length≤1100
   split<;>simp
 ·rw [lnkL_err h0];simp
theorem keepR3 {w0 wa wb:World} {a1 a2 b1 b2 c1 c2:Nat} {x y z:Value} (hb:Below wa.heap.size wa wb) (h:Below w0.heap.size w0 wa∧wa.cell? ⟨a1,a2,none⟩=some x∧wa.cell? ⟨b1,b2,none⟩=some y∧wa.cell? ⟨c1,c2,none⟩=some z):Below w0.heap.size w0 wb∧wb.cell? ⟨a1,a2,none⟩=some x∧wb.cell? ⟨b1,b2,none⟩=some y∧wb.cell? ⟨c1,c2,none⟩=some z :=
 ⟨h.1.trans (hb.mono h.1.size),cell_bel h.2.1 hb,cell_bel h.2.2.1 hb,cell_bel h.2.2.2 hb⟩
def moreOf:Value→Nat
 | .bool true=>1
 | _=>0
theorem setF_bool (f:Nat→Bool) (i:Nat) (b:Bool):setF (fun j=>Value.bool (f j)) i (.bool b)=fun j=>.bool (setF f i b j):=by
 funext j
 by_cases e:j=i
 ·subst e;rw [setF_at,setF_at]
 ·rw [setF_ne _ _ e,setF_ne _ _ e]
theorem ring_row {w w':World} {base L N K i:Nat} {vf:Nat→Value} {lf:Nat→List Nat} (h:IRs w base L N K vf lf) (hi:i<N) {v:Value} (hv:vf i=v) {o:Obj} (hg:(w.alloc o).grownBy w' v.ownBlock):FRw w' L N 105 vf :=
 (h.row.below (below_new (Below.refl _ _) o)).grown hg fun e=>by
  rw [←hv] at e
  have:=((h.own i hi).lt L e.symm).1
  have:=h.hL
  omega
set_option maxHeartbeats 16000000 in
set_option maxRecDepth 8000 in
theorem ringed_any (l:List It) (p:Option Addr) (n c:Nat) (w:World) (hn:n=l.length) (hp:ItRw w p l) (hs:∀ x∈l,x.b.size≤140737488355328) (hn2:n≤1000) :
  Calls Tryz.prog 75 #[.agg #[.slice p n c]] w fun e w'=>(∃ b,e=.returned (.bool b))∧Below w.heap.size w w':=by
 obtain ⟨w1,hw1⟩:∃ w1,w1=w.alloc (.cells #[.slice p n c] 24):=⟨_,rfl⟩
 obtain ⟨B,hB⟩:∃ B,B=w.heap.size:=⟨_,rfl⟩
 have hx:w1.heap[B]?=some (.cells #[.slice p n c] 24 (0,0)):=by rw [hw1,hB];exact heap_alloc_new w _
 have hbx:Below w.heap.size w w1:=by rw [hw1];exact below_new (Below.refl _ _) _
 have x0:w1.cell? ⟨B,0,none⟩=some (.slice p n c):=cell_of_row _ _ 0 _ _ _ hx
 obtain ⟨L,hL⟩:∃ L,L=w1.heap.size:=⟨_,rfl⟩
 obtain ⟨w2,hw2⟩:∃ w2,w2=w1.alloc (.cells (fRow n (fun _=>.slice none 0 0)) 105):=⟨_,rfl⟩
 have hfr:FRw w2 L n 105 (fun _=>.slice none 0 0):=by rw [hw2,hL];exact heap_alloc_new w1 _
 have hb2:Below w1.heap.size w1 w2:=by rw [hw2];exact below_new (Below.refl _ _) _
 have hmk:=fun w'=>make_slis n (by omega) w'
 have hmb:=fun w'=>make_bools n (by omega) w'
 have HIR:=Lib.hid (IRs.start (K:=n) hfr)
 have HN:=Lib.hid hn
 have HP:=Lib.hid (hp.below hbx)
 have HS:=Lib.hid hs
 have HBX:=Lib.hid hbx
 have HB2:=Lib.hid hb2
 have HW1:=Lib.hid hw1
 have HW2:=Lib.hid hw2
 have HB:=Lib.hid hB
 have HL:=Lib.hid hL
 clear hn hp hs hbx hw1 hB hx hfr hb2 hw2 hL
 go_enter Tryz.func75,Tryz.ntmps75
 go_upto_region 1 with fail
 rw [←HW1.out,←HB.out]
 go_upto_region 2 with fail
 rw [←HW2.out,←HL.out]
 go_wp2_with fail
 clear hmk
 go_loopw [4] (fun iv wr=>∃ k:Nat,k≤n∧iv=.int .i64 (k:Int)∧Hid (∃ vf lf,IRs wr (L+1) L n n vf lf∧∀ j,k≤j→lf j=[])∧Hid (Below w1.heap.size w1 wr)) (fun iv _=>n-(intOf iv).toNat)
 case atStart=>exact ⟨0,by omega,rfl,⟨_,_,HIR.out,fun _ _=>rfl⟩,HB2.out⟩
 case round =>
  clear HIR
  rename World=>wx
  obtain ⟨k,hk,rfl,HI,HBW⟩:=hrel
  have c0:=cell_bel x0 HBW.out
  by_cases hlt:k<n
  ·have hkl:k<l.length:=by rw [←HN.out];exact hlt
   have q1:(k:Int)<(n:Int):=by omega
   obtain ⟨g,o,hpe,hg,a0,a1,a2⟩:=HP.out.below HBW.out k hkl
   subst hpe
   have hbs:=HS.out _ (List.getElem_mem hkl)
   obtain ⟨e,he⟩:∃ e,e=l[k]:=⟨_,rfl⟩
   rw [←he] at a0 a1 a2 hbs
   obtain ⟨id,kd,bd⟩:=e
   simp only at a0 a1 a2 hbs
   clear he hg hkl
   obtain ⟨⟨K,LL⟩,hq⟩:∃ q,q=lnkL kd bd.data.toList:=⟨_,rfl⟩
   have hlen:=lnkL_len2 kd bd.data.toList
   have hLk:=fun w'=>rlinks_any kd bd w' hbs
   rw [←hq] at hLk hlen
   simp only at hlen
   obtain ⟨m,hm⟩:∃ m,m=LL.length:=⟨_,rfl⟩
   have hLk2:∀ w',Calls Tryz.prog 68 #[.agg #[.int .i64 kd,.string bd]] w' fun e w''=>(∃ q d,e=.returned (.tuple #[.slice q m d,.int .i64 (K:Int)])∧SOw w'' w'.heap.size (.slice q m d) LL)∧Below w'.heap.size w' w'':=fun w'=>(hLk w').mono fun e w'' ⟨⟨v,h1,hv⟩,h2⟩=>by
    obtain ⟨q,d,h3,hr⟩:=hv.rw
    rw [←hm] at h3
    subst h3
    exact ⟨⟨q,d,h1,hv⟩,h2⟩
   have hm2:m≤1100:=by omega
   have HM:=Lib.hid hm
   clear hLk hlen hq hm
   have HLk:Hid (∀ w',(Below wx.heap.size wx w'∧w'.cell? ⟨B,0,none⟩=some (.slice (some ⟨g,o,none⟩) n c)∧w'.cell? ⟨g,o+k*3+1,none⟩=some (.int .i64 kd)∧w'.cell? ⟨g,o+k*3+2,none⟩=some (.string bd))→Calls Tryz.prog 68 #[.agg #[.int .i64 kd,.string bd]] w' fun e w''=>∃ q d,e=.returned (.tuple #[.slice q m d,.int .i64 (K:Int)])∧SOw w'' wx.heap.size (.slice q m d) LL∧Below w'.heap.size w' w''∧Below wx.heap.size wx w''):=fun w' h=>(hLk2 w').mono fun e w'' ⟨⟨q,d,h1,h2⟩,h3⟩=>⟨q,d,h1,h2.mono h.1.size,h3,h.1.trans (h3.mono h.1.size)⟩
   clear hLk2
   go_upto_region 5 with fail
   go_cut [5] from 28 to 43 (fun lv wy=>(∃ q d,lv=.slice q m d∧Hid (SOw wy wx.heap.size (.slice q m d) LL))∧Hid (Below wx.heap.size wx wy))
   case first =>
    go_region_held3 (fun w'=>Below wx.heap.size wx w'∧w'.cell? ⟨B,0,none⟩=some (.slice (some ⟨g,o,none⟩) n c)∧w'.cell? ⟨g,o+k*3+1,none⟩=some (.int .i64 kd)∧w'.cell? ⟨g,o+k*3+2,none⟩=some (.string bd)) (first
     | exact keepR3 hb5 (by assumption)
     | exact keepR3 one_drew ⟨Below.refl _ _,c0,a1,a2⟩) (first
     | (go_at_call 68;((with_reducible refine (HLk.out _ (by assumption)).mono ?_);rintro e v1 ⟨q1,d1,rfl,ho5,hb5,hd5⟩)))
    all_goals go_wp2_with fail
    all_goals go_meet
    all_goals exact ⟨⟨_,_,rfl,ho5⟩,hd5⟩
   case rest =>
   obtain ⟨⟨q,d,rfl,HO5⟩,HD5⟩:=hcut
   rename World=>w5
   have HI5:Hid (∃ vf lf,IRs w5 (L+1) L n n vf lf∧(lf k).length≤0∧∀ j,k+1≤j→lf j=[]):=by
    obtain ⟨vf,lf,h1,h2⟩:=HI.out
    exact ⟨vf,lf,h1.below HD5.out,by rw [h2 k (Nat.le_refl _)];exact Nat.le_refl _,fun j hj=>h2 j (by omega)⟩
   have HB5:=Lib.hid (HBW.out.trans (HD5.out.mono HBW.out.size))
   obtain ⟨Bq,hBq⟩:∃ Bq,Bq=wx.heap.size:=⟨_,rfl⟩
   rw [←hBq] at HO5
   have HBQ:Hid (L<Bq):=by
    obtain ⟨vf,lf,h1,h2⟩:=HI.out
    show L<Bq
    rw [hBq]
    exact row_lt h1.row
   clear HI HBW HLk HD5 hBq a0 a1 a2 c0
   go_wp2_with fail
   go_loopw [7] (fun tv wx=>∃ t:Nat,t≤m∧tv=.int .i64 (t:Int)∧Hid (∃ vf lf,IRs wx (L+1) L n n vf lf∧(lf k).length≤t∧∀ j,k+1≤j→lf j=[])∧Hid (SOw wx Bq (.slice q m d) LL)∧Hid (Below w1.heap.size w1 wx)) (fun tv _=>m-(intOf tv).toNat)
   case atStart=>exact ⟨0,by omega,rfl,HI5.out,HO5.out,HB5.out⟩
   case round =>
    clear HI5 HO5 HB5
    rename World=>wy
    obtain ⟨t,ht,rfl,HJ,HO,HBY⟩:=hrel
    have c0:=cell_bel x0 HBY.out
    by_cases htl:t<m
    ·have htL:t<LL.length:=by rw [←HM.out];exact htl
     have q2:(t:Int)<(m:Int):=by omega
     obtain ⟨_,_,hx1,hr1⟩:=HO.out.rw
     cases hx1
     obtain ⟨g2,o2,rfl,hg2,b9⟩:=hr1 t htL
     obtain ⟨s,hs⟩:∃ s,s=str LL[t]:=⟨_,rfl⟩
     have b0:wy.cell? ⟨g2,o2+t,none⟩=some (.string s):=by rw [hs];exact b9
     obtain ⟨A,hA⟩:∃ A,A=atI l s:=⟨_,rfl⟩
     obtain ⟨H,hH⟩:∃ H,H=hasI l s:=⟨_,rfl⟩
     have hAn:H=true→A<n:=fun h=>by
      rw [hH] at h
      rw [hA,HN.out]
      exact hasI_lt h
     have HPL:Hid (∀ z:BelW wy,Calls Tryz.prog 47 #[.slice (some ⟨g,o,none⟩) n c,.string s] z.w fun e w''=>e=.returned (.tuple #[.int .i64 (A:Int),.bool H])∧∃ y:BelW wy,w''=y.w):=fun z=>by
      rw [hA,hH]
      exact Calls.bel_class ((rplace_any l s (some ⟨g,o,none⟩) n c z.w HN.out ((HP.out.below HBY.out).below z.h) (by omega)).mono fun e w'' ⟨h1,k7,h2⟩=>⟨h1,by rw [h2];exact below_drewN (Below.refl _ _) k7⟩)
     clear b9 hA hH hs hr1 hg2 htL
     have k0:∀ z:BelW wy,z.w.cell? ⟨B,0,none⟩=some (.slice (some ⟨g,o,none⟩) n c):=fun z=>cell_bel c0 z.h
     have k1:∀ z:BelW wy,z.w.cell? ⟨g2,o2+t,none⟩=some (.string s):=fun z=>cell_bel b0 z.h
     have hqn:Nonempty (BelW wy):=⟨⟨wy,Below.refl _ _⟩⟩
     go_upto_region 9 with fail
     clear b0 c0
     refine wp_region_bel (w0:=wy) (Below.refl _ _) (by kernel_rfl) (by kernel_rfl) ?_
     repeat (go_big_quiet_step (first
      | (go_at_call 47;(with_reducible exact HPL.out _))))
     refine wpQuiet_nil ?_
     rintro _ ⟨zz,rfl⟩
     have hbk:=zz.h
     have HJ7:Hid (∃ vf lf,IRs zz.w (L+1) L n n vf lf∧(lf k).length≤t∧∀ j,k+1≤j→lf j=[]):=by
      obtain ⟨vf,lf,h1,h2⟩:=HJ.out
      exact ⟨vf,lf,h1.below hbk,h2⟩
     have HO7:=Lib.hid (HO.out.below hbk)
     have HB7:=Lib.hid (HBY.out.trans (hbk.mono HBY.out.size))
     obtain ⟨w7,hw7⟩:∃ w7,w7=zz.w:=⟨_,rfl⟩
     rw [←hw7] at HJ7 HO7 HB7 ⊢
     clear k0 k1 hqn HPL HJ HO HBY hbk hw7 zz
     rcases H with _|_
     ·clear hAn
      go_wp2_with fail
      go_roundw
      case rel =>
       obtain ⟨vf,lf,h1,h2,h3⟩:=HJ7.out
       exact ⟨t+1,by omega,by go_num,⟨vf,lf,h1,by omega,h3⟩,HO7.out,HB7.out⟩
      case measure=>simp [intOf];omega
     ·have hA2:=hAn rfl
      clear hAn
      obtain ⟨vf,lf,hI7,h2,h3⟩:=HJ7.out
      have HI7:=Lib.hid hI7
      have H2:=Lib.hid h2
      have H3:=Lib.hid h3
      have hls:L<w7.heap.size:=row_lt HI7.out.row
      have HLS:Hid (L+1≤w7.heap.size):=hls
      have HLB:Hid (w1.heap.size≤L):=by show _≤L;rw [HL.out];exact Nat.le_refl _
      clear HJ7 hI7 h2 h3 hls
      obtain ⟨pv,cv,hv,-⟩:=HI7.out.form hlt
      have hown:=HI7.out.own k hlt
      have r0:=HI7.out.row.at hlt
      rw [hv] at hown r0
      obtain ⟨lk,hlk⟩:∃ lk,lk=lf k:=⟨_,rfl⟩
      rw [←hlk] at hown r0 hv
      have hz:lk.length≤t:=by rw [hlk];exact H2.out
      obtain ⟨z,hz2⟩:∃ z,z=lk.length:=⟨_,rfl⟩
      rw [←hz2] at hv r0 hown hz
      have HV:=Lib.hid hv
      have HLK:=Lib.hid hlk
      have HZ2:=Lib.hid hz2
      have HOWN:=Lib.hid hown
      clear hv hlk hz2 hown
      go_wp2_with (at_builtin;refine wp_in_one rfl _ _ rfl rfl (v:=.slice pv z cv) (l:=lk) (by rw [←HZ2.out];exact HOWN.out) A rfl (by rw [←HZ2.out];omega) HLS.out ?_;intro v8 w8 h8 g8 t8;obtain ⟨g9,cap9,rfl,_,_⟩:=h8.form (by omega);have H8:=Lib.hid h8;have G8:=Lib.hid g8;have T8:=Lib.hid t8;have HR8:=Lib.hid (ring_row HI7.out hlt HV.out g8);have f8:=HR8.out.at hlt;have z8:=HR8.out.fz k;clear h8 g8 t8)
      go_roundw
      case rel =>
       have g8:=G8.out
       have t8:=T8.out
       have h8:=H8.out
       rw [←HV.out] at g8 t8
       rw [HLK.out] at h8
       have hI8:=HI7.out.app hlt hA2 h8 g8 t8
       rw [←HLK.out] at hI8
       refine ⟨t+1,by omega,by go_num,⟨_,_,hI8,?_,fun j hj=>?_⟩,?_,?_⟩
       ·rw [setF_at,List.length_append]
        have:=HZ2.out
        simp
        omega
       ·rw [setF_ne _ _ (by omega)]
        exact H3.out j hj
       ·refine ownsRow_setCell_other (a:=⟨L,k,none⟩) (HO7.out.grownI (HI7.out.own k hlt) g8) (fun e=>?_) _
        have h1:=(HO7.out.lt L e).1
        have h2:=HBQ.out
        omega
       ·exact (app_step HB7.out (HI7.out.own k hlt) g8 (by have:=HLB.out;omega) (by have:=HLB.out;have:=HLS.out;omega)).setCell (p:=⟨L,k,none⟩) HLB.out _
      case measure=>simp [intOf];omega
    ·obtain rfl:m=t:=by omega
     go_wp2_with fail
     go_roundw
     case rel =>
      obtain ⟨vf,lf,h1,h2,h3⟩:=HJ.out
      exact ⟨k+1,by omega,by go_num,⟨vf,lf,h1,h3⟩,HBY.out⟩
     case measure=>simp [intOf];omega
  ·obtain rfl:n=k:=by omega
   obtain ⟨vf,lf,hI,-⟩:=HI.out
   obtain ⟨D,hD⟩:∃ D,D=wx.heap.size:=⟨_,rfl⟩
   obtain ⟨w3,hw3⟩:∃ w3,w3=wx.alloc (.cells (fRow n (fun _=>.bool false)) 4):=⟨_,rfl⟩
   have hfd:FRw w3 D n 4 (fun _=>.bool false):=by rw [hw3,hD];exact heap_alloc_new wx _
   have hb3:Below wx.heap.size wx w3:=by rw [hw3];exact below_new (Below.refl _ _) _
   have HIR:=Lib.hid hI
   have HFD:=Lib.hid hfd
   have HB3:=Lib.hid hb3
   have HW3:=Lib.hid hw3
   have HD:=Lib.hid hD
   have HDL:Hid (wx.heap.size≤D):=by show _≤D;rw [hD];exact Nat.le_refl _
   have e0:=cell_bel c0 hb3
   clear HI hI hfd hb3 hw3 hD hlt
   go_upto_region 13 with fail
   rw [←HW3.out,←HD.out]
   clear c0 hmb
   go_wp2_with fail
   clear e0
   go_loopw [11,12] (fun lv mv w9=>∃ (bf:Nat→Bool) (M:Bool),lv=.int .i64 (cntN bf n:Int)∧mv=.bool M∧Hid (FRw w9 D n 4 (fun j=>.bool (bf j)))∧Hid (Below wx.heap.size wx w9)) (fun lv mv _=>moreOf mv*((intOf lv).toNat+1))
   case atStart=>exact ⟨fun _=>false,true,by rw [cntN_false],rfl,HFD.out,HB3.out⟩
   case round =>
    clear HFD HB3
    obtain ⟨bf,M,rfl,rfl,HF,HBY⟩:=hrel
    obtain ⟨C,hC⟩:∃ C,C=cntN bf n:=⟨_,rfl⟩
    rw [←hC]
    have HC:=Lib.hid hC
    have HCN:Hid (C≤n):=by show C≤n;rw [hC];exact cntN_le _ _
    clear hC
    rcases M with _|_
    ·go_wp2_with fail
     go_ret
     exact ⟨⟨_,rfl⟩,HBX.out.trans ((HBW.out.trans (HBY.out.mono HBW.out.size)).mono HBX.out.size)⟩
    ·go_wp2_with fail
     go_loopw [11,12,13] (fun lv mv iv wy=>∃ (b2:Nat→Bool) (M:Bool) (i:Nat),i≤n∧lv=.int .i64 (cntN b2 n:Int)∧mv=.bool M∧iv=.int .i64 (i:Int)∧Hid (cntN b2 n+(if M=true then 1 else 0)≤C)∧Hid (FRw wy D n 4 (fun j=>.bool (b2 j)))∧Hid (Below wx.heap.size wx wy)) (fun _ _ iv _=>n-(intOf iv).toNat)
     case atStart=>exact ⟨bf,false,0,by omega,by rw [←HC.out],rfl,rfl,by show cntN bf n+_≤C;rw [HC.out];simp,HF.out,HBY.out⟩
     case round =>
      clear HF HBY
      rename World=>wy
      obtain ⟨b2,M,i,hi,rfl,rfl,rfl,HS2,HF,HBY⟩:=hrel
      obtain ⟨C2,hC2⟩:∃ C2,C2=cntN b2 n:=⟨_,rfl⟩
      rw [←hC2]
      have HC2:=Lib.hid hC2
      have hCN2:C2≤n:=by rw [hC2];exact cntN_le _ _
      clear hC2
      by_cases hin:i<n
      ·have q3:(i:Int)<(n:Int):=by omega
       have HIY:=Lib.hid (HIR.out.below HBY.out)
       obtain ⟨pv,cv,hv,hcs⟩:=HIY.out.form hin
       have r0:=HIY.out.row.at hin
       rw [hv] at r0
       obtain ⟨z,hz⟩:∃ z,z=(lf i).length:=⟨_,rfl⟩
       rw [←hz] at r0
       have d0:=HF.out.at hin
       have hzb:z≤9223372036854775807:=by rw [hz];exact HIY.out.len hin
       have HZ:=Lib.hid hz
       have HCS:=Lib.hid hcs
       clear hv hcs hz
       go_wp2_with fail
       go_loopw [14,15] (fun ev tv wz=>∃ (E:Bool) (t:Nat),t≤z∧ev=.bool E∧tv=.int .i64 (t:Int)∧Hid (E=true→b2 i=false)∧Hid (wz=wy)) (fun _ tv _=>z-(intOf tv).toNat)
       case atStart=>exact ⟨_,0,by omega,rfl,rfl,fun h=>by simpa using h,rfl⟩
       case round =>
        obtain ⟨E,t,ht,rfl,rfl,HE,HWZ⟩:=hrel
        obtain rfl:=HWZ.out
        clear HWZ
        by_cases htz:t<z
        ·have q4:(t:Int)<(z:Int):=by omega
         rcases E with _|_
         ·go_wp2_with fail
          go_roundw
          case rel=>exact ⟨b2,M,i+1,by omega,by rw [←HC2.out],rfl,by go_num,HS2.out,HF.out,HBY.out⟩
          case measure=>simp [intOf];omega
         ·obtain ⟨g,rfl,a0⟩:=HCS.out t (by rw [←HZ.out];exact htz)
          obtain ⟨y,hy⟩:∃ y,y=(lf i)[t]'(by rw [←HZ.out];exact htz):=⟨_,rfl⟩
          rw [←hy] at a0
          have hyn:y<n:=HIY.out.lt i hin y (by rw [hy];exact List.getElem_mem _)
          have q5:(y:Int)<(n:Int):=by omega
          have d1:=HF.out.at hyn
          clear hy
          go_wp2_with fail
          go_roundw
          case rel=>exact ⟨b2 y,t+1,by omega,rfl,by go_num,fun _=>HE.out rfl,(by first|exact rfl|trivial)⟩
          case measure=>simp [intOf];omega
        ·obtain rfl:z=t:=by omega
         rcases E with _|_
         ·go_wp2_with fail
          go_roundw
          case rel=>exact ⟨b2,M,i+1,by omega,by rw [←HC2.out],rfl,by go_num,HS2.out,HF.out,HBY.out⟩
          case measure=>simp [intOf];omega
         ·have z0:=HF.out.fz i
          have HSET:=Lib.hid (cntN_set b2 i (HE.out rfl) n hin)
          have hC1:1≤C2:=by rw [HC2.out,←HSET.out];omega
          go_wp2_with fail
          go_roundw
          case rel =>
           refine ⟨setF b2 i true,true,i+1,by omega,?_,rfl,by go_num,?_,?_,HBY.out.setCell (p:=⟨D,i,none⟩) HDL.out _⟩
           ·have h1:=HSET.out
            have h2:=HC2.out
            have h3:(C2:Int)-1=(cntN (setF b2 i true) n:Int):=by omega
            rw [h3]
           ·have h1:=HSET.out
            have h2:=HC2.out
            have h3:=HS2.out
            show _≤C
            rw [if_pos rfl]
            have h4:cntN b2 n≤C:=Nat.le_trans (Nat.le_add_right _ _) h3
            omega
           ·have h:=HF.out.set i (.bool true)
            rw [setF_bool] at h
            exact h
          case measure=>simp [intOf];omega
      ·obtain rfl:n=i:=by omega
       go_wp2_with fail
       go_roundw
       case rel=>exact ⟨b2,M,by rw [←HC2.out],rfl,HF.out,HBY.out⟩
       case measure =>
        have h1:=HS2.out
        rw [←HC2.out] at h1
        rcases M with _|_
        ·simp [intOf,moreOf]
        ·simp at h1
         simp [intOf,moreOf]
         omega
theorem Tryz.infoSlE:(Tryz.prog.info? 74).map (fun i=>(i.zero,i.size,i.bytes))=some (some (.slice none 0 0),1,24):=by kernel_rfl
theorem make_sles (n:Nat) (hn:n≤1048576) (w:World):(Instr.makeSlice 104 (.int .i64 (n:Int)) (.int .i64 (n:Int))).run Tryz.prog w=.ok (.slice (some ⟨w.heap.size,0,none⟩) n n) (w.alloc (.cells (fRow n (fun _=>.slice none 0 0)) 74)):=by
 obtain ⟨i0,hi,hz0,hz1,hz2⟩:=info_parts Tryz.infoSlE
 have h:=run_makeSlice (P:=Tryz.prog) w 104 74 i0 (.slice none 0 0) Tryz.underlying104 hi hz0 .i64 .i64 (n:Int) (n:Int) (by omega) (by omega) (by rw [hz1];omega) (by rw [hz2];omega) (by omega)
 rw [hz1] at h
 simp only [Int.toNat_natCast,Nat.mul_one] at h
 rw [←fRow_made]
 exact h
theorem make_intsF (n:Nat) (hn:n≤1048576) (w:World):(Instr.makeSlice 105 (.int .i64 (n:Int)) (.int .i64 (n:Int))).run Tryz.prog w=.ok (.slice (some ⟨w.heap.size,0,none⟩) n n) (w.alloc (.cells (fRow n (fun _=>.int .i64 0)) 3)):=by
 obtain ⟨i0,hi,hz0,hz1,hz2⟩:=info_parts Tryz.infoIntS
 have h:=run_makeSlice (P:=Tryz.prog) w 105 3 i0 (.int .i64 0) Tryz.underlying105 hi hz0 .i64 .i64 (n:Int) (n:Int) (by omega) (by omega) (by rw [hz1];omega) (by rw [hz2];omega) (by omega)
 rw [hz1] at h
 simp only [Int.toNat_natCast,Nat.mul_one] at h
 rw [←fRow_made]
 exact h
theorem setF_int (f:Nat→Nat) (i v:Nat):setF (fun j=>Value.int .i64 (f j:Int)) i (.int .i64 (v:Int))=fun j=>.int .i64 ((setF f i v j:Nat):Int):=by
 funext j
 by_cases e:j=i
 ·subst e;rw [setF_at,setF_at]
 ·rw [setF_ne _ _ e,setF_ne _ _ e]
structure ELs (w:World) (L N:Nat) (vf:Nat→Value) (es:Nat→List En):Prop where
 row:FRw w L N 74 vf
 own:∀ i,i<N→∃ p c,vf i=.slice p (es i).length c∧NRw w p (es i)∧(es i).length≤1048576
section
variable {w w':World} {L N:Nat} {vf:Nat→Value} {es:Nat→List En}
theorem ELs.below (h:ELs w L N vf es) (hb:Below w.heap.size w w'):ELs w' L N vf es :=
 ⟨h.row.below hb,fun i hi=>by
  obtain ⟨p,c,h1,h2,h3⟩:=h.own i hi
  exact ⟨p,c,h1,h2.below hb,h3⟩⟩
theorem ELs.start (hr:FRw w L N 74 (fun _=>.slice none 0 0)):ELs w L N (fun _=>.slice none 0 0) (fun _=>[]) :=
 ⟨hr,fun _ _=>⟨none,0,rfl,fun k hk=>absurd hk (Nat.not_lt_zero _),Nat.zero_le _⟩⟩
theorem ELs.far (h:ELs w L N vf es) {p:Option Addr} {l:List En} (hr:NRw w p l) (i:Nat) (v:Value):NRw (w.setCell ⟨L,i,none⟩ v) p l:=fun k hk=>by
 obtain ⟨g,o,rfl,hg,a0,a1,a2⟩:=hr k hk
 have hne:g≠L:=fun e=>by
  subst e
  rw [cell_of_row _ _ _ _ _ _ h.row] at a0
  by_cases hj:o+k*3<N
  ·rw [fRow_at hj] at a0
   obtain ⟨p,c,h1,_⟩:=h.own _ hj
   rw [h1] at a0
   cases a0
  ·rw [Array.getElem?_eq_none (by rw [fRow_size];omega)] at a0
   cases a0
 have keep:∀ j,(w.setCell ⟨L,i,none⟩ v).cell? ⟨g,j,none⟩=w.cell? ⟨g,j,none⟩:=fun j=>World.cell?_of_block (a:=⟨g,j,none⟩) (Below.heap_setCell w ⟨L,i,none⟩ v g hne)
 exact ⟨g,o,rfl,by simpa using hg,(keep _).trans a0,(keep _).trans a1,(keep _).trans a2⟩
theorem ELs.set (h:ELs w L N vf es) {i:Nat} {p:Option Addr} {l:List En} {c:Nat} (hr:NRw w p l) (hl:l.length≤1048576):ELs (w.setCell ⟨L,i,none⟩ (.slice p l.length c)) L N (setF vf i (.slice p l.length c)) (setF es i l) :=
 ⟨h.row.set i _,fun j hj=>by
  by_cases e:j=i
  ·subst e
   rw [setF_at,setF_at]
   exact ⟨p,c,rfl,h.far hr j _,hl⟩
  ·rw [setF_ne _ _ e,setF_ne _ _ e]
   obtain ⟨p',c',h1,h2,h3⟩:=h.own j hj
   exact ⟨p',c',h1,h.far h2 i _,h3⟩⟩
end
set_option maxHeartbeats 16000000 in
set_option maxRecDepth 8000 in
theorem calm_any (l:List It) (p:Option Addr) (n c:Nat) (w:World) (hn:n=l.length) (hp:ItRw w p l) (hs:∀ x∈l,x.b.size≤1048576) (hn2:n≤1000) :
  Calls Tryz.prog 42 #[.agg #[.slice p n c]] w fun e w'=>(∃ b,e=.returned (.bool b))∧Below w.heap.size w w':=by
 obtain ⟨w1,hw1⟩:∃ w1,w1=w.alloc (.cells #[.slice p n c] 24):=⟨_,rfl⟩
 obtain ⟨B,hB⟩:∃ B,B=w.heap.size:=⟨_,rfl⟩
 have hx:w1.heap[B]?=some (.cells #[.slice p n c] 24 (0,0)):=by rw [hw1,hB];exact heap_alloc_new w _
 have hbx:Below w.heap.size w w1:=by rw [hw1];exact below_new (Below.refl _ _) _
 have x0:w1.cell? ⟨B,0,none⟩=some (.slice p n c):=cell_of_row _ _ 0 _ _ _ hx
 have HRG:=Lib.hid (ringed_any l p n c w1 hn (hp.below hbx) (fun x hx=>Nat.le_trans (hs x hx) (by decide)) hn2)
 have hmk:=fun w'=>make_sles n (by omega) w'
 have hmi:=fun w'=>make_intsF n (by omega) w'
 have HN:=Lib.hid hn
 have HP:=Lib.hid (hp.below hbx)
 have HS:=Lib.hid hs
 have HBX:=Lib.hid hbx
 have HW1:=Lib.hid hw1
 have HB:=Lib.hid hB
 clear hn hp hs hbx hw1 hB hx
 go_enter Tryz.func42,Tryz.ntmps42
 go_upto_region 1 with fail
 rw [←HW1.out,←HB.out]
 go_cut [13] from 12 to 13 (fun v wx=>(∃ b,v=.bool b)∧Hid (Below w1.heap.size w1 wx))
 case first =>
  go_wp2_with (go_at_call 75;((with_reducible refine HRG.out.mono ?_);rintro e w2 ⟨⟨b,rfl⟩,hb2⟩))
  go_meet
  exact ⟨⟨b,rfl⟩,hb2⟩
 case rest =>
  obtain ⟨⟨b,rfl⟩,HB1⟩:=hcut
  rename World=>w0
  clear HRG
  have y0:=cell_bel x0 HB1.out
  clear x0
  rcases b with _|_
  case true =>
   go_wp2_with fail
   go_ret
   exact ⟨⟨_,rfl⟩,HBX.out.trans (HB1.out.mono HBX.out.size)⟩
  obtain ⟨L,hL⟩:∃ L,L=w0.heap.size:=⟨_,rfl⟩
  obtain ⟨w2,hw2⟩:∃ w2,w2=w0.alloc (.cells (fRow n (fun _=>.slice none 0 0)) 74):=⟨_,rfl⟩
  have hfr:FRw w2 L n 74 (fun _=>.slice none 0 0):=by rw [hw2,hL];exact heap_alloc_new w0 _
  have hb2:Below w0.heap.size w0 w2:=by rw [hw2];exact below_new (Below.refl _ _) _
  have HES:=Lib.hid (ELs.start hfr)
  have HB2:=Lib.hid hb2
  have HW2:=Lib.hid hw2
  have HL:=Lib.hid hL
  have HLL:Hid (w0.heap.size≤L):=by show _≤L;rw [hL];exact Nat.le_refl _
  clear hfr hb2 hw2 hL
  go_upto_region 4 with fail
  rw [←HW2.out,←HL.out]
  go_wp2_with fail
  clear hmk
  go_loopw [4] (fun iv wr=>∃ k:Nat,k≤n∧iv=.int .i64 (k:Int)∧Hid (∃ vf es,ELs wr L n vf es)∧Hid (Below w0.heap.size w0 wr)) (fun iv _=>n-(intOf iv).toNat)
  case atStart=>exact ⟨0,by omega,rfl,⟨_,_,HES.out⟩,HB2.out⟩
  case round =>
   clear HES HB2
   rename World=>wa
   obtain ⟨k,hk,rfl,HI,HBW⟩:=hrel
   have c0:=cell_bel y0 HBW.out
   have HBV:=Lib.hid (HB1.out.trans (HBW.out.mono HB1.out.size))
   by_cases hlt:k<n
   ·have hkl:k<l.length:=by rw [←HN.out];exact hlt
    have q1:(k:Int)<(n:Int):=by omega
    obtain ⟨g,o,hpe,hg,a0,a1,a2⟩:=HP.out.below HBV.out k hkl
    subst hpe
    have hbs:=HS.out _ (List.getElem_mem hkl)
    obtain ⟨e,he⟩:∃ e,e=l[k]:=⟨_,rfl⟩
    rw [←he] at a0 a1 a2 hbs
    obtain ⟨id,kd,bd⟩:=e
    simp only at a0 a1 a2 hbs
    clear he hg hkl
    obtain ⟨vf,es,hE⟩:=HI.out
    have HE:=Lib.hid hE
    clear hE HI
    by_cases hk2:kd=2
    ·subst hk2
     obtain ⟨⟨K,E⟩,hq⟩:∃ q,q=parE bd.data.toList:=⟨_,rfl⟩
     have hlen:=parE_len bd.data.toList
     have hpa:=trparse_any bd wa hbs
     rw [←hq] at hpa hlen
     simp only at hlen
     obtain ⟨m,hm⟩:∃ m,m=E.length:=⟨_,rfl⟩
     have hpa2:Calls Tryz.prog 50 #[.string bd] wa fun e w''=>(∃ q d,e=.returned (.tuple #[.slice q m d,.int .i64 (K:Int)])∧NRw w'' q E)∧Below wa.heap.size wa w'':=hpa.mono fun e w'' ⟨⟨v,h1,q,d,h2,h3,h4⟩,h5⟩=>by
      rw [h2] at h1
      simp only [←hm] at h1
      exact ⟨⟨q,d,h1,h4⟩,h5⟩
     have HPA:=Lib.hid hpa2
     have HM:=Lib.hid hm
     have HLN:=Lib.hid hlen
     clear hpa hpa2 hq hm hlen
     go_wp2_with (go_at_call 50;((with_reducible refine HPA.out.mono ?_);rintro e w5 ⟨⟨q,d,rfl,hr⟩,hb5⟩;have HR5:=Lib.hid (HE.out.row.below hb5);have f5:=HR5.out.at hlt;have z5:=HR5.out.fz k))
     go_roundw
     case rel =>
      have h:=(HE.out.below hb5).set (i:=k) (c:=d) hr (by have:=HLN.out;omega)
      rw [←HM.out] at h
      exact ⟨k+1,by omega,by go_num,⟨_,_,h⟩,(HBW.out.trans (hb5.mono HBW.out.size)).setCell (p:=⟨L,k,none⟩) HLL.out _⟩
     case measure=>simp [intOf];omega
    ·have g2:(kd==2)=false:=by simp [hk2]
     clear hk2
     go_wp2_with fail
     go_roundw
     case rel=>exact ⟨k+1,by omega,by go_num,⟨_,_,HE.out⟩,HBW.out⟩
     case measure=>simp [intOf];omega
   ·obtain rfl:n=k:=by omega
    obtain ⟨vf,es,hE⟩:=HI.out
    obtain ⟨M,hM⟩:∃ M,M=wa.heap.size:=⟨_,rfl⟩
    obtain ⟨w3,hw3⟩:∃ w3,w3=wa.alloc (.cells (fRow n (fun _=>.int .i64 0)) 3):=⟨_,rfl⟩
    have hfd:FRw w3 M n 3 (fun _=>.int .i64 0):=by rw [hw3,hM];exact heap_alloc_new wa _
    have hb3:Below wa.heap.size wa w3:=by rw [hw3];exact below_new (Below.refl _ _) _
    have HE:=Lib.hid hE
    have HFD:=Lib.hid hfd
    have HB3:=Lib.hid hb3
    have HW3:=Lib.hid hw3
    have HM:=Lib.hid hM
    have HML:Hid (wa.heap.size≤M):=by show _≤M;rw [hM];exact Nat.le_refl _
    clear HI hE hfd hb3 hw3 hM hlt
    go_upto_region 10 with fail
    rw [←HW3.out,←HM.out]
    clear hmi
    go_wp2_with fail
    go_loopg [6] (leftM (fun _=>0) n+2) (fun k mv wx=>∃ (mf:Nat→Nat) (Mo:Bool),mv=.bool Mo∧Hid (OkM l n es mf)∧Hid ((if Mo=true then leftM mf n+1 else 0)<k)∧Hid (FRw wx M n 3 (fun j=>.int .i64 (mf j:Int)))∧Hid (Below wa.heap.size wa wx))
    case atStart=>exact ⟨fun _=>0,true,rfl,OkM.start l n es,by show (if true=true then _ else _)<_;rw [if_pos rfl];omega,by have h:=HFD.out;exact h,HB3.out⟩
    case round =>
     clear HFD HB3
     rename World=>wx
     obtain ⟨mf,Mo,rfl,HOK,HPH,HF,HBY⟩:=hrel
     rcases Mo with _|_
     ·go_wp2_with fail
      go_ret
      exact ⟨⟨_,rfl⟩,HBX.out.trans ((HBV.out.trans (HBY.out.mono HBV.out.size)).mono HBX.out.size)⟩
     ·obtain ⟨C,hC⟩:∃ C,C=leftM mf n:=⟨_,rfl⟩
      have HC:=Lib.hid hC
      clear hC
      go_wp2_with fail
      go_loopw [6,7] (fun mv iv wy=>∃ (m2:Nat→Nat) (Mo:Bool) (i:Nat),i≤n∧mv=.bool Mo∧iv=.int .i64 (i:Int)∧Hid (OkM l n es m2)∧Hid (leftM m2 n+(if Mo=true then 1 else 0)≤C)∧Hid (FRw wy M n 3 (fun j=>.int .i64 (m2 j:Int)))∧Hid (Below wa.heap.size wa wy)) (fun _ iv _=>n-(intOf iv).toNat)
      case atStart=>exact ⟨mf,false,0,by omega,rfl,rfl,HOK.out,by show leftM mf n+_≤C;rw [HC.out];simp,HF.out,HBY.out⟩
      case round =>
       clear HF HBY HOK
       rename World=>wy
       obtain ⟨m2,Mo,i,hi,rfl,rfl,HOK,HLE,HF,HBY⟩:=hrel
       have HBZ:=Lib.hid (HBV.out.trans (HBY.out.mono HBV.out.size))
       have e0:=cell_bel y0 (HBW.out.trans (HBY.out.mono HBW.out.size))
       by_cases hin:i<n
       ·have q3:(i:Int)<(n:Int):=by omega
        have hEY:=HE.out.below HBY.out
        obtain ⟨pv,cv,hv,hnr,hzl⟩:=hEY.own i hin
        have r0:=hEY.row.at hin
        rw [hv] at r0
        obtain ⟨E,hE⟩:∃ E,E=es i:=⟨_,rfl⟩
        rw [←hE] at r0 hnr hzl
        obtain ⟨z,hz⟩:∃ z,z=E.length:=⟨_,rfl⟩
        rw [←hz] at r0 hzl
        have d0:=HF.out.at hin
        obtain ⟨v0,hv0⟩:∃ v0,v0=m2 i:=⟨_,rfl⟩
        rw [←hv0] at d0
        have HV0:=Lib.hid hv0
        have HNR:=Lib.hid hnr
        have HZ:=Lib.hid hz
        have HEE:=Lib.hid hE
        clear hv hnr hE hz hEY hv0
        go_wp2_with fail
        go_loopw [8,9] (fun nv tv wz=>∃ t:Nat,t≤z∧nv=.int .i64 (sumE l m2 (E.take t):Int)∧tv=.int .i64 (t:Int)∧Hid (Below wy.heap.size wy wz)) (fun _ tv _=>z-(intOf tv).toNat)
        case atStart=>exact ⟨0,by omega,by simp [sumE],rfl,Below.refl _ _⟩
        case round =>
         rename World=>wz
         obtain ⟨t,ht,rfl,rfl,HBT⟩:=hrel
         obtain ⟨S,hS⟩:∃ S,S=sumE l m2 (E.take t):=⟨_,rfl⟩
         rw [←hS]
         have HSS:=Lib.hid hS
         have r1:=cell_bel r0 HBT.out
         have d1:=cell_bel d0 HBT.out
         have e1:=cell_bel e0 HBT.out
         have HBU:=Lib.hid (HBZ.out.trans (HBT.out.mono HBZ.out.size))
         clear hS
         by_cases hS2:S≤20000
         ·have q4:(S:Int)≤20000:=by omega
          by_cases htz:t<z
          ·have q5:(t:Int)<(z:Int):=by omega
           have htE:t<E.length:=by rw [←HZ.out];exact htz
           obtain ⟨g,o,hpe,hg,a0,a1,a2⟩:=(HNR.out.below HBT.out) t htE
           subst hpe
           obtain ⟨en,hen⟩:∃ en,en=E[t]:=⟨_,rfl⟩
           have hsm:=sumE_more (l:=l) (m:=m2) htE
           rw [←hen,←HSS.out] at hsm
           rw [←hen] at a0 a1 a2
           obtain ⟨em,nm,ei⟩:=en
           simp only at a0 a1 a2
           obtain ⟨A,hA⟩:∃ A,A=atI l ei:=⟨_,rfl⟩
           obtain ⟨H,hH⟩:∃ H,H=hasI l ei:=⟨_,rfl⟩
           have hAn:H=true→A<n:=fun h=>by
            rw [hH] at h
            rw [hA,HN.out]
            exact hasI_lt h
           have HPL:Hid (∀ y:BelW wz,Calls Tryz.prog 47 #[.slice p n c,.string ei] y.w fun e w''=>e=.returned (.tuple #[.int .i64 (A:Int),.bool H])∧∃ x:BelW wz,w''=x.w):=fun y=>by
            rw [hA,hH]
            exact Calls.bel_class ((rplace_any l ei p n c y.w HN.out ((HP.out.below HBU.out).below y.h) (by omega)).mono fun e w'' ⟨h1,k7,h2⟩=>⟨h1,by rw [h2];exact below_drewN (Below.refl _ _) k7⟩)
           unfold perE at hsm
           simp only [←hA,←hH] at hsm
           have HSM:=Lib.hid hsm
           have k0:∀ y:BelW wz,y.w.cell? ⟨B,0,none⟩=some (.slice p n c):=fun y=>cell_bel e1 y.h
           have k1:∀ y:BelW wz,y.w.cell? ⟨L,i,none⟩=some (.slice (some ⟨g,o,none⟩) z cv):=fun y=>cell_bel r1 y.h
           have k2:∀ y:BelW wz,y.w.cell? ⟨g,o+t*3+2,none⟩=some (.string ei):=fun y=>cell_bel a2 y.h
           have hqn:Nonempty (BelW wz):=⟨⟨wz,Below.refl _ _⟩⟩
           clear hA hH hsm hen hg htE
           go_upto_region 21 with fail
           refine wp_region_bel (w0:=wz) (Below.refl _ _) (by kernel_rfl) (by kernel_rfl) ?_
           repeat (go_big_quiet_step (first
            | (go_at_call 47;(with_reducible exact HPL.out _))))
           refine wpQuiet_nil ?_
           rintro _ ⟨zz,rfl⟩
           have hbk:=zz.h
           have HT6:=Lib.hid (HBT.out.trans (hbk.mono HBT.out.size))
           have HF6:=Lib.hid ((HF.out.below HBT.out).below hbk)
           replace a0:=cell_bel a0 hbk
           replace r1:=cell_bel r1 hbk
           obtain ⟨w6,hw6⟩:∃ w6,w6=zz.w:=⟨_,rfl⟩
           rw [←hw6] at HT6 HF6 a0 r1 ⊢
           clear k0 k1 k2 hqn HPL a1 a2 d1 e1 hbk HBU HBT hw6 zz
           rcases H with _|_
           ·clear hAn
            go_wp2_with fail
            go_roundw
            case rel =>
             refine ⟨t+1,by omega,?_,by go_num,HT6.out⟩
             rw [HSM.out]
             simp only [Bool.false_eq_true,false_and,if_false]
             go_num
            case measure=>simp [intOf];omega
           ·have hA2:=hAn rfl
            clear hAn
            by_cases hm4:em=4
            ·subst hm4
             have dA:=HF6.out.at hA2
             obtain ⟨v,hv⟩:∃ v,v=m2 A:=⟨_,rfl⟩
             rw [←hv] at dA
             have hvb:v≤20000:=by rw [hv];exact HOK.out.1 A
             have q6:(A:Int)<(n:Int):=by omega
             have HVV:=Lib.hid hv
             clear hv
             go_wp2_with fail
             go_roundw
             case rel =>
              refine ⟨t+1,by omega,?_,by go_num,HT6.out⟩
              rw [HSM.out,if_pos ⟨rfl,rfl⟩,←HVV.out]
              go_num
             case measure=>simp [intOf];omega
            ·have g4:(em==4)=false:=by simp [hm4]
             have HM4:=Lib.hid hm4
             clear hm4
             go_wp2_with fail
             go_roundw
             case rel =>
              refine ⟨t+1,by omega,?_,by go_num,HT6.out⟩
              rw [HSM.out,if_neg (fun h=>HM4.out h.2)]
              go_num
             case measure=>simp [intOf];omega
          ·obtain rfl:z=t:=by omega
           have hS3:S=sumE l m2 (es i):=by rw [HSS.out,List.take_of_length_le (by have:=HZ.out;omega),HEE.out]
           have HS3:=Lib.hid hS3
           have HST:=Lib.hid (HOK.out.set hin (by rw [←hS3];exact hS2))
           have HSL:=Lib.hid (leftM_set HOK.out hin (by rw [←hS3];exact hS2))
           have HFT:=Lib.hid (HF.out.below HBT.out)
           have z0:=HFT.out.fz i
           have HRL:Hid (∀ Mo2:Bool,Mo2=(Mo||!(decide (S=v0)))→leftM (setF m2 i S) n+(if Mo2=true then 1 else 0)≤C):=fun Mo2 h=>by
            have h1:=HSL.out
            have h2:=HLE.out
            rw [←HS3.out,←HV0.out] at h1
            subst h
            cases Mo with
            | true=>simp only [Bool.true_or,if_true] at h2 ⊢;omega
            | false =>
             simp only [Bool.false_or,Bool.false_eq_true,if_false] at h2 ⊢
             by_cases e:S=v0
             ·rw [if_pos e] at h1
              simp [e]
              rw [e] at h1
              omega
             ·rw [if_neg e] at h1
              simp [e]
              omega
           have HFS:Hid (FRw (wz.setCell ⟨M,i,none⟩ (.int .i64 (S:Int))) M n 3 (fun j=>.int .i64 ((setF m2 i S j:Nat):Int))):=by
            have h:=HFT.out.set i (.int .i64 (S:Int))
            rw [setF_int] at h
            exact h
           clear hS3
           rcases Mo with _|_
           ·by_cases hne:S=v0
            ·have g5:((S:Int) != (v0:Int))=false:=by simp [hne]
             have HRM:=Lib.hid (HRL.out false (by simp [hne]))
             clear hne HRL
             go_wp2_with fail
             go_roundw
             case rel=>exact ⟨setF m2 i S,false,i+1,by omega,rfl,by go_num,by rw [HS3.out];exact HST.out,HRM.out,HFS.out,(HBY.out.trans (HBT.out.mono HBY.out.size)).setCell (p:=⟨M,i,none⟩) HML.out _⟩
             case measure=>simp [intOf];omega
            ·have g5:((S:Int) != (v0:Int))=true:=by simp;omega
             have HRM:=Lib.hid (HRL.out true (by simp [hne]))
             clear hne HRL
             go_wp2_with fail
             go_roundw
             case rel=>exact ⟨setF m2 i S,true,i+1,by omega,rfl,by go_num,by rw [HS3.out];exact HST.out,HRM.out,HFS.out,(HBY.out.trans (HBT.out.mono HBY.out.size)).setCell (p:=⟨M,i,none⟩) HML.out _⟩
             case measure=>simp [intOf];omega
           ·have HRM:=Lib.hid (HRL.out true (by simp))
            clear HRL
            go_wp2_with fail
            go_roundw
            case rel=>exact ⟨setF m2 i S,true,i+1,by omega,rfl,by go_num,by rw [HS3.out];exact HST.out,HRM.out,HFS.out,(HBY.out.trans (HBT.out.mono HBY.out.size)).setCell (p:=⟨M,i,none⟩) HML.out _⟩
            case measure=>simp [intOf];omega
         ·have q4:¬ (S:Int)≤20000:=by omega
          have q6:(20000:Int)<(S:Int):=by omega
          clear hS2
          by_cases htz:t<z
          ·have q5:(t:Int)<(z:Int):=by omega
           go_wp2_with fail
           go_ret
           exact ⟨(by first|exact ⟨_,rfl⟩|exact .inl rfl),HBX.out.trans (HBU.out.mono HBX.out.size)⟩
          ·obtain rfl:z=t:=by omega
           go_wp2_with fail
           go_ret
           exact ⟨(by first|exact ⟨_,rfl⟩|exact .inl rfl),HBX.out.trans (HBU.out.mono HBX.out.size)⟩
       ·obtain rfl:n=i:=by omega
        go_wp2_with fail
        go_roundg (C+1)
        case measure =>
         have h:=HPH.out
         simp only [if_true] at h
         rw [HC.out]
         exact h
        case rel =>
         refine ⟨m2,Mo,rfl,HOK.out,?_,HF.out,HBY.out⟩
         have h:=HLE.out
         show _<C+1
         cases Mo<;>simp at h ⊢<;>omega
def SmI (l:List It):Prop:=rightI l=true∧l.length≤80∧∀ e∈l,e.b.size≤4000
set_option maxHeartbeats 4000000 in
set_option maxRecDepth 8000 in
theorem small_any (l:List It) (p:Option Addr) (n c:Nat) (w:World) (hn:n=l.length) (hp:ItRw w p l) (hs:∀ x∈l,x.b.size≤140737488355328) (hn2:n≤140737488355328) :
  Calls Tryz.prog 11 #[.agg #[.slice p n c]] w fun e w'=>(∃ b,e=.returned (.bool b)∧(b=true→SmI l))∧Below w.heap.size w w':=by
 obtain ⟨w1,hw1⟩:∃ w1,w1=w.alloc (.cells #[.slice p n c] 24):=⟨_,rfl⟩
 obtain ⟨B,hB⟩:∃ B,B=w.heap.size:=⟨_,rfl⟩
 have hx:w1.heap[B]?=some (.cells #[.slice p n c] 24 (0,0)):=by rw [hw1,hB];exact heap_alloc_new w _
 have hbx:Below w.heap.size w w1:=by rw [hw1];exact below_new (Below.refl _ _) _
 have x0:w1.cell? ⟨B,0,none⟩=some (.slice p n c):=cell_of_row _ _ 0 _ _ _ hx
 have HRR:=Lib.hid (fun w' (hb:Below w1.heap.size w1 w')=>rright_any l p n c w' hn ((hp.below hbx).below hb) hs hn2)
 have HCA:=Lib.hid (fun w' (hb:Below w1.heap.size w1 w') (h1:∀ x∈l,x.b.size≤1048576) (h2:n≤1000)=>calm_any l p n c w' hn ((hp.below hbx).below hb) h1 h2)
 have HN:=Lib.hid hn
 have HP:=Lib.hid (hp.below hbx)
 have HS:=Lib.hid hs
 have HBX:=Lib.hid hbx
 have HW1:=Lib.hid hw1
 have HB:=Lib.hid hB
 clear hn hp hs hbx hw1 hB hx
 go_enter Tryz.func11,Tryz.ntmps11
 by_cases k1:80<n
 ·have g1:(80:Int)<(n:Int):=by omega
  clear k1
  go_upto_region 1 with fail
  rw [←HW1.out,←HB.out]
  go_wp2_with fail
  go_ret
  exact ⟨⟨_,rfl,fun h=>by cases h⟩,HBX.out⟩
 have g1:¬ (80:Int)<(n:Int):=by omega
 have hn80:n≤80:=by omega
 clear k1 hn2
 go_upto_region 1 with fail
 rw [←HW1.out,←HB.out]
 go_wp2_with fail
 clear g1
 go_loopw [3] (fun iv wa=>∃ k:Nat,k≤n∧iv=.int .i64 (k:Int)∧Hid (∀ e∈l.take k,e.b.size≤4000)∧Hid (wa=w1)) (fun iv _=>n-(intOf iv).toNat)
 case atStart=>exact ⟨0,by omega,rfl,fun e he=>by simp at he,rfl⟩
 case round =>
  obtain ⟨k,hk,rfl,HJ,HWR⟩:=hrel
  obtain rfl:=HWR.out
  clear HWR
  by_cases hlt:k<n
  ·have hkl:k<l.length:=by rw [←HN.out];exact hlt
   have q1:(k:Int)<(n:Int):=by omega
   obtain ⟨g,o,hpe,hg,a0,a1,a2⟩:=HP.out k hkl
   subst hpe
   obtain ⟨z,hz⟩:∃ z,z=(l[k]).b:=⟨_,rfl⟩
   rw [←hz] at a2
   have HZ:=Lib.hid hz
   have HKL:=Lib.hid hkl
   clear hz hg a0 a1
   by_cases hb:4000<z.size
   ·have q2:(4000:Int)<(z.size:Int):=by omega
    clear hb
    go_wp2_with fail
    go_ret
    exact ⟨⟨_,rfl,fun h=>by cases h⟩,HBX.out⟩
   ·have q2:¬ (4000:Int)<(z.size:Int):=by omega
    have HB4:Hid (z.size≤4000):=by show _≤_;omega
    clear hb
    go_wp2_with fail
    go_roundw
    case rel =>
     refine ⟨k+1,by omega,by go_num,fun e he=>?_,(by first|exact rfl|trivial)⟩
     rw [List.take_succ_eq_append_getElem HKL.out,List.mem_append,List.mem_singleton] at he
     rcases he with he|rfl
     ·exact HJ.out e he
     ·rw [←HZ.out];exact HB4.out
    case measure=>simp [intOf];omega
  ·obtain rfl:n=k:=by omega
   have HALL:Hid (∀ e∈l,e.b.size≤4000):=by
    have h:=HJ.out
    rw [List.take_of_length_le (by have:=HN.out;omega)] at h
    exact h
   obtain ⟨R,hR⟩:∃ R,R=rightI l:=⟨_,rfl⟩
   have HRV:=HRR.out _ (Below.refl _ _)
   rw [←hR] at HRV
   have HRW:=Lib.hid HRV
   have HR:=Lib.hid hR
   clear HRV hR HJ
   rcases R with _|_
   ·go_wp2_with (go_at_call 10;((with_reducible refine HRW.out.mono ?_);rintro e w2 ⟨rfl,hb2⟩))
    go_ret
    exact ⟨⟨_,rfl,fun h=>by cases h⟩,HBX.out.trans (hb2.mono HBX.out.size)⟩
   ·go_wp2_with (first
     | (go_at_call 10;((with_reducible refine HRW.out.mono ?_);rintro e w2 ⟨rfl,hb2⟩;have x1:=cell_bel x0 hb2))
     | (go_at_call 42;((with_reducible refine (HCA.out _ hb2 (fun x hx=>Nat.le_trans (HALL.out x hx) (by decide)) (by omega)).mono ?_);rintro e w3 ⟨⟨b,rfl⟩,hb3⟩)))
    go_ret
    exact ⟨⟨_,rfl,fun _=>⟨HR.out.symm,by have:=HN.out;omega,HALL.out⟩⟩,HBX.out.trans ((hb2.trans (hb3.mono hb2.size)).mono HBX.out.size)⟩
end Go.Proofs.YtnoopcenogbjiaaGreatDoor
