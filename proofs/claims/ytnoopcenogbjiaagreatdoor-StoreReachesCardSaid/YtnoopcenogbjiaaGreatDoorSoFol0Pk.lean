/-
 The walk of follow, with a callback that holds nothing.
-/
import Derived.Test.YtnoopcenogbjiaaGreatDoorSoFol
import Derived.Test.YtnoopcenogbjiaaGreatDoorIter
set_option linter.unusedVariables false
set_option linter.unusedSimpArgs false
namespace Go.Proofs.YtnoopcenogbjiaaGreatDoor
open Go Go.RowKit Go.Maps Go.WideMaps
set_option maxHeartbeats 16000000 in
set_option maxRecDepth 40000 in
theorem follow0_any {σ:Type} (acc:σ→Lk→Int→σ×Bool) (cnt:σ→Nat) (T:Nat) (J:σ→World→Prop) (F:Nat) (M B:Nat) (eg:∀ args w,(callFunc F args).run Tryz.prog w=.ok (.enter F args) w) (l:List It) (cuts ids:List (List UInt8)) (p q q2:Option Addr) (n c m d m2 d2:Nat) (wB w:World)
  (hA:FoArgs J B M wB w l p n) (hm:m=cuts.length) (hm2:m2=ids.length) (hq:SRw w q cuts) (hq2:SRw w q2 ids) (hcl:∀ x∈cuts,x.length≤140737488355328) (hil:∀ x∈ids,x.length≤140737488355328) (hmn:m≤1000000) (hmn2:m2≤1000000)
  (HCN:Hid (∀ s lk kd,cnt (acc s lk kd).1≤cnt s+1)) (HF:Hid (∀ s lk kd w',J s w'→cnt s≤T→lk.i.size≤140737488355328→Below B wB w'→Calls Tryz.prog F #[.agg #[.string lk.i,.int .i64 lk.k],.int .i64 kd] w' fun e w''=>e=.returned (.bool (acc s lk kd).2)∧J (acc s lk kd).1 w''∧w'.grownBy w'' (some M)))
  (s0:σ) (hj:J s0 w) (N:Nat) (hN:phi l cuts (fun _=>none) [toL 0 ids] []<N) (hN2:N≤1000000000) (hT:cnt s0+N≤T) :
  Calls Tryz.prog 60 #[.agg #[.slice p n c],.slice q m d,.slice q2 m2 d2,.func (.func F) #[] #[]] w fun e w'=>e=.returned (.bool (fol l cuts acc N (fun _=>none) [toL 0 ids] [] s0).2)∧J (fol l cuts acc N (fun _=>none) [toL 0 ids] [] s0).1 w'∧Below B wB w':=by
 obtain ⟨R,hR⟩:∃ R,R=fol l cuts acc N (fun _=>none) [toL 0 ids] [] s0:=⟨_,rfl⟩
 rw [←hR]
 obtain ⟨w1,hw1⟩:∃ w1,w1=w.alloc (.cells #[.slice p n c] 24):=⟨_,rfl⟩
 obtain ⟨I,hI⟩:∃ I,I=w.heap.size:=⟨_,rfl⟩
 have h1:w1.heap[I]?=some (.cells #[.slice p n c] 24 (0,0)):=by rw [hw1,hI];exact heap_alloc_new _ _
 have hb1:Below w.heap.size w w1:=by rw [hw1];exact below_new (Below.refl _ _) _
 have hs1:w1.heap.size=w.heap.size+1:=by rw [hw1];simp
 have hBw:B≤w.heap.size:=by have:=hA.bm;have:=hA.lt;omega
 have hbB1:=hA.b.trans (hb1.mono hBw)
 have HS:=Lib.hid (setOf_any cuts q m d w1 hm (hq.below hb1) hcl hmn)
 have HLT:=Lib.hid (fun (w':World) (h:Below w1.heap.size w1 w')=>linksTo_any 0 ids q2 m2 d2 w' hm2 ((hq2.below hb1).below h) hmn2)
 have HA:=Lib.hid hA
 have HR:=Lib.hid hR
 have HW1:=Lib.hid hw1
 have HI:=Lib.hid hI
 have HJ1:Hid (J s0 w1):=hA.st s0 w w1 none hj (grown_of_below hb1) (fun x e=>by cases e)
 have HB1:=Lib.hid hbB1
 have H1:=Lib.hid h1
 have HS1:=Lib.hid hs1
 have HBW:=Lib.hid hBw
 have HN:=Lib.hid hN
 have HSH:Hid (shortL (toL 0 ids)):=short_to ids hil
 have HM2:=Lib.hid hm2
 clear hR hw1 hI h1 hb1 hs1 hBw hbB1 hA hm hm2 hq hq2 hcl hil hj hN
 go_enter Tryz.func60,Tryz.ntmps60
 go_upto_region 1 with fail
 rw [←HW1.out,←HI.out]
 go_step3
 go_upto_region 2 with (go_at_call 53;((with_reducible refine HS.out.mono ?_);rintro e w2 ⟨C,nC,DC,rfl,hM2,hI2,hC1,hC2,hb2⟩))
 have hmm:=make_mapS w2
 obtain ⟨w3,hw3⟩:∃ w3,w3=w2.alloc (.map #[] 0):=⟨_,rfl⟩
 obtain ⟨K,hK⟩:∃ K,K=w2.heap.size:=⟨_,rfl⟩
 have hk3:Mk w3 K 0 (.map []):=by rw [hw3,hK];exact mk_new _
 have hb3:Below w2.heap.size w2 w3:=by rw [hw3];exact below_new (Below.refl _ _) _
 have hs3:w3.heap.size=K+1:=by rw [hw3,hK];simp
 rw [←hw3,←hK] at hmm
 have hb13:=hb2.trans (hb3.mono hb2.size)
 have HNUM:Hid (B≤M∧M<I∧I=w.heap.size∧I<C∧C<K∧w3.heap.size=K+1):=⟨HA.out.bm,by rw [HI.out];exact HA.out.lt,HI.out,by have:=HS1.out;have:=HI.out;omega,by omega,hs3⟩
 have HFO:Hid (Fo J B wB I C nC DC (.slice p n c) s0 w3):=⟨HB1.out.trans (hb13.mono (by have:=HBW.out;have:=HS1.out;omega)),(hb13.block _ (row_lt H1.out)).trans H1.out,hM2.below hb3,HA.out.st s0 w1 w3 none HJ1.out (grown_of_below hb13) (fun x e=>by cases e)⟩
 have HIS:=Lib.hid hI2
 have HB13:=Lib.hid hb13
 have HK3:=Lib.hid hk3
 clear hw3 hK hk3 hb3 hs3 hb13 hM2 hI2 hC1 hC2 hb2 HS HJ1 HB1 H1 HS1 HW1
 go_upto_region 3 with fail
 go_upto_region 4 with (go_at_call 93;((with_reducible refine (HLT.out _ HB13.out).mono ?_);rintro e w4 ⟨⟨v4,rfl,ho4⟩,hb4⟩;obtain ⟨p4,c4,rfl,hc4,hr4,ht4⟩:=ho4.rw))
 have hty:LkTy w4 (K+1) p4 (toL 0 ids):=⟨hr4,fun g o h=>by have:=ht4 g o h;rw [HNUM.out.2.2.2.2.2] at this;exact this⟩
 obtain ⟨n4,hn4⟩:∃ n4,n4=(toL 0 ids).length:=⟨_,rfl⟩
 rw [←hn4]
 have HWK:Hid (WkOw (w4.alloc (.cells #[.slice p4 n4 c4] 124)) (K+1) (.slice (some ⟨w4.heap.size,0,none⟩) 1 1) [toL 0 ids]):=WkOw.one hn4 (by have:=hb4.size;have:=HNUM.out.2.2.2.2.2;omega) hty
 have hb5:Below w3.heap.size w3 (w4.alloc (.cells #[.slice p4 n4 c4] 124)):=hb4.trans ((below_new (Below.refl _ _) _).mono hb4.size)
 have HST:Hid (Stays J w.heap.size):=HA.out.st
 have HF5:Hid (Fo J B wB I C nC DC (.slice p n c) s0 (w4.alloc (.cells #[.slice p4 n4 c4] 124))):=HFO.out.below HST.out HBW.out (by have:=HNUM.out;omega) hb5
 have HK5:Hid (Mk (w4.alloc (.cells #[.slice p4 n4 c4] 124)) K 0 (.map [])):=HK3.out.kept (grown_of_below hb5) (by simp)
 have HS5:Hid (K+1≤(w4.alloc (.cells #[.slice p4 n4 c4] 124)).heap.size):=by show _≤_;have:=HNUM.out.2.2.2.2.2;have:=hb5.size;omega
 obtain ⟨w5,hw5⟩:∃ w5,w5=w4.alloc (.cells #[.slice p4 n4 c4] 124):=⟨_,rfl⟩
 obtain ⟨v5,hv5⟩:∃ v5,v5=Value.slice (some ⟨w4.heap.size,0,none⟩) 1 1:=⟨_,rfl⟩
 rw [←hw5] at HWK HF5 HK5 HS5 ⊢
 rw [←hv5] at HWK ⊢
 clear hw5 hv5 hb5 hty hn4 hc4 hr4 ht4 hb4 ho4 HB13 HK3 HFO HLT hmm
 have HFP:Hid (FP acc cnt T l cuts R N N (fun _=>none) [toL 0 ids] [] s0 0 (.map [])):=⟨HR.out,HN.out,isKd_nil,by omega,fun x hx=>by rw [List.mem_singleton] at hx;subst hx;exact HSH.out,fun x hx=>by simp at hx,fun _ _ h=>by simp at h,hT⟩
 have HNU:Hid (B≤M∧M<w.heap.size∧w.heap.size≤I∧I<C∧C<K):=by have:=HNUM.out;exact ⟨by omega,by omega,by omega,by omega,by omega⟩
 clear HR HN HSH HNUM hT
 go_upto_region 5 with fail
 go_step3
 go_wp2_with fail
 go_loopg [11,12] N (fun k v b wr=>∃ kf st s nk D,b=.bool true∧Hid (FP acc cnt T l cuts R N k kf st [] s nk D)∧Hid (WkOw wr (K+1) v st)∧Hid (Fo J B wB I C nC DC (.slice p n c) s wr)∧Hid (Mk wr K nk D)∧Hid (K+1≤wr.heap.size))
 case atStart=>exact ⟨_,_,_,_,_,rfl,HFP.out,HWK.out,HF5.out,HK5.out,HS5.out⟩
 case round =>
  clear HFP HWK HF5 HK5 HS5
  obtain ⟨kf,st,s,nk,D,rfl,HP,HW,HO,HK,HZ⟩:=hrel
  rcases list_last st with rfl|⟨st',L,rfl⟩
  ·-- nothing is left
   have HQ:Hid (R=(s,true)):=HP.out.done
   obtain ⟨pv,cv,rfl⟩:=HW.out.len
   clear HP HW HK HZ
   go_wp2_with fail
   rw [Exit.noGoto_ret]
   show bodyPost Tryz.prog Tryz.f60 (fun e w'=>e=.returned (.bool R.2)∧J R.1 w'∧Below B wB w') .ret _ _
   go_ret
   exact ⟨by rw [HQ.out];rfl,by rw [HQ.out];exact HO.out.j,HO.out.b⟩
  ·have hk9:=HP.out.len
   have hk8:=HP.out.nn
   simp only [List.length_append,List.length_singleton] at hk9
   obtain ⟨k,rfl⟩:=HP.out.pos
   obtain ⟨n5,hn5⟩:∃ n5,n5=st'.length:=⟨_,rfl⟩
   obtain ⟨g,cap,pl,cl,rfl,hcap,hcell,hty,hwk⟩:=HW.out.top hn5
   obtain ⟨mm,hmm⟩:∃ mm,mm=L.length:=⟨_,rfl⟩
   rw [←hmm] at hcell
   obtain ⟨n6,hn6⟩:∃ n6,n6=n5+1:=⟨_,rfl⟩
   rw [←hn6] at hcap ⊢
   have e1:IntKind.i64.wrap ((n6:Int)-1)=(n5:Int):=by rw [IntWalk.i64_in _ (by omega)];omega
   have e2:(n6:Int)-1=(n5:Int):=by omega
   have e3:IntKind.i64.wrap (n5:Int)=(n5:Int):=IntWalk.i64_in _ (by omega)
   have z0:0<n6:=by omega
   have z4:n5<n6:=by omega
   have z1:(0:Int)<(n6:Int):=by omega
   have z2:(n5:Int)<(n6:Int):=by omega
   have z3:(n5:Int)≤(cap:Int):=by omega
   have HFW:Hid (FW J B M w.heap.size wB I C nC DC (.slice p n c) K s nk D (.slice (some ⟨g,0,none⟩) n5 cap) st' pl L wr):=⟨HO.out,hwk,HK.out,hty,HZ.out,HNU.out,HST.out⟩
   have HPP:=Lib.hid HP.out.pop
   have HMM:=Lib.hid hmm
   have HN5:Hid (n5≤k∧k≤1000000000):=⟨by omega,by omega⟩
   clear HP HW HO HK HZ hwk hty hmm hn5 hn6 hk9 hk8 hcap
   go_upto_region 8 with fail
   obtain ⟨v6,hv6⟩:∃ v6,v6=Value.slice (some ⟨g,0,none⟩) n5 cap:=⟨_,rfl⟩
   rw [←hv6] at HFW ⊢
   clear hv6 e1 e2 e3 z0 z1 z2 z3 z4 hcell
   have hmx:mm≤1000000000:=by have:=HPP.out.clen;have:=HMM.out;have:=HN5.out.2;omega
   go_wp2_with fail
   go_loopw [11,12,42] (fun v b i wx=>∃ (j k':Nat) (kf':Kf) (st:List (List Lk)) (s':σ) (nk':Nat) (D':DataW Unit),j≤mm∧i=.int .i64 (j:Int)∧b=.bool true∧Hid (k'≤k)∧Hid (FP acc cnt T l cuts R N k' kf' st (L.drop j) s' nk' D')∧Hid (FW J B M w.heap.size wB I C nC DC (.slice p n c) K s' nk' D' v st pl L wx)) (fun v b i _=>mm-(intOf i).toNat)
   case atStart=>exact ⟨0,k,kf,st',s,nk,D,by omega,rfl,rfl,Nat.le_refl _,HPP.out,HFW.out⟩
   case round =>
    clear HPP HFW
    obtain ⟨j,k',kf',st,s',nk',D',hj,rfl,rfl,HKK,HP,HW⟩:=hrel
    by_cases hlt:j<mm
    ·have hjl:j<L.length:=by rw [←HMM.out];exact hlt
     obtain ⟨k2,rfl⟩:=HP.out.pos
     obtain ⟨lk,hlk⟩:∃ lk,lk=L[j]:=⟨_,rfl⟩
     have hdr:L.drop j=lk::L.drop (j+1):=by rw [hlk];exact List.drop_eq_getElem_cons hjl
     rw [hdr] at HP
     obtain ⟨gl,ol,rfl,hgl,a0,a1⟩:=HW.out.ty.1 j hjl
     rw [←hlk] at a0 a1
     have hsz:=HP.out.sc lk (List.mem_cons_self ..)
     obtain ⟨id,kl⟩:=lk
     simp only at a0 a1 hsz
     have q1:(j:Int)<(mm:Int):=by omega
     obtain ⟨w8,hw8⟩:∃ w8,w8=wr.alloc (.cells #[.string id,.int .i64 kl] 91):=⟨_,rfl⟩
     obtain ⟨E,hE⟩:∃ E,E=wr.heap.size:=⟨_,rfl⟩
     have he8:w8.heap[E]?=some (.cells #[.string id,.int .i64 kl] 91 (0,0)):=by rw [hw8,hE];exact heap_alloc_new _ _
     have hb8:Below wr.heap.size wr w8:=by rw [hw8];exact below_new (Below.refl _ _) _
     have HW8:=Lib.hid (HW.out.below hb8)
     have HE8:=Lib.hid he8
     have HEQ:=Lib.hid hw8
     have HEN:=Lib.hid hE
     have HKE:Hid (K+1≤E):=by show _≤_;rw [hE];exact HW.out.sz
     have HSZ:=Lib.hid hsz
     clear hw8 hE he8 hb8 hgl hdr hlk hjl HW hsz
     go_upto_region 11 with fail
     rw [←HEQ.out,←HEN.out]
     clear a0 a1
     have hkey:=skeyS (t:=id) HSZ.out
     have e0:w8.cell? ⟨E,0,none⟩=some (.string id):=cell_of_row _ _ 0 _ _ _ HE8.out
     have e1:w8.cell? ⟨E,1,none⟩=some (.int .i64 kl):=cell_of_row _ _ 1 _ _ _ HE8.out
     cases hkf:kf' id.data.toList with
     | some kd =>
      obtain ⟨y1,y2⟩:=HP.out.ik.yes _ kd hkf
      obtain ⟨⟨s2,b2⟩,hacc⟩:∃ x,x=acc s' ⟨id,kl⟩ kd:=⟨_,rfl⟩
      have HC:=Lib.hid (HF.out s' ⟨id,kl⟩ kd w8 HW8.out.fo.j (by have:=HP.out.ct;omega) HSZ.out HW8.out.fo.b)
      rw [←hacc] at HC
      obtain ⟨K0,hK0⟩:∃ K0,K0=Lit.string id.data.toList:=⟨_,rfl⟩
      rw [←hK0] at hkey y1 y2
      have Y2:=Lib.hid y2
      rcases b2 with _|_
      ·have HQ:Hid (R=(s2,false)):=HP.out.met_no hkf hacc.symm
       clear hkf hacc hK0 y2 HP
       go_wp2_with (first
        | (at_lookup;refine wpList_lookup_own_ok_int _ rfl _ _ 123 rfl 9 3 .i64 str_keyedS Tryz.underlying123 Tryz.underlying3 (zero_intS _) K nk' D' rfl HW8.out.kd _ _ rfl hkey ?_;intro c0 hat hwc;obtain rfl:c0=kd:=(by have e:=(Y2.out _).symm.trans hat;simp only [DataW.lit.injEq,Lit.int.injEq,true_and] at e;exact e.symm);clear hat hwc)
        | (go_at_fn F;(with_reducible refine HC.out.mono ?_);rintro x w9 ⟨rfl,hj9,hg9⟩;have HJ9:=Lib.hid hj9;have HG9:=Lib.hid hg9;clear hj9 hg9))
       rw [Exit.noGoto_ret]
       show bodyPost Tryz.prog Tryz.f60 (fun e w'=>e=.returned (.bool R.2)∧J R.1 w'∧Below B wB w') .ret _ _
       go_ret
       exact ⟨by rw [HQ.out];rfl,by rw [HQ.out];exact HJ9.out,(HW8.out.call HG9.out HJ9.out).fo.b⟩
      ·have HQ:=Lib.hid (HP.out.met HCN.out hkf hacc.symm)
       clear hkf hacc hK0 y2 HP
       go_wp2_with (first
        | (at_lookup;refine wpList_lookup_own_ok_int _ rfl _ _ 123 rfl 9 3 .i64 str_keyedS Tryz.underlying123 Tryz.underlying3 (zero_intS _) K nk' D' rfl HW8.out.kd _ _ rfl hkey ?_;intro c0 hat hwc;obtain rfl:c0=kd:=(by have e:=(Y2.out _).symm.trans hat;simp only [DataW.lit.injEq,Lit.int.injEq,true_and] at e;exact e.symm);clear hat hwc)
        | (go_at_fn F;(with_reducible refine HC.out.mono ?_);rintro x w9 ⟨rfl,hj9,hg9⟩;have HJ9:=Lib.hid hj9;have HG9:=Lib.hid hg9;clear hj9 hg9))
       go_roundw
       case rel=>exact ⟨j+1,k2,kf',st,s2,nk',D',by omega,by go_num,rfl,by have:=HKK.out;show _≤_;omega,HQ.out,HW8.out.call HG9.out HJ9.out⟩
       case measure=>simp [intOf];omega
     | none =>
      have y1:=HP.out.ik.no _ hkf
      obtain ⟨kd,hkd⟩:∃ kd,kd=(getI l id).k:=⟨_,rfl⟩
      obtain ⟨gb,hgb⟩:∃ gb,gb=(getI l id).b:=⟨_,rfl⟩
      have hwf:(Lit.int .i64 kd).wf=true:=by rw [hkd];exact getI_wf id HA.out.kw
      have hbs:gb.size≤1048576:=by rw [hgb];exact getI_size id HA.out.bs
      have hGL:getL l cuts id=lksOf kd gb.data.toList (decide (id.data.toList∈cuts)):=by rw [hkd,hgb];rfl
      obtain ⟨cb,hcb⟩:∃ cb,cb=decide (id.data.toList∈cuts):=⟨_,rfl⟩
      rw [←hcb] at hGL
      have HG:=Lib.hid (sget_any l id p n c w8 HA.out.len (HA.out.mem w8 HW8.out.fo.b).1 HA.out.big)
      rw [←hkd,←hgb] at HG
      obtain ⟨⟨s2,b2⟩,hacc⟩:∃ x,x=acc s' ⟨id,kl⟩ kd:=⟨_,rfl⟩
      obtain ⟨K0,hK0⟩:∃ K0,K0=Lit.string id.data.toList:=⟨_,rfl⟩
      have x0:=(st_at HW8.out.fo.i).1
      have HP2:=Lib.hid (fun (h:b2=true)=>HP.out.new HCN.out hkf hkd hwf (hacc.symm.trans (by rw [h])))
      have HP3:=Lib.hid (fun (h:b2=false)=>HP.out.new_no hkf hkd (hacc.symm.trans (by rw [h])))
      simp only [←hK0] at hkey y1 HP2
      have HACC:=Lib.hid hacc
      have HWF:=Lib.hid hwf
      have HGL:=Lib.hid hGL
      have HCB:=Lib.hid hcb
      have HBS:=Lib.hid hbs
      have hnn:=HP.out.nn
      have HCT:Hid (cnt s'≤T):=by show _≤_;have:=HP.out.ct;omega
      have HLEN:Hid (st.length+1≤1048576000):=by show _≤_;have:=HP.out.len;have:=HKK.out;have:=HN5.out.2;omega
      clear hkd hgb hwf hGL hcb hacc hK0 hkf HP hbs
      go_upto_region 14 with (first
       | (at_lookup;refine wpList_lookup_own_ok_int _ rfl _ _ 123 rfl 9 3 .i64 str_keyedS Tryz.underlying123 Tryz.underlying3 (zero_intS _) K nk' D' rfl HW8.out.kd _ _ rfl hkey ?_;intro c0 hat hwc;clear hat hwc)
       | (go_at_call 15;((with_reducible refine HG.out.mono ?_);rintro e w9 ⟨rfl,hb9⟩)))
      have HW9:=Lib.hid (HW8.out.below hb9)
      have HE9:=Lib.hid ((hb9.block _ (row_lt HE8.out)).trans HE8.out)
      clear hb9 e0 e1 y1 x0
      obtain ⟨w10,hw10⟩:∃ w10,w10=w9.alloc (.cells #[.int .i64 kd,.string gb] 29):=⟨_,rfl⟩
      obtain ⟨O,hO⟩:∃ O,O=w9.heap.size:=⟨_,rfl⟩
      rw [←hw10,←hO]
      have ho10:w10.heap[O]?=some (.cells #[.int .i64 kd,.string gb] 29 (0,0)):=by rw [hw10,hO];exact heap_alloc_new _ _
      have hb10:Below w9.heap.size w9 w10:=by rw [hw10];exact below_new (Below.refl _ _) _
      have HW10:=Lib.hid (HW9.out.below hb10)
      have HE10:=Lib.hid ((hb10.block _ (row_lt HE9.out)).trans HE9.out)
      have HO10:=Lib.hid ho10
      have HKO:Hid (K+1≤O):=by show _≤_;rw [hO];exact HW9.out.sz
      clear hw10 hO ho10 hb10
      have e0:w10.cell? ⟨E,0,none⟩=some (.string id):=cell_of_row _ _ 0 _ _ _ HE10.out
      have o0:w10.cell? ⟨O,0,none⟩=some (.int .i64 kd):=cell_of_row _ _ 0 _ _ _ HO10.out
      go_upto_region 16 with (at_mapUpdate;refine wpList_mapUpdate_own _ rfl _ _ _ 123 rfl 9 3 str_keyedS Tryz.underlying123 _ K nk' D' rfl HW10.out.kd (by unfold maxLen;omega) _ _ _ rfl rfl hkey _ [] (plainElem_int Tryz.underlying3 HWF.out) ?_;intro w11 hM11 hg11)
      have HW11:=Lib.hid (HW10.out.map hg11 hM11)
      have HE11:=Lib.hid ((hg11.block _ (row_lt HE10.out) (by have:=HKE.out;simp;omega)).trans HE10.out)
      have HO11:=Lib.hid ((hg11.block _ (row_lt HO10.out) (by have:=HKO.out;simp;omega)).trans HO10.out)
      clear hM11 hg11 e0 o0 hnn
      have e0:w11.cell? ⟨E,0,none⟩=some (.string id):=cell_of_row _ _ 0 _ _ _ HE11.out
      have o0:w11.cell? ⟨O,0,none⟩=some (.int .i64 kd):=cell_of_row _ _ 0 _ _ _ HO11.out
      have o1:w11.cell? ⟨O,1,none⟩=some (.string gb):=cell_of_row _ _ 1 _ _ _ HO11.out
      have hlk:=msb_look HW11.out.fo.cu (t:=id) HSZ.out (B:=cb) (by rw [HIS.out.look,HCB.out])
      have HLO:=Lib.hid (linksOf_any kd gb cb w11 (HA.out.mem w11 HW11.out.fo.b).2.1 (HA.out.mem w11 HW11.out.fo.b).2.2.1 (HA.out.mem w11 HW11.out.fo.b).2.2.2 HBS.out)
      rw [←HGL.out] at HLO
      go_upto_region 17 with (first
       | (go_at_call 94;((with_reducible refine HLO.out.mono ?_);rintro e w12 ⟨⟨v12,rfl,ho12⟩,hb12⟩;obtain ⟨p12,c12,rfl,-,hr12,ht12⟩:=ho12.rw;have HW12:=Lib.hid (HW11.out.below hb12);have HTY:Hid (LkTy w12 (K+1) p12 (getL l cuts id)):=⟨hr12,fun g o h=>⟨Nat.le_trans HW11.out.sz (ht12 g o h).1,(ht12 g o h).2⟩⟩;have HE12:=Lib.hid ((hb12.block _ (row_lt HE11.out)).trans HE11.out);clear ho12 hb12 hr12 ht12))
       | (at_builtin;refine wp_wk_one rfl _ _ rfl rfl HW12.out.wk p12 _ c12 (getL l cuts id) rfl HTY.out rfl HLEN.out HW12.out.sz ?_;intro v13 w13 hwk13 hown13 hg13;have HWK13:=Lib.hid hwk13;have HOWN13:=Lib.hid hown13;have HG13:=Lib.hid hg13;clear hwk13 hown13 hg13))
      obtain ⟨vals,hvals⟩:=HOWN13.out
      have hbn:Below w12.heap.size w12 (w12.alloc (.cells #[.slice p12 (getL l cuts id).length c12] 124)):=below_new (Below.refl _ _) _
      have HW13:=Lib.hid ((HW12.out.below hbn).own hvals HG13.out HWK13.out)
      have HE12b:=(hbn.block _ (row_lt HE12.out)).trans HE12.out
      have HE13:=Lib.hid ((HG13.out.block _ (row_lt HE12b) (own_off hvals HE12b (by decide))).trans HE12b)
      have HC:=Lib.hid (HF.out s' ⟨id,kl⟩ kd w13 HW13.out.fo.j HCT.out HSZ.out HW13.out.fo.b)
      rw [←HACC.out] at HC
      clear hvals hbn HE12b HWK13 HOWN13 HG13 e0 o0 o1 hlk hkey
      have e0:w13.cell? ⟨E,0,none⟩=some (.string id):=cell_of_row _ _ 0 _ _ _ HE13.out
      have e1:w13.cell? ⟨E,1,none⟩=some (.int .i64 kl):=cell_of_row _ _ 1 _ _ _ HE13.out
      rcases b2 with _|_
      ·have HQ:Hid (R=(s2,false)):=HP3.out rfl
       clear HP2 HP3
       go_wp2_with (go_at_fn F;(with_reducible refine HC.out.mono ?_);rintro x w14 ⟨rfl,hj9,hg9⟩;have HJ9:=Lib.hid hj9;have HG9:=Lib.hid hg9;clear hj9 hg9)
       rw [Exit.noGoto_ret]
       show bodyPost Tryz.prog Tryz.f60 (fun e w'=>e=.returned (.bool R.2)∧J R.1 w'∧Below B wB w') .ret _ _
       go_ret
       exact ⟨by rw [HQ.out];rfl,by rw [HQ.out];exact HJ9.out,(HW13.out.call HG9.out HJ9.out).fo.b⟩
      ·have HQ:=Lib.hid (HP2.out rfl)
       clear HP2 HP3
       go_wp2_with (go_at_fn F;(with_reducible refine HC.out.mono ?_);rintro x w14 ⟨rfl,hj9,hg9⟩;have HJ9:=Lib.hid hj9;have HG9:=Lib.hid hg9;clear hj9 hg9)
       go_roundw
       case rel=>exact ⟨j+1,k2,_,_,s2,nk'+1,_,by omega,by go_num,rfl,by have:=HKK.out;show _≤_;omega,HQ.out,HW13.out.call HG9.out HJ9.out⟩
       case measure=>simp [intOf];omega
    ·obtain rfl:j=mm:=by omega
     have hd:L.drop j=[]:=List.drop_of_length_le (by rw [←HMM.out];exact Nat.le_refl _)
     rw [hd] at HP
     clear hd
     go_wp2_with fail
     go_roundg k'
     case measure=>have:=HKK.out;omega
     case rel=>exact ⟨kf',st,s',nk',D',rfl,HP.out,HW.out.wk,HW.out.fo,HW.out.kd,HW.out.sz⟩
theorem Tryz.eg_reach:∀ args w,(callFunc 61 args).run Tryz.prog w=.ok (.enter 61 args) w:=enters_of Tryz.func61 (by kernel_rfl) rfl
theorem Tryz.eg_missing:∀ args w,(callFunc 65 args).run Tryz.prog w=.ok (.enter 65 args) w:=enters_of Tryz.func65 (by kernel_rfl) rfl
theorem Tryz.eg_whole:∀ args w,(callFunc 66 args).run Tryz.prog w=.ok (.enter 66 args) w:=enters_of Tryz.func66 (by kernel_rfl) rfl
def SetJ (Bx M:Nat) (ls:List (List UInt8)) (w:World):Prop:=∃ m D,w.heap[Bx]?=some (.cells #[.map (some M)] 83 (0,0))∧Msb w M m D∧IsSt D ls∧m≤ls.length∧(∀ q,Maps.has D (.string q)=decide (q∈ls))∧Bx≠M
theorem SetJ.stays {Bx M base:Nat} (h1:Bx<base) (h2:M<base):Stays (SetJ Bx M) base:=fun s w w' r ⟨m,D,hb,hm,hI,hl,hh,hne⟩ hg hr =>
 ⟨m,D,(hg.block Bx (row_lt hb) (fun e=>by have:=hr Bx e.symm;omega)).trans hb,hm.kept hg (fun e=>by have:=hr M e.symm;omega),hI,hl,hh,hne⟩
theorem has_put_any {D:DataW Unit} {ls:List (List UInt8)} (hT:Tidy D) (h:∀ q,Maps.has D (.string q)=decide (q∈ls)) (x:List UInt8):∀ q,Maps.has (D.put (.string x) (.lit (.bool true))) (.string q)=decide (q∈ls++[x]):=fun q=>by
 have hkey:WideAt.IsKeyLit (Lit.string x):=trivial
 by_cases e:q=x
 ·subst e
  rw [has_put_same hT.isMap hkey]
  simp
 ·rw [has_put_other (fun e2=>e (Lit.string.inj e2)),h q]
  simp [e]
def accR (s:List (List UInt8)) (lk:Lk) (kd:Int):List (List UInt8)×Bool:=(s++[lk.i.data.toList],decide (kd≠0))
def accM (s:List (List UInt8)) (lk:Lk) (kd:Int):List (List UInt8)×Bool:=(if kd=0 then s++[lk.i.data.toList] else s,true)
def accW (_:Unit) (lk:Lk) (kd:Int):Unit×Bool:=((),decide (kd≠0)&&(decide (lk.k=0)||decide (lk.k=kd)))
set_option maxHeartbeats 2000000 in
set_option maxRecDepth 4000 in
theorem reach1_any (s:List (List UInt8)) (lk:Lk) (kd:Int) (Bx M B:Nat) (w wB:World) (hs:SetJ Bx M s w) (hz:lk.i.size≤140737488355328) (hl:s.length≤1000000000) :
  Calls Tryz.prog 61 #[.agg #[.string lk.i,.int .i64 lk.k],.int .i64 kd,.pointer (some ⟨Bx,0,none⟩)] w fun e w'=>e=.returned (.bool (accR s lk kd).2)∧SetJ Bx M (accR s lk kd).1 w'∧w.grownBy w' (some M):=by
 obtain ⟨m,D,hb,hm,hI,hml,hh,hne⟩:=hs
 obtain ⟨id,kl⟩:=lk
 simp only at hz ⊢
 obtain ⟨w1,hw1⟩:∃ w1,w1=w.alloc (.cells #[.string id,.int .i64 kl] 91):=⟨_,rfl⟩
 obtain ⟨E,hE⟩:∃ E,E=w.heap.size:=⟨_,rfl⟩
 have he:w1.heap[E]?=some (.cells #[.string id,.int .i64 kl] 91 (0,0)):=by rw [hw1,hE];exact heap_alloc_new _ _
 have hbx:Below w.heap.size w w1:=by rw [hw1];exact below_new (Below.refl _ _) _
 have b0:=(st_at ((hbx.block _ (row_lt hb)).trans hb)).1
 have e0:w1.cell? ⟨E,0,none⟩=some (.string id):=cell_of_row _ _ 0 _ _ _ he
 have hm1:=hm.below hbx
 have hkey:=skeyS (t:=id) hz
 have HB1:=Lib.hid ((hbx.block _ (row_lt hb)).trans hb)
 have HG1:=Lib.hid (grown_of_below hbx)
 have HPT:=Lib.hid (hI.put id.data.toList)
 have HHP:=Lib.hid (has_put_any hI.tidy hh id.data.toList)
 obtain ⟨K0,hK0⟩:∃ K0,K0=Lit.string id.data.toList:=⟨_,rfl⟩
 rw [←hK0] at hkey HPT HHP
 have HNE:=Lib.hid hne
 have HW1:=Lib.hid hw1
 have HE:=Lib.hid hE
 have HML:=Lib.hid hml
 have hm9:m≤1000000000:=Nat.le_trans hml hl
 obtain ⟨T,hT⟩:∃ T,T=decide (kd≠0):=⟨_,rfl⟩
 have hT2:(kd != 0)=T:=by rw [hT];by_cases h:kd=0<;>simp [h]
 have HA:Hid (accR s ⟨id,kl⟩ kd=(s++[id.data.toList],T)):=by rw [hT];rfl
 clear hb hm hI hml hh hne hw1 hE he hbx hK0 hT hl
 go_enter Tryz.func61,Tryz.ntmps61
 go_upto_region 1 with fail
 rw [←HW1.out,←HE.out]
 go_wp2_with (at_mapUpdate;refine wpList_mapUpdate_own _ rfl _ _ _ 83 rfl 9 4 str_keyedS Tryz.underlying83 _ M m D rfl hm1 (by unfold maxLen;omega) _ _ _ rfl rfl hkey _ [] (plainElem_bool Tryz.underlying4 true) ?_;intro w5 hm5 hg5)
 go_ret
 refine ⟨by rw [HA.out];rfl,?_,sb_grown ?_ hg5⟩
 ·rw [HA.out]
  exact ⟨_,_,(hg5.block _ (row_lt HB1.out) (by simpa using HNE.out)).trans HB1.out,hm5,HPT.out,by have:=HML.out;simp;omega,HHP.out,HNE.out⟩
 ·exact ⟨HG1.out.os,HG1.out.tape,HG1.out.output,HG1.out.size,fun k hk _=>HG1.out.block k hk (by simp)⟩
set_option maxHeartbeats 2000000 in
set_option maxRecDepth 4000 in
theorem missing1_any (s:List (List UInt8)) (lk:Lk) (kd:Int) (Bx M:Nat) (w:World) (hs:SetJ Bx M s w) (hz:lk.i.size≤140737488355328) (hl:s.length≤1000000000) :
  Calls Tryz.prog 65 #[.agg #[.string lk.i,.int .i64 lk.k],.int .i64 kd,.pointer (some ⟨Bx,0,none⟩)] w fun e w'=>e=.returned (.bool (accM s lk kd).2)∧SetJ Bx M (accM s lk kd).1 w'∧w.grownBy w' (some M):=by
 obtain ⟨m,D,hb,hm,hI,hml,hh,hne⟩:=hs
 obtain ⟨id,kl⟩:=lk
 simp only at hz ⊢
 obtain ⟨w1,hw1⟩:∃ w1,w1=w.alloc (.cells #[.string id,.int .i64 kl] 91):=⟨_,rfl⟩
 obtain ⟨E,hE⟩:∃ E,E=w.heap.size:=⟨_,rfl⟩
 have he:w1.heap[E]?=some (.cells #[.string id,.int .i64 kl] 91 (0,0)):=by rw [hw1,hE];exact heap_alloc_new _ _
 have hbx:Below w.heap.size w w1:=by rw [hw1];exact below_new (Below.refl _ _) _
 have b0:=(st_at ((hbx.block _ (row_lt hb)).trans hb)).1
 have e0:w1.cell? ⟨E,0,none⟩=some (.string id):=cell_of_row _ _ 0 _ _ _ he
 have hm1:=hm.below hbx
 have hkey:=skeyS (t:=id) hz
 have HB1:=Lib.hid ((hbx.block _ (row_lt hb)).trans hb)
 have hg1:w.grownBy w1 (some M):=by have h:=grown_of_below hbx;exact ⟨h.os,h.tape,h.output,h.size,fun k hk _=>h.block k hk (by simp)⟩
 have HG1:=Lib.hid hg1
 have HPT:=Lib.hid (hI.put id.data.toList)
 have HHP:=Lib.hid (has_put_any hI.tidy hh id.data.toList)
 obtain ⟨K0,hK0⟩:∃ K0,K0=Lit.string id.data.toList:=⟨_,rfl⟩
 rw [←hK0] at hkey HPT HHP
 have HI:=Lib.hid hI
 have HH:=Lib.hid hh
 have HM1:=Lib.hid hm1
 have HNE:=Lib.hid hne
 have HW1:=Lib.hid hw1
 have HE:=Lib.hid hE
 have HML:=Lib.hid hml
 have hm9:m≤1000000000:=Nat.le_trans hml hl
 clear hb hm hI hml hh hne hw1 hE he hbx hK0 hl hg1
 by_cases hk:kd=0
 ·have gk:(kd==0)=true:=by simp [hk]
  have HA:Hid (accM s ⟨id,kl⟩ kd=(s++[id.data.toList],true)):=by show _=_;rw [accM,if_pos hk]
  clear hk
  go_enter Tryz.func65,Tryz.ntmps65
  go_upto_region 1 with fail
  rw [←HW1.out,←HE.out]
  go_wp2_with (at_mapUpdate;refine wpList_mapUpdate_own _ rfl _ _ _ 83 rfl 9 4 str_keyedS Tryz.underlying83 _ M m D rfl hm1 (by unfold maxLen;omega) _ _ _ rfl rfl hkey _ [] (plainElem_bool Tryz.underlying4 true) ?_;intro w5 hm5 hg5)
  go_ret
  refine ⟨by rw [HA.out];rfl,?_,sb_grown HG1.out hg5⟩
  rw [HA.out]
  exact ⟨_,_,(hg5.block _ (row_lt HB1.out) (by simpa using HNE.out)).trans HB1.out,hm5,HPT.out,by have:=HML.out;simp;omega,HHP.out,HNE.out⟩
 ·have gk:(kd==0)=false:=by simp [hk]
  have HA:Hid (accM s ⟨id,kl⟩ kd=(s,true)):=by show _=_;rw [accM,if_neg hk]
  clear hk
  go_enter Tryz.func65,Tryz.ntmps65
  go_upto_region 1 with fail
  rw [←HW1.out,←HE.out]
  go_wp2_with fail
  go_ret
  refine ⟨by rw [HA.out];rfl,?_,HG1.out⟩
  rw [HA.out]
  exact ⟨m,D,HB1.out,HM1.out,HI.out,HML.out,HH.out,HNE.out⟩
set_option maxHeartbeats 2000000 in
set_option maxRecDepth 4000 in
theorem whole1_any (lk:Lk) (kd:Int) (w:World) :
  Calls Tryz.prog 66 #[.agg #[.string lk.i,.int .i64 lk.k],.int .i64 kd] w fun e w'=>e=.returned (.bool (accW () lk kd).2)∧Below w.heap.size w w':=by
 obtain ⟨id,kl⟩:=lk
 simp only
 obtain ⟨w1,hw1⟩:∃ w1,w1=w.alloc (.cells #[.string id,.int .i64 kl] 91):=⟨_,rfl⟩
 obtain ⟨E,hE⟩:∃ E,E=w.heap.size:=⟨_,rfl⟩
 have he:w1.heap[E]?=some (.cells #[.string id,.int .i64 kl] 91 (0,0)):=by rw [hw1,hE];exact heap_alloc_new _ _
 have hbx:Below w.heap.size w w1:=by rw [hw1];exact below_new (Below.refl _ _) _
 have e1:w1.cell? ⟨E,1,none⟩=some (.int .i64 kl):=cell_of_row _ _ 1 _ _ _ he
 have HB:=Lib.hid hbx
 have HW1:=Lib.hid hw1
 have HE:=Lib.hid hE
 clear hw1 hE he hbx
 by_cases h0:kd=0
 ·have g0:(kd != 0)=false:=by simp [h0]
  have HA:Hid ((accW () ⟨id,kl⟩ kd).2=false):=by show _=_;simp [accW,h0]
  clear h0
  go_enter Tryz.func66,Tryz.ntmps66
  go_upto_region 1 with fail
  rw [←HW1.out,←HE.out]
  go_wp2_with fail
  go_ret
  exact ⟨by rw [HA.out];rfl,HB.out⟩
 ·have g0:(kd != 0)=true:=by simp [h0]
  by_cases h1:kl=0
  ·have g1:(kl==0)=true:=by simp [h1]
   have HA:Hid ((accW () ⟨id,kl⟩ kd).2=true):=by show _=_;simp [accW,h0,h1]
   clear h0 h1
   go_enter Tryz.func66,Tryz.ntmps66
   go_upto_region 1 with fail
   rw [←HW1.out,←HE.out]
   go_wp2_with fail
   go_ret
   exact ⟨by rw [HA.out];rfl,HB.out⟩
  ·have g1:(kl==0)=false:=by simp [h1]
   obtain ⟨T,hT⟩:∃ T,T=decide (kl=kd):=⟨_,rfl⟩
   have g2:(kl==kd)=T:=by rw [hT];by_cases h:kl=kd<;>simp [h]
   have HA:Hid ((accW () ⟨id,kl⟩ kd).2=T):=by show _=_;rw [hT];simp [accW,h0,h1]
   clear h0 h1 hT
   go_enter Tryz.func66,Tryz.ntmps66
   go_upto_region 1 with fail
   rw [←HW1.out,←HE.out]
   go_wp2_with fail
   go_ret
   exact ⟨by rw [HA.out];rfl,HB.out⟩
def rndS (l:List It) (cuts ids:List (List UInt8)):Nat:=phi l cuts (fun _=>none) [toL 0 ids] []+1
def wholeI (l:List It) (cuts ids:List (List UInt8)):Bool:=(fol l cuts accW (rndS l cuts ids) (fun _=>none) [toL 0 ids] [] ()).2
structure StOk (w:World) (l:List It) (p:Option Addr) (n:Nat):Prop where
 len:n=l.length
 big:n≤140737488355328
 bs:∀ e∈l,e.b.size≤1048576
 kw:∀ e∈l,(Lit.int .i64 e.k).wf=true
 rw:ItRw w p l
 t1:StrTab w
 t2:WoTab w
 t3:TrTab w
theorem StOk.args {σ:Type} {J:σ→World→Prop} {B M:Nat} {wB w:World} {l:List It} {p:Option Addr} {n:Nat} (h:StOk wB l p n) (hB:B=wB.heap.size) (hb:Below B wB w) (hm:B≤M) (hM:M<w.heap.size) (hJ:Stays J w.heap.size):FoArgs J B M wB w l p n:=by
 subst hB
 exact ⟨hb,hm,hM,h.len,h.big,h.bs,h.kw,fun w' hb'=>⟨h.rw.below hb',h.t1.below hb',h.t2.below hb',h.t3.below hb'⟩,hJ⟩
theorem StOk.below {w w':World} {l:List It} {p:Option Addr} {n:Nat} (h:StOk w l p n) (hb:Below w.heap.size w w'):StOk w' l p n:=⟨h.len,h.big,h.bs,h.kw,h.rw.below hb,h.t1.below hb,h.t2.below hb,h.t3.below hb⟩
set_option maxHeartbeats 2000000 in
set_option maxRecDepth 4000 in
theorem swhole_any (l:List It) (cuts ids:List (List UInt8)) (p q q2:Option Addr) (n c m d m2 d2:Nat) (w:World) (h:StOk w l p n) (hm:m=cuts.length) (hm2:m2=ids.length) (hq:SRw w q cuts) (hq2:SRw w q2 ids) (hcl:∀ x∈cuts,x.length≤140737488355328) (hil:∀ x∈ids,x.length≤140737488355328) (hmn:m≤1000000) (hmn2:m2≤1000000) (hN:rndS l cuts ids≤1000000000) :
  Calls Tryz.prog 33 #[.agg #[.slice p n c],.slice q m d,.slice q2 m2 d2] w fun e w'=>e=.returned (.bool (wholeI l cuts ids))∧Below w.heap.size w w':=by
 obtain ⟨w1,hw1⟩:∃ w1,w1=w.alloc (.cells #[.slice p n c] 24):=⟨_,rfl⟩
 obtain ⟨I,hI⟩:∃ I,I=w.heap.size:=⟨_,rfl⟩
 have h1:w1.heap[I]?=some (.cells #[.slice p n c] 24 (0,0)):=by rw [hw1,hI];exact heap_alloc_new _ _
 have hb1:Below w.heap.size w w1:=by rw [hw1];exact below_new (Below.refl _ _) _
 have x0:=(st_at h1).1
 have hc:=follow0_any accW (fun _=>0) (rndS l cuts ids) (fun _ _=>True) 66 w.heap.size w.heap.size Tryz.eg_whole l cuts ids p q q2 n c m d m2 d2 w w1
  (h.args rfl hb1 (Nat.le_refl _) (by have:=row_lt h1;omega) (fun _ _ _ _ _ _ _=>trivial)) hm hm2 (hq.below hb1) (hq2.below hb1) hcl hil hmn hmn2 (fun _ _ _=>Nat.zero_le _)
  (fun s lk kd w' _ _ _ _=>(whole1_any lk kd w').mono fun e w'' ⟨he,hb⟩=>⟨he,trivial,by have g:=grown_of_below hb;exact ⟨g.os,g.tape,g.output,g.size,fun k hk _=>g.block k hk (by simp)⟩⟩)
  () trivial (rndS l cuts ids) (Nat.lt_succ_self _) hN (by simp)
 obtain ⟨R,hR⟩:∃ R,R=wholeI l cuts ids:=⟨_,rfl⟩
 have hR2:(fol l cuts accW (rndS l cuts ids) (fun _=>none) [toL 0 ids] [] ()).2=R:=by rw [hR];rfl
 rw [hR2] at hc
 rw [←hR]
 have HC:=Lib.hid hc
 have HW1:=Lib.hid hw1
 have HI:=Lib.hid hI
 clear hw1 hI h1 hb1 hc hR hR2 h hm hm2 hq hq2 hcl hil hN
 go_enter Tryz.func33,Tryz.ntmps33
 go_upto_region 1 with fail
 rw [←HW1.out,←HI.out]
 go_wp2_with (go_at_call 60;((with_reducible refine HC.out.mono ?_);rintro e w2 ⟨rfl,-,hb2⟩))
 go_ret
 exact ⟨rfl,hb2⟩
end Go.Proofs.YtnoopcenogbjiaaGreatDoor
/-
 The sorted keys of what the callbacks told; the walks of Reach and Missing.
-/
namespace Go.Proofs.YtnoopcenogbjiaaGreatDoor
open Go Go.RowKit Go.Maps Go.WideMaps Go.Sort
def keysL (ls:List (List UInt8)):List (List UInt8):=(disL ls).mergeSort leB
theorem leB_trans (a b c:List UInt8) (h1:leB a b=true) (h2:leB b c=true):leB a c=true:=by
 simp only [leB,decide_eq_true_eq] at *
 exact List.le_trans h1 h2
theorem leB_total (a b:List UInt8):(leB a b||leB b a)=true:=by
 simp only [leB,Bool.or_eq_true,decide_eq_true_eq]
 exact List.le_total a b
theorem disL_nd (l:List (List UInt8)):(disL l).Nodup:=by
 have h:∀ k,k≤l.length→(disL (l.take k)).Nodup:=by
  intro k
  induction k with
  | zero=>intro _;exact List.nodup_nil
  | succ k ih =>
   intro hk
   rw [disL_take (by omega)]
   by_cases hm:l[k]∈l.take k
   ·rw [if_pos hm];exact ih (by omega)
   ·rw [if_neg hm,List.nodup_append]
    refine ⟨ih (by omega),by simp,fun a ha b hb e=>?_⟩
    rw [List.mem_singleton] at hb
    rw [disL_mem] at ha
    exact hm (by rw [←hb,←e];exact ha)
 have:=h l.length (Nat.le_refl _)
 rwa [List.take_length] at this
theorem keysL_mem (ls:List (List UInt8)) (x:List UInt8):x∈keysL ls↔x∈ls:=by
 rw [keysL,(List.mergeSort_perm _ _).mem_iff,disL_mem]
theorem keysL_srt (ls:List (List UInt8)):SrtS (keysL ls):=by
 have h1:(keysL ls).Pairwise fun a b=>leB a b=true:=List.pairwise_mergeSort leB_trans leB_total _
 have h2:(keysL ls).Nodup:=(List.mergeSort_perm _ _).nodup_iff.2 (disL_nd ls)
 refine (h1.and h2).imp ?_
 rintro a b ⟨h3,h4⟩
 have h5:a≤b:=by simpa [leB] using h3
 rcases bl_total a b h4 with h|h
 ·show Op.bytesLess (str a).toList (str b).toList=true
  rw [ByteArray.toList_eq,ByteArray.toList_eq]
  exact h
 ·rw [bytesLess_eq,decide_eq_true_eq] at h
  exact absurd (List.le_antisymm h5 (List.le_of_lt h)) h4
theorem srt_unique:∀ (a b:List (List UInt8)),SrtS a→SrtS b→(∀ x,x∈a↔x∈b)→a=b:=fun a b ha hb h=>by
 have nd:∀ l:List (List UInt8),SrtS l→l.Nodup:=fun l hl=>hl.imp fun {x y} hxy e=>by rw [e,ltB_irr] at hxy;cases hxy
 refine List.Perm.eq_of_pairwise (le:=fun x y=>ltB (str x) (str y)=true) (fun x y _ _ h1 h2=>?_) ha hb ((List.perm_ext_iff_of_nodup (nd a ha) (nd b hb)).2 h)
 rw [ltB_asym h1] at h2
 cases h2
theorem keysL_length (ls:List (List UInt8)):(keysL ls).length=(disL ls).length:=(List.mergeSort_perm _ _).length_eq
theorem keys_perm {w:World} {M m:Nat} {D:DataW Unit} {ls:List (List UInt8)} (hm:Msb w M m D) (hT:Tidy D) (hh:∀ q,Maps.has D (.string q)=decide (q∈ls)):(disL ls).Perm (strKeys D)∧Maps.size D=(disL ls).length:=by
 obtain ⟨es,rfl,hp⟩:=hT
 obtain ⟨es',he,hk⟩:=hm.keysOf
 obtain rfl:es=es':=by cases he;rfl
 have h:(disL ls).Perm (strKeys (.map es)):=perm_strKeys hp (fun p hp'=>by
  obtain ⟨key,hkey⟩:=hk p hp'
  obtain ⟨x,-,hx,-⟩:=Maps.keyOf_str Tryz.underlying9 hkey
  exact ⟨x,hx⟩) (disL_nd ls) (fun x=>by rw [hh,decide_eq_true_eq,disL_mem])
 refine ⟨h,?_⟩
 rw [h.length_eq,Maps.size_eq]
 simp [strKeys]
theorem sorted_keys (w:World) (M m:Nat) (D:DataW Unit) (ls:List (List UInt8)) (hm:Msb w M m D) (hT:Tidy D) (hh:∀ q,Maps.has D (.string q)=decide (q∈ls)) (hl:ls.length≤1000000000) :
  Calls Tryz.prog 62 #[.func (.func 97) #[] #[.pointer (some ⟨w.heap.size,0,none⟩)]] (w.alloc (.cells #[.map (some M)] 83)) fun e w'=>∃ v,e=.returned v∧SOw w' w.heap.size v (keysL ls)∧Below w.heap.size (w.alloc (.cells #[.map (some M)] 83)) w':=by
 obtain ⟨hp,hs⟩:=keys_perm hm hT hh
 have hd:(disL ls).length≤ls.length:=disL_len ls
 refine (callsIn_wide.1 (Tryz.slices_Sorted_keys_62_63 M m D _ w hm (by rw [hs];unfold maxLen;omega) (by rw [hs];omega))).mono ?_
 rintro e w' ⟨v,ss,rfl,hS,hrow,-,hb⟩
 have he:ss.mergeSort (fun x y=>decide (x≤y))=keysL ls:=mergeSort_of_perm (hS.trans hp.symm)
 have hsl:ss.length=(keysL ls).length:=by rw [hS.length_eq,←hp.length_eq,keysL_length]
 rw [he,hsl] at hrow
 refine ⟨v,rfl,?_,hb.mono (by simp)⟩
 have h2:SOw w' (w.alloc (.cells #[.map (some M)] 83)).heap.size v (keysL ls):=hrow
 exact SOw.mono h2 (by simp)
theorem map_keys (W:World) (M:Nat):Calls Tryz.prog 63 #[.map (some M)] W fun e w'=>e=.returned (.func (.func 97) #[] #[.pointer (some ⟨W.heap.size,0,none⟩)])∧w'=W.alloc (.cells #[.map (some M)] 83):=callsIn_wide.1 (Tryz.maps_Keys_63 (some M) W)
end Go.Proofs.YtnoopcenogbjiaaGreatDoor
