/-
 The walk of follow.
-/
import Derived.Test.YtnoopcenogbjiaaGreatDoorSoLkoPk
set_option linter.unusedVariables false
set_option linter.unusedSimpArgs false
namespace Go.Proofs.YtnoopcenogbjiaaGreatDoor
open Go Go.RowKit Go.Maps Go.WideMaps
theorem short_to (ids:List (List UInt8)) (h:∀ x∈ids,x.length≤140737488355328):shortL (toL 0 ids):=by
 intro x hx
 obtain ⟨y,hy,rfl⟩:=List.mem_map.1 hx
 show (str y).size≤_
 rw [str_size]
 exact h y hy
theorem shortL_tail {a:Lk} {L:List Lk} (h:shortL (a::L)):shortL L:=fun x hx=>h x (List.mem_cons_of_mem _ hx)
structure FoArgs {σ:Type} (J:σ→World→Prop) (B M:Nat) (wB w:World) (l:List It) (p:Option Addr) (n:Nat):Prop where
 b:Below B wB w
 bm:B≤M
 lt:M<w.heap.size
 len:n=l.length
 big:n≤140737488355328
 bs:∀ e∈l,e.b.size≤1048576
 kw:∀ e∈l,(Lit.int .i64 e.k).wf=true
 mem:∀ w',Below B wB w'→ItRw w' p l∧StrTab w'∧WoTab w'∧TrTab w'
 st:Stays J w.heap.size
theorem getI_size {l:List It} (id:ByteArray) (h:∀ e∈l,e.b.size≤1048576):(getI l id).b.size≤1048576:=by
 cases hh:hasI l id with
 | true=>exact h _ (getI_mem hh).1
 | false=>rw [getI_no hh];decide
theorem getI_wf {l:List It} (id:ByteArray) (h:∀ e∈l,(Lit.int .i64 e.k).wf=true):(Lit.int .i64 (getI l id).k).wf=true:=by
 cases hh:hasI l id with
 | true=>exact h _ (getI_mem hh).1
 | false=>rw [getI_no hh];decide
theorem WkOw.len {w:World} {base:Nat} {v:Value} {st:List (List Lk)} (h:WkOw w base v st):∃ p c,v=.slice p st.length c:=by
 obtain ⟨vals,h1,-⟩:=h
 rcases h1.2 with ⟨rfl,hx⟩|⟨g,cap,cur,rfl,_⟩
 ·exact ⟨none,0,by rw [hx]⟩
 ·exact ⟨_,cap,rfl⟩
theorem list_last {α:Type} (l:List α):l=[]∨∃ l' x,l=l'++[x]:=by
 rcases List.eq_nil_or_concat l with h|⟨l',x,h⟩
 ·exact .inl h
 ·exact .inr ⟨l',x,by rw [h];simp⟩
structure FW {σ:Type} (J:σ→World→Prop) (B M base:Nat) (wB:World) (I C nC:Nat) (DC:DataW Unit) (sv:Value) (K:Nat) (s:σ) (nk:Nat) (D:DataW Unit) (v:Value) (st:List (List Lk)) (p:Option Addr) (L:List Lk) (w:World):Prop where
 fo:Fo J B wB I C nC DC sv s w
 wk:WkOw w (K+1) v st
 kd:Mk w K nk D
 ty:LkTy w (K+1) p L
 sz:K+1≤w.heap.size
 nu:B≤M∧M<base∧base≤I∧I<C∧C<K
 js:Stays J base
section
variable {σ:Type} {J:σ→World→Prop} {B M base:Nat} {wB:World} {I C nC:Nat} {DC:DataW Unit} {sv:Value} {K:Nat} {s:σ} {nk:Nat} {D:DataW Unit} {v:Value} {st:List (List Lk)} {p:Option Addr} {L:List Lk} {w w':World}
theorem FW.below (h:FW J B M base wB I C nC DC sv K s nk D v st p L w) (hb:Below w.heap.size w w'):FW J B M base wB I C nC DC sv K s nk D v st p L w' :=
 ⟨h.fo.below h.js (by have:=h.nu;omega) (by have:=h.nu;have:=h.sz;omega) hb,h.wk.below hb,h.kd.kept (grown_of_below hb) (by simp),h.ty.below hb,Nat.le_trans h.sz hb.size,h.nu,h.js⟩
theorem FW.map {nk':Nat} {D':DataW Unit} (h:FW J B M base wB I C nC DC sv K s nk D v st p L w) (hg:w.grownBy w' (some K)) (hk:Mk w' K nk' D'):FW J B M base wB I C nC DC sv K s nk' D' v st p L w' :=
 ⟨h.fo.grown h.js (by have:=h.nu;omega) (by have:=h.nu;have:=h.sz;omega) hg (fun x e=>by cases e;have:=h.nu;omega),h.wk.low hg (Nat.lt_succ_self _),hk,h.ty.low hg (Nat.lt_succ_self _),Nat.le_trans h.sz hg.size,h.nu,h.js⟩
theorem FW.own {v':Value} {st':List (List Lk)} {n:Nat} {vals:List Value} (h:FW J B M base wB I C nC DC sv K s nk D v st p L w) (ho:w.ownsRow (K+1) 124 1 v n vals) (hg:w.grownBy w' v.ownBlock) (hw:WkOw w' (K+1) v' st'):FW J B M base wB I C nC DC sv K s nk D v' st' p L w' :=
 ⟨h.fo.grown h.js (by have:=h.nu;omega) (by have:=h.nu;have:=h.sz;omega) hg (fun x e=>by have:=(ho.lt x e).1;have:=h.nu;omega),hw,h.kd.kept hg (fun e=>by have:=(ho.lt K e.symm).1;omega),h.ty.own ho hg,Nat.le_trans h.sz hg.size,h.nu,h.js⟩
theorem FW.call {s':σ} (h:FW J B M base wB I C nC DC sv K s nk D v st p L w) (hg:w.grownBy w' (some M)) (hj:J s' w'):FW J B M base wB I C nC DC sv K s' nk D v st p L w' :=
 ⟨h.fo.call (by have:=h.nu;have:=h.sz;omega) hg h.nu.1 (by have:=h.nu;omega) (by have:=h.nu;omega) hj,h.wk.low hg (by have:=h.nu;omega),h.kd.kept hg (by simp;have:=h.nu;omega),h.ty.low hg (by have:=h.nu;omega),Nat.le_trans h.sz hg.size,h.nu,h.js⟩
theorem own_off {c:Array Value} {t:TypeId} {m:Nat×Nat} {E n:Nat} {vals:List Value} (ho:w.ownsRow (K+1) 124 1 v n vals) (hE:w.heap[E]?=some (.cells c t m)) (ht:t≠124):some E≠v.ownBlock:=fun e=>by
 rcases ho.2 with ⟨rfl,_⟩|⟨g,cap,cur,rfl,_,hg,_⟩
 ·simp [Value.ownBlock] at e
 ·simp only [Value.ownBlock,Option.some.injEq] at e
  subst e
  rw [hg] at hE
  simp only [Option.some.injEq,Obj.cells.injEq] at hE
  exact ht hE.2.1.symm
structure FP {σ:Type} (acc:σ→Lk→Int→σ×Bool) (cnt:σ→Nat) (T:Nat) (l:List It) (cuts:List (List UInt8)) (R:σ×Bool) (N k:Nat) (kf:Kf) (st:List (List Lk)) (cur:List Lk) (s:σ) (nk:Nat) (D:DataW Unit):Prop where
 r:R=fol l cuts acc k kf st.reverse cur s
 ph:phi l cuts kf st.reverse cur<k
 ik:IsKd D kf
 nn:nk+k≤N
 sh:∀ L∈st,shortL L
 sc:shortL cur
 wf:∀ q z,kf q=some z→(Lit.int .i64 z).wf=true
 ct:cnt s+k≤T
end
section
variable {σ:Type} {acc:σ→Lk→Int→σ×Bool} {cnt:σ→Nat} {T:Nat} {l:List It} {cuts:List (List UInt8)} {R:σ×Bool} {N k:Nat} {kf:Kf} {st:List (List Lk)} {cur L:List Lk} {lk:Lk} {s s':σ} {nk:Nat} {D:DataW Unit} {kd:Int}
theorem FP.pos (h:FP acc cnt T l cuts R N k kf st cur s nk D):∃ k',k=k'+1:=⟨k-1,by have:=h.ph;omega⟩
theorem wsz_len:∀ st:List (List Lk),st.length≤wsz st
 | []=>Nat.le_refl _
 | x::r=>by
  have:=wsz_len r
  rw [wsz,List.length_cons]
  omega
theorem FP.len (h:FP acc cnt T l cuts R N k kf st cur s nk D):st.length<k:=by
 have h1:=h.ph
 have h2:=wsz_len st.reverse
 rw [List.length_reverse] at h2
 unfold phi at h1
 omega
theorem FP.clen (h:FP acc cnt T l cuts R N k kf st cur s nk D):2*cur.length<k:=by
 have h1:=h.ph
 unfold phi at h1
 omega
theorem FP.done (h:FP acc cnt T l cuts R N k kf [] [] s nk D):R=(s,true):=by
 obtain ⟨k',rfl⟩:=h.pos
 exact h.r
theorem FP.pop (h:FP acc cnt T l cuts R N (k+1) kf (st++[L]) [] s nk D):FP acc cnt T l cuts R N k kf st L s nk D:=by
 have e:(st++[L]).reverse=L::st.reverse:=by simp
 refine ⟨?_,?_,h.ik,by have:=h.nn;omega,fun x hx=>h.sh x (by simp [hx]),h.sh L (by simp),h.wf,by have:=h.ct;omega⟩
 ·have:=h.r
  rw [e,fol_pop] at this
  exact this
 ·have:=h.ph
  rw [e,←phi_pop] at this
  omega
theorem FP.met (h:FP acc cnt T l cuts R N (k+1) kf st (lk::cur) s nk D) (hc:∀ s lk kd,cnt (acc s lk kd).1≤cnt s+1) (hk:kf lk.i.data.toList=some kd) (ha:acc s lk kd=(s',true)):FP acc cnt T l cuts R N k kf st cur s' nk D :=
 ⟨by have:=h.r;rw [fol_met hk ha] at this;exact this,by have:=h.ph;have:=phi_met (l:=l) (cuts:=cuts) (kf:=kf) (ws:=st.reverse) (cur:=cur) (lk:=lk);omega,h.ik,by have:=h.nn;omega,h.sh,shortL_tail h.sc,h.wf,by have:=h.ct;have h2:=hc s lk kd;rw [ha] at h2;simp only at h2;omega⟩
theorem FP.met_no (h:FP acc cnt T l cuts R N (k+1) kf st (lk::cur) s nk D) (hk:kf lk.i.data.toList=some kd) (ha:acc s lk kd=(s',false)):R=(s',false):=by
 have:=h.r;rw [fol_met_no hk ha] at this;exact this
theorem FP.new (h:FP acc cnt T l cuts R N (k+1) kf st (lk::cur) s nk D) (hc:∀ s lk kd,cnt (acc s lk kd).1≤cnt s+1) (hk:kf lk.i.data.toList=none) (he:kd=(getI l lk.i).k) (hw:(Lit.int .i64 kd).wf=true) (ha:acc s lk kd=(s',true)):FP acc cnt T l cuts R N k (kput kf lk.i.data.toList kd) (st++[getL l cuts lk.i]) cur s' (nk+1) (D.put (.string lk.i.data.toList) (.lit (.int .i64 kd))):=by
 have e:(st++[getL l cuts lk.i]).reverse=getL l cuts lk.i::st.reverse:=by simp
 refine ⟨?_,?_,h.ik.put _ _,by have:=h.nn;omega,fun x hx=>?_,shortL_tail h.sc,fun q z hz=>?_,by have:=h.ct;have h2:=hc s lk kd;rw [ha] at h2;simp only at h2;omega⟩
 ·have:=h.r
  rw [fol_new hk he ha] at this
  rw [e]
  exact this
 ·have h1:=h.ph
  have h2:=phi_new (l:=l) (cuts:=cuts) (kf:=kf) (ws:=st.reverse) (cur:=cur) (lk:=lk) (kd:=kd) hk
  rw [e]
  omega
 ·rcases List.mem_append.1 hx with hx|hx
  ·exact h.sh x hx
  ·rw [List.mem_singleton] at hx
   subst hx
   exact lksOf_short _ _ _
 ·by_cases hq:q=lk.i.data.toList
  ·rw [kput,if_pos hq] at hz
   cases hz
   exact hw
  ·rw [kput,if_neg hq] at hz
   exact h.wf q z hz
theorem FP.new_no (h:FP acc cnt T l cuts R N (k+1) kf st (lk::cur) s nk D) (hk:kf lk.i.data.toList=none) (he:kd=(getI l lk.i).k) (ha:acc s lk kd=(s',false)):R=(s',false):=by
 have:=h.r;rw [fol_new_no hk he ha] at this;exact this
end
set_option maxHeartbeats 16000000 in
set_option maxRecDepth 40000 in
theorem follow_any {σ:Type} (acc:σ→Lk→Int→σ×Bool) (cnt:σ→Nat) (T:Nat) (J:σ→World→Prop) (F:Nat) (Bx:Nat) (M B:Nat) (eg:∀ args w,(callFunc F args).run Tryz.prog w=.ok (.enter F args) w) (l:List It) (cuts ids:List (List UInt8)) (p q q2:Option Addr) (n c m d m2 d2:Nat) (wB w:World)
  (hA:FoArgs J B M wB w l p n) (hm:m=cuts.length) (hm2:m2=ids.length) (hq:SRw w q cuts) (hq2:SRw w q2 ids) (hcl:∀ x∈cuts,x.length≤140737488355328) (hil:∀ x∈ids,x.length≤140737488355328) (hmn:m≤1000000) (hmn2:m2≤1000000)
  (HCN:Hid (∀ s lk kd,cnt (acc s lk kd).1≤cnt s+1)) (HF:Hid (∀ s lk kd w',J s w'→cnt s≤T→lk.i.size≤140737488355328→Below B wB w'→Calls Tryz.prog F #[.agg #[.string lk.i,.int .i64 lk.k],.int .i64 kd,.pointer (some ⟨Bx,0,none⟩)] w' fun e w''=>e=.returned (.bool (acc s lk kd).2)∧J (acc s lk kd).1 w''∧w'.grownBy w'' (some M)))
  (s0:σ) (hj:J s0 w) (N:Nat) (hN:phi l cuts (fun _=>none) [toL 0 ids] []<N) (hN2:N≤1000000000) (hT:cnt s0+N≤T) :
  Calls Tryz.prog 60 #[.agg #[.slice p n c],.slice q m d,.slice q2 m2 d2,.func (.func F) #[] #[.pointer (some ⟨Bx,0,none⟩)]] w fun e w'=>e=.returned (.bool (fol l cuts acc N (fun _=>none) [toL 0 ids] [] s0).2)∧J (fol l cuts acc N (fun _=>none) [toL 0 ids] [] s0).1 w'∧Below B wB w':=by
 obtain ⟨R,hR⟩:∃ R,R=fol l cuts acc N (fun _=>none) [toL 0 ids] [] s0:=⟨_,rfl⟩
 rw [←hR]
 obtain ⟨w1,hw1⟩:∃ w1,w1=w.alloc (.cells #[.slice p n c] 24):=⟨_,rfl⟩
 obtain ⟨I,hI⟩:∃ I,I=w.heap.size:=⟨_,rfl⟩
 have h1:w1.heap[I]?=some (.cells #[.slice p n c] 24 (0,0)):=by rw [hw1,hI];exact heap_alloc_new _ _
 have hb1:Below w.heap.size w w1:=by rw [hw1];exact below_new (Below.refl _ _) _
 have hs1:w1.heap.size=w.heap.size+1:=by rw [hw1];simp
 have hBw:B≤w.heap.size:=by have:=hA.bm;have:=hA.lt;omega
 have hbB1:=hA.b.trans (hb1.mono hBw)
 have HS:=Lib.hid (setOf_any cuts q m d w1 hm (hq.below hb1) hcl hmn)
 have HLT:=Lib.hid (fun (w':World) (h:Below w1.heap.size w1 w')=>linksTo_any 0 ids q2 m2 d2 w' hm2 ((hq2.below hb1).below h) hmn2)
 have HA:=Lib.hid hA
 have HR:=Lib.hid hR
 have HW1:=Lib.hid hw1
 have HI:=Lib.hid hI
 have HJ1:Hid (J s0 w1):=hA.st s0 w w1 none hj (grown_of_below hb1) (fun x e=>by cases e)
 have HB1:=Lib.hid hbB1
 have H1:=Lib.hid h1
 have HS1:=Lib.hid hs1
 have HBW:=Lib.hid hBw
 have HN:=Lib.hid hN
 have HSH:Hid (shortL (toL 0 ids)):=short_to ids hil
 have HM2:=Lib.hid hm2
 clear hR hw1 hI h1 hb1 hs1 hBw hbB1 hA hm hm2 hq hq2 hcl hil hj hN
 go_enter Tryz.func60,Tryz.ntmps60
 go_upto_region 1 with fail
 rw [←HW1.out,←HI.out]
 go_step3
 go_upto_region 2 with (go_at_call 53;((with_reducible refine HS.out.mono ?_);rintro e w2 ⟨C,nC,DC,rfl,hM2,hI2,hC1,hC2,hb2⟩))
 have hmm:=make_mapS w2
 obtain ⟨w3,hw3⟩:∃ w3,w3=w2.alloc (.map #[] 0):=⟨_,rfl⟩
 obtain ⟨K,hK⟩:∃ K,K=w2.heap.size:=⟨_,rfl⟩
 have hk3:Mk w3 K 0 (.map []):=by rw [hw3,hK];exact mk_new _
 have hb3:Below w2.heap.size w2 w3:=by rw [hw3];exact below_new (Below.refl _ _) _
 have hs3:w3.heap.size=K+1:=by rw [hw3,hK];simp
 rw [←hw3,←hK] at hmm
 have hb13:=hb2.trans (hb3.mono hb2.size)
 have HNUM:Hid (B≤M∧M<I∧I=w.heap.size∧I<C∧C<K∧w3.heap.size=K+1):=⟨HA.out.bm,by rw [HI.out];exact HA.out.lt,HI.out,by have:=HS1.out;have:=HI.out;omega,by omega,hs3⟩
 have HFO:Hid (Fo J B wB I C nC DC (.slice p n c) s0 w3):=⟨HB1.out.trans (hb13.mono (by have:=HBW.out;have:=HS1.out;omega)),(hb13.block _ (row_lt H1.out)).trans H1.out,hM2.below hb3,HA.out.st s0 w1 w3 none HJ1.out (grown_of_below hb13) (fun x e=>by cases e)⟩
 have HIS:=Lib.hid hI2
 have HB13:=Lib.hid hb13
 have HK3:=Lib.hid hk3
 clear hw3 hK hk3 hb3 hs3 hb13 hM2 hI2 hC1 hC2 hb2 HS HJ1 HB1 H1 HS1 HW1
 go_upto_region 3 with fail
 go_upto_region 4 with (go_at_call 93;((with_reducible refine (HLT.out _ HB13.out).mono ?_);rintro e w4 ⟨⟨v4,rfl,ho4⟩,hb4⟩;obtain ⟨p4,c4,rfl,hc4,hr4,ht4⟩:=ho4.rw))
 have hty:LkTy w4 (K+1) p4 (toL 0 ids):=⟨hr4,fun g o h=>by have:=ht4 g o h;rw [HNUM.out.2.2.2.2.2] at this;exact this⟩
 obtain ⟨n4,hn4⟩:∃ n4,n4=(toL 0 ids).length:=⟨_,rfl⟩
 rw [←hn4]
 have HWK:Hid (WkOw (w4.alloc (.cells #[.slice p4 n4 c4] 124)) (K+1) (.slice (some ⟨w4.heap.size,0,none⟩) 1 1) [toL 0 ids]):=WkOw.one hn4 (by have:=hb4.size;have:=HNUM.out.2.2.2.2.2;omega) hty
 have hb5:Below w3.heap.size w3 (w4.alloc (.cells #[.slice p4 n4 c4] 124)):=hb4.trans ((below_new (Below.refl _ _) _).mono hb4.size)
 have HST:Hid (Stays J w.heap.size):=HA.out.st
 have HF5:Hid (Fo J B wB I C nC DC (.slice p n c) s0 (w4.alloc (.cells #[.slice p4 n4 c4] 124))):=HFO.out.below HST.out HBW.out (by have:=HNUM.out;omega) hb5
 have HK5:Hid (Mk (w4.alloc (.cells #[.slice p4 n4 c4] 124)) K 0 (.map [])):=HK3.out.kept (grown_of_below hb5) (by simp)
 have HS5:Hid (K+1≤(w4.alloc (.cells #[.slice p4 n4 c4] 124)).heap.size):=by show _≤_;have:=HNUM.out.2.2.2.2.2;have:=hb5.size;omega
 obtain ⟨w5,hw5⟩:∃ w5,w5=w4.alloc (.cells #[.slice p4 n4 c4] 124):=⟨_,rfl⟩
 obtain ⟨v5,hv5⟩:∃ v5,v5=Value.slice (some ⟨w4.heap.size,0,none⟩) 1 1:=⟨_,rfl⟩
 rw [←hw5] at HWK HF5 HK5 HS5 ⊢
 rw [←hv5] at HWK ⊢
 clear hw5 hv5 hb5 hty hn4 hc4 hr4 ht4 hb4 ho4 HB13 HK3 HFO HLT hmm
 have HFP:Hid (FP acc cnt T l cuts R N N (fun _=>none) [toL 0 ids] [] s0 0 (.map [])):=⟨HR.out,HN.out,isKd_nil,by omega,fun x hx=>by rw [List.mem_singleton] at hx;subst hx;exact HSH.out,fun x hx=>by simp at hx,fun _ _ h=>by simp at h,hT⟩
 have HNU:Hid (B≤M∧M<w.heap.size∧w.heap.size≤I∧I<C∧C<K):=by have:=HNUM.out;exact ⟨by omega,by omega,by omega,by omega,by omega⟩
 clear HR HN HSH HNUM hT
 go_upto_region 5 with fail
 go_step3
 go_wp2_with fail
 go_loopg [11,12] N (fun k v b wr=>∃ kf st s nk D,b=.bool true∧Hid (FP acc cnt T l cuts R N k kf st [] s nk D)∧Hid (WkOw wr (K+1) v st)∧Hid (Fo J B wB I C nC DC (.slice p n c) s wr)∧Hid (Mk wr K nk D)∧Hid (K+1≤wr.heap.size))
 case atStart=>exact ⟨_,_,_,_,_,rfl,HFP.out,HWK.out,HF5.out,HK5.out,HS5.out⟩
 case round =>
  clear HFP HWK HF5 HK5 HS5
  obtain ⟨kf,st,s,nk,D,rfl,HP,HW,HO,HK,HZ⟩:=hrel
  rcases list_last st with rfl|⟨st',L,rfl⟩
  ·-- nothing is left
   have HQ:Hid (R=(s,true)):=HP.out.done
   obtain ⟨pv,cv,rfl⟩:=HW.out.len
   clear HP HW HK HZ
   go_wp2_with fail
   rw [Exit.noGoto_ret]
   show bodyPost Tryz.prog Tryz.f60 (fun e w'=>e=.returned (.bool R.2)∧J R.1 w'∧Below B wB w') .ret _ _
   go_ret
   exact ⟨by rw [HQ.out];rfl,by rw [HQ.out];exact HO.out.j,HO.out.b⟩
  ·have hk9:=HP.out.len
   have hk8:=HP.out.nn
   simp only [List.length_append,List.length_singleton] at hk9
   obtain ⟨k,rfl⟩:=HP.out.pos
   obtain ⟨n5,hn5⟩:∃ n5,n5=st'.length:=⟨_,rfl⟩
   obtain ⟨g,cap,pl,cl,rfl,hcap,hcell,hty,hwk⟩:=HW.out.top hn5
   obtain ⟨mm,hmm⟩:∃ mm,mm=L.length:=⟨_,rfl⟩
   rw [←hmm] at hcell
   obtain ⟨n6,hn6⟩:∃ n6,n6=n5+1:=⟨_,rfl⟩
   rw [←hn6] at hcap ⊢
   have e1:IntKind.i64.wrap ((n6:Int)-1)=(n5:Int):=by rw [IntWalk.i64_in _ (by omega)];omega
   have e2:(n6:Int)-1=(n5:Int):=by omega
   have e3:IntKind.i64.wrap (n5:Int)=(n5:Int):=IntWalk.i64_in _ (by omega)
   have z0:0<n6:=by omega
   have z4:n5<n6:=by omega
   have z1:(0:Int)<(n6:Int):=by omega
   have z2:(n5:Int)<(n6:Int):=by omega
   have z3:(n5:Int)≤(cap:Int):=by omega
   have HFW:Hid (FW J B M w.heap.size wB I C nC DC (.slice p n c) K s nk D (.slice (some ⟨g,0,none⟩) n5 cap) st' pl L wr):=⟨HO.out,hwk,HK.out,hty,HZ.out,HNU.out,HST.out⟩
   have HPP:=Lib.hid HP.out.pop
   have HMM:=Lib.hid hmm
   have HN5:Hid (n5≤k∧k≤1000000000):=⟨by omega,by omega⟩
   clear HP HW HO HK HZ hwk hty hmm hn5 hn6 hk9 hk8 hcap
   go_upto_region 8 with fail
   obtain ⟨v6,hv6⟩:∃ v6,v6=Value.slice (some ⟨g,0,none⟩) n5 cap:=⟨_,rfl⟩
   rw [←hv6] at HFW ⊢
   clear hv6 e1 e2 e3 z0 z1 z2 z3 z4 hcell
   have hmx:mm≤1000000000:=by have:=HPP.out.clen;have:=HMM.out;have:=HN5.out.2;omega
   go_wp2_with fail
   go_loopw [11,12,42] (fun v b i wx=>∃ (j k':Nat) (kf':Kf) (st:List (List Lk)) (s':σ) (nk':Nat) (D':DataW Unit),j≤mm∧i=.int .i64 (j:Int)∧b=.bool true∧Hid (k'≤k)∧Hid (FP acc cnt T l cuts R N k' kf' st (L.drop j) s' nk' D')∧Hid (FW J B M w.heap.size wB I C nC DC (.slice p n c) K s' nk' D' v st pl L wx)) (fun v b i _=>mm-(intOf i).toNat)
   case atStart=>exact ⟨0,k,kf,st',s,nk,D,by omega,rfl,rfl,Nat.le_refl _,HPP.out,HFW.out⟩
   case round =>
    clear HPP HFW
    obtain ⟨j,k',kf',st,s',nk',D',hj,rfl,rfl,HKK,HP,HW⟩:=hrel
    by_cases hlt:j<mm
    ·have hjl:j<L.length:=by rw [←HMM.out];exact hlt
     obtain ⟨k2,rfl⟩:=HP.out.pos
     obtain ⟨lk,hlk⟩:∃ lk,lk=L[j]:=⟨_,rfl⟩
     have hdr:L.drop j=lk::L.drop (j+1):=by rw [hlk];exact List.drop_eq_getElem_cons hjl
     rw [hdr] at HP
     obtain ⟨gl,ol,rfl,hgl,a0,a1⟩:=HW.out.ty.1 j hjl
     rw [←hlk] at a0 a1
     have hsz:=HP.out.sc lk (List.mem_cons_self ..)
     obtain ⟨id,kl⟩:=lk
     simp only at a0 a1 hsz
     have q1:(j:Int)<(mm:Int):=by omega
     obtain ⟨w8,hw8⟩:∃ w8,w8=wr.alloc (.cells #[.string id,.int .i64 kl] 91):=⟨_,rfl⟩
     obtain ⟨E,hE⟩:∃ E,E=wr.heap.size:=⟨_,rfl⟩
     have he8:w8.heap[E]?=some (.cells #[.string id,.int .i64 kl] 91 (0,0)):=by rw [hw8,hE];exact heap_alloc_new _ _
     have hb8:Below wr.heap.size wr w8:=by rw [hw8];exact below_new (Below.refl _ _) _
     have HW8:=Lib.hid (HW.out.below hb8)
     have HE8:=Lib.hid he8
     have HEQ:=Lib.hid hw8
     have HEN:=Lib.hid hE
     have HKE:Hid (K+1≤E):=by show _≤_;rw [hE];exact HW.out.sz
     have HSZ:=Lib.hid hsz
     clear hw8 hE he8 hb8 hgl hdr hlk hjl HW hsz
     go_upto_region 11 with fail
     rw [←HEQ.out,←HEN.out]
     clear a0 a1
     have hkey:=skeyS (t:=id) HSZ.out
     have e0:w8.cell? ⟨E,0,none⟩=some (.string id):=cell_of_row _ _ 0 _ _ _ HE8.out
     have e1:w8.cell? ⟨E,1,none⟩=some (.int .i64 kl):=cell_of_row _ _ 1 _ _ _ HE8.out
     cases hkf:kf' id.data.toList with
     | some kd =>
      obtain ⟨y1,y2⟩:=HP.out.ik.yes _ kd hkf
      obtain ⟨⟨s2,b2⟩,hacc⟩:∃ x,x=acc s' ⟨id,kl⟩ kd:=⟨_,rfl⟩
      have HC:=Lib.hid (HF.out s' ⟨id,kl⟩ kd w8 HW8.out.fo.j (by have:=HP.out.ct;omega) HSZ.out HW8.out.fo.b)
      rw [←hacc] at HC
      obtain ⟨K0,hK0⟩:∃ K0,K0=Lit.string id.data.toList:=⟨_,rfl⟩
      rw [←hK0] at hkey y1 y2
      have Y2:=Lib.hid y2
      rcases b2 with _|_
      ·have HQ:Hid (R=(s2,false)):=HP.out.met_no hkf hacc.symm
       clear hkf hacc hK0 y2 HP
       go_wp2_with (first
        | (at_lookup;refine wpList_lookup_own_ok_int _ rfl _ _ 123 rfl 9 3 .i64 str_keyedS Tryz.underlying123 Tryz.underlying3 (zero_intS _) K nk' D' rfl HW8.out.kd _ _ rfl hkey ?_;intro c0 hat hwc;obtain rfl:c0=kd:=(by have e:=(Y2.out _).symm.trans hat;simp only [DataW.lit.injEq,Lit.int.injEq,true_and] at e;exact e.symm);clear hat hwc)
        | (go_at_fn F;(with_reducible refine HC.out.mono ?_);rintro x w9 ⟨rfl,hj9,hg9⟩;have HJ9:=Lib.hid hj9;have HG9:=Lib.hid hg9;clear hj9 hg9))
       rw [Exit.noGoto_ret]
       show bodyPost Tryz.prog Tryz.f60 (fun e w'=>e=.returned (.bool R.2)∧J R.1 w'∧Below B wB w') .ret _ _
       go_ret
       exact ⟨by rw [HQ.out];rfl,by rw [HQ.out];exact HJ9.out,(HW8.out.call HG9.out HJ9.out).fo.b⟩
      ·have HQ:=Lib.hid (HP.out.met HCN.out hkf hacc.symm)
       clear hkf hacc hK0 y2 HP
       go_wp2_with (first
        | (at_lookup;refine wpList_lookup_own_ok_int _ rfl _ _ 123 rfl 9 3 .i64 str_keyedS Tryz.underlying123 Tryz.underlying3 (zero_intS _) K nk' D' rfl HW8.out.kd _ _ rfl hkey ?_;intro c0 hat hwc;obtain rfl:c0=kd:=(by have e:=(Y2.out _).symm.trans hat;simp only [DataW.lit.injEq,Lit.int.injEq,true_and] at e;exact e.symm);clear hat hwc)
        | (go_at_fn F;(with_reducible refine HC.out.mono ?_);rintro x w9 ⟨rfl,hj9,hg9⟩;have HJ9:=Lib.hid hj9;have HG9:=Lib.hid hg9;clear hj9 hg9))
       go_roundw
       case rel=>exact ⟨j+1,k2,kf',st,s2,nk',D',by omega,by go_num,rfl,by have:=HKK.out;show _≤_;omega,HQ.out,HW8.out.call HG9.out HJ9.out⟩
       case measure=>simp [intOf];omega
     | none =>
      have y1:=HP.out.ik.no _ hkf
      obtain ⟨kd,hkd⟩:∃ kd,kd=(getI l id).k:=⟨_,rfl⟩
      obtain ⟨gb,hgb⟩:∃ gb,gb=(getI l id).b:=⟨_,rfl⟩
      have hwf:(Lit.int .i64 kd).wf=true:=by rw [hkd];exact getI_wf id HA.out.kw
      have hbs:gb.size≤1048576:=by rw [hgb];exact getI_size id HA.out.bs
      have hGL:getL l cuts id=lksOf kd gb.data.toList (decide (id.data.toList∈cuts)):=by rw [hkd,hgb];rfl
      obtain ⟨cb,hcb⟩:∃ cb,cb=decide (id.data.toList∈cuts):=⟨_,rfl⟩
      rw [←hcb] at hGL
      have HG:=Lib.hid (sget_any l id p n c w8 HA.out.len (HA.out.mem w8 HW8.out.fo.b).1 HA.out.big)
      rw [←hkd,←hgb] at HG
      obtain ⟨⟨s2,b2⟩,hacc⟩:∃ x,x=acc s' ⟨id,kl⟩ kd:=⟨_,rfl⟩
      obtain ⟨K0,hK0⟩:∃ K0,K0=Lit.string id.data.toList:=⟨_,rfl⟩
      have x0:=(st_at HW8.out.fo.i).1
      have HP2:=Lib.hid (fun (h:b2=true)=>HP.out.new HCN.out hkf hkd hwf (hacc.symm.trans (by rw [h])))
      have HP3:=Lib.hid (fun (h:b2=false)=>HP.out.new_no hkf hkd (hacc.symm.trans (by rw [h])))
      simp only [←hK0] at hkey y1 HP2
      have HACC:=Lib.hid hacc
      have HWF:=Lib.hid hwf
      have HGL:=Lib.hid hGL
      have HCB:=Lib.hid hcb
      have HBS:=Lib.hid hbs
      have hnn:=HP.out.nn
      have HCT:Hid (cnt s'≤T):=by show _≤_;have:=HP.out.ct;omega
      have HLEN:Hid (st.length+1≤1048576000):=by show _≤_;have:=HP.out.len;have:=HKK.out;have:=HN5.out.2;omega
      clear hkd hgb hwf hGL hcb hacc hK0 hkf HP hbs
      go_upto_region 14 with (first
       | (at_lookup;refine wpList_lookup_own_ok_int _ rfl _ _ 123 rfl 9 3 .i64 str_keyedS Tryz.underlying123 Tryz.underlying3 (zero_intS _) K nk' D' rfl HW8.out.kd _ _ rfl hkey ?_;intro c0 hat hwc;clear hat hwc)
       | (go_at_call 15;((with_reducible refine HG.out.mono ?_);rintro e w9 ⟨rfl,hb9⟩)))
      have HW9:=Lib.hid (HW8.out.below hb9)
      have HE9:=Lib.hid ((hb9.block _ (row_lt HE8.out)).trans HE8.out)
      clear hb9 e0 e1 y1 x0
      obtain ⟨w10,hw10⟩:∃ w10,w10=w9.alloc (.cells #[.int .i64 kd,.string gb] 29):=⟨_,rfl⟩
      obtain ⟨O,hO⟩:∃ O,O=w9.heap.size:=⟨_,rfl⟩
      rw [←hw10,←hO]
      have ho10:w10.heap[O]?=some (.cells #[.int .i64 kd,.string gb] 29 (0,0)):=by rw [hw10,hO];exact heap_alloc_new _ _
      have hb10:Below w9.heap.size w9 w10:=by rw [hw10];exact below_new (Below.refl _ _) _
      have HW10:=Lib.hid (HW9.out.below hb10)
      have HE10:=Lib.hid ((hb10.block _ (row_lt HE9.out)).trans HE9.out)
      have HO10:=Lib.hid ho10
      have HKO:Hid (K+1≤O):=by show _≤_;rw [hO];exact HW9.out.sz
      clear hw10 hO ho10 hb10
      have e0:w10.cell? ⟨E,0,none⟩=some (.string id):=cell_of_row _ _ 0 _ _ _ HE10.out
      have o0:w10.cell? ⟨O,0,none⟩=some (.int .i64 kd):=cell_of_row _ _ 0 _ _ _ HO10.out
      go_upto_region 16 with (at_mapUpdate;refine wpList_mapUpdate_own _ rfl _ _ _ 123 rfl 9 3 str_keyedS Tryz.underlying123 _ K nk' D' rfl HW10.out.kd (by unfold maxLen;omega) _ _ _ rfl rfl hkey _ [] (plainElem_int Tryz.underlying3 HWF.out) ?_;intro w11 hM11 hg11)
      have HW11:=Lib.hid (HW10.out.map hg11 hM11)
      have HE11:=Lib.hid ((hg11.block _ (row_lt HE10.out) (by have:=HKE.out;simp;omega)).trans HE10.out)
      have HO11:=Lib.hid ((hg11.block _ (row_lt HO10.out) (by have:=HKO.out;simp;omega)).trans HO10.out)
      clear hM11 hg11 e0 o0 hnn
      have e0:w11.cell? ⟨E,0,none⟩=some (.string id):=cell_of_row _ _ 0 _ _ _ HE11.out
      have o0:w11.cell? ⟨O,0,none⟩=some (.int .i64 kd):=cell_of_row _ _ 0 _ _ _ HO11.out
      have o1:w11.cell? ⟨O,1,none⟩=some (.string gb):=cell_of_row _ _ 1 _ _ _ HO11.out
      have hlk:=msb_look HW11.out.fo.cu (t:=id) HSZ.out (B:=cb) (by rw [HIS.out.look,HCB.out])
      have HLO:=Lib.hid (linksOf_any kd gb cb w11 (HA.out.mem w11 HW11.out.fo.b).2.1 (HA.out.mem w11 HW11.out.fo.b).2.2.1 (HA.out.mem w11 HW11.out.fo.b).2.2.2 HBS.out)
      rw [←HGL.out] at HLO
      go_upto_region 17 with (first
       | (go_at_call 94;((with_reducible refine HLO.out.mono ?_);rintro e w12 ⟨⟨v12,rfl,ho12⟩,hb12⟩;obtain ⟨p12,c12,rfl,-,hr12,ht12⟩:=ho12.rw;have HW12:=Lib.hid (HW11.out.below hb12);have HTY:Hid (LkTy w12 (K+1) p12 (getL l cuts id)):=⟨hr12,fun g o h=>⟨Nat.le_trans HW11.out.sz (ht12 g o h).1,(ht12 g o h).2⟩⟩;have HE12:=Lib.hid ((hb12.block _ (row_lt HE11.out)).trans HE11.out);clear ho12 hb12 hr12 ht12))
       | (at_builtin;refine wp_wk_one rfl _ _ rfl rfl HW12.out.wk p12 _ c12 (getL l cuts id) rfl HTY.out rfl HLEN.out HW12.out.sz ?_;intro v13 w13 hwk13 hown13 hg13;have HWK13:=Lib.hid hwk13;have HOWN13:=Lib.hid hown13;have HG13:=Lib.hid hg13;clear hwk13 hown13 hg13))
      obtain ⟨vals,hvals⟩:=HOWN13.out
      have hbn:Below w12.heap.size w12 (w12.alloc (.cells #[.slice p12 (getL l cuts id).length c12] 124)):=below_new (Below.refl _ _) _
      have HW13:=Lib.hid ((HW12.out.below hbn).own hvals HG13.out HWK13.out)
      have HE12b:=(hbn.block _ (row_lt HE12.out)).trans HE12.out
      have HE13:=Lib.hid ((HG13.out.block _ (row_lt HE12b) (own_off hvals HE12b (by decide))).trans HE12b)
      have HC:=Lib.hid (HF.out s' ⟨id,kl⟩ kd w13 HW13.out.fo.j HCT.out HSZ.out HW13.out.fo.b)
      rw [←HACC.out] at HC
      clear hvals hbn HE12b HWK13 HOWN13 HG13 e0 o0 o1 hlk hkey
      have e0:w13.cell? ⟨E,0,none⟩=some (.string id):=cell_of_row _ _ 0 _ _ _ HE13.out
      have e1:w13.cell? ⟨E,1,none⟩=some (.int .i64 kl):=cell_of_row _ _ 1 _ _ _ HE13.out
      rcases b2 with _|_
      ·have HQ:Hid (R=(s2,false)):=HP3.out rfl
       clear HP2 HP3
       go_wp2_with (go_at_fn F;(with_reducible refine HC.out.mono ?_);rintro x w14 ⟨rfl,hj9,hg9⟩;have HJ9:=Lib.hid hj9;have HG9:=Lib.hid hg9;clear hj9 hg9)
       rw [Exit.noGoto_ret]
       show bodyPost Tryz.prog Tryz.f60 (fun e w'=>e=.returned (.bool R.2)∧J R.1 w'∧Below B wB w') .ret _ _
       go_ret
       exact ⟨by rw [HQ.out];rfl,by rw [HQ.out];exact HJ9.out,(HW13.out.call HG9.out HJ9.out).fo.b⟩
      ·have HQ:=Lib.hid (HP2.out rfl)
       clear HP2 HP3
       go_wp2_with (go_at_fn F;(with_reducible refine HC.out.mono ?_);rintro x w14 ⟨rfl,hj9,hg9⟩;have HJ9:=Lib.hid hj9;have HG9:=Lib.hid hg9;clear hj9 hg9)
       go_roundw
       case rel=>exact ⟨j+1,k2,_,_,s2,nk'+1,_,by omega,by go_num,rfl,by have:=HKK.out;show _≤_;omega,HQ.out,HW13.out.call HG9.out HJ9.out⟩
       case measure=>simp [intOf];omega
    ·obtain rfl:j=mm:=by omega
     have hd:L.drop j=[]:=List.drop_of_length_le (by rw [←HMM.out];exact Nat.le_refl _)
     rw [hd] at HP
     clear hd
     go_wp2_with fail
     go_roundg k'
     case measure=>have:=HKK.out;omega
     case rel=>exact ⟨kf',st,s',nk',D',rfl,HP.out,HW.out.wk,HW.out.fo,HW.out.kd,HW.out.sz⟩
end Go.Proofs.YtnoopcenogbjiaaGreatDoor
