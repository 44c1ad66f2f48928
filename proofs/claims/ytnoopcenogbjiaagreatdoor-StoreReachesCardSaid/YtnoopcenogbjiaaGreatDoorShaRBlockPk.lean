/-
 The walk of the reference's block.
-/
import Derived.Test.YtnoopcenogbjiaaGreatDoorShaPlainPk
import Derived.StillTailTactics
import Derived.RegionTactic
import Derived.Deep.MidRow
import Derived.Test.YtnoopcenogbjiaaGreatDoorLawPostPk
set_option linter.unusedVariables false
set_option linter.unusedSimpArgs false
namespace Go.Proofs.YtnoopcenogbjiaaGreatDoor
open Go.RowKit
def St.list (s:St):List Nat:=[s.a,s.b,s.c,s.d,s.e,s.f,s.g,s.h]
structure BlkW (w wr:World) (bs bw bk:Nat) (s:St) (l:List Nat):Prop where
 below:Below w.heap.size w wr
 s:WTab wr bs s.list
 t:WTab wr bw l
 k:WTab wr bk kw
theorem BlkW.drewN {w wr:World} {bs bw bk:Nat} {s:St} {l:List Nat} (h:BlkW w wr bs bw bk s l) (n:Nat):BlkW w (wr.drewN n) bs bw bk s l :=
 ⟨below_drewN h.below n,fun i hi=>h.s i hi,fun i hi=>h.t i hi,fun i hi=>h.k i hi⟩
set_option maxHeartbeats 2000000 in
set_option maxRecDepth 4000 in
theorem block_any (s:St) (l:List Nat) (bs bw bk cs cw:Nat) (w:World) (hs:s.ok) (hl:l.length=64) (hlw:∀ x∈l,x<4294967296) (h1:WTab w bs s.list) (h2:WTab w bw l) (h3:WTab w bk kw) :
  Calls Tryz.prog 113 #[.slice (some ⟨bs,0,none⟩) 8 cs,.slice (some ⟨bw,0,none⟩) 64 cw,.slice (some ⟨bk,0,none⟩) 64 64] w fun e w'=>(∃ B,w.heap.size≤B∧B<w'.heap.size∧e=.returned (.slice (some ⟨B,0,none⟩) 8 8)∧WTab w' B (s.add (rounds s l 64)).list)∧Below w.heap.size w w':=by
 have hm:∀ n,BlkW w (w.drewN n) bs bw bk s l:=fun n=>BlkW.drewN ⟨Below.refl _ _,h1,h2,h3⟩ n
 have a0:w.cell? ⟨bs,0,none⟩=some (.int .u32 (s.a:Int)):=h1 0 (show 0<8 by decide)
 have a1:w.cell? ⟨bs,1,none⟩=some (.int .u32 (s.b:Int)):=h1 1 (show 1<8 by decide)
 have a2:w.cell? ⟨bs,2,none⟩=some (.int .u32 (s.c:Int)):=h1 2 (show 2<8 by decide)
 have a3:w.cell? ⟨bs,3,none⟩=some (.int .u32 (s.d:Int)):=h1 3 (show 3<8 by decide)
 have a4:w.cell? ⟨bs,4,none⟩=some (.int .u32 (s.e:Int)):=h1 4 (show 4<8 by decide)
 have a5:w.cell? ⟨bs,5,none⟩=some (.int .u32 (s.f:Int)):=h1 5 (show 5<8 by decide)
 have a6:w.cell? ⟨bs,6,none⟩=some (.int .u32 (s.g:Int)):=h1 6 (show 6<8 by decide)
 have a7:w.cell? ⟨bs,7,none⟩=some (.int .u32 (s.h:Int)):=h1 7 (show 7<8 by decide)
 clear h1 h2 h3
 go_enter Tryz.func113,Tryz.ntmps113
 go_wp2
 go_quiet (fail)
 obtain ⟨n1,hn1⟩:∃ n1,n1=nq:=⟨_,rfl⟩
 subst hn1
 go_wp2
 go_quiet (fail)
 go_wp2
 rw [World.drewN_drewN]
 have hm0:=hm (n1+nq)
 clear hm a0 a1 a2 a3 a4 a5 a6 a7
 go_loopw [7,8,9,10,11,12,13,14,15] (fun a b c d e f g h i wr=>∃ (t:Nat) (v:St),t≤64∧i=.int .i64 t∧v=rounds s l t∧a=.int .u32 (v.a:Int)∧b=.int .u32 (v.b:Int)∧c=.int .u32 (v.c:Int)∧d=.int .u32 (v.d:Int)∧e=.int .u32 (v.e:Int)∧f=.int .u32 (v.f:Int)∧g=.int .u32 (v.g:Int)∧h=.int .u32 (v.h:Int)∧BlkW w wr bs bw bk s l)
  (fun _ _ _ _ _ _ _ _ i _=>64-(intOf i).toNat)
 case atStart=>exact ⟨0,s,by omega,rfl,rfl,rfl,rfl,rfl,rfl,rfl,rfl,rfl,rfl,hm0⟩
 case round =>
  obtain ⟨t,v,ht,rfl,hv,rfl,rfl,rfl,rfl,rfl,rfl,rfl,rfl,hmw⟩:=hrel
  have hvo:v.ok:=by rw [hv];exact rounds_ok hs l t
  have HV:Hid (v=rounds s l t):=hv
  clear hv hm0
  by_cases hlt:t<64
  ·obtain ⟨la,lb,lc,ld,le,lf,lg,lh⟩:=hvo
   obtain ⟨x1,hx1⟩:∃ x,x=bs1 v.e:=⟨_,rfl⟩
   obtain ⟨x2,hx2⟩:∃ x,x=chs v.e v.f v.g:=⟨_,rfl⟩
   obtain ⟨x3,hx3⟩:∃ x,x=bs0 v.a:=⟨_,rfl⟩
   obtain ⟨x4,hx4⟩:∃ x,x=maj v.a v.b v.c:=⟨_,rfl⟩
   have q1:=sig_eq (rotr_lt (n:=6) le) (rotr_lt (n:=11) le) (rotr_lt (n:=25) le)
   have q2:=chs_eq le lf lg
   have q3:=sig_eq (rotr_lt (n:=2) la) (rotr_lt (n:=13) la) (rotr_lt (n:=22) la)
   have q4:=maj_eq la lb lc
   rw [←bs1,←hx1] at q1
   rw [←hx2] at q2
   have q5:bits .xor .u32 (bits .and .u32 (v.e:Int) (v.f:Int)) (bits .and .u32 (bits .xor .u32 (if IntKind.u32.signed=true then -1 else IntKind.u32.max) (v.e:Int)) (v.g:Int))=(x2:Int):=q2
   rw [←bs0,←hx3] at q3
   rw [←hx4] at q4
   have m1:x1<4294967296:=by rw [hx1];exact bs1_lt le
   have m2:x2<4294967296:=by rw [hx2];exact chs_lt le lg
   have m3:x3<4294967296:=by rw [hx3];exact bs0_lt la
   have m4:x4<4294967296:=by rw [hx4];exact maj_lt la lb
   have kt:=hmw.k t hlt
   have wt:=hmw.t t (by omega)
   have kl:=kw_lt t
   obtain ⟨K,hK⟩:∃ K,K=kw.getD t 0:=⟨_,rfl⟩
   obtain ⟨W,hW⟩:∃ W,W=l.getD t 0:=⟨_,rfl⟩
   have wl:W<4294967296:=by
    rw [hW,List.getD_eq_getElem?_getD,List.getElem?_eq_getElem (by omega)]
    exact hlw _ (List.getElem_mem _)
   rw [←hK] at kt kl
   rw [←hW] at wt
   obtain ⟨y1,hy1⟩:∃ y,y=(v.h+x1)%4294967296:=⟨_,rfl⟩
   obtain ⟨y2,hy2⟩:∃ y,y=(y1+x2)%4294967296:=⟨_,rfl⟩
   obtain ⟨y3,hy3⟩:∃ y,y=(y2+K)%4294967296:=⟨_,rfl⟩
   obtain ⟨y4,hy4⟩:∃ y,y=(y3+W)%4294967296:=⟨_,rfl⟩
   have r1:IntKind.u32.wrap ((v.h:Int)+x1)=(y1:Int):=by rw [IntKind.wrap_u32',hy1];rfl
   have r2:IntKind.u32.wrap ((y1:Int)+x2)=(y2:Int):=by rw [IntKind.wrap_u32',hy2];rfl
   have r3:IntKind.u32.wrap ((y2:Int)+K)=(y3:Int):=by rw [IntKind.wrap_u32',hy3];rfl
   have r4:IntKind.u32.wrap ((y3:Int)+W)=(y4:Int):=by rw [IntKind.wrap_u32',hy4];rfl
   have t1:(0:Int)≤t:=by omega
   have t2:(t:Int)<64:=by omega
   have HX:Hid (rounds s l (t+1)=⟨(y4+(x3+x4)%4294967296)%4294967296,v.a,v.b,v.c,(v.d+y4)%4294967296,v.e,v.f,v.g⟩):=by
    show _=_
    rw [rounds,←HV.out,rnd,←hx1,←hx2,←hx3,←hx4,←hK,←hW,←hy1,←hy2,←hy3,←hy4]
   clear hx1 hx2 hx3 hx4 hy1 hy2 hy3 hy4 hK hW
   go_wp2
   go_quiet ((go_at_call 135;first|with_reducible exact Calls.quiet_of (turn_6 v.e _ le)|with_reducible exact Calls.quiet_of (turn_11 v.e _ le)|with_reducible exact Calls.quiet_of (turn_25 v.e _ le)))
   go_wp2_with (go_at_call 135;first
    | ((with_reducible refine (turn_2 _ _ (by assumption)).mono ?_);rintro e w' ⟨rfl,dn,rfl⟩)
    | ((with_reducible refine (turn_13 _ _ (by assumption)).mono ?_);rintro e w' ⟨rfl,dn,rfl⟩)
    | ((with_reducible refine (turn_22 _ _ (by assumption)).mono ?_);rintro e w' ⟨rfl,dn,rfl⟩))
   go_roundw
   case rel=>exact ⟨t+1,_,by omega,by go_num,HX.out.symm,val_int (by show _=(((y4+(x3+x4)%4294967296)%4294967296:Nat):Int);omega),rfl,rfl,rfl,val_int (by show _=(((v.d+y4)%4294967296:Nat):Int);omega),rfl,rfl,rfl,hmw.drewN _⟩
   case measure=>simp [intOf];omega
  ·obtain rfl:t=64:=by omega
   have a0:wr.cell? ⟨bs,0,none⟩=some (.int .u32 (s.a:Int)):=hmw.s 0 (show 0<8 by decide)
   have a1:wr.cell? ⟨bs,1,none⟩=some (.int .u32 (s.b:Int)):=hmw.s 1 (show 1<8 by decide)
   have a2:wr.cell? ⟨bs,2,none⟩=some (.int .u32 (s.c:Int)):=hmw.s 2 (show 2<8 by decide)
   have a3:wr.cell? ⟨bs,3,none⟩=some (.int .u32 (s.d:Int)):=hmw.s 3 (show 3<8 by decide)
   have a4:wr.cell? ⟨bs,4,none⟩=some (.int .u32 (s.e:Int)):=hmw.s 4 (show 4<8 by decide)
   have a5:wr.cell? ⟨bs,5,none⟩=some (.int .u32 (s.f:Int)):=hmw.s 5 (show 5<8 by decide)
   have a6:wr.cell? ⟨bs,6,none⟩=some (.int .u32 (s.g:Int)):=hmw.s 6 (show 6<8 by decide)
   have a7:wr.cell? ⟨bs,7,none⟩=some (.int .u32 (s.h:Int)):=hmw.s 7 (show 7<8 by decide)
   obtain ⟨u,hu⟩:∃ u,u=s.add v:=⟨_,rfl⟩
   have HU:Hid (u=s.add v):=hu
   have e0:IntKind.u32.wrap ((s.a:Int)+v.a)=(u.a:Int):=by rw [IntKind.wrap_u32',hu];rfl
   have e1:IntKind.u32.wrap ((s.b:Int)+v.b)=(u.b:Int):=by rw [IntKind.wrap_u32',hu];rfl
   have e2:IntKind.u32.wrap ((s.c:Int)+v.c)=(u.c:Int):=by rw [IntKind.wrap_u32',hu];rfl
   have e3:IntKind.u32.wrap ((s.d:Int)+v.d)=(u.d:Int):=by rw [IntKind.wrap_u32',hu];rfl
   have e4:IntKind.u32.wrap ((s.e:Int)+v.e)=(u.e:Int):=by rw [IntKind.wrap_u32',hu];rfl
   have e5:IntKind.u32.wrap ((s.f:Int)+v.f)=(u.f:Int):=by rw [IntKind.wrap_u32',hu];rfl
   have e6:IntKind.u32.wrap ((s.g:Int)+v.g)=(u.g:Int):=by rw [IntKind.wrap_u32',hu];rfl
   have e7:IntKind.u32.wrap ((s.h:Int)+v.h)=(u.h:Int):=by rw [IntKind.wrap_u32',hu];rfl
   clear hu
   have hbl:=hmw.below
   clear hmw hs hvo
   go_wp2
   go_still_tail 40,(by kernel_rfl)
   change wpList _ _ _ _ _ wr.drew
   go_wp2
   go_ret
   have hx:=WTab.new wr.drew (s.add v).list 141
   rw [←HU.out] at hx
   refine ⟨⟨wr.heap.size,hbl.size,?_,rfl,?_⟩,(hbl.drew).alloc hbl.size _⟩
   ·show wr.heap.size<(wr.heap.push _).size
    simp
   ·rw [←HV.out,←HU.out]
    exact hx
def Row32 (w:World) (B:Nat) (l:List Nat):Prop:=∀ t,t<l.length→w.cell? ⟨B,t,none⟩=some (.int .u32 (l.getD t 0:Nat))∧w.frozen? ⟨B,t,none⟩=false
theorem Row32.set {w:World} {B:Nat} {l:List Nat} (h:Row32 w B l) {i:Nat} (hi:i<l.length) (x:Nat):Row32 (w.setCell ⟨B,i,none⟩ (.int .u32 (x:Int))) B (l.set i x):=by
 intro j hj
 rw [List.length_set] at hj
 rw [World.frozen?_setCell]
 by_cases e:i=j
 ·subst e
  have h0:=h i hi
  refine ⟨(World.cell?_setCell_same _ _ _ h0.1).trans ?_,h0.2⟩
  rw [List.getD_eq_getElem?_getD,List.getElem?_set_self hi]
  rfl
 ·have h0:=h j hj
  refine ⟨(World.cell?_setCell_other _ _ _ _ (by simp [e])).trans (h0.1.trans ?_),h0.2⟩
  rw [List.getD_eq_getElem?_getD,List.getD_eq_getElem?_getD,List.getElem?_set_ne e]
theorem Row32.range {w:World} {B:Nat} {l:List Nat} (h:Row32 w B l):w.rangeAt B 0 (l.map fun (n:Nat)=>Value.int .u32 (n:Int)):=by
 intro j v hv
 have hj:j<l.length:=by
  have:=(List.getElem?_eq_some_iff.1 hv).1
  simpa using this
 rw [Nat.zero_add,(h j hj).1,←hv,List.getD_eq_getElem?_getD]
 simp [hj]
def zeros64:List Nat:=[0,0,0,0,0,0,0,0,0,0,0,0,0,0,0,0,0,0,0,0,0,0,0,0,0,0,0,0,0,0,0,0,0,0,0,0,0,0,0,0,0,0,0,0,0,0,0,0,0,0,0,0,0,0,0,0,0,0,0,0,0,0,0,0]
theorem zeros64_get (t:Nat):zeros64.getD t 0=0:=by
 have h:∀ x∈zeros64,x=0:=by decide
 rw [List.getD_eq_getElem?_getD]
 by_cases ht:t<zeros64.length
 ·rw [List.getElem?_eq_getElem ht];exact h _ (List.getElem_mem ht)
 ·rw [List.getElem?_eq_none (by omega)];rfl
theorem Row32.new (w:World) (l:List Nat) (t:TypeId):Row32 (w.alloc (.cells (u32s l) t)) w.heap.size l:=fun i hi=>by
 have hb:(w.alloc (.cells (u32s l) t)).heap[w.heap.size]?=some (.cells (u32s l) t (0,0)):=heap_alloc_new w _
 exact ⟨WTab.new w l t i hi,frozen_of_row _ _ _ _ _ hb⟩
structure SchW (w wr:World) (L:List Nat):Prop where
 below:Below w.heap.size w wr
 len:L.length=64
 row:Row32 wr (w.heap.size+1) L
 res:Row32 wr w.heap.size zeros64
theorem SchW.start (w:World):SchW w ((w.alloc (.cells (u32s zeros64) 178)).alloc (.cells (u32s zeros64) 178)) zeros64:=by
 refine ⟨((Below.refl _ w).alloc (Nat.le_refl _) _).alloc (by simp) _,rfl,?_,?_⟩
 ·have h:=Row32.new (w.alloc (.cells (u32s zeros64) 178)) zeros64 178
  simpa using h
 ·intro t ht
  have h:=Row32.new w zeros64 178 t ht
  have hb:=(Below.refl (w.alloc (.cells (u32s zeros64) 178)).heap.size (w.alloc (.cells (u32s zeros64) 178))).alloc (Nat.le_refl _) (.cells (u32s zeros64) 178)
  have hlt:w.heap.size<(w.alloc (.cells (u32s zeros64) 178)).heap.size:=by simp
  exact ⟨(hb.cell (p:=⟨w.heap.size,t,none⟩) hlt).trans h.1,(hb.frozen (p:=⟨w.heap.size,t,none⟩) hlt).trans h.2⟩
theorem SchW.set {w wr:World} {L:List Nat} (h:SchW w wr L) {i:Nat} (hi:i<64) (x:Nat):SchW w (wr.setCell ⟨w.heap.size+1,i,none⟩ (.int .u32 (x:Int))) (L.set i x) :=
 ⟨h.below.setCell (p:=⟨w.heap.size+1,i,none⟩) (Nat.le_succ _) _,by rw [List.length_set];exact h.len,h.row.set (by rw [h.len];exact hi) x,fun t ht=>by
  rw [World.frozen?_setCell]
  exact ⟨(World.cell?_setCell_other _ _ _ _ (by simp)).trans (h.res t ht).1,(h.res t ht).2⟩⟩
theorem SchW.drewN {w wr:World} {L:List Nat} (h:SchW w wr L) (n:Nat):SchW w (wr.drewN n) L:=⟨below_drewN h.below n,h.len,fun t ht=>h.row t ht,fun t ht=>h.res t ht⟩
theorem SchW.drew {w wr:World} {L:List Nat} (h:SchW w wr L):SchW w wr.drew L:=h.drewN 1
def pv (l:List UInt8) (k:Nat):Nat→Nat
 | 0=>0
 | j+1=>pv l k j*256+(l.getD (k+j) 0).toNat
theorem pv_lt (l:List UInt8) (k j:Nat):pv l k j<256^j:=by
 induction j with
 | zero=>exact Nat.one_pos
 | succ j ih =>
  have:=UInt8.toNat_lt (l.getD (k+j) 0)
  rw [pv,Nat.pow_succ];omega
theorem pv_four (l:List UInt8) (k:Nat):pv l k 4=word4 l k:=by simp [pv,word4]
theorem take_get {L:List Nat} {i t:Nat} (h:i<t):(L.take t).getD i 0=L.getD i 0:=by
 rw [List.getD_eq_getElem?_getD,List.getD_eq_getElem?_getD,List.getElem?_take_of_lt h]
def Part (l:List UInt8) (L:List Nat) (i j:Nat):Prop:=(∀ t,t<i→L.getD t 0=word4 l (4*t))∧L.getD i 0=pv l (4*i) j∧∀ t,i<t→L.getD t 0=0
theorem getD_set {L:List Nat} {i x:Nat} (hi:i<L.length) (t:Nat):(L.set i x).getD t 0=if i=t then x else L.getD t 0:=by
 rw [List.getD_eq_getElem?_getD,List.getD_eq_getElem?_getD]
 by_cases e:i=t
 ·subst e;rw [List.getElem?_set_self hi];simp
 ·rw [List.getElem?_set_ne e,if_neg e]
theorem Part.next {l:List UInt8} {L:List Nat} {i j:Nat} (h:Part l L i j) (hi:i<L.length):Part l (L.set i (pv l (4*i) j*256+(l.getD (4*i+j) 0).toNat)) i (j+1):=by
 refine ⟨fun t ht=>?_,?_,fun t ht=>?_⟩
 ·rw [getD_set hi,if_neg (by omega)];exact h.1 t ht
 ·rw [getD_set hi,if_pos rfl];rfl
 ·rw [getD_set hi,if_neg (by omega)];exact h.2.2 t ht
theorem Part.on {l:List UInt8} {L:List Nat} {i:Nat} (h:Part l L i 4):Part l L (i+1) 0:=by
 refine ⟨fun t ht=>?_,h.2.2 _ (by omega),fun t ht=>h.2.2 _ (by omega)⟩
 by_cases e:t=i
 ·subst e;rw [h.2.1,pv_four]
 ·exact h.1 t (by omega)
theorem byte_or {p c:Nat} (hp:p<16777216) (hc:c<256):bits .or .u32 ((p:Int)*256) (c:Int)=((p*256+c:Nat):Int):=by
 rw [show ((p:Int)*256)=((p*256:Nat):Int) by omega,u32_or_nat (p*256) c (by omega) (by omega),nat_join 8 (p*256) c (by omega) (by omega)]
theorem below_setCells {B b:Nat} {a:World}:∀ (vs:List Value) (o:Nat) (w:World),Below B a w→B≤b→Below B a (w.setCells b o vs)
 | [],_,_,h,_=>h
 | v::r,o,w,h,hb=>below_setCells r (o+1) (w.setCell ⟨b,o,none⟩ v) (h.setCell (p:=⟨b,o,none⟩) hb v) hb
theorem results_cell_mid {P:Program} {fn:Func} {p:Tmp} {ty:TypeId} (h:fn.results=#[.cell p ty]) (tmps:Array Value) (w:World) (g:Nat) (cs:List Value) (d:TypeDesc)
  (hp:tmps.getD p undef=.pointer (some ⟨g,0,none⟩)) (hg:w.rangeAt g 0 cs) (hu:P.underlying ty=some d) (hd:d.isRow=true) (hi:(P.info? ty).map (·.size)=some cs.length) :
  (results fn tmps).run P w=.ok (.agg cs.toArray) w:=by
 have hp':tmps[p]?.getD undef=.pointer (some ⟨g,0,none⟩):=by simpa using hp
 simp [results,h,hp',asAddr,run_loadVar_mid w g 0 ty cs d hg hu hd hi]
set_option maxHeartbeats 1000000 in
set_option maxRecDepth 4000 in
theorem sched_any (s:ByteArray) (w:World) (hs:s.size=64) :
  Calls Tryz.prog 166 #[.string s] w fun e w'=>e=.returned (.agg (u32s (sched (words16 s.data.toList 0) 48)))∧Below w.heap.size w w':=by
 have hs1:s.size≤64:=by omega
 have hs2:64≤s.size:=by omega
 have HS:Hid (s.size=64):=hs
 clear hs
 go_enter Tryz.func166,Tryz.ntmps166
 go_wp2
 go_loopw [11] (fun i wr=>∃ (k:Nat) (L:List Nat),k≤16∧i=.int .i64 k∧SchW w wr L∧Part s.data.toList L k 0) (fun i _=>16-(intOf i).toNat)
 case atStart=>exact ⟨0,zeros64,by omega,rfl,SchW.start w,⟨fun t ht=>by omega,zeros64_get 0,fun t _=>zeros64_get t⟩⟩
 case round =>
  obtain ⟨k,L,hk,rfl,hw,hp⟩:=hrel
  by_cases hlt:k<16
  ·go_wp2
   obtain ⟨wo,hwo⟩:∃ wo:World,wo=wr:=⟨_,rfl⟩
   subst hwo
   go_loopw [14] (fun i wr=>∃ (j:Nat) (L:List Nat),j≤4∧i=.int .i64 j∧SchW w wr L∧Part s.data.toList L k j) (fun i _=>4-(intOf i).toNat)
   case atStart=>exact ⟨0,L,by omega,rfl,hw,hp⟩
   case round =>
    clear hw hp
    obtain ⟨j,L,hj,rfl,hw,hp⟩:=hrel
    by_cases hjl:j<4
    ·have hb:=UInt8.toNat_lt s[4*k+j]
     obtain ⟨p,hpp⟩:∃ p,p=pv s.data.toList (4*k) j:=⟨_,rfl⟩
     have pl:p<16777216:=by
      have h1:=pv_lt s.data.toList (4*k) j
      have h2:256^j≤256^3:=Nat.pow_le_pow_right (by decide) (by omega)
      omega
     have hc:=(hw.row k (by rw [hw.len];omega)).1
     have hf:=(hw.row k (by rw [hw.len];omega)).2
     rw [hp.2.1,←hpp] at hc
     have hor:=byte_or pl hb
     have HN:Hid (SchW w (wr.setCell ⟨w.heap.size+1,k,none⟩ (.int .u32 ((p*256+s[4*k+j].toNat:Nat):Int))) (L.set k (p*256+s[4*k+j].toNat))):=hw.set (by omega) _
     have HP:Hid (Part s.data.toList (L.set k (p*256+s[4*k+j].toNat)) k (j+1)):=by
      have h:=hp.next (by rw [hw.len];omega)
      rw [←hpp,getD_byte s _ (by omega)] at h
      exact h
     obtain ⟨x,hx⟩:∃ x,x=p*256+s[4*k+j].toNat:=⟨_,rfl⟩
     rw [←hx] at hor HN HP
     have q1:(0:Int)≤k:=by omega
     have q2:(k:Int)<64:=by omega
     have q3:(0:Int)≤4*(k:Int)+j:=by omega
     have q4:4*(k:Int)+j<s.size:=by omega
     clear hpp hx hp hw
     go_wp2
     go_region
     go_wp2
     go_roundw
     case rel=>exact ⟨j+1,_,by omega,by go_num,HN.out.drew,HP.out⟩
     case measure=>simp [intOf];omega
    ·obtain rfl:j=4:=by omega
     go_wp2
     go_roundw
     case rel=>exact ⟨k+1,L,by omega,by go_num,hw,hp.on⟩
     case measure=>simp [intOf];omega
  ·obtain rfl:k=16:=by omega
   have hts:L.take 16=words16 s.data.toList 0:=by
    apply List.ext_getElem
    ·rw [List.length_take,hw.len,words16_len];rfl
    ·intro t h1 h2
     rw [words16_len] at h2
     have:=hp.1 t h2
     rw [List.getD_eq_getElem?_getD,List.getElem?_eq_getElem (by rw [hw.len];omega)] at this
     simpa [words16] using this
   have HT:Hid (L.take 16=words16 s.data.toList 0):=hts
   clear hts hp
   rw [show ((16:Nat):Int)=16 from rfl]
   go_wp2
   obtain ⟨wo,hwo⟩:∃ wo:World,wo=wr:=⟨_,rfl⟩
   subst hwo
   go_loopw [6] (fun i wr=>∃ (t:Nat) (L:List Nat),16≤t∧t≤64∧i=.int .i64 t∧SchW w wr L∧L.take t=sched (words16 s.data.toList 0) (t-16)) (fun i _=>64-(intOf i).toNat)
   case atStart=>exact ⟨16,L,by omega,by omega,rfl,hw,HT.out⟩
   case round =>
    clear hw HT
    obtain ⟨t,L,ht1,ht2,rfl,hw,hp⟩:=hrel
    have HP:Hid (L.take t=sched (words16 s.data.toList 0) (t-16)):=hp
    clear hp
    by_cases htl:t<64
    ·have hl:=hw.len
     have g {i:Nat} (hi:i<64):=hw.row i (by rw [hl];exact hi)
     obtain ⟨a,ha⟩:∃ a,a=L.getD (t-15) 0:=⟨_,rfl⟩
     obtain ⟨b,hb⟩:∃ b,b=L.getD (t-2) 0:=⟨_,rfl⟩
     obtain ⟨c,hc⟩:∃ c,c=L.getD (t-7) 0:=⟨_,rfl⟩
     obtain ⟨d,hd⟩:∃ d,d=L.getD (t-16) 0:=⟨_,rfl⟩
     have ca:=(g (i:=t-15) (by omega)).1
     have cb:=(g (i:=t-2) (by omega)).1
     have cc:=(g (i:=t-7) (by omega)).1
     have cd:=(g (i:=t-16) (by omega)).1
     have ct:=(g (i:=t) htl).1
     have cf:=(g (i:=t) htl).2
     rw [←ha] at ca
     rw [←hb] at cb
     rw [←hc] at cc
     rw [←hd] at cd
     have q1:(0:Int)≤(t:Int)-15:=by omega
     have q2:(t:Int)-15<64:=by omega
     have q3:(0:Int)≤(t:Int)-2:=by omega
     have q4:(t:Int)-2<64:=by omega
     have r1:IntKind.i64.wrap ((t:Int)-15)=(t:Int)-15:=IntWalk.i64_in _ (by omega)
     have r2:IntKind.i64.wrap ((t:Int)-2)=(t:Int)-2:=IntWalk.i64_in _ (by omega)
     have n1:((t:Int)-15).toNat=t-15:=by omega
     have n2:((t:Int)-2).toNat=t-2:=by omega
     have lt {i:Nat} (hi:i<t):L.getD i 0<4294967296:=by
      rw [←take_get hi,HP.out,List.getD_eq_getElem?_getD,List.getElem?_eq_getElem (by rw [sched_len (words16_len _ _)];omega)]
      exact sched_lt (words16_lt _ _) _ _ (List.getElem_mem _)
     have la:a<4294967296:=by rw [ha];exact lt (by omega)
     have lb:b<4294967296:=by rw [hb];exact lt (by omega)
     have lc:c<4294967296:=by rw [hc];exact lt (by omega)
     have ld:d<4294967296:=by rw [hd];exact lt (by omega)
     obtain ⟨x1,hx1⟩:∃ x,x=ls0 a:=⟨_,rfl⟩
     obtain ⟨x2,hx2⟩:∃ x,x=ls1 b:=⟨_,rfl⟩
     have e1:=sig_eq (rotr_lt (n:=7) la) (rotr_lt (n:=18) la) (Nat.lt_of_le_of_lt (Nat.div_le_self a 8) la)
     have e2:=sig_eq (rotr_lt (n:=17) lb) (rotr_lt (n:=19) lb) (Nat.lt_of_le_of_lt (Nat.div_le_self b 1024) lb)
     rw [←ls0,←hx1,show ((a / 8:Nat):Int)=(a:Int) / 8 from rfl] at e1
     rw [←ls1,←hx2,show ((b / 1024:Nat):Int)=(b:Int) / 1024 from rfl] at e2
     have m1:x1<4294967296:=by rw [hx1];exact ls0_lt la
     have m2:x2<4294967296:=by rw [hx2];exact ls1_lt lb
     obtain ⟨y1,hy1⟩:∃ y,y=(x2+c)%4294967296:=⟨_,rfl⟩
     obtain ⟨y2,hy2⟩:∃ y,y=(y1+x1)%4294967296:=⟨_,rfl⟩
     obtain ⟨y3,hy3⟩:∃ y,y=(y2+d)%4294967296:=⟨_,rfl⟩
     have s1:((x2:Int)+c)%4294967296=(y1:Int):=by rw [hy1];rfl
     have s2:((y1:Int)+x1)%4294967296=(y2:Int):=by rw [hy2];rfl
     have s3:((y2:Int)+d)%4294967296=(y3:Int):=by rw [hy3];rfl
     have u1:IntKind.u32.wrap ((x2:Int)+c)=(y1:Int):=by rw [IntKind.wrap_u32',s1]
     have u2:IntKind.u32.wrap ((y1:Int)+x1)=(y2:Int):=by rw [IntKind.wrap_u32',s2]
     have u3:IntKind.u32.wrap ((y2:Int)+d)=(y3:Int):=by rw [IntKind.wrap_u32',s3]
     have HN:Hid (SchW w (wr.setCell ⟨w.heap.size+1,t,none⟩ (.int .u32 (y3:Int))) (L.set t y3)):=hw.set htl _
     have HQ:Hid ((L.set t y3).take (t+1)=sched (words16 s.data.toList 0) (t+1-16)):=by
      show _=_
      rw [show t+1-16=(t-16)+1 by omega,sched,←HP.out,List.take_succ_eq_append_getElem (by rw [List.length_set];omega),List.take_set_of_le (Nat.le_refl _)]
      congr 1
      simp only [List.getElem_set_self,nextW]
      rw [show 16+(t-16)=t by omega,take_get (by omega),take_get (by omega),take_get (by omega),take_get (by omega),←ha,←hb,←hc,←hd,←hx1,←hx2,hy3,hy2,hy1]
     clear hy1 hy2 hy3 hx1 hx2 ha hb hc hd g
     go_wp2
     go_quiet (fail)
     clear r1 r2
     go_wp2_with (go_at_call 194;first
      | ((with_reducible refine (turned_7 _ _ (by assumption)).mono ?_);rintro e w' ⟨rfl,rfl⟩)
      | ((with_reducible refine (turned_18 _ _ (by assumption)).mono ?_);rintro e w' ⟨rfl,rfl⟩)
      | ((with_reducible refine (turned_17 _ _ (by assumption)).mono ?_);rintro e w' ⟨rfl,rfl⟩)
      | ((with_reducible refine (turned_19 _ _ (by assumption)).mono ?_);rintro e w' ⟨rfl,rfl⟩))
     have q5:(0:Int)≤(t:Int)-7:=by omega
     have q6:(t:Int)-7<64:=by omega
     have q7:(0:Int)≤(t:Int)-16:=by omega
     have q8:(t:Int)-16<64:=by omega
     have q9:(0:Int)≤(t:Int):=by omega
     have q10:(t:Int)<64:=by omega
     have r3:IntKind.i64.wrap ((t:Int)-7)=(t:Int)-7:=IntWalk.i64_in _ (by omega)
     have r4:IntKind.i64.wrap ((t:Int)-16)=(t:Int)-16:=IntWalk.i64_in _ (by omega)
     have n3:((t:Int)-7).toNat=t-7:=by omega
     have n4:((t:Int)-16).toNat=t-16:=by omega
     go_region
     go_wp2
     go_roundw
     case rel=>exact ⟨t+1,_,by omega,by omega,by go_num,(HN.out.drewN _).drew,HQ.out⟩
     case measure=>simp [intOf];omega
    ·obtain rfl:t=64:=by omega
     have hl:=hw.len
     have hLs:L=sched (words16 s.data.toList 0) 48:=by rw [←HP.out,List.take_of_length_le (by omega)]
     have hrg:=hw.row.range
     have hbl:=hw.below
     have hth:wr.there w.heap.size 0 (u32s L).size:=fun j hj=>by
      have h:=hw.res j (by simp [u32s,hl] at hj;exact hj)
      rw [Nat.zero_add]
      exact ⟨by rw [h.1];rfl,h.2⟩
     have hi1:(Tryz.prog.info? 178).map (·.size)=some (L.map fun (n:Nat)=>Value.int .u32 (n:Int)).length:=by rw [List.length_map,hl];kernel_rfl
     have hi2:(Tryz.prog.info? 178).map (·.size)=some (u32s L).size:=by simp only [u32s,List.size_toArray];exact hi1
     have hone:(u32s L).all (·.oneCell')=true:=all_oneCell_toArray (by intro v hv;obtain ⟨_,_,rfl⟩:=List.mem_map.1 hv;rfl)
     have HL:Hid (L=sched (words16 s.data.toList 0) 48):=hLs
     have HI1:Hid ((Tryz.prog.info? 178).map (·.size)=some (L.map fun (n:Nat)=>Value.int .u32 (n:Int)).length):=hi1
     have HI2:Hid ((Tryz.prog.info? 178).map (·.size)=some (u32s L).size):=hi2
     have HO:Hid ((u32s L).all (·.oneCell')=true):=hone
     clear hi1 hi2 hone hLs hl hw
     go_wp2_with (first
      | (with_reducible refine wpList_load_mid rfl 178 _ rfl (w.heap.size+1) 0 rfl _ _ hrg Tryz.underlying178 rfl HI1.out ?_)
      | (with_reducible refine wpList_store_mid rfl 178 _ _ rfl w.heap.size 0 (u32s L) rfl rfl hth HI2.out HO.out ?_))
     have hrr:(wr.setCells w.heap.size 0 (u32s L).toList).rangeAt w.heap.size 0 (u32s L).toList:=World.rangeAt_setCells_same _ _ _ _ (by simpa using hth)
     have hv:Value.agg (u32s L)=.agg (u32s (sched (words16 s.data.toList 0) 48)):=by rw [HL.out]
     refine bodyPost_ret (v:=.agg (u32s L)) (results_cell_mid (fn:=Tryz.f166) (p:=2) (ty:=178) Tryz.results166 _ _ w.heap.size (u32s L).toList _ rfl hrr Tryz.underlying178 rfl HI2.out) rfl ⟨by rw [hv],below_setCells _ _ _ hbl (Nat.le_refl _)⟩
set_option maxHeartbeats 1000000 in
set_option maxRecDepth 4000 in
theorem first_any (w:World) :
  Calls Tryz.prog 111 #[] w fun e w'=>e=.returned (.slice (some ⟨w.heap.size,0,none⟩) 8 8)∧w'=w.alloc (.cells (u32s [st0.a,st0.b,st0.c,st0.d,st0.e,st0.f,st0.g,st0.h]) 141):=by
 go_enter Tryz.func111,Tryz.ntmps111
 go_wp2
 go_ret
 exact ⟨rfl,rfl⟩
set_option maxHeartbeats 1000000 in
set_option maxRecDepth 4000 in
theorem keys_any (w:World) :
  Calls Tryz.prog 112 #[] w fun e w'=>e=.returned (.slice (some ⟨w.heap.size,0,none⟩) 64 64)∧w'=w.alloc (.cells (u32s kw) 141):=by
 go_enter Tryz.func112,Tryz.ntmps112
 go_wp2
 go_ret
 exact ⟨rfl,rfl⟩
def ucells (l:List Nat):List Value:=l.map fun (n:Nat)=>Value.int .u32 (n:Int)
theorem ucells_append (l m:List Nat):ucells (l++m)=ucells l++ucells m:=by simp [ucells]
theorem ucells_one (l:List Nat):∀ u∈ucells l,u.oneCell'=true:=by
 intro u hu;simp only [ucells,List.mem_map] at hu;obtain ⟨b,_,rfl⟩:=hu;rfl
theorem Tryz.info32:(Tryz.prog.info? 141).map (fun i=>(i.zero,i.size,i.bytes))=some (some (.int .u32 0),1,4):=by kernel_rfl
theorem words16_get (l:List UInt8) (i t:Nat) (ht:t<16):(words16 l i).take (t+1)=(words16 l i).take t++[word4 l (i+4*t)]:=by
 rw [List.take_succ_eq_append_getElem (by rw [words16_len];exact ht)]
 simp [words16]
set_option maxHeartbeats 8000000 in
set_option maxRecDepth 4000 in
theorem rwords_any (s:ByteArray) (p:Nat) (w:World) (hp:p+64≤s.size) (hs:s.size≤281474976710656) :
  Calls Tryz.prog 114 #[.string s,.int .i64 p] w fun e w'=>∃ v,e=.returned v∧w'.ownsRow w.heap.size 141 1 v 64 (ucells (sched (words16 s.data.toList p) 48))∧Below w.heap.size w w':=by
 obtain ⟨i0,hi,hz0,hz1,hz2⟩:=info_parts Tryz.info32
 have hown1:(w.alloc (.cells #[] 141)).ownsRow w.heap.size 141 1 (.slice (some ⟨w.heap.size,0,none⟩) 0 0) 0 (ucells ((words16 s.data.toList p).take 0)):=World.ownsRow_lit w #[] 0 (Nat.le_refl _) (by decide) rfl
 have hb1:Below w.heap.size w (w.alloc (.cells #[] 141)):=(Below.refl _ _).alloc (Nat.le_refl _) _
 go_enter Tryz.func114,Tryz.ntmps114
 go_wp2
 go_loopw [5,6] (fun v i wr=>∃ k:Nat,k≤16∧i=.int .i64 k∧wr.ownsRow w.heap.size 141 1 v k (ucells ((words16 s.data.toList p).take k))∧Below w.heap.size w wr)
  (fun _ i _=>16-(intOf i).toNat)
 case atStart=>exact ⟨0,by omega,rfl,hown1,hb1⟩
 case round =>
  clear hown1 hb1
  obtain ⟨k,hk,rfl,hown,hbel⟩:=hrel
  by_cases hlt:k<16
  ·obtain ⟨q,hq⟩:∃ q,q=p+4*k:=⟨_,rfl⟩
   have q0:IntKind.i64.wrap ((p:Int)+4*(k:Int))=(q:Int):=by rw [IntWalk.i64_in _ (by omega)];omega
   have q1:IntKind.i64.wrap ((q:Int)+1)=(q:Int)+1:=IntWalk.i64_in _ (by omega)
   have q2:IntKind.i64.wrap ((q:Int)+2)=(q:Int)+2:=IntWalk.i64_in _ (by omega)
   have q3:IntKind.i64.wrap ((q:Int)+3)=(q:Int)+3:=IntWalk.i64_in _ (by omega)
   have s0:q<s.size:=by omega
   have s1:q+1<s.size:=by omega
   have s2:q+2<s.size:=by omega
   have s3:q+3<s.size:=by omega
   have t1:(0:Int)≤(q:Int)+1∧(q:Int)+1<s.size:=by omega
   have t2:(0:Int)≤(q:Int)+2∧(q:Int)+2<s.size:=by omega
   have t3:(0:Int)≤(q:Int)+3∧(q:Int)+3<s.size:=by omega
   have n2:((q:Int)+2).toNat=q+2:=by omega
   have n3:((q:Int)+3).toNat=q+3:=by omega
   have b0:=UInt8.toNat_lt s[q]
   have b1:=UInt8.toNat_lt s[q+1]
   have b2:=UInt8.toNat_lt s[q+2]
   have b3:=UInt8.toNat_lt s[q+3]
   have d0:IntKind.u32.wrap (s[q].toNat:Int)=(s[q].toNat:Int):=IntWalk.u32_in _ (by omega)
   have d1:IntKind.u32.wrap (s[q+1].toNat:Int)=(s[q+1].toNat:Int):=IntWalk.u32_in _ (by omega)
   have d2:IntKind.u32.wrap (s[q+2].toNat:Int)=(s[q+2].toNat:Int):=IntWalk.u32_in _ (by omega)
   have d3:IntKind.u32.wrap (s[q+3].toNat:Int)=(s[q+3].toNat:Int):=IntWalk.u32_in _ (by omega)
   obtain ⟨A0,hA0⟩:∃ A,A=s[q].toNat*16777216:=⟨_,rfl⟩
   obtain ⟨A1,hA1⟩:∃ A,A=s[q+1].toNat*65536:=⟨_,rfl⟩
   obtain ⟨A2,hA2⟩:∃ A,A=s[q+2].toNat*256:=⟨_,rfl⟩
   obtain ⟨B1,hB1⟩:∃ A,A=A0+A1:=⟨_,rfl⟩
   obtain ⟨B2,hB2⟩:∃ A,A=B1+A2:=⟨_,rfl⟩
   obtain ⟨B3,hB3⟩:∃ A,A=B2+s[q+3].toNat:=⟨_,rfl⟩
   have f0:IntKind.u32.wrap ((s[q].toNat:Int)*16777216)=(A0:Int):=by rw [IntWalk.u32_in _ (by omega)];omega
   have f1:IntKind.u32.wrap ((s[q+1].toNat:Int)*65536)=(A1:Int):=by rw [IntWalk.u32_in _ (by omega)];omega
   have f2:IntKind.u32.wrap ((s[q+2].toNat:Int)*256)=(A2:Int):=by rw [IntWalk.u32_in _ (by omega)];omega
   have g1:IntKind.u32.wrap ((A0:Int)+A1)=(B1:Int):=by rw [IntWalk.u32_in _ (by omega)];omega
   have g2:IntKind.u32.wrap ((B1:Int)+A2)=(B2:Int):=by rw [IntWalk.u32_in _ (by omega)];omega
   have g3:IntKind.u32.wrap ((B2:Int)+(s[q+3].toNat:Int))=(B3:Int):=by rw [IntWalk.u32_in _ (by omega)];omega
   have HB:Hid (B3=word4 s.data.toList (p+4*k)):=by
    show _=_
    rw [←hq,word4,getD_byte s _ s0,getD_byte s _ s1,getD_byte s _ s2,getD_byte s _ s3]
    omega
   clear hq hA0 hA1 hA2 hB1 hB2 hB3 b0 b1 b2 b3
   go_upto_region 6 with fail
   go_region_law (refine step_append_lies _ rfl (.tmp 22) (.tmp 48) 137 rfl w.heap.size 141 i0 (.int .u32 0) 1 4 Tryz.underlying137 hi hz0 hz1 hz2 rfl (by decide) _ _ _ rfl (World.ownsRow.alloc (w:=wr.drew) hown _) ⟨wr.heap.size,0,none⟩ 1 1 (ucells [B3]) rfl rfl (fun j u hj=>new_cell wr.drew _ _ j u hj) (ucells_one _) (by decide) (by unfold maxLen;omega) (by omega) (by have:=hbel.size;simp;omega) _ rfl ?_;intro g cap w3 ho3 hg3 _ _)
   all_goals
    have hb3:Below w.heap.size w w3:=app_step hbel hown (grown_drew hg3) (Nat.le_refl _) hbel.size
    clear hown hg3 hbel
    go_wp2
    go_roundw
    case rel=>exact ⟨k+1,by omega,by go_num,owns_eq ho3 (by rw [words16_get _ _ _ hlt,←HB.out,ucells_append]),hb3⟩
    case measure=>simp [intOf];omega
  ·obtain rfl:k=16:=by omega
   rw [show ((16:Nat):Int)=16 from rfl]
   rw [List.take_of_length_le (Nat.le_of_eq (words16_len _ _))] at hown
   obtain ⟨W,hW⟩:∃ W,W=words16 s.data.toList p:=⟨_,rfl⟩
   have hWl:W.length=16:=by rw [hW,words16_len]
   have hWw:∀ x∈W,x<4294967296:=by rw [hW];exact words16_lt _ _
   rw [←hW] at hown
   have HW:Hid (W=words16 s.data.toList p):=hW
   clear hW hlt hk
   go_wp2
   go_loopw [5,8] (fun v i wr=>∃ t:Nat,16≤t∧t≤64∧i=.int .i64 t∧wr.ownsRow w.heap.size 141 1 v t (ucells (sched W (t-16)))∧Below w.heap.size w wr)
    (fun _ i _=>64-(intOf i).toNat)
   case atStart=>exact ⟨16,by omega,by omega,rfl,hown,hbel⟩
   case round =>
    clear hown hbel
    obtain ⟨t,ht1,ht2,rfl,hown,hbel⟩:=hrel
    by_cases htl:t<64
    ·obtain ⟨L,hL⟩:∃ L,L=sched W (t-16):=⟨_,rfl⟩
     rw [←hL] at hown
     have hLl:L.length=t:=by rw [hL,sched_len hWl];omega
     have hLw:∀ x∈L,x<4294967296:=by rw [hL];exact sched_lt hWw _
     obtain ⟨g,cap,rfl,hbg,hgl⟩:=hown.form (by omega)
     have lt {i:Nat} (hi:i<t):L.getD i 0<4294967296:=by
      rw [List.getD_eq_getElem?_getD,List.getElem?_eq_getElem (by omega)]
      exact hLw _ (List.getElem_mem _)
     have ce {i:Nat} (hi:i<t):wr.cell? ⟨g,i,none⟩=some (.int .u32 (L.getD i 0:Nat)):=by
      have h:=hown.cells (g:=g) rfl i (.int .u32 (L.getD i 0:Nat)) (by simp [ucells,List.getD_eq_getElem?_getD,List.getElem?_eq_getElem (show i<L.length by omega)])
      rw [Addr.add_lit,Nat.zero_add] at h
      exact h
     have HNX:Hid (sched W (t+1-16)=L++[nextW L t]):=by
      show _=_
      rw [show t+1-16=(t-16)+1 by omega,sched,←hL,show 16+(t-16)=t by omega]
     obtain ⟨a,ha⟩:∃ a,a=L.getD (t-15) 0:=⟨_,rfl⟩
     obtain ⟨b,hb⟩:∃ b,b=L.getD (t-2) 0:=⟨_,rfl⟩
     obtain ⟨c,hc⟩:∃ c,c=L.getD (t-7) 0:=⟨_,rfl⟩
     obtain ⟨d,hd⟩:∃ d,d=L.getD (t-16) 0:=⟨_,rfl⟩
     have ca:=ce (i:=t-15) (by omega)
     have cb:=ce (i:=t-2) (by omega)
     have cc:=ce (i:=t-7) (by omega)
     have cd:=ce (i:=t-16) (by omega)
     rw [←ha] at ca
     rw [←hb] at cb
     rw [←hc] at cc
     rw [←hd] at cd
     have la:a<4294967296:=by rw [ha];exact lt (by omega)
     have lb:b<4294967296:=by rw [hb];exact lt (by omega)
     have lc:c<4294967296:=by rw [hc];exact lt (by omega)
     have ld:d<4294967296:=by rw [hd];exact lt (by omega)
     have q1:(0:Int)≤(t:Int)-15:=by omega
     have q2:(t:Int)-15<t:=by omega
     have q3:(0:Int)≤(t:Int)-2:=by omega
     have q4:(t:Int)-2<t:=by omega
     have r1:IntKind.i64.wrap ((t:Int)-15)=(t:Int)-15:=IntWalk.i64_in _ (by omega)
     have r2:IntKind.i64.wrap ((t:Int)-2)=(t:Int)-2:=IntWalk.i64_in _ (by omega)
     have n1:((t:Int)-15).toNat=t-15:=by omega
     have n2:((t:Int)-2).toNat=t-2:=by omega
     obtain ⟨x1,hx1⟩:∃ x,x=ls0 a:=⟨_,rfl⟩
     obtain ⟨x2,hx2⟩:∃ x,x=ls1 b:=⟨_,rfl⟩
     have e1:=sig_eq (rotr_lt (n:=7) la) (rotr_lt (n:=18) la) (Nat.lt_of_le_of_lt (Nat.div_le_self a 8) la)
     have e2:=sig_eq (rotr_lt (n:=17) lb) (rotr_lt (n:=19) lb) (Nat.lt_of_le_of_lt (Nat.div_le_self b 1024) lb)
     rw [←ls0,←hx1,show ((a / 8:Nat):Int)=(a:Int) / 8 from rfl] at e1
     rw [←ls1,←hx2,show ((b / 1024:Nat):Int)=(b:Int) / 1024 from rfl] at e2
     have m1:x1<4294967296:=by rw [hx1];exact ls0_lt la
     have m2:x2<4294967296:=by rw [hx2];exact ls1_lt lb
     obtain ⟨y1,hy1⟩:∃ y,y=(x2+c)%4294967296:=⟨_,rfl⟩
     obtain ⟨y2,hy2⟩:∃ y,y=(y1+x1)%4294967296:=⟨_,rfl⟩
     obtain ⟨y3,hy3⟩:∃ y,y=(y2+d)%4294967296:=⟨_,rfl⟩
     have u1:IntKind.u32.wrap ((x2:Int)+c)=(y1:Int):=by rw [IntKind.wrap_u32',hy1];rfl
     have u2:IntKind.u32.wrap ((y1:Int)+x1)=(y2:Int):=by rw [IntKind.wrap_u32',hy2];rfl
     have u3:IntKind.u32.wrap ((y2:Int)+d)=(y3:Int):=by rw [IntKind.wrap_u32',hy3];rfl
     have HY:Hid (nextW L t=y3):=by
      show _=_
      rw [nextW,←ha,←hb,←hc,←hd,←hx1,←hx2,←hy1,←hy2,←hy3]
     have HLL:Hid (L=sched W (t-16)):=hL
     clear hy1 hy2 hy3 hx1 hx2 ha hb hc hd ce lt hLw hL hLl
     go_wp2
     go_quiet (fail)
     clear r1 r2
     go_wp2_with (go_at_call 135;first
      | ((with_reducible refine (turn_7 _ _ (by assumption)).mono ?_);rintro e w' ⟨rfl,dn,rfl⟩)
      | ((with_reducible refine (turn_18 _ _ (by assumption)).mono ?_);rintro e w' ⟨rfl,dn,rfl⟩)
      | ((with_reducible refine (turn_17 _ _ (by assumption)).mono ?_);rintro e w' ⟨rfl,dn,rfl⟩)
      | ((with_reducible refine (turn_19 _ _ (by assumption)).mono ?_);rintro e w' ⟨rfl,dn,rfl⟩))
     have hk (N:Nat):(wr.drewN N).ownsRow w.heap.size 141 1 (.slice (some ⟨g,0,none⟩) t cap) t (ucells L)∧Below w.heap.size w (wr.drewN N)∧(wr.drewN N).cell? ⟨g,t-7,none⟩=some (.int .u32 (c:Int))∧(wr.drewN N).cell? ⟨g,t-16,none⟩=some (.int .u32 (d:Int)):=⟨hown,below_drewN hbel N,cc,cd⟩
     generalize nq+_+_+_+dn=N
     obtain ⟨wq,hwq⟩:∃ wq,wq=wr.drewN N:=⟨_,rfl⟩
     have hkN:=hk N
     rw [←hwq] at hkN ⊢
     obtain ⟨hownq,hbelq,ccq,cdq⟩:=hkN
     clear hwq hk ca cb cc cd hown hbel e1 e2 q1 q2 q3 q4 n1 n2
     have q5:(7:Int)≤(t:Int):=by omega
     have q6:(t:Int)-7<t:=by omega
     have q7:(16:Int)≤(t:Int):=by omega
     have q8:(t:Int)-16<t:=by omega
     have r3:IntKind.i64.wrap ((t:Int)-7)=(t:Int)-7:=IntWalk.i64_in _ (by omega)
     have r4:IntKind.i64.wrap ((t:Int)-16)=(t:Int)-16:=IntWalk.i64_in _ (by omega)
     have n3:((t:Int)-7).toNat=t-7:=by omega
     have n4:((t:Int)-16).toNat=t-16:=by omega
     go_region_law (refine step_append_lies _ rfl (.tmp 80) (.tmp 96) 137 rfl w.heap.size 141 i0 (.int .u32 0) 1 4 Tryz.underlying137 hi hz0 hz1 hz2 rfl (by decide) _ _ _ rfl (World.ownsRow.alloc (w:=wq.drew) hownq _) ⟨wq.heap.size,0,none⟩ 1 1 (ucells [y3]) rfl rfl (fun j u hj=>new_cell wq.drew _ _ j u hj) (ucells_one _) (by decide) (by unfold maxLen;omega) (by omega) (by have:=hbelq.size;simp;omega) _ rfl ?_;intro g3 cap3 w3 ho3 hg3 _ _)
     all_goals
      have hb3:Below w.heap.size w w3:=app_step hbelq hownq (grown_drew hg3) (Nat.le_refl _) hbelq.size
      clear hownq hg3 hbelq
      go_wp2
      go_roundw
      case rel=>exact ⟨t+1,by omega,by omega,by go_num,owns_eq ho3 (by rw [HNX.out,HY.out,ucells_append]),hb3⟩
      case measure=>simp [intOf];omega
    ·obtain rfl:t=64:=by omega
     go_wp2
     go_ret
     exact ⟨_,rfl,by rw [←HW.out];exact hown,hbel⟩
end Go.Proofs.YtnoopcenogbjiaaGreatDoor
