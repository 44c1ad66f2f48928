/-
  The walk of the reference's Parse.
-/
import Derived.Test.YtnoopcenogbjiaaGreatDoorCmRWho2Pk
import Derived.Test.YtnoopcenogbjiaaGreatDoorCmRTagPPk
import Derived.Test.YtnoopcenogbjiaaGreatDoorCmParsePk
set_option linter.unusedVariables false
set_option linter.unusedSimpArgs false
namespace Go.Proofs.YtnoopcenogbjiaaGreatDoor
open Go Go.RowKit Go.Maps Go.WideMaps
structure QSt (w0 w:World) (A E base:Nat) (cs:Array Value):Prop where
  e:w.heap[E]?=some (.cells cs 64 (0,0))
  a:w.heap[A]?=some (.cells #[.string ⟨#[]⟩,.slice none 0 0,.string ⟨#[]⟩,.string ⟨#[]⟩,.int .i64 0,.int .i64 0,.string ⟨#[]⟩,.string ⟨#[]⟩,.int .i64 0,.int .i64 0,.string ⟨#[]⟩] 64 (0,0))
  bel:Below w0.heap.size w0 w
  o1:w0.heap.size≤A
  o2:A<E
  o3:E<base
  o4:base≤w.heap.size
theorem QSt.below {w0 w w':World} {A E base:Nat} {cs:Array Value} (h:QSt w0 w A E base cs) (hb:Below w.heap.size w w'):QSt w0 w' A E base cs :=
  ⟨(hb.block E (row_lt h.e)).trans h.e,(hb.block A (row_lt h.a)).trans h.a,h.bel.trans (hb.mono h.bel.size),h.o1,h.o2,h.o3,Nat.le_trans h.o4 hb.size⟩
theorem QSt.store {w0 w:World} {A E base:Nat} {cs cs':Array Value} (h:QSt w0 w A E base cs) (k:Nat) (v:Value) (hc:cs.setIfInBounds k v=cs'):QSt w0 (w.setCell ⟨E,k,none⟩ v) A E base cs' :=
  ⟨by rw [←hc];exact heap_setCell_same w E k cs 64 v h.e,
   (Below.heap_setCell _ ⟨E,k,none⟩ v A (by show A≠E;have:=h.o2;omega)).trans h.a,h.bel.setCell (p:=⟨E,k,none⟩) (by show _≤E;have:=h.o1;have:=h.o2;omega) v,h.o1,h.o2,h.o3,by simpa using h.o4⟩
theorem QSt.put {w0 w w6:World} {A E base g c L:Nat} {ob:Obj} {v:Value} {ps:List (List UInt8)} {V:ByteArray} {v0 v2 v3 v4 v5 v6 v7 v8 v9 v10:Value}
    (h:QSt w0 w A E base #[v0,v,v2,v3,v4,v5,v6,v7,v8,v9,v10]) (ho:SOw w base v ps)
    (ho6:w6.ownsRow base 9 1 (.slice (some ⟨g,0,none⟩) (L+1) c) (L+1) (strs ps++[.string V])) (hL:L=ps.length) (hg6:(w.alloc ob).grownBy w6 v.ownBlock) :
    w6.cell? ⟨E,1,none⟩=some v∧w6.frozen? ⟨E,1,none⟩=false ∧
      QSt w0 (w6.setCell ⟨E,1,none⟩ (.slice (some ⟨g,0,none⟩) (L+1) c)) A E base #[v0,.slice (some ⟨g,0,none⟩) (L+1) c,v2,v3,v4,v5,v6,v7,v8,v9,v10] ∧
      SOw (w6.setCell ⟨E,1,none⟩ (.slice (some ⟨g,0,none⟩) (L+1) c)) base (.slice (some ⟨g,0,none⟩) (L+1) c) (ps++[V.data.toList]):=by
  have hE6:w6.heap[E]?=w.heap[E]?:=(hg6.block E (by have:=row_lt h.e;simp;omega) (ho.apart h.o3)).trans (Below.heap_alloc w ob E (row_lt h.e))
  have hA6:w6.heap[A]?=w.heap[A]?:=(hg6.block A (by have:=row_lt h.a;simp;omega) (ho.apart (by have:=h.o2;have:=h.o3;omega))).trans (Below.heap_alloc w ob A (row_lt h.a))
  have hr:w6.heap[E]?=some (.cells #[v0,v,v2,v3,v4,v5,v6,v7,v8,v9,v10] 64 (0,0)):=hE6.trans h.e
  have hb6:Below w0.heap.size w0 w6:=ho.bel1 h.bel (by have:=h.o1;have:=h.o2;have:=h.o3;omega) (by have:=h.o1;have:=h.o2;have:=h.o3;have:=h.o4;omega) hg6
  have hsz:base≤w6.heap.size:=by
    have:=hg6.size
    have:=h.o4
    simp at this ⊢
    have h2:=hg6.size
    rw [World.size_alloc] at h2
    omega
  have q:QSt w0 w6 A E base #[v0,v,v2,v3,v4,v5,v6,v7,v8,v9,v10]:=⟨hr,hA6.trans h.a,hb6,h.o1,h.o2,h.o3,hsz⟩
  refine ⟨cell_of_row _ _ 1 _ _ _ hr,frozen_of_row _ _ 1 _ _ hr,q.store 1 _ (by simp),?_⟩
  have h7:SOw w6 base (.slice (some ⟨g,0,none⟩) (L+1) c) (ps++[V.data.toList]):=by
    unfold SOw
    rw [strs_append,List.length_append,←hL]
    exact ho6
  exact h7.store h.o3
theorem pre_ten (l:List UInt8) (d:Nat):Lib.hasPrefix (l.drop d) [10]=decide (d<l.length∧l[d]?=some 10):=by
  rw [has_take,Bool.eq_iff_iff,decide_eq_true_eq,decide_eq_true_eq]
  by_cases h:d<l.length
  · rw [List.drop_eq_getElem_cons h,List.getElem?_eq_getElem h]
    show List.take 1 (l[d]::l.drop (d+1))=[10]↔_
    rw [List.take_succ_cons,List.take_zero]
    simp [h]
  · rw [List.drop_of_length_le (by omega)]
    simp [h]
set_option maxHeartbeats 8000000 in
set_option maxRecDepth 8000 in
theorem rcparse_any (s:ByteArray) (w:World) (hs:s.size≤1048576):Calls Tryz.prog 51 #[.string s] w (ParCR (parC s.data.toList) w):=by
  obtain ⟨R,hR⟩:∃ R,R=parC s.data.toList:=⟨_,rfl⟩
  rw [←hR]
  obtain ⟨l,hl⟩:∃ l,l=s.data.toList:=⟨_,rfl⟩
  have hll:l.length=s.size:=by rw [hl,list_len]
  have HLN:Hid (∀ (i:Nat) (wd:ByteArray) (w':World),i≤s.size→wd.size≤1048576→Calls Tryz.prog 86 #[.string s,.int .i64 (i:Int),.string wd] w' fun e w''=>e=.returned (.tuple #[.string (str (lnV l i wd.data.toList)),.int .i64 (lnN l i wd.data.toList:Int),.bool (lnF l i wd.data.toList)])∧w'=w''):=fun i wd w' hi hw=>by rw [hl];exact rline_any s wd i w' hi hs hw
  have HLE:Hid (∀ (i:Nat) (wd:List UInt8),i≤s.size→i≤lnN l i wd∧lnN l i wd≤s.size):=fun i wd hi=>by
    have:=lnN_le l wd i (by omega)
    omega
  have HSZ:Hid (∀ (i:Nat) (wd:List UInt8),(str (lnV l i wd)).size≤s.size):=fun i wd=>by rw [str_size,←hll];exact lnV_len l wd i
  rw [←hl] at hR
  obtain ⟨T,hT⟩:∃ T,T=str (lnV l 0 wTree):=⟨_,rfl⟩
  obtain ⟨a0,ha0⟩:∃ a0,a0=lnN l 0 wTree:=⟨_,rfl⟩
  obtain ⟨f0,hf0⟩:∃ f0,f0=lnF l 0 wTree:=⟨_,rfl⟩
  obtain ⟨b0,hb0⟩:∃ b0,b0=isId T:=⟨_,rfl⟩
  have ha0l:a0≤s.size:=by rw [ha0];exact (HLE.out 0 wTree (Nat.zero_le _)).2
  have hTs:T.size≤s.size:=by rw [hT];exact HSZ.out 0 wTree
  have hTB:treeB l=(!f0||!b0):=by
    have hv:lnF l 0 wTree=valO l wTree:=by rw [lnF,List.drop_zero]
    rw [hb0,hT,hf0,hv,treeB,Bool.false_or]
    cases hx:valO l wTree with
    | false=>rfl
    | true=>rw [lnV,if_pos (by rw [hv,hx]),List.drop_zero]
  have hbad:treeB l=true→R=(2,Cm.zero):=fun h=>by rw [hR];exact parC_tree h
  have HL0:Hid (∀ w',Calls Tryz.prog 86 #[.string s,.int .i64 0,.string ⟨#[116,114,101,101]⟩] w' fun e w''=>e=.returned (.tuple #[.string T,.int .i64 (a0:Int),.bool f0])∧w'=w''):=fun w'=>by rw [hT,ha0,hf0];exact HLN.out 0 ⟨#[116,114,101,101]⟩ w' (Nat.zero_le _) (by decide)
  have HI0:Hid (∀ w',Calls Tryz.prog 87 #[.string T] w' fun e w''=>e=.returned (.bool b0)∧w'=w''):=fun w'=>by rw [hb0];exact ris_any T w' (by omega)
  obtain ⟨A,hA⟩:∃ A,A=w.heap.size:=⟨_,rfl⟩
  obtain ⟨w1,hw1⟩:∃ w1,w1=w.alloc (.cells #[.string ⟨#[]⟩,.slice none 0 0,.string ⟨#[]⟩,.string ⟨#[]⟩,.int .i64 0,.int .i64 0,.string ⟨#[]⟩,.string ⟨#[]⟩,.int .i64 0,.int .i64 0,.string ⟨#[]⟩] 64):=⟨_,rfl⟩
  obtain ⟨E,hE⟩:∃ E,E=w1.heap.size:=⟨_,rfl⟩
  obtain ⟨w2,hw2⟩:∃ w2,w2=w1.alloc (.cells #[.string ⟨#[]⟩,.slice none 0 0,.string ⟨#[]⟩,.string ⟨#[]⟩,.int .i64 0,.int .i64 0,.string ⟨#[]⟩,.string ⟨#[]⟩,.int .i64 0,.int .i64 0,.string ⟨#[]⟩] 64):=⟨_,rfl⟩
  obtain ⟨base,hbase⟩:∃ base,base=w2.heap.size:=⟨_,rfl⟩
  have hx1:w1.heap[A]?=some (.cells #[.string ⟨#[]⟩,.slice none 0 0,.string ⟨#[]⟩,.string ⟨#[]⟩,.int .i64 0,.int .i64 0,.string ⟨#[]⟩,.string ⟨#[]⟩,.int .i64 0,.int .i64 0,.string ⟨#[]⟩] 64 (0,0)):=by rw [hw1,hA];exact heap_alloc_new _ _
  have hx2:w2.heap[E]?=some (.cells #[.string ⟨#[]⟩,.slice none 0 0,.string ⟨#[]⟩,.string ⟨#[]⟩,.int .i64 0,.int .i64 0,.string ⟨#[]⟩,.string ⟨#[]⟩,.int .i64 0,.int .i64 0,.string ⟨#[]⟩] 64 (0,0)):=by rw [hw2,hE];exact heap_alloc_new _ _
  have hx1':w2.heap[A]?=some (.cells #[.string ⟨#[]⟩,.slice none 0 0,.string ⟨#[]⟩,.string ⟨#[]⟩,.int .i64 0,.int .i64 0,.string ⟨#[]⟩,.string ⟨#[]⟩,.int .i64 0,.int .i64 0,.string ⟨#[]⟩] 64 (0,0)):=by rw [hw2];exact row_alloc hx1 (row_lt hx1)
  have hS0:QSt w w2 A E base #[.string ⟨#[]⟩,.slice none 0 0,.string ⟨#[]⟩,.string ⟨#[]⟩,.int .i64 0,.int .i64 0,.string ⟨#[]⟩,.string ⟨#[]⟩,.int .i64 0,.int .i64 0,.string ⟨#[]⟩]:=⟨hx2,hx1',by rw [hw2,hw1];exact below_new (below_new (Below.refl _ _) _) _,by rw [hA];exact Nat.le_refl _,by rw [hE];exact row_lt hx1,by rw [hbase];exact row_lt hx2,by rw [hbase];exact Nat.le_refl _⟩
  have HS0:=Lib.hid hS0
  have HA:=Lib.hid hA
  have HW1:=Lib.hid hw1
  have HE:=Lib.hid hE
  have HW2:=Lib.hid hw2
  have HSS:=Lib.hid hs
  have hRR:=hR
  have HA0:=Lib.hid ha0
  clear hx1 hx2 hx1' hS0 hA hw1 hE hw2 hbase ha0 hb0 hf0
  have HR:=Lib.hid hRR
  have HLL:=Lib.hid hll
  have HTT:=Lib.hid hT
  have HLS:=Lib.hid hl
  clear hRR hR hll hl hT
  rcases f0 with _|_
  · have HQ:Hid (R=(2,Cm.zero)):=hbad (by rw [hTB];rfl)
    clear hbad hTB HR
    go_enter Tryz.func51,Tryz.ntmps51
    go_upto_region 1 with fail
    rw [←HW1.out,←HA.out]
    go_upto_region 2 with fail
    rw [←HW2.out,←HE.out]
    go_upto_region 4 with (go_at_call 86;((with_reducible refine (HL0.out _).mono ?_);rintro e wa ⟨rfl,rfl⟩))
    obtain ⟨u0,u1,u2,u3,u4,u5,u6,u7,u8,u9,u10⟩:=cm_at HS0.out.a
    obtain ⟨f0,f1,f2,f3,f4,f5,f6,f7,f8,f9,f10⟩:=cm_frz HS0.out.a
    go_wp2
    obtain ⟨d0,d1,d2,d3,d4,d5,d6,d7,d8,d9,d10⟩:=cm_at (cm_row (v0:=.string ⟨#[]⟩) (v1:=.slice none 0 0) (v2:=.string ⟨#[]⟩) (v3:=.string ⟨#[]⟩) (v4:=.int .i64 0) (v5:=.int .i64 0) (v6:=.string ⟨#[]⟩) (v7:=.string ⟨#[]⟩) (v8:=.int .i64 0) (v9:=.int .i64 0) (v10:=.string ⟨#[]⟩) HS0.out.a)
    refine bodyPost_ret (v:=.tuple #[.agg #[.string ⟨#[]⟩,.slice none 0 0,.string ⟨#[]⟩,.string ⟨#[]⟩,.int .i64 0,.int .i64 0,.string ⟨#[]⟩,.string ⟨#[]⟩,.int .i64 0,.int .i64 0,.string ⟨#[]⟩],.int .i64 2]) (by simp [results,Tryz.results51,go_sem,d0,d1,d2,d3,d4,d5,d6,d7,d8,d9,d10]) rfl (parCR_bad HQ.out (set11_below HS0.out.bel HS0.out.o1))
  rcases b0 with _|_
  · have HQ:Hid (R=(2,Cm.zero)):=hbad (by rw [hTB];rfl)
    clear hbad hTB HR
    go_enter Tryz.func51,Tryz.ntmps51
    go_upto_region 1 with fail
    rw [←HW1.out,←HA.out]
    go_upto_region 2 with fail
    rw [←HW2.out,←HE.out]
    go_upto_region 4 with (first
      | (go_at_call 86;((with_reducible refine (HL0.out _).mono ?_);rintro e wa ⟨rfl,rfl⟩))
      | (go_at_call 87;((with_reducible refine (HI0.out _).mono ?_);rintro e wb ⟨rfl,rfl⟩)))
    obtain ⟨u0,u1,u2,u3,u4,u5,u6,u7,u8,u9,u10⟩:=cm_at HS0.out.a
    obtain ⟨f0,f1,f2,f3,f4,f5,f6,f7,f8,f9,f10⟩:=cm_frz HS0.out.a
    go_wp2
    obtain ⟨d0,d1,d2,d3,d4,d5,d6,d7,d8,d9,d10⟩:=cm_at (cm_row (v0:=.string ⟨#[]⟩) (v1:=.slice none 0 0) (v2:=.string ⟨#[]⟩) (v3:=.string ⟨#[]⟩) (v4:=.int .i64 0) (v5:=.int .i64 0) (v6:=.string ⟨#[]⟩) (v7:=.string ⟨#[]⟩) (v8:=.int .i64 0) (v9:=.int .i64 0) (v10:=.string ⟨#[]⟩) HS0.out.a)
    refine bodyPost_ret (v:=.tuple #[.agg #[.string ⟨#[]⟩,.slice none 0 0,.string ⟨#[]⟩,.string ⟨#[]⟩,.int .i64 0,.int .i64 0,.string ⟨#[]⟩,.string ⟨#[]⟩,.int .i64 0,.int .i64 0,.string ⟨#[]⟩],.int .i64 2]) (by simp [results,Tryz.results51,go_sem,d0,d1,d2,d3,d4,d5,d6,d7,d8,d9,d10]) rfl (parCR_bad HQ.out (set11_below HS0.out.bel HS0.out.o1))
  have HTF:Hid (treeB l=false):=by show _=_;rw [hTB];rfl
  have ht3:lnF l 0 wTree=true:=by
    have h1:=HTF.out
    unfold treeB at h1
    simp only [Bool.false_or,Bool.or_eq_false_iff,Bool.not_eq_false'] at h1
    rw [lnF,List.drop_zero]
    exact h1.1
  clear hbad hTB
  obtain ⟨p0,hp0⟩:∃ p0,p0=str (lnV l a0 wPar):=⟨_,rfl⟩
  obtain ⟨t0,ht0⟩:∃ t0,t0=lnN l a0 wPar:=⟨_,rfl⟩
  obtain ⟨m0,hm0⟩:∃ m0,m0=lnF l a0 wPar:=⟨_,rfl⟩
  have HL1:Hid (∀ w',Calls Tryz.prog 86 #[.string s,.int .i64 (a0:Int),.string ⟨#[112,97,114,101,110,116]⟩] w' fun e w''=>e=.returned (.tuple #[.string p0,.int .i64 (t0:Int),.bool m0])∧w'=w''):=fun w'=>by rw [hp0,ht0,hm0];exact HLN.out a0 ⟨#[112,97,114,101,110,116]⟩ w' ha0l (by decide)
  have c4:=(cm_at HS0.out.e).1
  have f4:=(cm_frz HS0.out.e).1
  have hS1:=HS0.out.store 0 (.string T) (cs':=#[.string T,.slice none 0 0,.string ⟨#[]⟩,.string ⟨#[]⟩,.int .i64 0,.int .i64 0,.string ⟨#[]⟩,.string ⟨#[]⟩,.int .i64 0,.int .i64 0,.string ⟨#[]⟩]) (by simp)
  have HP0:Hid (p0=str (lnV l a0 wPar)∧t0=lnN l a0 wPar∧m0=lnF l a0 wPar):=⟨hp0,ht0,hm0⟩
  clear hp0 ht0 hm0
  go_enter Tryz.func51,Tryz.ntmps51
  go_upto_region 1 with fail
  rw [←HW1.out,←HA.out]
  go_upto_region 2 with fail
  rw [←HW2.out,←HE.out]
  go_upto_region 6 with (first
    | (go_at_call 86;((with_reducible refine (HL0.out _).mono ?_);rintro e wa ⟨rfl,rfl⟩))
    | (go_at_call 87;((with_reducible refine (HI0.out _).mono ?_);rintro e wb ⟨rfl,rfl⟩)))
  obtain ⟨w3,hw3⟩:∃ w3,w3=w2.setCell ⟨E,0,none⟩ (.string T):=⟨_,rfl⟩
  rw [←hw3] at hS1 ⊢
  have HS1:=Lib.hid hS1
  clear hS1 hw3 c4 f4 HL0 HI0 HS0 HA HW1 HE HW2
  go_upto_region 7 with (go_at_call 86;((with_reducible refine (HL1.out _).mono ?_);rintro e wa ⟨rfl,rfl⟩))
  have HPP:Hid (parsP (valR l) false []=parsP (l.drop a0) false []):=by
    show _=_
    have h1:lnN l 0 wTree=a0:=HA0.out.symm
    rw [←h1,lnN_drop ht3,List.drop_zero]
  clear ht3 HL1
  go_loopw [6,8,9,10] (fun av pv tv mv wr=>∃ (i:Nat) (ps:List (List UInt8)) (v:Value) (p:ByteArray) (t:Nat) (m:Bool),i≤s.size∧av=.int .i64 (i:Int)∧pv=.string p∧tv=.int .i64 (t:Int)∧mv=.bool m∧Hid (p=str (lnV l i wPar)∧t=lnN l i wPar∧m=lnF l i wPar)∧QSt w wr A E base #[.string T,v,.string ⟨#[]⟩,.string ⟨#[]⟩,.int .i64 0,.int .i64 0,.string ⟨#[]⟩,.string ⟨#[]⟩,.int .i64 0,.int .i64 0,.string ⟨#[]⟩]∧SOw wr base v ps∧Hid (parsP (valR l) false []=parsP (l.drop i) false ps)∧ps.length+(s.size-i)≤1048576∧Hid (∀ y∈ps,y.length≤1048576)) (fun av _ _ _ _=>s.size-(intOf av).toNat)
  case atStart=>exact ⟨a0,[],.slice none 0 0,p0,t0,m0,ha0l,rfl,rfl,rfl,rfl,HP0.out,HS1.out,SOw.nil _ _,HPP.out,by simp;have:=HSS.out;omega,by intro y hy;cases hy⟩
  case round =>
    clear HS1 HPP HP0 ha0l
    obtain ⟨i,ps,v,p,t,m,hi,rfl,rfl,rfl,rfl,HPT,hS,ho,HPP,hpl,HPY⟩:=hrel
    rcases m with _|_
    case true =>
      have hps:p.size≤s.size:=by rw [HPT.out.1];exact HSZ.out i wPar
      obtain ⟨b,hb⟩:∃ b,b=isId p:=⟨_,rfl⟩
      have HIP:Hid (∀ w',Calls Tryz.prog 87 #[.string p] w' fun e w''=>e=.returned (.bool b)∧w'=w''):=fun w'=>by rw [hb];exact ris_any p w' (by have:=HSS.out;omega)
      have HBB:=Lib.hid hb
      clear hb
      have hf:lnF l i wPar=true:=HPT.out.2.2.symm
      rcases b with _|_
      · have HQ:Hid (R=(2,Cm.zero)):=by
          show _=_
          rw [HR.out]
          exact parC_badId HTF.out HPP.out hf (by rw [←HPT.out.1];exact HBB.out.symm)
        have HS:=Lib.hid hS
        clear hS ho HR HPP hf
        go_upto_region 9 with (go_at_call 87;((with_reducible refine (HIP.out _).mono ?_);rintro e wb ⟨rfl,rfl⟩))
        obtain ⟨u0,u1,u2,u3,u4,u5,u6,u7,u8,u9,u10⟩:=cm_at HS.out.a
        obtain ⟨f0,f1,f2,f3,f4,f5,f6,f7,f8,f9,f10⟩:=cm_frz HS.out.a
        go_wp2
        obtain ⟨d0,d1,d2,d3,d4,d5,d6,d7,d8,d9,d10⟩:=cm_at (cm_row (v0:=.string ⟨#[]⟩) (v1:=.slice none 0 0) (v2:=.string ⟨#[]⟩) (v3:=.string ⟨#[]⟩) (v4:=.int .i64 0) (v5:=.int .i64 0) (v6:=.string ⟨#[]⟩) (v7:=.string ⟨#[]⟩) (v8:=.int .i64 0) (v9:=.int .i64 0) (v10:=.string ⟨#[]⟩) HS.out.a)
        refine bodyPost_ret (v:=.tuple #[.agg #[.string ⟨#[]⟩,.slice none 0 0,.string ⟨#[]⟩,.string ⟨#[]⟩,.int .i64 0,.int .i64 0,.string ⟨#[]⟩,.string ⟨#[]⟩,.int .i64 0,.int .i64 0,.string ⟨#[]⟩],.int .i64 2]) (by simp [results,Tryz.results51,go_sem,d0,d1,d2,d3,d4,d5,d6,d7,d8,d9,d10]) rfl (parCR_bad HQ.out (set11_below HS.out.bel HS.out.o1))
      · have hti:i<t∧t≤s.size:=by
          have h1:=HPT.out.2.1
          have h2:=(HLE.out i wPar hi).2
          rw [←h1] at h2
          rw [lnN,if_pos hf] at h1
          omega
        have HPX:Hid (parsP (valR l) false []=parsP (l.drop t) false (ps++[p.data.toList])):=by
          show _=_
          have e:p.data.toList=lnV l i wPar:=by rw [HPT.out.1];rfl
          rw [e,HPT.out.2.1]
          exact pars_next HPP.out hf (by rw [←HPT.out.1];exact HBB.out.symm)
        have HPY2:Hid (∀ y∈ps++[p.data.toList],y.length≤1048576):=fun y hy=>by
          rcases List.mem_append.mp hy with h|h
          · exact HPY.out y h
          · rw [List.mem_singleton] at h
            rw [h,list_len]
            have:=HSS.out
            omega
        obtain ⟨p1,hp1⟩:∃ p1,p1=str (lnV l t wPar):=⟨_,rfl⟩
        obtain ⟨t1,ht1⟩:∃ t1,t1=lnN l t wPar:=⟨_,rfl⟩
        obtain ⟨m1,hm1⟩:∃ m1,m1=lnF l t wPar:=⟨_,rfl⟩
        have HL1:Hid (∀ w',Calls Tryz.prog 86 #[.string s,.int .i64 (t:Int),.string ⟨#[112,97,114,101,110,116]⟩] w' fun e w''=>e=.returned (.tuple #[.string p1,.int .i64 (t1:Int),.bool m1])∧w'=w''):=fun w'=>by rw [hp1,ht1,hm1];exact HLN.out t ⟨#[112,97,114,101,110,116]⟩ w' hti.2 (by decide)
        have HP1:Hid (p1=str (lnV l t wPar)∧t1=lnN l t wPar∧m1=lnF l t wPar):=⟨hp1,ht1,hm1⟩
        obtain ⟨L,hL⟩:∃ L,L=ps.length:=⟨_,rfl⟩
        obtain ⟨pv,cv,rfl,-⟩:=ho.rw
        rw [←hL] at ho hpl hS
        have hLm:L+1+(s.size-t)≤1048576:=by omega
        have hL1:L+1≤1048576:=by omega
        have HL:=Lib.hid hL
        have HS:=Lib.hid hS
        have HO:=Lib.hid ho
        have c1:wr.cell? ⟨E,1,none⟩=some (.slice pv L cv):=(cm_at hS.e).2.1
        have HROW:Hid (∀ ob:Obj,(wr.alloc ob).ownsRow base 9 1 (.slice pv L cv) L (strs ps)∧base≤(wr.alloc ob).heap.size∧(wr.alloc ob).cell? ⟨E,1,none⟩=some (.slice pv L cv)):=fun ob=>by
          have h1:=HO.out
          unfold SOw at h1
          rw [←HL.out] at h1
          exact ⟨h1.alloc _,by have:=HS.out.o4;simp;omega,cell_bel c1 (below_new (Below.refl _ _) ob)⟩
        have HPUT:Hid (∀ (w6:World) (g6 c6:Nat) (ob:Obj),w6.ownsRow base 9 1 (.slice (some ⟨g6,0,none⟩) (L+1) c6) (L+1) (strs ps++[.string p])→(wr.alloc ob).grownBy w6 (Value.slice pv L cv).ownBlock →
            w6.cell? ⟨E,1,none⟩=some (.slice pv L cv)∧w6.frozen? ⟨E,1,none⟩=false∧QSt w (w6.setCell ⟨E,1,none⟩ (.slice (some ⟨g6,0,none⟩) (L+1) c6)) A E base #[.string T,.slice (some ⟨g6,0,none⟩) (L+1) c6,.string ⟨#[]⟩,.string ⟨#[]⟩,.int .i64 0,.int .i64 0,.string ⟨#[]⟩,.string ⟨#[]⟩,.int .i64 0,.int .i64 0,.string ⟨#[]⟩]∧SOw (w6.setCell ⟨E,1,none⟩ (.slice (some ⟨g6,0,none⟩) (L+1) c6)) base (.slice (some ⟨g6,0,none⟩) (L+1) c6) (ps++[p.data.toList])):=fun w6 g6 c6 ob ho6 hg6=>HS.out.put HO.out ho6 HL.out hg6
        clear hp1 ht1 hm1 hL hS ho HPP hf hpl HPT HBB HPY
        obtain ⟨i0,hii,hz0,hz1,hz2⟩:=info_parts Tryz.infoStr
        go_upto_region 11 with (first
          | (go_at_call 87;((with_reducible refine (HIP.out _).mono ?_);rintro e wb ⟨rfl,rfl⟩))
          | (at_builtin;refine wpList_append_lies _ rfl _ _ 41 rfl base 9 i0 (.string ⟨#[]⟩) 1 16 Tryz.underlying41 hii hz0 hz1 hz2 rfl (by omega) _ L _ rfl (HROW.out _).1 ⟨wr.heap.size,0,none⟩ 1 1 [.string p] rfl rfl (World.news_of_block (heap_alloc_new _ _)) (by simp [Value.oneCell']) (by omega) (by unfold maxLen;omega) (by omega) (HROW.out _).2.1 _ rfl ?_;intro g6 c6 w6 ho6 hg6 hat6 hlt6;obtain ⟨q1,q2,q3,q4⟩:=HPUT.out _ _ _ _ ho6 hg6))
        have HM3:=Lib.hid q3
        have HM4:=Lib.hid q4
        clear q3 q4 ho6 hg6 hat6 hlt6 hii hz0 hz1 hz2 HPUT HROW
        go_wp2_with (go_at_call 86;((with_reducible refine (HL1.out _).mono ?_);rintro e wa ⟨rfl,rfl⟩))
        go_roundw
        case rel=>exact ⟨t,ps++[p.data.toList],_,p1,t1,m1,hti.2,rfl,rfl,rfl,rfl,HP1.out,HM3.out,HM4.out,HPX.out,by have:=HL.out;simp;omega,HPY2.out⟩
        case measure=>simp [intOf];omega
    have hf:lnF l i wPar=false:=HPT.out.2.2.symm
    have HFIN:=parC_tail HTF.out HPP.out hf
    rw [←HR.out] at HFIN
    obtain ⟨x,hx⟩:∃ x,x=lnV l i wAut:=⟨_,rfl⟩
    obtain ⟨j,hj⟩:∃ j,j=lnN l i wAut:=⟨_,rfl⟩
    obtain ⟨f1,hf1⟩:∃ f1,f1=lnF l i wAut:=⟨_,rfl⟩
    rw [←hx,←hj,←hf1] at HFIN
    obtain ⟨y,hy⟩:∃ y,y=lnV l j wCom:=⟨_,rfl⟩
    obtain ⟨d,hd⟩:∃ d,d=lnN l j wCom:=⟨_,rfl⟩
    obtain ⟨f2,hf2⟩:∃ f2,f2=lnF l j wCom:=⟨_,rfl⟩
    rw [←hy,←hd,←hf2] at HFIN
    have hjl:j≤s.size:=by rw [hj];exact (HLE.out i wAut hi).2
    have hdl:d≤s.size:=by rw [hd];exact (HLE.out j wCom hjl).2
    have hxs:(str x).size≤s.size:=by rw [hx];exact HSZ.out i wAut
    have hys:(str y).size≤s.size:=by rw [hy];exact HSZ.out j wCom
    have HLA:Hid (∀ w',Calls Tryz.prog 86 #[.string s,.int .i64 (i:Int),.string ⟨#[97,117,116,104,111,114]⟩] w' fun e w''=>e=.returned (.tuple #[.string (str x),.int .i64 (j:Int),.bool f1])∧w'=w''):=fun w'=>by rw [hx,hj,hf1];exact HLN.out i ⟨#[97,117,116,104,111,114]⟩ w' hi (by decide)
    have HLC:Hid (∀ w',Calls Tryz.prog 86 #[.string s,.int .i64 (j:Int),.string ⟨#[99,111,109,109,105,116,116,101,114]⟩] w' fun e w''=>e=.returned (.tuple #[.string (str y),.int .i64 (d:Int),.bool f2])∧w'=w''):=fun w'=>by rw [hy,hd,hf2];exact HLN.out j ⟨#[99,111,109,109,105,116,116,101,114]⟩ w' hjl (by decide)
    have lna:=whoR_len x
    have lnc:=whoR_len y
    rw [str_size] at hxs hys
    have hss:=HSS.out
    have fA:=fun w'=>rwho2_any (str x) f1 w' (by rw [str_size];omega)
    have fC:=fun w'=>rwho2_any (str y) f2 w' (by rw [str_size];omega)
    rw [str_list] at fA fC
    obtain ⟨⟨ca,⟨an,am,aT,az⟩⟩,hqa⟩:∃ q,q=whoR x:=⟨_,rfl⟩
    obtain ⟨⟨cc,⟨cn,cm,cT,cz⟩⟩,hqc⟩:∃ q,q=whoR y:=⟨_,rfl⟩
    rw [←hqa] at fA lna HFIN
    rw [←hqc] at fC lnc HFIN
    simp only at fA fC lna lnc HFIN
    obtain ⟨M,hM⟩:∃ M,M=whC ca f1:=⟨_,rfl⟩
    obtain ⟨N,hN⟩:∃ N,N=whC cc f2:=⟨_,rfl⟩
    rw [←hM] at fA HFIN
    rw [←hN] at fC HFIN
    have HFN:=Lib.hid HFIN
    have HWA:Hid (∀ w',Calls Tryz.prog 88 #[.string (str x),.bool f1] w' fun e w''=>e=.returned (.tuple #[.agg #[.string an,.string am,.int .i64 aT,.int .i64 az],.int .i64 (M:Int)])∧Below w'.heap.size w' w''):=fA
    have HWC:Hid (∀ w',Calls Tryz.prog 88 #[.string (str y),.bool f2] w' fun e w''=>e=.returned (.tuple #[.agg #[.string cn,.string cm,.int .i64 cT,.int .i64 cz],.int .i64 (N:Int)])∧Below w'.heap.size w' w''):=fC
    obtain ⟨X,hX⟩:∃ X,X=str (l.drop (d+1)):=⟨_,rfl⟩
    obtain ⟨D,hD⟩:∃ D,D=Lib.hasPrefix (l.drop d) [10]:=⟨_,rfl⟩
    have HR2:Hid (R=if M=0∨N=0∨D=false then (2,Cm.zero) else if M=1∨N=1 then (1,Cm.zero) else if chkC ⟨T,ps,⟨an,am,aT,az⟩,⟨cn,cm,cT,cz⟩,X⟩=0 then (0,⟨T,ps,⟨an,am,aT,az⟩,⟨cn,cm,cT,cz⟩,X⟩) else (chkC ⟨T,ps,⟨an,am,aT,az⟩,⟨cn,cm,cT,cz⟩,X⟩,Cm.zero)):=by
      show _=_
      rw [HFN.out,finC,←hX,←hD,←HTT.out]
    have hDs:D=decide (d<s.size∧s.data.toList[d]?=some 10):=by
      rw [hD,HLS.out,pre_ten,list_len]
    have HDS:=Lib.hid hDs
    have hXs:X.size≤s.size:=by rw [hX,str_size,List.length_drop,HLL.out];omega
    have hXe:d<s.size→X=s.extract (d+1) s.size:=fun h=>by
      rw [hX,HLS.out]
      refine ba_ext ?_
      rw [str_list,ext_bytes,List.take_of_length_le (by rw [List.length_drop,list_len];omega)]
    have HXE:=Lib.hid hXe
    have HCK:Hid (∀ (w':World) (pp:Option Addr) (k c:Nat),k=ps.length→SRw w' pp ps→Calls Tryz.prog 70 #[.agg #[.string T,.slice pp k c,.string an,.string am,.int .i64 aT,.int .i64 az,.string cn,.string cm,.int .i64 cT,.int .i64 cz,.string X]] w' fun e w''=>e=.returned (.int .i64 (chkC ⟨T,ps,⟨an,am,aT,az⟩,⟨cn,cm,cT,cz⟩,X⟩:Int))∧Below w'.heap.size w' w''):=fun w' pp k c hk hp =>
      rccheck_any ⟨T,ps,⟨an,am,aT,az⟩,⟨cn,cm,cT,cz⟩,X⟩ pp k c w' hk hp (fun y hy=>Nat.le_trans (HPY.out y hy) (by decide)) (by omega) ⟨by simp only;omega,by simp only;omega,by simp only;omega,by simp only;omega,by simp only;omega,by simp only;omega⟩
    have HS:=Lib.hid hS
    have HO:=Lib.hid ho
    clear HFIN HFN hx hj hf1 hy hd hf2 fA fC hqa hqc hM hN hX hD hDs hXe hXs lna lnc hxs hys hf HPP HPT hS ho HR HPY HLN HLE HSZ HTF HTT
    go_upto_region 14 with (go_at_call 86;((with_reducible refine (HLA.out _).mono ?_);rintro e wa ⟨rfl,rfl⟩))
    go_upto_region 15 with (go_at_call 88;((with_reducible refine (HWA.out _).mono ?_);rintro e wa ⟨rfl,hba⟩))
    obtain ⟨P,hP⟩:∃ P,P=wa.heap.size:=⟨_,rfl⟩
    obtain ⟨w4,hw4⟩:∃ w4,w4=wa.alloc (.cells #[.string an,.string am,.int .i64 aT,.int .i64 az] 61):=⟨_,rfl⟩
    have hp4:w4.heap[P]?=some (.cells #[.string an,.string am,.int .i64 aT,.int .i64 az] 61 (0,0)):=by rw [hw4,hP];exact heap_alloc_new _ _
    have hb4:Below wr.heap.size wr w4:=hba.trans (by rw [hw4];exact (below_new (Below.refl _ _) _).mono hba.size)
    rw [←hw4,←hP]
    have HP4:=Lib.hid hp4
    have HB4:=Lib.hid hb4
    have hPb:base≤P:=by rw [hP];exact Nat.le_trans HS.out.o4 hba.size
    clear hw4 hP hba hp4 hb4 HLA HWA
    go_upto_region 16 with (go_at_call 86;((with_reducible refine (HLC.out _).mono ?_);rintro e wa ⟨rfl,rfl⟩))
    go_upto_region 17 with (go_at_call 88;((with_reducible refine (HWC.out _).mono ?_);rintro e wa ⟨rfl,hba⟩))
    obtain ⟨Q,hQQ⟩:∃ Q,Q=wa.heap.size:=⟨_,rfl⟩
    obtain ⟨w5,hw5⟩:∃ w5,w5=wa.alloc (.cells #[.string cn,.string cm,.int .i64 cT,.int .i64 cz] 61):=⟨_,rfl⟩
    have hq5:w5.heap[Q]?=some (.cells #[.string cn,.string cm,.int .i64 cT,.int .i64 cz] 61 (0,0)):=by rw [hw5,hQQ];exact heap_alloc_new _ _
    have hb5:Below w4.heap.size w4 w5:=hba.trans (by rw [hw5];exact (below_new (Below.refl _ _) _).mono hba.size)
    have hQb:base≤Q:=by rw [hQQ];exact Nat.le_trans (Nat.le_trans HS.out.o4 HB4.out.size) hba.size
    rw [←hw5,←hQQ]
    have HQ5:=Lib.hid hq5
    have HP5:=Lib.hid ((hb5.block _ (row_lt HP4.out)).trans HP4.out)
    have hb45:=HB4.out.trans (hb5.mono HB4.out.size)
    have HS5:=Lib.hid (HS.out.below hb45)
    have HO5:=Lib.hid (HO.out.below hb45)
    clear hw5 hQQ hba hq5 hb5 hb45 HLC HWC HP4 HB4 HS HO
    by_cases k1:M=0
    · have HQ:Hid (R=(2,Cm.zero)):=by show _=_;rw [HR2.out,if_pos (.inl k1)]
      have g1:((M:Int)==0)=true:=by rw [k1];rfl
      clear HR2 k1
      obtain ⟨u0,u1,u2,u3,u4,u5,u6,u7,u8,u9,u10⟩:=cm_at HS5.out.a
      obtain ⟨f0,f1,f2,f3,f4,f5,f6,f7,f8,f9,f10⟩:=cm_frz HS5.out.a
      go_wp2
      obtain ⟨d0,d1,d2,d3,d4,d5,d6,d7,d8,d9,d10⟩:=cm_at (cm_row (v0:=.string ⟨#[]⟩) (v1:=.slice none 0 0) (v2:=.string ⟨#[]⟩) (v3:=.string ⟨#[]⟩) (v4:=.int .i64 0) (v5:=.int .i64 0) (v6:=.string ⟨#[]⟩) (v7:=.string ⟨#[]⟩) (v8:=.int .i64 0) (v9:=.int .i64 0) (v10:=.string ⟨#[]⟩) HS5.out.a)
      refine bodyPost_ret (v:=.tuple #[.agg #[.string ⟨#[]⟩,.slice none 0 0,.string ⟨#[]⟩,.string ⟨#[]⟩,.int .i64 0,.int .i64 0,.string ⟨#[]⟩,.string ⟨#[]⟩,.int .i64 0,.int .i64 0,.string ⟨#[]⟩],.int .i64 2]) (by simp [results,Tryz.results51,go_sem,d0,d1,d2,d3,d4,d5,d6,d7,d8,d9,d10]) rfl (parCR_bad HQ.out (set11_below HS5.out.bel HS5.out.o1))
    have g1:((M:Int)==0)=false:=by rw [beq_eq_false_iff_ne];omega
    by_cases k2:N=0
    · have HQ:Hid (R=(2,Cm.zero)):=by show _=_;rw [HR2.out,if_pos (.inr (.inl k2))]
      have g2:((N:Int)==0)=true:=by rw [k2];rfl
      clear HR2 k1 k2
      obtain ⟨u0,u1,u2,u3,u4,u5,u6,u7,u8,u9,u10⟩:=cm_at HS5.out.a
      obtain ⟨f0,f1,f2,f3,f4,f5,f6,f7,f8,f9,f10⟩:=cm_frz HS5.out.a
      go_wp2
      obtain ⟨d0,d1,d2,d3,d4,d5,d6,d7,d8,d9,d10⟩:=cm_at (cm_row (v0:=.string ⟨#[]⟩) (v1:=.slice none 0 0) (v2:=.string ⟨#[]⟩) (v3:=.string ⟨#[]⟩) (v4:=.int .i64 0) (v5:=.int .i64 0) (v6:=.string ⟨#[]⟩) (v7:=.string ⟨#[]⟩) (v8:=.int .i64 0) (v9:=.int .i64 0) (v10:=.string ⟨#[]⟩) HS5.out.a)
      refine bodyPost_ret (v:=.tuple #[.agg #[.string ⟨#[]⟩,.slice none 0 0,.string ⟨#[]⟩,.string ⟨#[]⟩,.int .i64 0,.int .i64 0,.string ⟨#[]⟩,.string ⟨#[]⟩,.int .i64 0,.int .i64 0,.string ⟨#[]⟩],.int .i64 2]) (by simp [results,Tryz.results51,go_sem,d0,d1,d2,d3,d4,d5,d6,d7,d8,d9,d10]) rfl (parCR_bad HQ.out (set11_below HS5.out.bel HS5.out.o1))
    have g2:((N:Int)==0)=false:=by rw [beq_eq_false_iff_ne];omega
    by_cases k3:d<s.size
    case neg =>
      have HQ:Hid (R=(2,Cm.zero)):=by show _=_;rw [HR2.out,if_pos (.inr (.inr (by rw [HDS.out];exact decide_eq_false fun h=>k3 h.1)))]
      have g3:(s.size:Int)≤(d:Int):=by omega
      clear HR2 k1 k2 k3
      obtain ⟨u0,u1,u2,u3,u4,u5,u6,u7,u8,u9,u10⟩:=cm_at HS5.out.a
      obtain ⟨f0,f1,f2,f3,f4,f5,f6,f7,f8,f9,f10⟩:=cm_frz HS5.out.a
      go_wp2
      obtain ⟨d0,d1,d2,d3,d4,d5,d6,d7,d8,d9,d10⟩:=cm_at (cm_row (v0:=.string ⟨#[]⟩) (v1:=.slice none 0 0) (v2:=.string ⟨#[]⟩) (v3:=.string ⟨#[]⟩) (v4:=.int .i64 0) (v5:=.int .i64 0) (v6:=.string ⟨#[]⟩) (v7:=.string ⟨#[]⟩) (v8:=.int .i64 0) (v9:=.int .i64 0) (v10:=.string ⟨#[]⟩) HS5.out.a)
      refine bodyPost_ret (v:=.tuple #[.agg #[.string ⟨#[]⟩,.slice none 0 0,.string ⟨#[]⟩,.string ⟨#[]⟩,.int .i64 0,.int .i64 0,.string ⟨#[]⟩,.string ⟨#[]⟩,.int .i64 0,.int .i64 0,.string ⟨#[]⟩],.int .i64 2]) (by simp [results,Tryz.results51,go_sem,d0,d1,d2,d3,d4,d5,d6,d7,d8,d9,d10]) rfl (parCR_bad HQ.out (set11_below HS5.out.bel HS5.out.o1))
    have g3:¬ (s.size:Int)≤(d:Int):=by omega
    have hd10:s.data.toList[d]?=some (s[d]):=by rw [List.getElem?_eq_getElem (by rw [list_len];exact k3)];rfl
    by_cases k4:s[d]=10
    case neg =>
      have HQ:Hid (R=(2,Cm.zero)):=by show _=_;rw [HR2.out,if_pos (.inr (.inr (by rw [HDS.out];exact decide_eq_false fun h=>k4 (by have h2:=h.2;rw [hd10] at h2;exact Option.some.inj h2))))]
      have g4:((s[d].toNat:Int) != 10)=true:=by
        rw [bne_iff_ne]
        intro e
        exact k4 (UInt8.toNat_inj.mp (by have h1 : s[d].toNat = 10 := by omega
                                         exact h1))
      clear HR2 k1 k2 k4 hd10
      obtain ⟨u0,u1,u2,u3,u4,u5,u6,u7,u8,u9,u10⟩:=cm_at HS5.out.a
      obtain ⟨f0,f1,f2,f3,f4,f5,f6,f7,f8,f9,f10⟩:=cm_frz HS5.out.a
      go_wp2
      obtain ⟨d0,d1,d2,d3,d4,d5,d6,d7,d8,d9,d10⟩:=cm_at (cm_row (v0:=.string ⟨#[]⟩) (v1:=.slice none 0 0) (v2:=.string ⟨#[]⟩) (v3:=.string ⟨#[]⟩) (v4:=.int .i64 0) (v5:=.int .i64 0) (v6:=.string ⟨#[]⟩) (v7:=.string ⟨#[]⟩) (v8:=.int .i64 0) (v9:=.int .i64 0) (v10:=.string ⟨#[]⟩) HS5.out.a)
      refine bodyPost_ret (v:=.tuple #[.agg #[.string ⟨#[]⟩,.slice none 0 0,.string ⟨#[]⟩,.string ⟨#[]⟩,.int .i64 0,.int .i64 0,.string ⟨#[]⟩,.string ⟨#[]⟩,.int .i64 0,.int .i64 0,.string ⟨#[]⟩],.int .i64 2]) (by simp [results,Tryz.results51,go_sem,d0,d1,d2,d3,d4,d5,d6,d7,d8,d9,d10]) rfl (parCR_bad HQ.out (set11_below HS5.out.bel HS5.out.o1))
    have g4:((s[d].toNat:Int) != 10)=false:=by rw [k4];rfl
    have HR3:Hid (R=if M=1∨N=1 then (1,Cm.zero) else if chkC ⟨T,ps,⟨an,am,aT,az⟩,⟨cn,cm,cT,cz⟩,X⟩=0 then (0,⟨T,ps,⟨an,am,aT,az⟩,⟨cn,cm,cT,cz⟩,X⟩) else (chkC ⟨T,ps,⟨an,am,aT,az⟩,⟨cn,cm,cT,cz⟩,X⟩,Cm.zero)):=by
      show _=_
      rw [HR2.out,if_neg]
      rintro (h|h|h)
      · exact k1 h
      · exact k2 h
      · rw [HDS.out] at h
        exact of_decide_eq_false h ⟨k3,by rw [hd10,k4]⟩
    clear HR2 HDS k1 k2 k4 hd10
    by_cases k5:M=1
    · have HQ:Hid (R=(1,Cm.zero)):=by show _=_;rw [HR3.out,if_pos (.inl k5)]
      have g5:((M:Int)==1)=true:=by rw [k5];rfl
      clear HR3 k5
      obtain ⟨u0,u1,u2,u3,u4,u5,u6,u7,u8,u9,u10⟩:=cm_at HS5.out.a
      obtain ⟨f0,f1,f2,f3,f4,f5,f6,f7,f8,f9,f10⟩:=cm_frz HS5.out.a
      go_wp2
      obtain ⟨d0,d1,d2,d3,d4,d5,d6,d7,d8,d9,d10⟩:=cm_at (cm_row (v0:=.string ⟨#[]⟩) (v1:=.slice none 0 0) (v2:=.string ⟨#[]⟩) (v3:=.string ⟨#[]⟩) (v4:=.int .i64 0) (v5:=.int .i64 0) (v6:=.string ⟨#[]⟩) (v7:=.string ⟨#[]⟩) (v8:=.int .i64 0) (v9:=.int .i64 0) (v10:=.string ⟨#[]⟩) HS5.out.a)
      refine bodyPost_ret (v:=.tuple #[.agg #[.string ⟨#[]⟩,.slice none 0 0,.string ⟨#[]⟩,.string ⟨#[]⟩,.int .i64 0,.int .i64 0,.string ⟨#[]⟩,.string ⟨#[]⟩,.int .i64 0,.int .i64 0,.string ⟨#[]⟩],.int .i64 1]) (by simp [results,Tryz.results51,go_sem,d0,d1,d2,d3,d4,d5,d6,d7,d8,d9,d10]) rfl (parCR_bad HQ.out (set11_below HS5.out.bel HS5.out.o1))
    have g5:((M:Int)==1)=false:=by rw [beq_eq_false_iff_ne];omega
    by_cases k6:N=1
    · have HQ:Hid (R=(1,Cm.zero)):=by show _=_;rw [HR3.out,if_pos (.inr k6)]
      have g6:((N:Int)==1)=true:=by rw [k6];rfl
      clear HR3 k5 k6
      obtain ⟨u0,u1,u2,u3,u4,u5,u6,u7,u8,u9,u10⟩:=cm_at HS5.out.a
      obtain ⟨f0,f1,f2,f3,f4,f5,f6,f7,f8,f9,f10⟩:=cm_frz HS5.out.a
      go_wp2
      obtain ⟨d0,d1,d2,d3,d4,d5,d6,d7,d8,d9,d10⟩:=cm_at (cm_row (v0:=.string ⟨#[]⟩) (v1:=.slice none 0 0) (v2:=.string ⟨#[]⟩) (v3:=.string ⟨#[]⟩) (v4:=.int .i64 0) (v5:=.int .i64 0) (v6:=.string ⟨#[]⟩) (v7:=.string ⟨#[]⟩) (v8:=.int .i64 0) (v9:=.int .i64 0) (v10:=.string ⟨#[]⟩) HS5.out.a)
      refine bodyPost_ret (v:=.tuple #[.agg #[.string ⟨#[]⟩,.slice none 0 0,.string ⟨#[]⟩,.string ⟨#[]⟩,.int .i64 0,.int .i64 0,.string ⟨#[]⟩,.string ⟨#[]⟩,.int .i64 0,.int .i64 0,.string ⟨#[]⟩],.int .i64 1]) (by simp [results,Tryz.results51,go_sem,d0,d1,d2,d3,d4,d5,d6,d7,d8,d9,d10]) rfl (parCR_bad HQ.out (set11_below HS5.out.bel HS5.out.o1))
    have g6:((N:Int)==1)=false:=by rw [beq_eq_false_iff_ne];omega
    have HR4:Hid (R=if chkC ⟨T,ps,⟨an,am,aT,az⟩,⟨cn,cm,cT,cz⟩,X⟩=0 then (0,⟨T,ps,⟨an,am,aT,az⟩,⟨cn,cm,cT,cz⟩,X⟩) else (chkC ⟨T,ps,⟨an,am,aT,az⟩,⟨cn,cm,cT,cz⟩,X⟩,Cm.zero)):=by
      show _=_
      rw [HR3.out,if_neg (by rintro (h|h)<;>first|exact k5 h|exact k6 h)]
    clear HR3 k5 k6
    obtain ⟨K,hK⟩:∃ K,K=chkC ⟨T,ps,⟨an,am,aT,az⟩,⟨cn,cm,cT,cz⟩,X⟩:=⟨_,rfl⟩
    rw [←hK] at HCK HR4
    have hEb:=HS5.out.o3
    obtain ⟨-,-,u2,u3,u4,u5,u6,u7,u8,u9,u10⟩:=cm_at HS5.out.e
    obtain ⟨-,-,f2,f3,f4,f5,f6,f7,f8,f9,f10⟩:=cm_frz HS5.out.e
    obtain ⟨y0,y1,y2,y3,-⟩:=pn_end HP5.out
    obtain ⟨z0,z1,z2,z3,-⟩:=pn_end HQ5.out
    have hS6:=(((HS5.out.store 2 (.string an) (cs':=#[.string T,v,.string an,.string ⟨#[]⟩,.int .i64 0,.int .i64 0,.string ⟨#[]⟩,.string ⟨#[]⟩,.int .i64 0,.int .i64 0,.string ⟨#[]⟩]) (by simp)).store 3 (.string am) (cs':=#[.string T,v,.string an,.string am,.int .i64 0,.int .i64 0,.string ⟨#[]⟩,.string ⟨#[]⟩,.int .i64 0,.int .i64 0,.string ⟨#[]⟩]) (by simp)).store 4 (.int .i64 aT) (cs':=#[.string T,v,.string an,.string am,.int .i64 aT,.int .i64 0,.string ⟨#[]⟩,.string ⟨#[]⟩,.int .i64 0,.int .i64 0,.string ⟨#[]⟩]) (by simp)).store 5 (.int .i64 az) (cs':=#[.string T,v,.string an,.string am,.int .i64 aT,.int .i64 az,.string ⟨#[]⟩,.string ⟨#[]⟩,.int .i64 0,.int .i64 0,.string ⟨#[]⟩]) (by simp)
    have hO6:=(((HO5.out.store (k:=2) (u:=.string an) hEb).store (k:=3) (u:=.string am) hEb).store (k:=4) (u:=.int .i64 aT) hEb).store (k:=5) (u:=.int .i64 az) hEb
    have hQ6:((((w5.setCell ⟨E,2,none⟩ (.string an)).setCell ⟨E,3,none⟩ (.string am)).setCell ⟨E,4,none⟩ (.int .i64 aT)).setCell ⟨E,5,none⟩ (.int .i64 az)).heap[Q]?=some (.cells #[.string cn,.string cm,.int .i64 cT,.int .i64 cz] 61 (0,0)) :=
      (Below.heap_setCell _ ⟨E,5,none⟩ _ Q (by show Q≠E;omega)).trans ((Below.heap_setCell _ ⟨E,4,none⟩ _ Q (by show Q≠E;omega)).trans ((Below.heap_setCell _ ⟨E,3,none⟩ _ Q (by show Q≠E;omega)).trans ((Below.heap_setCell _ ⟨E,2,none⟩ _ Q (by show Q≠E;omega)).trans HQ5.out)))
    obtain ⟨w6,hw6⟩:∃ w6,w6=(((w5.setCell ⟨E,2,none⟩ (.string an)).setCell ⟨E,3,none⟩ (.string am)).setCell ⟨E,4,none⟩ (.int .i64 aT)).setCell ⟨E,5,none⟩ (.int .i64 az):=⟨_,rfl⟩
    go_upto_region 22 with fail
    rw [←hw6] at hS6 hO6 hQ6 ⊢
    clear hw6 u2 u3 u4 u5 u6 u7 u8 u9 u10 f2 f3 f4 f5 f6 f7 f8 f9 f10 y0 y1 y2 y3 z0 z1 z2 z3 HS5 HO5 HQ5 HP5
    obtain ⟨-,-,-,-,-,-,u6,u7,u8,u9,u10⟩:=cm_at hS6.e
    obtain ⟨-,-,-,-,-,-,f6,f7,f8,f9,f10⟩:=cm_frz hS6.e
    obtain ⟨z0,z1,z2,z3,-⟩:=pn_end hQ6
    have hS7:=(((hS6.store 6 (.string cn) (cs':=#[.string T,v,.string an,.string am,.int .i64 aT,.int .i64 az,.string cn,.string ⟨#[]⟩,.int .i64 0,.int .i64 0,.string ⟨#[]⟩]) (by simp)).store 7 (.string cm) (cs':=#[.string T,v,.string an,.string am,.int .i64 aT,.int .i64 az,.string cn,.string cm,.int .i64 0,.int .i64 0,.string ⟨#[]⟩]) (by simp)).store 8 (.int .i64 cT) (cs':=#[.string T,v,.string an,.string am,.int .i64 aT,.int .i64 az,.string cn,.string cm,.int .i64 cT,.int .i64 0,.string ⟨#[]⟩]) (by simp)).store 9 (.int .i64 cz) (cs':=#[.string T,v,.string an,.string am,.int .i64 aT,.int .i64 az,.string cn,.string cm,.int .i64 cT,.int .i64 cz,.string ⟨#[]⟩]) (by simp)
    have hO7:=(((hO6.store (k:=6) (u:=.string cn) hEb).store (k:=7) (u:=.string cm) hEb).store (k:=8) (u:=.int .i64 cT) hEb).store (k:=9) (u:=.int .i64 cz) hEb
    obtain ⟨w7,hw7⟩:∃ w7,w7=(((w6.setCell ⟨E,6,none⟩ (.string cn)).setCell ⟨E,7,none⟩ (.string cm)).setCell ⟨E,8,none⟩ (.int .i64 cT)).setCell ⟨E,9,none⟩ (.int .i64 cz):=⟨_,rfl⟩
    clear hS6 hO6 hQ6
    go_upto_region 23 with fail
    rw [←hw7] at hS7 hO7 ⊢
    clear hw7 u6 u7 u8 u9 u10 f6 f7 f8 f9 f10 z0 z1 z2 z3
    have u10:=(cm_at hS7.e).2.2.2.2.2.2.2.2.2.2
    have f10:=(cm_frz hS7.e).2.2.2.2.2.2.2.2.2.2
    obtain ⟨d1,hd1⟩:∃ d1,d1=d+1:=⟨_,rfl⟩
    have ed1:(d:Int)+1=(d1:Int):=by omega
    have ed2:IntKind.i64.wrap ((d:Int)+1)=(d1:Int):=by rw [IntWalk.i64_in _ (by omega)];omega
    have l1:(d1:Int)≤(s.size:Int):=by omega
    have l2:d1≤s.size:=by omega
    have hXE:=HXE.out k3
    rw [←hd1] at hXE
    have hS8:=hS7.store 10 (.string X) (cs':=#[.string T,v,.string an,.string am,.int .i64 aT,.int .i64 az,.string cn,.string cm,.int .i64 cT,.int .i64 cz,.string X]) (by simp)
    have hO8:=hO7.store (k:=10) (u:=.string X) hEb
    obtain ⟨w8,hw8⟩:∃ w8,w8=w7.setCell ⟨E,10,none⟩ (.string X):=⟨_,rfl⟩
    have HXX:=Lib.hid hXE
    clear hXE hS7 hO7 HXE hd1
    go_upto_region 24 with fail
    rw [←HXX.out]
    rw [←hw8] at hS8 hO8 ⊢
    clear hw8 u10 f10
    obtain ⟨pp,kk,rfl,hsr⟩:=hO8.rw
    obtain ⟨n,hn⟩:∃ n,n=ps.length:=⟨_,rfl⟩
    rw [←hn] at hS8 hO8
    have HCN:=Lib.hid (HCK.out w8 pp n kk hn hsr)
    have HS8:=Lib.hid hS8
    have HO8:=Lib.hid hO8
    have HN:=Lib.hid hn
    obtain ⟨u0,u1,u2,u3,u4,u5,u6,u7,u8,u9,u10⟩:=cm_at hS8.e
    have HEB:=Lib.hid hEb
    clear hS8 hO8 hsr hn hK HCK hEb
    by_cases h0:K=0
    · have HQ:Hid (R=(0,⟨T,ps,⟨an,am,aT,az⟩,⟨cn,cm,cT,cz⟩,X⟩)):=by show _=_;rw [HR4.out,if_pos h0]
      have g0:((K:Int) != 0)=false:=by simp [h0]
      clear HR4 h0
      go_upto_region 27 with (go_at_call 70;((with_reducible refine (HCN.out).mono ?_);rintro e wx ⟨rfl,hb5⟩;have hS5:=HS8.out.below hb5;obtain ⟨p0,p1,p2,p3,p4,p5,p6,p7,p8,p9,p10⟩:=cm_at hS5.a;obtain ⟨f0,f1,f2,f3,f4,f5,f6,f7,f8,f9,f10⟩:=cm_frz hS5.a;obtain ⟨q0,q1,q2,q3,q4,q5,q6,q7,q8,q9,q10⟩:=cm_at hS5.e))
      have HS9:=Lib.hid hS5
      have HB5:=Lib.hid hb5
      clear hS5 hb5 HCN u0 u1 u2 u3 u4 u5 u6 u7 u8 u9 u10
      go_wp2
      obtain ⟨d0,d1,d2,d3,d4,d5,d6,d7,d8,d9,d10⟩:=cm_at (cm_row (v0:=.string T) (v1:=.slice pp n kk) (v2:=.string an) (v3:=.string am) (v4:=.int .i64 aT) (v5:=.int .i64 az) (v6:=.string cn) (v7:=.string cm) (v8:=.int .i64 cT) (v9:=.int .i64 cz) (v10:=.string X) HS9.out.a)
      refine bodyPost_ret (v:=.tuple #[.agg #[.string T,.slice pp n kk,.string an,.string am,.int .i64 aT,.int .i64 az,.string cn,.string cm,.int .i64 cT,.int .i64 cz,.string X],.int .i64 0]) (by simp [results,Tryz.results51,go_sem,d0,d1,d2,d3,d4,d5,d6,d7,d8,d9,d10]) rfl ?_
      rw [HQ.out]
      refine ⟨⟨pp,kk,by rw [HN.out];rfl,?_⟩,set11_below HS9.out.bel HS9.out.o1⟩
      exact SOw.srw (SOw.store11 (HO8.out.below HB5.out) (by have:=HS9.out.o2;have:=HEB.out;omega))
    · have HQ:Hid (R=(K,Cm.zero)):=by show _=_;rw [HR4.out,if_neg h0]
      have g0:((K:Int) != 0)=true:=by simp;omega
      clear HR4 h0
      go_upto_region 26 with (go_at_call 70;((with_reducible refine (HCN.out).mono ?_);rintro e wx ⟨rfl,hb5⟩;have hS5:=HS8.out.below hb5))
      have HS9:=Lib.hid hS5
      clear hS5 hb5 HCN u0 u1 u2 u3 u4 u5 u6 u7 u8 u9 u10
      obtain ⟨u0,u1,u2,u3,u4,u5,u6,u7,u8,u9,u10⟩:=cm_at HS9.out.a
      obtain ⟨f0,f1,f2,f3,f4,f5,f6,f7,f8,f9,f10⟩:=cm_frz HS9.out.a
      go_wp2
      obtain ⟨d0,d1,d2,d3,d4,d5,d6,d7,d8,d9,d10⟩:=cm_at (cm_row (v0:=.string ⟨#[]⟩) (v1:=.slice none 0 0) (v2:=.string ⟨#[]⟩) (v3:=.string ⟨#[]⟩) (v4:=.int .i64 0) (v5:=.int .i64 0) (v6:=.string ⟨#[]⟩) (v7:=.string ⟨#[]⟩) (v8:=.int .i64 0) (v9:=.int .i64 0) (v10:=.string ⟨#[]⟩) HS9.out.a)
      refine bodyPost_ret (v:=.tuple #[.agg #[.string ⟨#[]⟩,.slice none 0 0,.string ⟨#[]⟩,.string ⟨#[]⟩,.int .i64 0,.int .i64 0,.string ⟨#[]⟩,.string ⟨#[]⟩,.int .i64 0,.int .i64 0,.string ⟨#[]⟩],.int .i64 (K:Int)]) (by simp [results,Tryz.results51,go_sem,d0,d1,d2,d3,d4,d5,d6,d7,d8,d9,d10]) rfl (parCR_bad HQ.out (set11_below HS9.out.bel HS9.out.o1))
end Go.Proofs.YtnoopcenogbjiaaGreatDoor
