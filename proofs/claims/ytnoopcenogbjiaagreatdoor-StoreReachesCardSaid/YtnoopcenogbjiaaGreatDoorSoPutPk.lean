/-
 The walk of the program's Put.
-/
import Derived.Test.YtnoopcenogbjiaaGreatDoorSoRowsPk
import Derived.Test.YtnoopcenogbjiaaGreatDoorSoValPk
import Derived.OneCell
import Derived.Test.YtnoopcenogbjiaaGreatDoorStOwPk
import Derived.Test.YtnoopcenogbjiaaGreatDoorTrBackPPk
set_option linter.unusedVariables false
set_option linter.unusedSimpArgs false
namespace Go.Proofs.YtnoopcenogbjiaaGreatDoor
open Go Go.RowKit
def putD (k:Int) (b:ByteArray):ByteArray:=str (idL k b.data.toList)
def putC (l:List It) (k:Int) (b:ByteArray):Nat :=
 if (lnkL k b.data.toList).1=0 then (if hasI l (putD k b)=true then (if (l.getD (atI l (putD k b)) It.zero).k=k∧(l.getD (atI l (putD k b)) It.zero).b=b then 0 else 170) else if 65536≤l.length then 4 else 0) else (lnkL k b.data.toList).1
def putI (l:List It) (k:Int) (b:ByteArray):List It :=
 if putC l k b=0 then (if hasI l (putD k b)=true then l else l.take (atI l (putD k b))++⟨putD k b,k,b⟩::l.drop (atI l (putD k b))) else []
def putS (l:List It) (k:Int) (b:ByteArray):ByteArray:=if putC l k b=0 then putD k b else ⟨#[]⟩
theorem hasI_lt {l:List It} {id:ByteArray} (h:hasI l id=true):atI l id<l.length:=by
 unfold hasI at h
 rw [Bool.and_eq_true,decide_eq_true_eq] at h
 exact h.1
theorem st_set {w:World} {P:Nat} {x v:Value} {t:TypeId} (h:w.heap[P]?=some (.cells #[x] t (0,0))):(w.setCell ⟨P,0,none⟩ v).heap[P]?=some (.cells #[v] t (0,0)):=by
 have h:=heap_setCell_same w P 0 _ t v h
 simp only [List.setIfInBounds_toArray,List.set_cons_zero,List.set_cons_succ] at h
 exact h
theorem st_at {w:World} {P:Nat} {x:Value} {t:TypeId} (h:w.heap[P]?=some (.cells #[x] t (0,0))):w.cell? ⟨P,0,none⟩=some x∧w.frozen? ⟨P,0,none⟩=false :=
 ⟨cell_of_row _ _ 0 _ _ _ h,frozen_of_row _ _ 0 _ _ h⟩
structure PB (w0 w:World) (I O P:Nat) (s:Value) (k:Int) (b:ByteArray):Prop where
 i:w.heap[I]?=some (.cells #[s] 24 (0,0))
 o:w.heap[O]?=some (.cells #[.int .i64 k,.string b] 29 (0,0))
 p:w.heap[P]?=some (.cells #[.slice none 0 0] 24 (0,0))
 hp:w0.heap.size≤P
 bel:Below w0.heap.size w0 w
theorem PB.below {w0 w w':World} {I O P:Nat} {s:Value} {k:Int} {b:ByteArray} (h:PB w0 w I O P s k b) (hb:Below w.heap.size w w'):PB w0 w' I O P s k b :=
 ⟨(hb.block _ (row_lt h.i)).trans h.i,(hb.block _ (row_lt h.o)).trans h.o,(hb.block _ (row_lt h.p)).trans h.p,h.hp,h.bel.trans (hb.mono h.bel.size)⟩
theorem ItRw.dropTo {w:World} {p:Option Addr} {ls:List It} {c n:Nat} (h:ItRw w p ls) (i:Nat) (hn:n=ls.length) (hc:n≤c) (hi:i≤n):ItRw w (if c=i then p else p.map (·.add (i*3))) (ls.drop i):=fun k hk=>by
 rw [List.length_drop] at hk
 have h2:i+k<ls.length:=by omega
 obtain ⟨g,o,rfl,hg,h0,h1,h2⟩:=h (i+k) h2
 rw [if_neg (by omega)]
 refine ⟨g,o+i*3,by rw [Option.map_some,Addr.add_mid],hg,?_,?_,?_⟩
 ·rw [List.getElem_drop,←h0];congr 2;omega
 ·rw [List.getElem_drop,←h1];congr 2;omega
 ·rw [List.getElem_drop,←h2];congr 2;omega
theorem it_new {w:World} {id:ByteArray} {k:Int} {b:ByteArray} {t:TypeId}:ItRw (w.alloc (.cells #[.string id,.int .i64 k,.string b] t)) (some ⟨w.heap.size,0,none⟩) [⟨id,k,b⟩]:=fun j hj=>by
 obtain rfl:j=0:=by simpa using hj
 exact ⟨_,0,rfl,by simp,by simp,by simp,by simp⟩
def cat3 (p q:Option Addr) (A m c d B:Nat) (l:List It) (x:It):List (Value×List It):=[(.slice p A c,l.take A),(.slice (some ⟨B,0,none⟩) 1 1,[x]),(.slice q m d,l.drop A)]
theorem cat3_catL (p q:Option Addr) (A m c d B:Nat) (l:List It) (x:It):catL (cat3 p q A m c d B l x)=l.take A++x::l.drop A:=by
 simp [catL,cat3]
theorem cat3_rw {w:World} {p q:Option Addr} {A m c d:Nat} {l:List It} {id:ByteArray} {k:Int} {b:ByteArray} {t t2:TypeId} (hA:A=(l.take A).length) (hm:m=(l.drop A).length) (hp:ItRw w p (l.take A)) (hq:ItRw w q (l.drop A)) (hpc:p=none→c=0) (hqd:q=none→d=0) :
  CatRw ((w.alloc (.cells #[.string id,.int .i64 k,.string b] t)).alloc (.cells #[.slice p A c,.slice (some ⟨w.heap.size,0,none⟩) 1 1,.slice q m d] t2)) (w.heap.size+1) (cat3 p q A m c d w.heap.size l ⟨id,k,b⟩):=by
 obtain ⟨w1,hw1⟩:∃ w1,w1=w.alloc (.cells #[.string id,.int .i64 k,.string b] t):=⟨_,rfl⟩
 obtain ⟨w2,hw2⟩:∃ w2,w2=w1.alloc (.cells #[.slice p A c,.slice (some ⟨w.heap.size,0,none⟩) 1 1,.slice q m d] t2):=⟨_,rfl⟩
 have hs:w1.heap.size=w.heap.size+1:=by rw [hw1];simp
 have h2:w2.heap[w.heap.size+1]?=some (.cells #[.slice p A c,.slice (some ⟨w.heap.size,0,none⟩) 1 1,.slice q m d] t2 (0,0)):=by rw [hw2,←hs];exact heap_alloc_new _ _
 have b1:Below w.heap.size w w1:=by rw [hw1];exact below_new (Below.refl _ _) _
 have b2:Below w1.heap.size w1 w2:=by rw [hw2];exact below_new (Below.refl _ _) _
 have b3:=b1.trans (b2.mono b1.size)
 have n1:ItRw w1 (some ⟨w.heap.size,0,none⟩) [⟨id,k,b⟩]:=by rw [hw1];exact it_new
 rw [←hw1,←hw2]
 intro j hj
 have hlt:=row_lt h2
 have hj':j=0∨j=1∨j=2:=by simp [cat3] at hj;omega
 rcases hj' with rfl|rfl|rfl
 ·exact ⟨cell_of_row _ _ 0 _ _ _ h2,hlt,p,c,by show Value.slice p A c=.slice p (l.take A).length c;rw [←hA],hpc,hp.below b3⟩
 ·exact ⟨cell_of_row _ _ 1 _ _ _ h2,hlt,_,1,rfl,(fun h=>by cases h),n1.below b2⟩
 ·exact ⟨cell_of_row _ _ 2 _ _ _ h2,hlt,q,d,by show Value.slice q m d=.slice q (l.drop A).length d;rw [←hm],hqd,hq.below b3⟩
theorem ItOw.form {w:World} {base:Nat} {v:Value} {l:List It} (h:ItOw w base v l):∃ p n c,v=.slice p n c:=by
 obtain ⟨p,c,h,_⟩:=h.rw
 exact ⟨p,_,c,h⟩
theorem ItOw.put {w:World} {base P:Nat} {v x:Value} {l:List It} (h:ItOw w base v l) (hne:some P≠v.ownBlock):ItOw (w.setCell ⟨P,0,none⟩ x) base v l :=
 ownsRow_setCell_other h (a:=⟨P,0,none⟩) (fun e=>hne e.symm) x
set_option maxHeartbeats 8000000 in
set_option maxRecDepth 40000 in
theorem sput_any (l:List It) (k:Int) (b:ByteArray) (p:Option Addr) (n c:Nat) (w:World) (hT:StrTab w) (hO:WoTab w) (hTr:TrTab w) (hK:KTab w) (hn:n=l.length) (hnc:n≤c) (hpc:p=none→c=0) (hp:ItRw w p l) (hb:b.size≤140737488355328) (hn2:n≤1000000) :
  Calls Tryz.prog 12 #[.agg #[.slice p n c],.agg #[.int .i64 k,.string b]] w fun e w'=>∃ v',e=.returned (.tuple #[.agg #[v'],.string (putS l k b),.int .i64 (putC l k b:Int)])∧ItOw w' w.heap.size v' (putI l k b)∧Below w.heap.size w w':=by
 obtain ⟨w1,hw1⟩:∃ w1,w1=w.alloc (.cells #[.slice p n c] 24):=⟨_,rfl⟩
 obtain ⟨w2,hw2⟩:∃ w2,w2=w1.alloc (.cells #[.int .i64 k,.string b] 29):=⟨_,rfl⟩
 obtain ⟨w3,hw3⟩:∃ w3,w3=w2.alloc (.cells #[.slice none 0 0] 24):=⟨_,rfl⟩
 obtain ⟨I,hI⟩:∃ I,I=w.heap.size:=⟨_,rfl⟩
 obtain ⟨O,hO'⟩:∃ O,O=w.heap.size+1:=⟨_,rfl⟩
 obtain ⟨P,hP'⟩:∃ P,P=w.heap.size+1+1:=⟨_,rfl⟩
 have h1:w1.heap[I]?=some (.cells #[.slice p n c] 24 (0,0)):=by rw [hw1,hI];exact heap_alloc_new _ _
 have h2:w2.heap[O]?=some (.cells #[.int .i64 k,.string b] 29 (0,0)):=by rw [hw2,hO',show w.heap.size+1=w1.heap.size by rw [hw1];simp];exact heap_alloc_new _ _
 have h3:w3.heap[P]?=some (.cells #[.slice none 0 0] 24 (0,0)):=by rw [hw3,hP',show w.heap.size+1+1=w2.heap.size by rw [hw2,hw1];simp];exact heap_alloc_new _ _
 have hbx:Below w.heap.size w w3:=by rw [hw3,hw2,hw1];exact below_new (below_new (below_new (Below.refl _ _) _) _) _
 have hpb:PB w w3 I O P (.slice p n c) k b:=⟨by rw [hw3,hw2];exact row_alloc (row_alloc h1 (row_lt h1)) (row_lt (row_alloc h1 (row_lt h1))),by rw [hw3];exact row_alloc h2 (row_lt h2),h3,by omega,hbx⟩
 have HWH:=Lib.hid (whole_any k b w3 (hT.below hbx) (hO.below hbx) (hTr.below hbx) hb bytesE_sz)
 have HID:=Lib.hid (fun w' (h:Below w3.heap.size w3 w')=>id_any k b w' ((hO.below hbx).below h) ((hT.below hbx).below h) ((hK.below hbx).below h) hb)
 have HFD:=Lib.hid (fun w' (h:Below w3.heap.size w3 w')=>find_any l (putD k b) p n c w' hn ((hp.below hbx).below h) (by omega))
 have HPB:=Lib.hid hpb
 have HP:=Lib.hid (hp.below hbx)
 have HN:=Lib.hid hn
 have HW1:=Lib.hid hw1
 have HW2:=Lib.hid hw2
 have HW3:=Lib.hid hw3
 have HI:=Lib.hid hI
 have HO':=Lib.hid hO'
 have HP':=Lib.hid hP'
 have y0:=(ob_at hpb.o).1
 have y1:=(ob_at hpb.o).2.1
 obtain ⟨C,hC⟩:∃ C,C=(lnkL k b.data.toList).1:=⟨_,rfl⟩
 have hput:putC l k b=if C=0 then (if hasI l (putD k b)=true then (if (l.getD (atI l (putD k b)) It.zero).k=k∧(l.getD (atI l (putD k b)) It.zero).b=b then 0 else 170) else if 65536≤l.length then 4 else 0) else C:=by rw [hC];rfl
 rw [←hC] at HWH
 clear hC hw1 hw2 hw3 hI hO' hP' h1 h2 h3 hbx hpb hT hO hTr hK hn hp hb
 by_cases hc0:C=0
 case neg =>
  rw [if_neg hc0] at hput
  have HQ:Hid (putC l k b=C∧putI l k b=[]∧putS l k b=⟨#[]⟩):=⟨hput,by rw [putI,hput,if_neg hc0],by rw [putS,hput,if_neg hc0]⟩
  have gc:¬ (C:Int)=0:=by omega
  clear hput hc0
  go_enter Tryz.func12,Tryz.ntmps12
  go_upto_region 1 with fail
  rw [←HW1.out,←HW2.out,←HW3.out,←HP'.out,←HO'.out,←HI.out]
  go_upto_region 2 with (go_at_call 40;((with_reducible refine (HWH.out).mono ?_);rintro e w4 ⟨rfl,hb4⟩))
  have H4:=Lib.hid (HPB.out.below hb4)
  obtain ⟨o0,f0⟩:=st_at H4.out.p
  have H5:=Lib.hid (st_set (v:=.slice none 0 0) H4.out.p)
  obtain ⟨d0,-⟩:=st_at H5.out
  clear hb4
  go_wp2_with fail
  refine bodyPost_ret (v:=.tuple #[.agg #[.slice none 0 0],.string ⟨#[]⟩,.int .i64 (C:Int)]) (by simp [results,Tryz.results12,go_sem,d0]) rfl ⟨_,by rw [HQ.out.1,HQ.out.2.2],by rw [HQ.out.2.1];exact ItOw.nil _ _,H4.out.bel.setCell (p:=⟨P,0,none⟩) H4.out.hp _⟩
 rw [if_pos hc0] at hput
 have gc:(C:Int)=0:=by omega
 obtain ⟨A,hA⟩:∃ A,A=atI l (putD k b):=⟨_,rfl⟩
 obtain ⟨F,hF⟩:∃ F,F=hasI l (putD k b):=⟨_,rfl⟩
 have hAl:F=true→A<l.length:=fun h=>by rw [hA];exact hasI_lt (hF.symm.trans h)
 have hAle:A≤n:=by rw [hA,HN.out];exact atI_le _ _
 have hpi:putI l k b=if putC l k b=0 then (if F=true then l else l.take A++⟨putD k b,k,b⟩::l.drop A) else []:=by rw [hA,hF];rfl
 have hps:putS l k b=if putC l k b=0 then putD k b else ⟨#[]⟩:=rfl
 have hid2:str (idL k b.data.toList)=putD k b:=rfl
 rw [←hA,←hF] at HFD hput
 rw [hid2] at HID
 obtain ⟨D,hD⟩:∃ D,D=putD k b:=⟨_,rfl⟩
 rw [←hD] at HFD HID hpi hps
 clear hA hF hid2 hD hc0
 rcases F with _|_
 ·-- not found
  clear hAl
  rw [if_neg (by decide)] at hput
  by_cases hbig:65536≤n
  ·have HQ:Hid (putC l k b=4∧putI l k b=[]∧putS l k b=⟨#[]⟩):=by
    rw [if_pos (by rw [←HN.out];exact hbig)] at hput
    exact ⟨hput,by rw [hpi,hput,if_neg (by decide)],by rw [hps,hput,if_neg (by decide)]⟩
   have z1:(65536:Int)≤(n:Int):=by omega
   clear hput hpi hps hAle hbig
   go_enter Tryz.func12,Tryz.ntmps12
   go_upto_region 1 with fail
   rw [←HW1.out,←HW2.out,←HW3.out,←HP'.out,←HO'.out,←HI.out]
   go_upto_region 4 with (go_at_call 40;((with_reducible refine (HWH.out).mono ?_);rintro e w4 ⟨rfl,hb4⟩;have y0:=cell_bel y0 hb4;have y1:=cell_bel y1 hb4))
   go_upto_region 5 with (go_at_call 41;((with_reducible refine (HID.out _ hb4).mono ?_);rintro e w5 ⟨rfl,hb5⟩))
   have HB5:=Lib.hid (hb4.trans (hb5.mono hb4.size))
   have H5:=Lib.hid (HPB.out.below HB5.out)
   have x0:=(st_at H5.out.i).1
   clear hb4 hb5 y0 y1
   go_upto_region 6 with (go_at_call 43;((with_reducible refine (HFD.out _ HB5.out).mono ?_);rintro e w6 ⟨rfl,hb6⟩))
   have HB6:=Lib.hid (HB5.out.trans (hb6.mono HB5.out.size))
   have H6:=Lib.hid (H5.out.below hb6)
   clear x0 hb6
   have k0:∀ z:BelW w6,z.w.cell? ⟨I,0,none⟩=some (.slice p n c):=fun z=>cell_bel (st_at H6.out.i).1 z.h
   have hq:Nonempty (BelW w6):=⟨⟨w6,Below.refl _ _⟩⟩
   refine wp_region_bel (w0:=w6) (Below.refl _ _) (by kernel_rfl) (by kernel_rfl) ?_
   repeat (go_big_quiet_step (fail))
   refine wpQuiet_nil ?_
   rintro _ ⟨z,rfl⟩
   have H7:=Lib.hid (H6.out.below z.h)
   obtain ⟨wz,hwz⟩:∃ wz,wz=z.w:=⟨_,rfl⟩
   rw [←hwz] at H7 ⊢
   clear hwz k0 hq
   have x0:=(st_at H7.out.i).1
   obtain ⟨o0,f0⟩:=st_at H7.out.p
   have H8:=Lib.hid (st_set (v:=.slice none 0 0) H7.out.p)
   obtain ⟨d0,-⟩:=st_at H8.out
   go_wp2_with fail
   refine bodyPost_ret (v:=.tuple #[.agg #[.slice none 0 0],.string ⟨#[]⟩,.int .i64 4]) (by simp [results,Tryz.results12,go_sem,d0]) rfl ⟨_,by rw [HQ.out.1,HQ.out.2.2];rfl,by rw [HQ.out.2.1];exact ItOw.nil _ _,H7.out.bel.setCell (p:=⟨P,0,none⟩) H7.out.hp _⟩
  ·have HQ:Hid (putC l k b=0∧putI l k b=l.take A++⟨D,k,b⟩::l.drop A∧putS l k b=D):=by
    rw [if_neg (by rw [←HN.out];exact hbig)] at hput
    exact ⟨hput,by rw [hpi,hput,if_pos rfl,if_neg (by decide)],by rw [hps,hput,if_pos rfl]⟩
   have z1:decide ((65536:Int)≤(n:Int))=false:=decide_eq_false (by omega)
   have z1':(n:Int)<65536:=by omega
   have z2:(A:Int)≤(n:Int):=by omega
   have z3:(A:Int)≤(c:Int):=by omega
   have z4:(n:Int)≤(c:Int):=by omega
   have z5:(0:Int)≤(A:Int):=by omega
   obtain ⟨q,hq⟩:∃ q,q=(if c=A then p else p.map (·.add (A*3))):=⟨_,rfl⟩
   have hqd:q=none→c-A=0:=fun h=>by
    rw [h] at hq
    by_cases hcA:c=A
    ·omega
    ·rw [if_neg hcA] at hq
     cases p with
     | none=>have:=hpc rfl;omega
     | some ad=>cases hq
   have hrq:∀ w',Below w3.heap.size w3 w'→ItRw w' q (l.drop A):=fun w' h=>by rw [hq];exact (HP.out.below h).dropTo A HN.out hnc hAle
   have hlt:A=(l.take A).length:=by rw [List.length_take,←HN.out];omega
   have hld:n-A=(l.drop A).length:=by rw [List.length_drop,←HN.out]
   have HCC:=Lib.hid (fun (w':World) (h:Below w3.heap.size w3 w')=>sconcat_any (cat3 p q A (n-A) c (c-A) w'.heap.size l ⟨D,k,b⟩) (w'.heap.size+1) 3 3 _ rfl (cat3_rw (t:=39) (t2:=22) hlt hld ((HP.out.below h).take A) (hrq w' h) hpc hqd) (by rw [cat3_catL,List.length_append,List.length_cons];omega) (by rw [cat3_catL,List.length_append,List.length_cons,←hlt,←hld];omega) (by decide))
   have HQQ:=Lib.hid hq
   clear hput hpi hps hAle hbig hq hqd hrq hlt hld
   go_enter Tryz.func12,Tryz.ntmps12
   go_upto_region 1 with fail
   rw [←HW1.out,←HW2.out,←HW3.out,←HP'.out,←HO'.out,←HI.out]
   go_upto_region 4 with (go_at_call 40;((with_reducible refine (HWH.out).mono ?_);rintro e w4 ⟨rfl,hb4⟩;have y0:=cell_bel y0 hb4;have y1:=cell_bel y1 hb4))
   go_upto_region 5 with (go_at_call 41;((with_reducible refine (HID.out _ hb4).mono ?_);rintro e w5 ⟨rfl,hb5⟩))
   have HB5:=Lib.hid (hb4.trans (hb5.mono hb4.size))
   have H5:=Lib.hid (HPB.out.below HB5.out)
   have x0:=(st_at H5.out.i).1
   clear hb4 hb5 y0 y1
   go_upto_region 6 with (go_at_call 43;((with_reducible refine (HFD.out _ HB5.out).mono ?_);rintro e w6 ⟨rfl,hb6⟩))
   have HB6:=Lib.hid (HB5.out.trans (hb6.mono HB5.out.size))
   have H6:=Lib.hid (H5.out.below hb6)
   clear x0 hb6
   have k0:∀ z:BelW w6,z.w.cell? ⟨I,0,none⟩=some (.slice p n c):=fun z=>cell_bel (st_at H6.out.i).1 z.h
   have hq:Nonempty (BelW w6):=⟨⟨w6,Below.refl _ _⟩⟩
   refine wp_region_bel (w0:=w6) (Below.refl _ _) (by kernel_rfl) (by kernel_rfl) ?_
   repeat (go_big_quiet_step (fail))
   refine wpQuiet_nil ?_
   rintro _ ⟨z,rfl⟩
   have H7:=Lib.hid (H6.out.below z.h)
   have HB7:=Lib.hid (HB6.out.trans (z.h.mono HB6.out.size))
   obtain ⟨wz,hwz⟩:∃ wz,wz=z.w:=⟨_,rfl⟩
   rw [←hwz] at H7 HB7 ⊢
   clear hwz k0 hq
   have x0:=(st_at H7.out.i).1
   have y0:=(ob_at H7.out.o).1
   have y1:=(ob_at H7.out.o).2.1
   go_upto_region 10 with fail
   have E1:=0
   go_upto_region 12 with fail
   have E3:=0
   go_upto_region 13 with fail
   obtain ⟨w8,hw8⟩:∃ w8,w8=wz.alloc (.cells #[.string D,.int .i64 k,.string b] 39):=⟨_,rfl⟩
   obtain ⟨E,hE⟩:∃ E,E=wz.heap.size:=⟨_,rfl⟩
   have he:w8.heap[E]?=some (.cells #[.string D,.int .i64 k,.string b] 39 (0,0)):=by rw [hw8,hE];exact heap_alloc_new _ _
   have hb8:Below wz.heap.size wz w8:=by rw [hw8];exact below_new (Below.refl _ _) _
   rw [←hw8,←hE]
   have H8:=Lib.hid (H7.out.below hb8)
   have HB8:=Lib.hid (HB7.out.trans (hb8.mono HB7.out.size))
   obtain ⟨e0,e1,e2⟩:=it_at he
   have x0:=(st_at H8.out.i).1
   clear hw8 hE he hb8 y0 y1
   have za:∀ ob,Below w8.heap.size w8 (w8.alloc ob):=fun ob=>below_new (Below.refl _ _) _
   have zb:∀ ob,Below w8.heap.size w8 (w8.drew.alloc ob):=fun ob=>below_new (Below.refl _ _).drew _
   have za0:=fun ob=>cell_bel x0 (za ob)
   have zb0:=fun ob=>cell_bel x0 (zb ob)
   have za1:=fun ob=>cell_bel e0 (za ob)
   have za2:=fun ob=>cell_bel e1 (za ob)
   have za3:=fun ob=>cell_bel e2 (za ob)
   have zb1:=fun ob=>cell_bel e0 (zb ob)
   have zb2:=fun ob=>cell_bel e1 (zb ob)
   have zb3:=fun ob=>cell_bel e2 (zb ob)
   have hQ:=HQQ.out.symm
   have HC1:=Lib.hid (HCC.out w8 HB8.out)
   have HC2:=Lib.hid (HCC.out w8.drew HB8.out.drew)
   clear za zb HCC HQQ
   go_region_law (go_simp;go_at_call 46;first
    | ((refine (HC1.out).mono ?_);rintro e w9 ⟨v9,rfl,hO9,hb9⟩;obtain ⟨p9,n9,c9,rfl⟩:=hO9.form;have H9:=Lib.hid ((H8.out.below (below_new (below_new (Below.refl _ _) _) _)).below hb9);obtain ⟨o0,f0⟩:=st_at H9.out.p;have HO9:=Lib.hid (hO9.mono (B:=w8.heap.size) (below_new (below_new (Below.refl _ w8) _) _).size);clear hO9 hb9)
    | ((refine (HC2.out).mono ?_);rintro e w9 ⟨v9,rfl,hO9,hb9⟩;obtain ⟨p9,n9,c9,rfl⟩:=hO9.form;have H9:=Lib.hid ((H8.out.below (below_new (below_new (Below.refl _ _).drew _) _)).below hb9);obtain ⟨o0,f0⟩:=st_at H9.out.p;have HO9:=Lib.hid (hO9.mono (B:=w8.heap.size) (below_new (below_new (Below.refl _ w8).drew _) _).size);clear hO9 hb9))
   all_goals
    obtain ⟨d0,-⟩:=st_at (st_set (v:=.slice p9 n9 c9) H9.out.p)
    have hap:=HO9.out.apart (b:=P) (row_lt H8.out.p)
    go_wp2_with fail
    refine bodyPost_ret (v:=.tuple #[.agg #[.slice p9 n9 c9],.string D,.int .i64 0]) (by simp [results,Tryz.results12,go_sem,d0]) rfl ⟨_,by rw [HQ.out.1,HQ.out.2.2];rfl,by rw [HQ.out.2.1,←cat3_catL p q A (n-A) c (c-A) w8.heap.size l ⟨D,k,b⟩];exact (HO9.out.mono H8.out.bel.size).put hap,H9.out.bel.setCell (p:=⟨P,0,none⟩) H9.out.hp _⟩
 ·-- found
  have hAn:A<n:=by rw [HN.out];exact hAl rfl
  have hAl:=hAl rfl
  obtain ⟨g,o,hpe,hg,a0,a1,a2⟩:=HP.out A hAl
  rw [if_pos rfl,getI_at hAl] at hput
  obtain ⟨⟨xi,xk,xb⟩,hX⟩:∃ X,X=l[A]:=⟨_,rfl⟩
  rw [←hX] at hput a0 a1 a2
  simp only at hput a0 a1 a2
  subst hpe
  have HCT:=Lib.hid (fun w'=>content_any xi xk xb w')
  by_cases hs:xk=k∧xb=b
  ·-- the same
   rw [if_pos hs] at hput
   have HQ:Hid (putC l k b=0∧putI l k b=l∧putS l k b=D):=⟨hput,by rw [hpi,hput,if_pos rfl,if_pos rfl],by rw [hps,hput,if_pos rfl]⟩
   have HSM:=Lib.hid (fun w'=>obsame_any xk k xb b true w' (by rw [decide_eq_true hs]))
   have z1:(A:Int)<(n:Int):=by omega
   have HCL:=Lib.hid (fun w' (h:Below w3.heap.size w3 w')=>sclone_any l (some ⟨g,o,none⟩) n c w' HN.out (HP.out.below h) hn2)
   clear hput hs hX hpi hps hAl hAn hAle
   go_enter Tryz.func12,Tryz.ntmps12
   go_upto_region 1 with fail
   rw [←HW1.out,←HW2.out,←HW3.out,←HP'.out,←HO'.out,←HI.out]
   go_upto_region 4 with (go_at_call 40;((with_reducible refine (HWH.out).mono ?_);rintro e w4 ⟨rfl,hb4⟩;have y0:=cell_bel y0 hb4;have y1:=cell_bel y1 hb4))
   go_upto_region 5 with (go_at_call 41;((with_reducible refine (HID.out _ hb4).mono ?_);rintro e w5 ⟨rfl,hb5⟩))
   have HB5:=Lib.hid (hb4.trans (hb5.mono hb4.size))
   have H5:=Lib.hid (HPB.out.below HB5.out)
   have x0:=(st_at H5.out.i).1
   clear hb4 hb5 y0 y1
   go_upto_region 6 with (go_at_call 43;((with_reducible refine (HFD.out _ HB5.out).mono ?_);rintro e w6 ⟨rfl,hb6⟩))
   have HB6:=Lib.hid (HB5.out.trans (hb6.mono HB5.out.size))
   have H6:=Lib.hid (H5.out.below hb6)
   clear x0 hb6
   have k0:∀ z:BelW w6,z.w.cell? ⟨I,0,none⟩=some (.slice (some ⟨g,o,none⟩) n c):=fun z=>cell_bel (st_at H6.out.i).1 z.h
   have k1:∀ z:BelW w6,z.w.cell? ⟨O,0,none⟩=some (.int .i64 k):=fun z=>cell_bel (ob_at H6.out.o).1 z.h
   have k2:∀ z:BelW w6,z.w.cell? ⟨O,1,none⟩=some (.string b):=fun z=>cell_bel (ob_at H6.out.o).2.1 z.h
   have k3:∀ z:BelW w6,z.w.cell? ⟨g,o+A*3,none⟩=some (.string xi):=fun z=>cell_bel (cell_bel a0 HB6.out) z.h
   have k4:∀ z:BelW w6,z.w.cell? ⟨g,o+A*3+1,none⟩=some (.int .i64 xk):=fun z=>cell_bel (cell_bel a1 HB6.out) z.h
   have k5:∀ z:BelW w6,z.w.cell? ⟨g,o+A*3+2,none⟩=some (.string xb):=fun z=>cell_bel (cell_bel a2 HB6.out) z.h
   have HC2:Hid (∀ z:BelW w6,Calls Tryz.prog 39 #[.agg #[.string xi,.int .i64 xk,.string xb]] z.w fun e w''=>e=.returned (.agg #[.int .i64 xk,.string xb])∧∃ z:BelW w6,w''=z.w):=fun z=>Calls.bel_class (HCT.out z.w)
   have HS2:Hid (∀ z:BelW w6,Calls Tryz.prog 44 #[.agg #[.int .i64 xk,.string xb],.agg #[.int .i64 k,.string b]] z.w fun e w''=>e=.returned (.bool true)∧∃ z:BelW w6,w''=z.w):=fun z=>Calls.bel_class (HSM.out z.w)
   have hq:Nonempty (BelW w6):=⟨⟨w6,Below.refl _ _⟩⟩
   clear a0 a1 a2 hg
   refine wp_region_bel (w0:=w6) (Below.refl _ _) (by kernel_rfl) (by kernel_rfl) ?_
   repeat (go_big_quiet_step (first
    | (go_at_call 39;(with_reducible exact HC2.out _))
    | (go_at_call 44;(with_reducible exact HS2.out _))))
   refine wpQuiet_nil ?_
   rintro _ ⟨z,rfl⟩
   have H7:=Lib.hid (H6.out.below z.h)
   have HB7:=Lib.hid (HB6.out.trans (z.h.mono HB6.out.size))
   obtain ⟨wz,hwz⟩:∃ wz,wz=z.w:=⟨_,rfl⟩
   rw [←hwz] at H7 HB7 ⊢
   clear hwz k0 k1 k2 k3 k4 k5 hq
   have x0:=(st_at H7.out.i).1
   go_wp2_with (go_at_call 45;((with_reducible refine (HCL.out _ HB7.out).mono ?_);rintro e w8 ⟨v8,rfl,hO8,hb8⟩;obtain ⟨p8,n8,c8,rfl⟩:=hO8.form;have H8:=Lib.hid (H7.out.below hb8);obtain ⟨o0,f0⟩:=st_at H8.out.p))
   obtain ⟨d0,-⟩:=st_at (st_set (v:=.slice p8 n8 c8) H8.out.p)
   have hO9:=hO8.mono H7.out.bel.size
   have hap:=hO8.apart (b:=P) (row_lt H7.out.p)
   refine bodyPost_ret (v:=.tuple #[.agg #[.slice p8 n8 c8],.string D,.int .i64 0]) (by simp [results,Tryz.results12,go_sem,d0]) rfl ⟨_,by rw [HQ.out.1,HQ.out.2.2];rfl,by rw [HQ.out.2.1];exact hO9.put hap,H8.out.bel.setCell (p:=⟨P,0,none⟩) H8.out.hp _⟩
  ·-- another
   rw [if_neg hs] at hput
   have HQ:Hid (putC l k b=170∧putI l k b=[]∧putS l k b=⟨#[]⟩):=⟨hput,by rw [hpi,hput,if_neg (by decide)],by rw [hps,hput,if_neg (by decide)]⟩
   have HSM:=Lib.hid (fun w'=>obsame_any xk k xb b false w' (by rw [decide_eq_false hs]))
   have z1:(A:Int)<(n:Int):=by omega
   clear hput hs hX hpi hps hAl hAn hAle
   go_enter Tryz.func12,Tryz.ntmps12
   go_upto_region 1 with fail
   rw [←HW1.out,←HW2.out,←HW3.out,←HP'.out,←HO'.out,←HI.out]
   go_upto_region 4 with (go_at_call 40;((with_reducible refine (HWH.out).mono ?_);rintro e w4 ⟨rfl,hb4⟩;have y0:=cell_bel y0 hb4;have y1:=cell_bel y1 hb4))
   go_upto_region 5 with (go_at_call 41;((with_reducible refine (HID.out _ hb4).mono ?_);rintro e w5 ⟨rfl,hb5⟩))
   have HB5:=Lib.hid (hb4.trans (hb5.mono hb4.size))
   have H5:=Lib.hid (HPB.out.below HB5.out)
   have x0:=(st_at H5.out.i).1
   clear hb4 hb5 y0 y1
   go_upto_region 6 with (go_at_call 43;((with_reducible refine (HFD.out _ HB5.out).mono ?_);rintro e w6 ⟨rfl,hb6⟩))
   have HB6:=Lib.hid (HB5.out.trans (hb6.mono HB5.out.size))
   have H6:=Lib.hid (H5.out.below hb6)
   clear x0 hb6
   have k0:∀ z:BelW w6,z.w.cell? ⟨I,0,none⟩=some (.slice (some ⟨g,o,none⟩) n c):=fun z=>cell_bel (st_at H6.out.i).1 z.h
   have k1:∀ z:BelW w6,z.w.cell? ⟨O,0,none⟩=some (.int .i64 k):=fun z=>cell_bel (ob_at H6.out.o).1 z.h
   have k2:∀ z:BelW w6,z.w.cell? ⟨O,1,none⟩=some (.string b):=fun z=>cell_bel (ob_at H6.out.o).2.1 z.h
   have k3:∀ z:BelW w6,z.w.cell? ⟨g,o+A*3,none⟩=some (.string xi):=fun z=>cell_bel (cell_bel a0 HB6.out) z.h
   have k4:∀ z:BelW w6,z.w.cell? ⟨g,o+A*3+1,none⟩=some (.int .i64 xk):=fun z=>cell_bel (cell_bel a1 HB6.out) z.h
   have k5:∀ z:BelW w6,z.w.cell? ⟨g,o+A*3+2,none⟩=some (.string xb):=fun z=>cell_bel (cell_bel a2 HB6.out) z.h
   have HC2:Hid (∀ z:BelW w6,Calls Tryz.prog 39 #[.agg #[.string xi,.int .i64 xk,.string xb]] z.w fun e w''=>e=.returned (.agg #[.int .i64 xk,.string xb])∧∃ z:BelW w6,w''=z.w):=fun z=>Calls.bel_class (HCT.out z.w)
   have HS2:Hid (∀ z:BelW w6,Calls Tryz.prog 44 #[.agg #[.int .i64 xk,.string xb],.agg #[.int .i64 k,.string b]] z.w fun e w''=>e=.returned (.bool false)∧∃ z:BelW w6,w''=z.w):=fun z=>Calls.bel_class (HSM.out z.w)
   have hq:Nonempty (BelW w6):=⟨⟨w6,Below.refl _ _⟩⟩
   clear a0 a1 a2 hg
   refine wp_region_bel (w0:=w6) (Below.refl _ _) (by kernel_rfl) (by kernel_rfl) ?_
   repeat (go_big_quiet_step (first
    | (go_at_call 39;(with_reducible exact HC2.out _))
    | (go_at_call 44;(with_reducible exact HS2.out _))))
   refine wpQuiet_nil ?_
   rintro _ ⟨z,rfl⟩
   have H7:=Lib.hid (H6.out.below z.h)
   obtain ⟨wz,hwz⟩:∃ wz,wz=z.w:=⟨_,rfl⟩
   rw [←hwz] at H7 ⊢
   clear hwz k0 k1 k2 k3 k4 k5 hq
   obtain ⟨o0,f0⟩:=st_at H7.out.p
   have H8:=Lib.hid (st_set (v:=.slice none 0 0) H7.out.p)
   obtain ⟨d0,-⟩:=st_at H8.out
   go_wp2_with fail
   refine bodyPost_ret (v:=.tuple #[.agg #[.slice none 0 0],.string ⟨#[]⟩,.int .i64 170]) (by simp [results,Tryz.results12,go_sem,d0]) rfl ⟨_,by rw [HQ.out.1,HQ.out.2.2];rfl,by rw [HQ.out.2.1];exact ItOw.nil _ _,H7.out.bel.setCell (p:=⟨P,0,none⟩) H7.out.hp _⟩
end Go.Proofs.YtnoopcenogbjiaaGreatDoor
/-
 The walks of setOf, of chosen, of Only and Less.
-/
namespace Go.Proofs.YtnoopcenogbjiaaGreatDoor
open Go Go.RowKit Go.Maps Go.WideMaps
set_option maxHeartbeats 2000000 in
set_option maxRecDepth 4000 in
theorem setOf_any (ls:List (List UInt8)) (p:Option Addr) (n c:Nat) (w:World) (hn:n=ls.length) (hp:SRw w p ls) (hl:∀ x∈ls,x.length≤140737488355328) (hn2:n≤1000000) :
  Calls Tryz.prog 53 #[.slice p n c] w fun e w'=>∃ M m D,e=.returned (.map (some M))∧Msb w' M m D∧IsSt D ls∧w.heap.size≤M∧M<w'.heap.size∧Below w.heap.size w w':=by
 have HN:=Lib.hid hn
 have HP:=Lib.hid hp
 have HL:=Lib.hid hl
 have hmm:=make_sb n w
 have hb1:Below w.heap.size w (w.alloc (.map #[] 0)):=below_new (Below.refl _ _) _
 have hm1:=msb_new w
 have hs1:w.heap.size<(w.alloc (.map #[] 0)).heap.size:=by simp
 obtain ⟨w1,hw1⟩:∃ w1,w1=w.alloc (.map #[] 0):=⟨_,rfl⟩
 obtain ⟨M,hM⟩:∃ M,M=w.heap.size:=⟨_,rfl⟩
 rw [←hw1,←hM] at hmm hm1
 rw [←hw1] at hb1 hs1
 have HM:=Lib.hid hM
 clear hn hp hl hw1
 rw [←hM] at hs1
 clear hM
 go_enter Tryz.func53,Tryz.ntmps53
 go_wp2
 go_loopw [11] (fun iv wr=>∃ (k:Nat) (D:DataW Unit),k≤n∧iv=.int .i64 (k:Int)∧Msb wr M k D∧Hid (IsSt D (ls.take k))∧Hid (Below w.heap.size w wr)∧Hid (M<wr.heap.size)) (fun iv _=>n-(intOf iv).toNat)
 case atStart=>exact ⟨0,_,by omega,rfl,hm1,isSt_nil,hb1,hs1⟩
 case round =>
  clear hm1 hb1 hmm
  obtain ⟨k,D,hk,rfl,hm,HI,HB,HS⟩:=hrel
  by_cases hlt:k<n
  ·have hkl:k<ls.length:=by rw [←HN.out];exact hlt
   obtain ⟨x,hx⟩:∃ x,x=str ls[k]:=⟨_,rfl⟩
   have hxs:x.size≤140737488355328:=by rw [hx,str_size];exact HL.out _ (List.getElem_mem hkl)
   have hxl:x.data.toList=ls[k]:=by rw [hx];rfl
   obtain ⟨g,o,rfl,hg,a0⟩:=HP.out.below HB.out k hkl
   rw [←hx] at a0
   have hkey:=skeyS (t:=x) hxs
   obtain ⟨K,hK⟩:∃ K,K=Lit.string x.data.toList:=⟨_,rfl⟩
   have hput:=HI.out.put x.data.toList
   rw [hxl,←List.take_succ_eq_append_getElem hkl,←hxl,←hK] at hput
   rw [←hK] at hkey
   have HPT:=Lib.hid hput
   clear hx hput hK HI hxs hxl
   go_wp2_with (at_mapUpdate;refine wpList_mapUpdate_own _ rfl _ _ _ 83 rfl 9 4 str_keyedS Tryz.underlying83 _ M k D rfl hm (by unfold maxLen;omega) _ _ _ rfl rfl hkey _ [] (plainElem_bool Tryz.underlying4 true) ?_;intro w5 hm5 hg5)
   go_roundw
   case rel=>exact ⟨k+1,_,by omega,by go_num,hm5,HPT.out,HB.out.grown hg5 (by have:=HM.out;have:=HS.out;omega) (fun j hj=>by have:=HM.out;cases hj;omega),Nat.lt_of_lt_of_le HS.out hg5.size⟩
   case measure=>simp [intOf];omega
  ·have HX:Hid (IsSt D ls):=by
    have:=HI.out
    rw [List.take_of_length_le (by have:=HN.out;omega)] at this
    exact this
   have HMM:=Lib.hid hm
   clear hm
   go_wp2_with fail
   go_ret
   exact ⟨M,k,D,rfl,HMM.out,HX.out,by rw [HM.out];exact Nat.le_refl _,HS.out,HB.out⟩
theorem filter_more {l:List It} {f:ByteArray→Bool} {k:Nat} (h:k<l.length):(l.take (k+1)).filter (fun e=>f e.i)=(l.take k).filter (fun e=>f e.i)++(if f l[k].i=true then [l[k]] else []):=by
 rw [List.take_succ_eq_append_getElem h,List.filter_append]
 congr 1
 simp only [List.filter_cons,List.filter_nil]
set_option maxHeartbeats 4000000 in
set_option maxRecDepth 8000 in
theorem chosen_any (f:ByteArray→Bool) (F B:Nat) (eg:∀ args w,(callFunc F args).run Tryz.prog w=.ok (.enter F args) w) (l:List It) (p:Option Addr) (n c:Nat) (w:World) (hn:n=l.length) (hp:ItRw w p l) (hn2:n≤1000000)
  (HF:Hid (∀ e∈l,∀ w',Below w.heap.size w w'→Calls Tryz.prog F #[.string e.i,.pointer (some ⟨B,0,none⟩)] w' fun x w''=>x=.returned (.bool (f e.i))∧Below w'.heap.size w' w'')) :
  Calls Tryz.prog 54 #[.agg #[.slice p n c],.func (.func F) #[] #[.pointer (some ⟨B,0,none⟩)]] w fun e w'=>∃ v',e=.returned (.agg #[v'])∧ItOw w' w.heap.size v' (l.filter (fun e=>f e.i))∧Below w.heap.size w w':=by
 obtain ⟨w1,hw1⟩:∃ w1,w1=w.alloc (.cells #[.slice p n c] 24):=⟨_,rfl⟩
 obtain ⟨w2,hw2⟩:∃ w2,w2=w1.alloc (.cells #[.slice none 0 0] 24):=⟨_,rfl⟩
 obtain ⟨I,hI⟩:∃ I,I=w.heap.size:=⟨_,rfl⟩
 obtain ⟨P,hP'⟩:∃ P,P=w.heap.size+1:=⟨_,rfl⟩
 have h1:w1.heap[I]?=some (.cells #[.slice p n c] 24 (0,0)):=by rw [hw1,hI];exact heap_alloc_new _ _
 have h2:w2.heap[P]?=some (.cells #[.slice none 0 0] 24 (0,0)):=by rw [hw2,hP',show w.heap.size+1=w1.heap.size by rw [hw1];simp];exact heap_alloc_new _ _
 have h3:w2.heap[I]?=some (.cells #[.slice p n c] 24 (0,0)):=by rw [hw2];exact row_alloc h1 (row_lt h1)
 have hbx:Below w.heap.size w w2:=by rw [hw2,hw1];exact below_new (below_new (Below.refl _ _) _) _
 have x0:=(st_at h3).1
 have HN:=Lib.hid hn
 have HP:=Lib.hid (hp.below hbx)
 have HW1:=Lib.hid hw1
 have HW2:=Lib.hid hw2
 have HI:=Lib.hid hI
 have HP':=Lib.hid hP'
 have H2:=Lib.hid h2
 have HBX:=Lib.hid hbx
 have HPL:Hid (w.heap.size≤P):=by show _≤_;omega
 clear hn hp hw1 hw2 hI hP' h1 h2 h3 hbx
 go_enter Tryz.func54,Tryz.ntmps54
 go_upto_region 1 with fail
 rw [←HW1.out,←HW2.out,←HP'.out,←HI.out]
 go_wp2
 go_loopw [5,11] (fun v iv wr=>∃ k:Nat,k≤n∧iv=.int .i64 (k:Int)∧Hid (ItOw wr w2.heap.size v ((l.take k).filter (fun e=>f e.i)))∧Hid (Below w2.heap.size w2 wr)) (fun _ iv _=>n-(intOf iv).toNat)
 case atStart=>exact ⟨0,by omega,rfl,ItOw.nil _ _,Below.refl _ _⟩
 case round =>
  obtain ⟨k,hk,rfl,HO,HB⟩:=hrel
  by_cases hlt:k<n
  ·have hkl:k<l.length:=by rw [←HN.out];exact hlt
   obtain ⟨g',o,rfl,hg,a0,a1,a2⟩:=HP.out.below HB.out k hkl
   obtain ⟨e,he⟩:∃ e,e=l[k]:=⟨_,rfl⟩
   rw [←he] at a0 a1 a2
   have hfm:=filter_more (f:=f) hkl
   rw [←he] at hfm
   have hmem:e∈l:=by rw [he];exact List.getElem_mem hkl
   obtain ⟨b,hb⟩:∃ b,b=f e.i:=⟨_,rfl⟩
   have HC:=Lib.hid (fun w' (h:Below w2.heap.size w2 w')=>HF.out e hmem w' (HBX.out.trans (h.mono HBX.out.size)))
   rw [←hb] at HC hfm
   have HFM:=Lib.hid hfm
   have hll:((l.take k).filter (fun e=>f e.i)).length≤k:=Nat.le_trans (List.length_filter_le _ _) (by simp;omega)
   have HLL:Hid (((l.take k).filter (fun e=>f e.i)).length+1≤1048576):=by show _≤_;omega
   have q1:(k:Int)<(n:Int):=by omega
   obtain ⟨id,kd,bd⟩:=e
   simp only at a0 a1 a2 HC
   obtain ⟨wI,hwI⟩:∃ wI,wI=wr.alloc (.cells #[.string id,.int .i64 kd,.string bd] 39):=⟨_,rfl⟩
   obtain ⟨E,hE⟩:∃ E,E=wr.heap.size:=⟨_,rfl⟩
   have hi:wI.heap[E]?=some (.cells #[.string id,.int .i64 kd,.string bd] 39 (0,0)):=by rw [hwI,hE];exact heap_alloc_new _ _
   have hbI:Below wr.heap.size wr wI:=by rw [hwI];exact below_new (Below.refl _ _) _
   have HBI:=Lib.hid (HB.out.trans (hbI.mono HB.out.size))
   have HOI:=Lib.hid (HO.out.below hbI)
   obtain ⟨i0,i1,i2⟩:=it_at hi
   have HI2:=Lib.hid hi
   have HWI:=Lib.hid hwI
   have HE:=Lib.hid hE
   clear hwI hE hll hfm he hmem hb hkl hg hi hbI HO
   have c0:=cell_bel x0 HB.out
   go_upto_region 5 with fail
   rw [←HWI.out,←HE.out]
   rcases b with _|_
   ·have hls:(l.take (k+1)).filter (fun e=>f e.i)=(l.take k).filter (fun e=>f e.i):=by rw [HFM.out,if_neg (by decide),List.append_nil]
    have HLS:=Lib.hid hls
    clear hls
    go_wp2_with (go_at_fn F;(with_reducible refine (HC.out _ HBI.out).mono ?_);rintro x w3 ⟨rfl,hb3⟩;have HB3:=Lib.hid (HBI.out.trans (hb3.mono HBI.out.size));have HO3:=Lib.hid (HOI.out.below hb3);clear hb3)
    go_roundw
    case rel=>exact ⟨k+1,by omega,by go_num,by show ItOw _ _ _ _;rw [HLS.out];exact HO3.out,HB3.out⟩
    case measure=>simp [intOf];omega
   ·have hls:(l.take (k+1)).filter (fun e=>f e.i)=(l.take k).filter (fun e=>f e.i)++[⟨id,kd,bd⟩]:=by rw [HFM.out,if_pos rfl]
    have HLS:=Lib.hid hls
    clear hls
    go_wp2_with (first
     | (go_at_fn F;(with_reducible refine (HC.out _ HBI.out).mono ?_);rintro x w3 ⟨rfl,hb3⟩;have HB3:=Lib.hid (HBI.out.trans (hb3.mono HBI.out.size));have HO3:=Lib.hid (HOI.out.below hb3);obtain ⟨i0,i1,i2⟩:=it_at ((hb3.block _ (row_lt HI2.out)).trans HI2.out);clear hb3)
     | (at_builtin;refine wp_it_one rfl _ _ rfl rfl HO3.out id kd bd rfl HLL.out HB3.out.size ?_;intro v4 w4 h4 g4;have HO4:=Lib.hid h4;have HB4:=Lib.hid (HO3.out.bel1 HB3.out (Nat.le_refl _) HB3.out.size g4);clear h4 g4))
    go_roundw
    case rel=>exact ⟨k+1,by omega,by go_num,by show ItOw _ _ _ _;rw [HLS.out];exact HO4.out,HB4.out⟩
    case measure=>simp [intOf];omega
  ·have HX:Hid (l.take k=l):=by show _=_;rw [List.take_of_length_le (by have:=HN.out;omega)]
   obtain ⟨pv,nv,cv,rfl⟩:=HO.out.form
   have H3:=Lib.hid ((HB.out.block _ (row_lt H2.out)).trans H2.out)
   obtain ⟨o0,f0⟩:=st_at H3.out
   obtain ⟨d0,-⟩:=st_at (st_set (v:=.slice pv nv cv) H3.out)
   have hap:=HO.out.apart (b:=P) (row_lt H2.out)
   go_wp2_with fail
   refine bodyPost_ret (v:=.agg #[.slice pv nv cv]) (by simp [results,Tryz.results54,go_sem,d0]) rfl ⟨_,rfl,?_,(HBX.out.trans (HB.out.mono HBX.out.size)).setCell (p:=⟨P,0,none⟩) HPL.out _⟩
   have h:=(HO.out.mono HBX.out.size).put (x:=.slice pv nv cv) hap
   rw [HX.out] at h
   exact h
structure Lk where
 i:ByteArray
 k:Int
deriving DecidableEq
def Lk.cells (e:Lk):List Value:=[.string e.i,.int .i64 e.k]
def LkRw (w:World) (p:Option Addr) (es:List Lk):Prop:=∀ k (h:k<es.length),∃ g o,p=some ⟨g,o,none⟩∧g<w.heap.size ∧
 w.cell? ⟨g,o+k*2,none⟩=some (.string es[k].i)∧w.cell? ⟨g,o+k*2+1,none⟩=some (.int .i64 es[k].k)
theorem LkRw.below {w w':World} {p:Option Addr} {es:List Lk} (h:LkRw w p es) (hb:Below w.heap.size w w'):LkRw w' p es:=fun k hk=>by
 obtain ⟨g,o,rfl,hg,h0,h1⟩:=h k hk
 exact ⟨g,o,rfl,Nat.lt_of_lt_of_le hg hb.size,(hb.cell (p:=⟨g,_,none⟩) hg).trans h0,(hb.cell (p:=⟨g,_,none⟩) hg).trans h1⟩
theorem LkRw.grown {w w':World} {p:Option Addr} {es:List Lk} {r:Option Nat} (h:LkRw w p es) (hb:w.grownBy w' r) (hne:∀ g o,p=some ⟨g,o,none⟩→some g≠r):LkRw w' p es:=fun k hk=>by
 obtain ⟨g,o,rfl,hg,h0,h1⟩:=h k hk
 have e:=hb.block g hg (hne g o rfl)
 exact ⟨g,o,rfl,Nat.lt_of_lt_of_le hg hb.size,(World.cell?_of_block e).trans h0,(World.cell?_of_block e).trans h1⟩
theorem LkRw.nil (w:World) (p:Option Addr):LkRw w p []:=fun k hk=>absurd hk (Nat.not_lt_zero _)
theorem Tryz.infoLk:(Tryz.prog.info? 91).map (fun i=>(i.zero,i.size,i.bytes))=some (some (.agg #[.string ⟨#[]⟩,.int .i64 0]),2,24):=by kernel_rfl
def lkcells (l:List Lk):List Value:=l.flatMap Lk.cells
theorem lkcells_len:∀ l:List Lk,(lkcells l).length=l.length*2
 | []=>rfl
 | e::l=>by
  have:=lkcells_len l
  simp only [lkcells,List.flatMap_cons,List.length_append,List.length_cons,Lk.cells,List.length_nil] at this ⊢
  omega
theorem lkcells_append (a b:List Lk):lkcells (a++b)=lkcells a++lkcells b:=by simp [lkcells]
theorem lkcells_one (l:List Lk):∀ u∈lkcells l,u.oneCell'=true:=by
 intro u hu
 simp only [lkcells,List.mem_flatMap,Lk.cells,List.mem_cons,List.not_mem_nil,or_false] at hu
 obtain ⟨e,_,rfl|rfl⟩:=hu<;>rfl
theorem lkcells_at:∀ (l:List Lk) (k c:Nat) (hk:k<l.length),c<2→(lkcells l)[k*2+c]?=(Lk.cells l[k])[c]?
 | e::l,0,c,_,hc=>by
  simp only [lkcells,List.flatMap_cons,Nat.zero_mul,Nat.zero_add,List.getElem_cons_zero]
  rw [List.getElem?_append_left (by simp [Lk.cells];omega)]
 | e::l,k+1,c,hk,hc=>by
  have ih:=lkcells_at l k c (by simpa using hk) hc
  simp only [lkcells,List.flatMap_cons,List.getElem_cons_succ] at ih ⊢
  rw [List.getElem?_append_right (by simp [Lk.cells];omega),←ih]
  congr 1
  simp [Lk.cells]
  omega
def LkOw (w:World) (base:Nat) (v:Value) (l:List Lk):Prop:=w.ownsRow base 91 2 v l.length (lkcells l)
theorem LkOw.nil (w:World) (base:Nat):LkOw w base (.slice none 0 0) []:=World.ownsRow_nil w base 91 2
theorem LkOw.below {w w':World} {base:Nat} {v:Value} {l:List Lk} (h:LkOw w base v l) (hb:Below w.heap.size w w'):LkOw w' base v l:=own_below h hb
theorem LkOw.rw {w:World} {base:Nat} {v:Value} {l:List Lk} (h:LkOw w base v l):∃ p cap,v=.slice p l.length cap∧(p=none→cap=0)∧LkRw w p l∧∀ g o,p=some ⟨g,o,none⟩→base≤g∧∃ c m,w.heap[g]?=some (.cells c 91 m):=by
 have h':w.ownsRow base 91 2 v l.length (lkcells l):=h
 rcases h'.2 with ⟨rfl,hx⟩|⟨g,cap,cur,rfl,hb,hg,hc,_⟩
 ·have h0:l=[]:=by
   cases l with
   | nil=>rfl
   | cons a r=>simp [lkcells,Lk.cells] at hx
  subst h0
  exact ⟨none,0,rfl,fun _=>rfl,LkRw.nil _ _,fun g o h=>by cases h⟩
 ·refine ⟨_,cap,rfl,(fun h=>by cases h),fun k hk=>?_,fun g' o h=>by cases h;exact ⟨hb,_,_,hg⟩⟩
  have at' (c:Nat) (hc:c<2):w.cell? ⟨g,0+k*2+c,none⟩=(Lk.cells l[k])[c]?:=by
   rw [Nat.zero_add,World.ownsRow.cellAt h' (k*2+c) (by omega),lkcells_at l k c hk hc]
  exact ⟨g,0,rfl,(Array.getElem?_eq_some_iff.mp hg).1,at' 0 (by decide),at' 1 (by decide)⟩
theorem LkRw.src {w:World} {ad:Addr} {l:List Lk} (h:LkRw w (some ad) l):∀ j u,(lkcells l)[j]?=some u→w.cell? (ad.add j)=some u:=by
 intro j u hu
 have hj:j<(lkcells l).length:=by
  rcases Nat.lt_or_ge j (lkcells l).length with h|h
  ·exact h
  ·rw [List.getElem?_eq_none h] at hu;cases hu
 rw [lkcells_len] at hj
 have hk:j / 2<l.length:=by omega
 obtain ⟨g,o,he,-,h0,h1⟩:=h (j / 2) hk
 simp only [Option.some.injEq] at he
 subst he
 rw [Addr.add_mid]
 have e:=lkcells_at l (j / 2) (j%2) hk (Nat.mod_lt _ (by decide))
 rw [show j / 2*2+j%2=j by omega,hu] at e
 have h3:j%2=0∨j%2=1:=by omega
 rcases h3 with h3|h3
 ·rw [h3] at e
  rw [show o+j=o+j / 2*2 by omega,h0,e];rfl
 ·rw [h3] at e
  rw [show o+j=o+j / 2*2+1 by omega,h1,e];rfl
theorem new_lk (w:World) (e:Lk) (j:Nat) (u:Value) (hj:(Lk.cells e)[j]?=some u):(w.alloc (.cells #[.string e.i,.int .i64 e.k] 91)).cell? ((⟨w.heap.size,0,none⟩:Addr).add j)=some u:=by
 rw [Addr.add_lit,Nat.zero_add]
 refine (World.cell?_alloc_mark w #[.string e.i,.int .i64 e.k] 91 (0,0) j).trans ?_
 rw [←hj]
 simp [Lk.cells]
section
variable {ops:Array Oper} {rest:List Oper} {o:Oper} {a:Act} {Q:Exit→Act→World→Prop} {w:World} {base:Nat} {v:Value} {l:List Lk}
theorem wp_lk_one (hgd:o.guard=none) (sl x:Operand) (ho:o.op=.call { callee:=.builtin .append,args:=#[sl,x],argTypes:=#[124,124] })
  (hs:a.eval sl=v) (hown:LkOw w base v l) (id:ByteArray) (k:Int) (hx:a.eval x=.slice (some ⟨w.heap.size,0,none⟩) 1 1) (hb:l.length+1≤1048576) (hbase:base≤w.heap.size)
  (h:∀ v' w',LkOw w' base v' (l++[⟨id,k⟩])→(w.alloc (.cells #[.string id,.int .i64 k] 91)).grownBy w' v.ownBlock→wpList Tryz.prog ops Q rest (a.put o.dst v') w'):wpList Tryz.prog ops Q (o::rest) a (w.alloc (.cells #[.string id,.int .i64 k] 91)):=by
 obtain ⟨i0,hi,hz0,hz1,hz2⟩:=info_parts Tryz.infoLk
 have hown2:w.ownsRow base 91 2 v l.length (lkcells l):=hown
 exact wpList_append_own _ hgd sl x 124 ho base 91 i0 (.agg #[.string ⟨#[]⟩,.int .i64 0]) 2 24 Tryz.underlying124 hi hz0 hz1 hz2 rfl (by decide) v l.length (lkcells l) hs (hown2.alloc _) ⟨w.heap.size,0,none⟩ 1 1 (Lk.cells ⟨id,k⟩) hx rfl (fun j u hj=>new_lk w ⟨id,k⟩ j u hj) (fun u hu=>lkcells_one [⟨id,k⟩] u (by simpa [lkcells] using hu)) (by unfold maxLen;omega) (by omega) (by simp;omega)
  (fun v' w' h1 h2 _=>h v' w' (by
   unfold LkOw
   rw [lkcells_append,List.length_append]
   simpa [lkcells] using h1) h2)
theorem wp_lk_many (hgd:o.guard=none) (sl x:Operand) (ho:o.op=.call { callee:=.builtin .append,args:=#[sl,x],argTypes:=#[124,124] }) (hs:a.eval sl=v) (hown:LkOw w base v l) (ad:Addr) (m c:Nat) (mid:List Lk) (hm:m=mid.length) (hx:a.eval x=.slice (some ad) m c)
  (hsrc:∀ j u,(lkcells mid)[j]?=some u→w.cell? (ad.add j)=some u) (hb:l.length+m≤1048576) (hbase:base≤w.heap.size)
  (h:∀ v' w',LkOw w' base v' (l++mid)→w.grownBy w' v.ownBlock→wpList Tryz.prog ops Q rest (a.put o.dst v') w'):wpList Tryz.prog ops Q (o::rest) a w:=by
 obtain ⟨i0,hi,hz0,hz1,hz2⟩:=info_parts Tryz.infoLk
 subst hm
 exact wpList_append_own _ hgd sl x 124 ho base 91 i0 (.agg #[.string ⟨#[]⟩,.int .i64 0]) 2 24 Tryz.underlying124 hi hz0 hz1 hz2 rfl (by decide) v l.length (lkcells l) hs hown ad mid.length c (lkcells mid) hx (lkcells_len _) hsrc (lkcells_one _) (by unfold maxLen;omega) (by omega) hbase
  (fun v' w' h1 h2 _=>h v' w' (by
   unfold LkOw
   rw [lkcells_append,List.length_append]
   exact h1) h2)
theorem wp_lk_none (hgd:o.guard=none) (sl x:Operand) (ho:o.op=.call { callee:=.builtin .append,args:=#[sl,x],argTypes:=#[124,124] }) (hs:a.eval sl=v) (hown:LkOw w base v l) (hx:a.eval x=.slice none 0 0)
  (h:wpList Tryz.prog ops Q rest (a.put o.dst v) w):wpList Tryz.prog ops Q (o::rest) a w:=by
 obtain ⟨i0,hi,hz0,hz1,hz2⟩:=info_parts Tryz.infoLk
 exact wpList_append_own_none hgd sl x 124 ho base 91 i0 2 Tryz.underlying124 hi v l.length (lkcells l) hs hown hx h
end
theorem LkOw.bel1 {B base:Nat} {w0 w w':World} {v:Value} {l:List Lk} {o:Obj} (h:LkOw w base v l) (hb:Below B w0 w) (hB:B≤base) (hs:B≤w.heap.size) (hg:(w.alloc o).grownBy w' v.ownBlock):Below B w0 w' :=
 app_step hb h hg hB hs
theorem LkOw.mono {w:World} {B base:Nat} {v:Value} {l:List Lk} (h:LkOw w base v l) (hB:B≤base):LkOw w B v l:=by
 refine ⟨h.1,?_⟩
 rcases h.2 with h2|⟨g,cap,cur,h3,h4,h5⟩
 ·exact .inl h2
 ·exact .inr ⟨g,cap,cur,h3,by omega,h5⟩
theorem LkOw.one (w:World) (id:ByteArray) (k:Int) {base:Nat} (hb:base≤w.heap.size):LkOw (w.alloc (.cells #[.string id,.int .i64 k] 91)) base (.slice (some ⟨w.heap.size,0,none⟩) 1 1) [⟨id,k⟩]:=by
 have h:=World.ownsRow_made (base:=base) (e:=91) (size:=2) w #[.string id,.int .i64 k] 1 hb (by decide) rfl
 refine ⟨by simp [lkcells,Lk.cells],.inr ⟨w.heap.size,1,#[.string id,.int .i64 k],rfl,hb,heap_alloc_new _ _,by simp,by decide,rfl,rfl⟩⟩
def toL (k:Int) (ids:List (List UInt8)):List Lk:=ids.map fun x=>⟨str x,k⟩
theorem toL_take {k:Int} {ids:List (List UInt8)} {j:Nat} (h:j<ids.length):toL k (ids.take (j+1))=toL k (ids.take j)++[⟨str ids[j],k⟩]:=by
 rw [List.take_succ_eq_append_getElem h,toL,toL,List.map_append]
 rfl
def treeLk (es:List En):List Lk:=es.map fun e=>⟨e.i,if e.m=4 then 2 else 1⟩
theorem treeLk_take {es:List En} {j:Nat} (h:j<es.length):treeLk (es.take (j+1))=treeLk (es.take j)++[⟨es[j].i,if es[j].m=4 then 2 else 1⟩]:=by
 rw [List.take_succ_eq_append_getElem h,treeLk,treeLk,List.map_append]
 rfl
def lksOf (k:Int) (l:List UInt8) (cut:Bool):List Lk :=
 if k=2 then treeLk (parE l).2 else if k=3 then (if (parC l).1=0 then ⟨(parC l).2.t,2⟩::(if cut=true then [] else toL 3 (parC l).2.ps) else []) else if k=4 then (if (parG l).1=0 then [⟨(parG l).2.o,(parG l).2.k⟩] else []) else []
def LkR (L:List Lk) (w:World) (e:Ending) (w':World):Prop:=(∃ v,e=.returned v∧LkOw w' w.heap.size v L)∧Below w.heap.size w w'
set_option maxHeartbeats 4000000 in
set_option maxRecDepth 4000 in
theorem linksTo_any (k:Int) (ls:List (List UInt8)) (p:Option Addr) (n c:Nat) (w:World) (hn:n=ls.length) (hp:SRw w p ls) (hn2:n≤1000000) :
  Calls Tryz.prog 93 #[.int .i64 k,.slice p n c] w (LkR (toL k ls) w):=by
 have HN:=Lib.hid hn
 have HP:=Lib.hid hp
 clear hn hp
 go_enter Tryz.func93,Tryz.ntmps93
 go_wp2_with fail
 go_loopw [5,10] (fun ov iv wr=>∃ (j:Nat),j≤n∧iv=.int .i64 (j:Int)∧Hid (LkOw wr w.heap.size ov (toL k (ls.take j)))∧Hid (Below w.heap.size w wr)) (fun _ iv _=>n-(intOf iv).toNat)
 case atStart=>exact ⟨0,by omega,rfl,LkOw.nil _ _,Below.refl _ _⟩
 case round =>
  obtain ⟨j,hj,rfl,HO,HB⟩:=hrel
  by_cases hlt:j<n
  ·have hkl:j<ls.length:=by rw [←HN.out];exact hlt
   obtain ⟨x,hx⟩:∃ x,x=str ls[j]:=⟨_,rfl⟩
   obtain ⟨g,o,rfl,hg,a0⟩:=HP.out.below HB.out j hkl
   have HT:=Lib.hid (toL_take (k:=k) hkl)
   rw [←hx] at a0 HT
   have HL:Hid ((toL k (ls.take j)).length+1≤1048576):=by show _≤_;simp [toL];omega
   have q1:(j:Int)<(n:Int):=by omega
   clear hx hg hkl
   go_wp2_with (at_builtin;refine wp_lk_one rfl _ _ rfl rfl HO.out x k rfl HL.out HB.out.size ?_;intro v4 w4 h4 g4;have HO4:=Lib.hid h4;have HB4:=Lib.hid (HO.out.bel1 HB.out (Nat.le_refl _) HB.out.size g4);clear h4 g4)
   go_roundw
   case rel=>exact ⟨j+1,by omega,by go_num,by show LkOw _ _ _ _;rw [HT.out];exact HO4.out,HB4.out⟩
   case measure=>simp [intOf];omega
  ·have HX:Hid (ls.take j=ls):=by show _=_;rw [List.take_of_length_le (by have:=HN.out;omega)]
   go_wp2_with fail
   go_ret
   refine ⟨⟨_,rfl,?_⟩,HB.out⟩
   have:=HO.out
   rw [HX.out] at this
   exact this
set_option maxHeartbeats 4000000 in
set_option maxRecDepth 4000 in
theorem streeLinks_any (s:ByteArray) (w:World) (hT:TrTab w) (hs:s.size≤1048576):Calls Tryz.prog 124 #[.string s] w (LkR (treeLk (parE s.data.toList).2) w):=by
 obtain ⟨⟨C,es⟩,hP⟩:∃ P,P=parE s.data.toList:=⟨_,rfl⟩
 have hlen:=parE_len s.data.toList
 have HTP:Hid (Calls Tryz.prog 131 #[.string s] w (ParT (C,es) w)):=by rw [hP];exact tparse_any s w hT hs
 rw [←hP] at hlen ⊢
 simp only at hlen ⊢
 clear hP hT hs
 go_enter Tryz.func124,Tryz.ntmps124
 go_upto_region 2 with (go_at_call 131;((with_reducible refine (HTP.out).mono ?_);rintro e w1 ⟨⟨v,rfl,p,c,rfl,hcap,hrow⟩,hb1⟩))
 obtain ⟨n,hn⟩:∃ n,n=es.length:=⟨_,rfl⟩
 rw [←hn] at hlen ⊢
 have HN:=Lib.hid hn
 have HP:=Lib.hid hrow
 have HB1:=Lib.hid hb1
 clear hn hrow hb1 hcap HTP
 go_wp2_with fail
 go_loopw [5,16] (fun ov iv wr=>∃ (k:Nat),k≤n∧iv=.int .i64 (k:Int)∧Hid (LkOw wr w1.heap.size ov (treeLk (es.take k)))∧Hid (Below w1.heap.size w1 wr)) (fun _ iv _=>n-(intOf iv).toNat)
 case atStart=>exact ⟨0,by omega,rfl,LkOw.nil _ _,Below.refl _ _⟩
 case round =>
  obtain ⟨k,hk,rfl,HO,HB⟩:=hrel
  by_cases hlt:k<n
  ·have hkl:k<es.length:=by rw [←HN.out];exact hlt
   obtain ⟨e,he⟩:∃ e,e=es[k]:=⟨_,rfl⟩
   obtain ⟨g,o,rfl,hg,a0,a1,a2⟩:=HP.out.below HB.out k hkl
   have HT:=Lib.hid (treeLk_take hkl)
   rw [←he] at a0 a1 a2 HT
   obtain ⟨m',n',i'⟩:=e
   simp only at a0 a1 a2 HT
   obtain ⟨w2,hw2⟩:∃ w2,w2=wr.alloc (.cells #[.int .i64 m',.string n',.string i'] 107):=⟨_,rfl⟩
   obtain ⟨E,hE⟩:∃ E,E=wr.heap.size:=⟨_,rfl⟩
   have hrow:w2.heap[E]?=some (.cells #[.int .i64 m',.string n',.string i'] 107 (0,0)):=by rw [hw2,hE];exact heap_alloc_new _ _
   have hbx:Below wr.heap.size wr w2:=by rw [hw2];exact below_new (Below.refl _ _) _
   have e0:w2.cell? ⟨E,0,none⟩=some (.int .i64 m'):=cell_of_row w2 _ 0 _ _ _ hrow
   have e2:w2.cell? ⟨E,2,none⟩=some (.string i'):=cell_of_row w2 _ 2 _ _ _ hrow
   have HO2:=Lib.hid (HO.out.below hbx)
   have HB2:=Lib.hid (HB.out.trans (hbx.mono HB.out.size))
   have HW2:=Lib.hid hw2
   have HE0:=Lib.hid hE
   have HL:Hid ((treeLk (es.take k)).length+1≤1048576):=by show _≤_;simp [treeLk];omega
   clear he hw2 hE hrow hbx hkl hg HO
   go_upto_region 6 with fail
   rw [←HW2.out,←HE0.out]
   by_cases h4:m'=4
   ·have g4:(m'==4)=true:=by simp [h4]
    rw [if_pos h4] at HT
    clear h4
    go_wp2_with (at_builtin;refine wp_lk_one rfl _ _ rfl rfl HO2.out i' 2 rfl HL.out HB2.out.size ?_;intro v4 w4 h4 g4;have HO4:=Lib.hid h4;have HB4:=Lib.hid (HO2.out.bel1 HB2.out (Nat.le_refl _) HB2.out.size g4);clear h4 g4)
    go_roundw
    case rel=>exact ⟨k+1,by omega,by go_num,by show LkOw _ _ _ _;rw [HT.out];exact HO4.out,HB4.out⟩
    case measure=>simp [intOf];omega
   ·have g4:(m'==4)=false:=by simp [h4]
    rw [if_neg h4] at HT
    go_wp2_with (at_builtin;refine wp_lk_one rfl _ _ rfl rfl HO2.out i' 1 rfl HL.out HB2.out.size ?_;intro v4 w4 h4 g4;have HO4:=Lib.hid h4;have HB4:=Lib.hid (HO2.out.bel1 HB2.out (Nat.le_refl _) HB2.out.size g4);clear h4 g4)
    go_roundw
    case rel=>exact ⟨k+1,by omega,by go_num,by show LkOw _ _ _ _;rw [HT.out];exact HO4.out,HB4.out⟩
    case measure=>simp [intOf];omega
  ·have HX:Hid (es.take k=es):=by show _=_;rw [List.take_of_length_le (by have:=HN.out;omega)]
   go_wp2_with fail
   go_ret
   refine ⟨⟨_,rfl,?_⟩,HB1.out.trans (HB.out.mono HB1.out.size)⟩
   have:=HO.out
   rw [HX.out] at this
   exact LkOw.mono this HB1.out.size
end Go.Proofs.YtnoopcenogbjiaaGreatDoor
