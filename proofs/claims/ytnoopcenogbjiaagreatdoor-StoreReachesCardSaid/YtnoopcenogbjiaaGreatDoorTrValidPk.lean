/-
 What the functions of tree read; the walks of valid and of the reference's May.
-/
import Derived.Test.YtnoopcenogbjiaaGreatDoorTrPlainPk
import Derived.Test.YtnoopcenogbjiaaGreatDoorPtRIs
import Derived.Test.YtnoopcenogbjiaaGreatDoorIdRDigit
import Derived.Test.YtnoopcenogbjiaaGreatDoorLawPostPk
import Derived.Test.YtnoopcenogbjiaaGreatDoorShelf
import Derived.Test.YtnoopcenogbjiaaGreatDoorStOwPk
set_option linter.unusedVariables false
set_option linter.unusedSimpArgs false
namespace Go.Proofs.YtnoopcenogbjiaaGreatDoor
open Go.RowKit
structure TrTab (w:World):Prop where
 ml:∃ m,w.cell? ⟨0,0,none⟩=some (.int .i64 m)
 c1:w.cell? ⟨3,1,none⟩=some (.string (str (wordM 1)))
 c2:w.cell? ⟨3,2,none⟩=some (.string (str (wordM 2)))
 c3:w.cell? ⟨3,3,none⟩=some (.string (str (wordM 3)))
 c4:w.cell? ⟨3,4,none⟩=some (.string (str (wordM 4)))
theorem TrTab.below {w w':World} (h:TrTab w) (hb:Below w.heap.size w w'):TrTab w' :=
 ⟨by obtain ⟨m,hm⟩:=h.ml;exact ⟨m,cell_bel hm hb⟩,cell_bel h.c1 hb,cell_bel h.c2 hb,cell_bel h.c3 hb,cell_bel h.c4 hb⟩
theorem flatN_ne (s:ByteArray):decide (0≤Lib.indexByte s.data.toList 47)=!flatN s:=by
 unfold flatN
 by_cases h:0≤Lib.indexByte s.data.toList 47
 ·simp [h,Int.not_lt.mpr h]
 ·simp [h,Int.not_le.mp h]
set_option maxHeartbeats 2000000 in
set_option maxRecDepth 4000 in
theorem valid_any (e:En) (w:World) (hT:TrTab w) (hn:e.n.size≤1048576) (hi:e.i.size≤140737488355328) :
  Calls Tryz.prog 188 #[.agg #[.int .i64 e.m,.string e.n,.string e.i]] w fun x w'=>x=.returned (.bool (okEn e))∧Below w.heap.size w w':=by
 obtain ⟨m,n,i⟩:=e
 simp only at hn hi ⊢
 obtain ⟨P,hP⟩:∃ P,P=isP n:=⟨_,rfl⟩
 obtain ⟨F,hF⟩:∃ F,F=flatN n:=⟨_,rfl⟩
 obtain ⟨I,hI⟩:∃ I,I=isId i:=⟨_,rfl⟩
 obtain ⟨R,hR⟩:∃ R,R=okEn ⟨m,n,i⟩:=⟨_,rfl⟩
 rw [←hR]
 have HR:Hid (R=(decide (1≤m)&&(decide (m≤4)&&(P&&(F&&I))))):=by
  show _=_
  rw [hR,okEn,hP,hF,hI]
 have HP:Hid (∀ w',Below w.heap.size w w'→Calls Tryz.prog 209 #[.string n] w' fun e w''=>e=.returned (.bool P)∧Below w'.heap.size w' w''):=fun w' hb=>by
  obtain ⟨z,hz⟩:=(hT.below hb).ml
  rw [hP]
  exact pis_any n z w' hn hz
 have HF:Hid (∀ w',Calls Tryz.prog 176 #[.string n,.string ⟨#[47]⟩] w' fun e w''=>e=.returned (.bool !F)∧w''=w'):=fun w'=>by
  rw [hF,←flatN_ne]
  exact Tryz.strings_Contains_one n 47 w'
 have HI:Hid (∀ w',Calls Tryz.prog 170 #[.string i] w' fun e w''=>e=.returned (.bool I)∧w'=w''):=fun w'=>by
  rw [hI]
  exact is_any i w' hi
 have hx:=heap_alloc_new w (.cells #[.int .i64 m,.string n,.string i] 107)
 have hbx:Below w.heap.size w (w.alloc (.cells #[.int .i64 m,.string n,.string i] 107)):=below_new (Below.refl _ _) _
 have hbl:w.heap.size<(w.alloc (.cells #[.int .i64 m,.string n,.string i] 107)).heap.size:=by simp
 obtain ⟨w1,hw1⟩:∃ w1,w1=w.alloc (.cells #[.int .i64 m,.string n,.string i] 107):=⟨_,rfl⟩
 have HW1:=Lib.hid hw1
 rw [←hw1] at hx hbx hbl
 have a0:w1.cell? ⟨w.heap.size,0,none⟩=some (.int .i64 m):=cell_of_row w1 _ 0 _ _ _ hx
 have a1:w1.cell? ⟨w.heap.size,1,none⟩=some (.string n):=cell_of_row w1 _ 1 _ _ _ hx
 have a2:w1.cell? ⟨w.heap.size,2,none⟩=some (.string i):=cell_of_row w1 _ 2 _ _ _ hx
 have HB:=Lib.hid hbx
 have HT:=Lib.hid hT
 clear hP hF hI hR hw1 hx hT hbx hn hi
 have hc:(decide (1≤m)=false)∨(decide (1≤m)=true∧decide (m≤4)=false)∨(decide (1≤m)=true∧decide (m≤4)=true):=by
  cases decide (1≤m)<;>cases decide (m≤4)<;>simp
 rcases hc with h1|⟨h1,h2⟩|⟨h1,h2⟩
 ·have HX:Hid (R=false):=by show _=_;rw [HR.out,h1];rfl
  clear HR
  go_enter Tryz.func188,Tryz.ntmps188
  go_upto_region 1 with fail
  rw [←HW1.out]
  go_wp2
  go_ret
  exact ⟨by rw [HX.out];rfl,HB.out⟩
 ·have HX:Hid (R=false):=by show _=_;rw [HR.out,h1,h2];rfl
  clear HR
  go_enter Tryz.func188,Tryz.ntmps188
  go_upto_region 1 with fail
  rw [←HW1.out]
  go_wp2
  go_ret
  exact ⟨by rw [HX.out];rfl,HB.out⟩
 ·have HX:Hid (R=(P&&(F&&I))):=by show _=_;rw [HR.out,h1,h2];rfl
  clear HR
  rcases P with _|_
  ·go_enter Tryz.func188,Tryz.ntmps188
   go_upto_region 1 with fail
   rw [←HW1.out]
   go_wp2_with (go_at_call 209;((with_reducible refine (HP.out _ HB.out).mono ?_);rintro e w2 ⟨rfl,hb2⟩;have b1:=cell_bel a1 hb2;have b2:=cell_bel a2 hb2))
   go_ret
   exact ⟨by rw [HX.out];rfl,HB.out.trans (hb2.mono HB.out.size)⟩
  ·rcases F with _|_
   ·go_enter Tryz.func188,Tryz.ntmps188
    go_upto_region 1 with fail
    rw [←HW1.out]
    go_wp2_with (first
     | (go_at_call 209;((with_reducible refine (HP.out _ HB.out).mono ?_);rintro e w2 ⟨rfl,hb2⟩;have b1:=cell_bel a1 hb2;have b2:=cell_bel a2 hb2))
     | (go_at_call 176;((with_reducible refine (HF.out _).mono ?_);rintro e w3 ⟨rfl,rfl⟩)))
    go_ret
    exact ⟨by rw [HX.out];rfl,HB.out.trans (hb2.mono HB.out.size)⟩
   ·go_enter Tryz.func188,Tryz.ntmps188
    go_upto_region 1 with fail
    rw [←HW1.out]
    go_wp2_with (first
     | (go_at_call 209;((with_reducible refine (HP.out _ HB.out).mono ?_);rintro e w2 ⟨rfl,hb2⟩;have b1:=cell_bel a1 hb2;have b2:=cell_bel a2 hb2))
     | (go_at_call 176;((with_reducible refine (HF.out _).mono ?_);rintro e w3 ⟨rfl,rfl⟩))
     | (go_at_call 170;((with_reducible refine (HI.out _).mono ?_);rintro e w4 ⟨rfl,rfl⟩)))
    go_ret
    exact ⟨by rw [HX.out];rfl,HB.out.trans (hb2.mono HB.out.size)⟩
set_option maxHeartbeats 2000000 in
set_option maxRecDepth 4000 in
theorem may_any (e:En) (w:World) (hn:e.n.size≤1048576) (hi:e.i.size≤140737488355328) :
  Calls Tryz.prog 118 #[.agg #[.int .i64 e.m,.string e.n,.string e.i]] w fun x w'=>x=.returned (.bool (okEn e))∧Below w.heap.size w w':=by
 obtain ⟨m,n,i⟩:=e
 simp only at hn hi ⊢
 obtain ⟨P,hP⟩:∃ P,P=isP n:=⟨_,rfl⟩
 obtain ⟨K,hK⟩:∃ K,K=Lib.indexByte n.data.toList 47:=⟨_,rfl⟩
 obtain ⟨F,hF⟩:∃ F,F=decide (K<0):=⟨_,rfl⟩
 obtain ⟨I,hI⟩:∃ I,I=isId i:=⟨_,rfl⟩
 obtain ⟨R,hR⟩:∃ R,R=okEn ⟨m,n,i⟩:=⟨_,rfl⟩
 rw [←hR]
 have HR:Hid (R=(decide (1≤m)&&(decide (m≤4)&&(P&&(F&&I))))):=by
  show _=_
  rw [hR,okEn,hP,hF,hI,hK];rfl
 have HP:Hid (∀ w',Below w.heap.size w w'→Calls Tryz.prog 137 #[.string n] w' fun e w''=>e=.returned (.bool P)∧Below w'.heap.size w' w''):=fun w' hb=>by
  rw [hP]
  exact pris_any n w' hn
 have HF:Hid (∀ w',Calls Tryz.prog 117 #[.string n,.int .u8 47,.int .i64 0] w' fun e w''=>e=.returned (.int .i64 K)∧w''=w'):=fun w'=>by
  rw [hK]
  exact rfindB_any n 47 47 w' rfl (by omega)
 have HI:Hid (∀ w',Calls Tryz.prog 87 #[.string i] w' fun e w''=>e=.returned (.bool I)∧w'=w''):=fun w'=>by
  rw [hI]
  exact ris_any i w' hi
 have hx:=heap_alloc_new w (.cells #[.int .i64 m,.string n,.string i] 107)
 have hbx:Below w.heap.size w (w.alloc (.cells #[.int .i64 m,.string n,.string i] 107)):=below_new (Below.refl _ _) _
 have hbl:w.heap.size<(w.alloc (.cells #[.int .i64 m,.string n,.string i] 107)).heap.size:=by simp
 obtain ⟨w1,hw1⟩:∃ w1,w1=w.alloc (.cells #[.int .i64 m,.string n,.string i] 107):=⟨_,rfl⟩
 have HW1:=Lib.hid hw1
 rw [←hw1] at hx hbx hbl
 have a0:w1.cell? ⟨w.heap.size,0,none⟩=some (.int .i64 m):=cell_of_row w1 _ 0 _ _ _ hx
 have a1:w1.cell? ⟨w.heap.size,1,none⟩=some (.string n):=cell_of_row w1 _ 1 _ _ _ hx
 have a2:w1.cell? ⟨w.heap.size,2,none⟩=some (.string i):=cell_of_row w1 _ 2 _ _ _ hx
 have HB:=Lib.hid hbx
 clear hP hK hI hR hw1 hx hbx hn hi
 have hc:(decide (1≤m)=false)∨(decide (1≤m)=true∧decide (m≤4)=false)∨(decide (1≤m)=true∧decide (m≤4)=true):=by
  cases decide (1≤m)<;>cases decide (m≤4)<;>simp
 rcases hc with h1|⟨h1,h2⟩|⟨h1,h2⟩
 ·have HX:Hid (R=false):=by show _=_;rw [HR.out,h1];rfl
  clear HR
  go_enter Tryz.func118,Tryz.ntmps118
  go_upto_region 1 with fail
  rw [←HW1.out]
  go_wp2
  go_ret
  exact ⟨by rw [HX.out];rfl,HB.out⟩
 ·have HX:Hid (R=false):=by show _=_;rw [HR.out,h1,h2];rfl
  clear HR
  go_enter Tryz.func118,Tryz.ntmps118
  go_upto_region 1 with fail
  rw [←HW1.out]
  go_wp2
  go_ret
  exact ⟨by rw [HX.out];rfl,HB.out⟩
 ·have HX:Hid (R=(P&&(F&&I))):=by show _=_;rw [HR.out,h1,h2];rfl
  clear HR
  rcases P with _|_
  ·go_enter Tryz.func118,Tryz.ntmps118
   go_upto_region 1 with fail
   rw [←HW1.out]
   go_wp2_with (go_at_call 137;((with_reducible refine (HP.out _ HB.out).mono ?_);rintro e w2 ⟨rfl,hb2⟩;have b1:=cell_bel a1 hb2;have b2:=cell_bel a2 hb2))
   go_ret
   exact ⟨by rw [HX.out];rfl,HB.out.trans (hb2.mono HB.out.size)⟩
  ·have hFK:=hF.symm
   clear hF
   rcases F with _|_
   ·go_enter Tryz.func118,Tryz.ntmps118
    go_upto_region 1 with fail
    rw [←HW1.out]
    go_wp2_with (first
     | (go_at_call 137;((with_reducible refine (HP.out _ HB.out).mono ?_);rintro e w2 ⟨rfl,hb2⟩;have b1:=cell_bel a1 hb2;have b2:=cell_bel a2 hb2))
     | (go_at_call 117;((with_reducible refine (HF.out _).mono ?_);rintro e w3 ⟨rfl,rfl⟩)))
    go_ret
    exact ⟨by rw [HX.out];rfl,HB.out.trans (hb2.mono HB.out.size)⟩
   ·go_enter Tryz.func118,Tryz.ntmps118
    go_upto_region 1 with fail
    rw [←HW1.out]
    go_wp2_with (first
     | (go_at_call 137;((with_reducible refine (HP.out _ HB.out).mono ?_);rintro e w2 ⟨rfl,hb2⟩;have b1:=cell_bel a1 hb2;have b2:=cell_bel a2 hb2))
     | (go_at_call 117;((with_reducible refine (HF.out _).mono ?_);rintro e w3 ⟨rfl,rfl⟩))
     | (go_at_call 87;((with_reducible refine (HI.out _).mono ?_);rintro e w4 ⟨rfl,rfl⟩)))
    go_ret
    exact ⟨by rw [HX.out];rfl,HB.out.trans (hb2.mono HB.out.size)⟩
end Go.Proofs.YtnoopcenogbjiaaGreatDoor
/-
 Rows of entries as they are read; the walk of Check.
-/
namespace Go.Proofs.YtnoopcenogbjiaaGreatDoor
open Go.RowKit Go.Maps Go.WideMaps
def NRw (w:World) (p:Option Addr) (es:List En):Prop:=∀ k (h:k<es.length),∃ g o,p=some ⟨g,o,none⟩∧g<w.heap.size ∧
 w.cell? ⟨g,o+k*3,none⟩=some (.int .i64 es[k].m)∧w.cell? ⟨g,o+k*3+1,none⟩=some (.string es[k].n)∧w.cell? ⟨g,o+k*3+2,none⟩=some (.string es[k].i)
theorem NRw.below {w w':World} {p:Option Addr} {es:List En} (h:NRw w p es) (hb:Below w.heap.size w w'):NRw w' p es:=fun k hk=>by
 obtain ⟨g,o,rfl,hg,h0,h1,h2⟩:=h k hk
 exact ⟨g,o,rfl,Nat.lt_of_lt_of_le hg hb.size,(hb.cell (p:=⟨g,_,none⟩) hg).trans h0,(hb.cell (p:=⟨g,_,none⟩) hg).trans h1,(hb.cell (p:=⟨g,_,none⟩) hg).trans h2⟩
theorem NRw.nil (w:World) (p:Option Addr):NRw w p []:=fun k hk=>absurd hk (Nat.not_lt_zero _)
theorem NRw.grown {w w':World} {p:Option Addr} {es:List En} {M n:Nat} {D:DataW Unit} (h:NRw w p es) (hM:Msb w M n D) (hg:w.grownBy w' (some M)):NRw w' p es:=fun k hk=>by
 obtain ⟨g,o,rfl,hgs,h0,h1,h2⟩:=h k hk
 have hne:=msb_ne hM h0
 have hbl:=hg.block g hgs (by simpa using hne)
 exact ⟨g,o,rfl,Nat.lt_of_lt_of_le hgs hg.size,(World.cell?_of_block hbl).trans h0,(World.cell?_of_block hbl).trans h1,(World.cell?_of_block hbl).trans h2⟩
def nms (l:List En) (k:Nat):List (List UInt8):=(l.take k).map fun e=>e.n.data.toList
theorem nms_next {l:List En} {k:Nat} (h:k<l.length):nms l (k+1)=nms l k++[l[k].n.data.toList]:=by
 unfold nms
 rw [List.take_succ_eq_append_getElem h,List.map_append,List.map_singleton]
theorem getD_en {l:List En} {k:Nat} (h:k<l.length):l.getD k En.zero=l[k]:=by
 rw [List.getD_eq_getElem?_getD,List.getElem?_eq_getElem h]
 rfl
theorem mem_nms {l:List En} {k:Nat} {x:ByteArray}:x.data.toList∈nms l k↔∃ e∈l.take k,e.n=x:=by
 unfold nms
 rw [List.mem_map]
 exact ⟨fun ⟨e,he,hx⟩=>⟨e,he,ba_ext hx⟩,fun ⟨e,he,hx⟩=>⟨e,he,by rw [hx]⟩⟩
theorem badT_1 {l:List En} {k:Nat} (h:k<l.length) (h0:okEn l[k]=false):badT l k=1:=by
 unfold badT
 rw [getD_en h,if_pos h0]
theorem badT_150 {l:List En} {k:Nat} (h:k+1<l.length) (h0:okEn l[k+1]=true) (h1:lessE l[k] l[k+1]=false):badT l (k+1)=150:=by
 unfold badT
 rw [getD_en h,if_neg (by rw [h0];decide),if_pos ⟨by omega,by rw [Nat.add_sub_cancel,getD_en (by omega)];exact h1⟩]
theorem badT_6 {l:List En} {k:Nat} (h:k<l.length) (h0:okEn l[k]=true) (h1:0<k→lessE (l.getD (k-1) En.zero) l[k]=true) (h2:l[k].n.data.toList∈nms l k):badT l k=6:=by
 unfold badT
 rw [getD_en h,if_neg (by rw [h0];decide),if_neg (fun h=>by rw [h1 h.1] at h;cases h.2),if_pos]
 rw [List.any_eq_true]
 obtain ⟨e,he,hx⟩:=mem_nms.1 h2
 exact ⟨e,he,by simpa using hx⟩
theorem badT_0 {l:List En} {k:Nat} (h:k<l.length) (h0:okEn l[k]=true) (h1:0<k→lessE (l.getD (k-1) En.zero) l[k]=true) (h2:¬ l[k].n.data.toList∈nms l k):badT l k=0:=by
 refine badT_of (by rw [getD_en h];exact h0) (by rw [getD_en h];exact h1) fun e he hn=>h2 (mem_nms.2 ⟨e,he,?_⟩)
 rw [hn,getD_en h]
def Few (l:List En):Prop:=∀ e∈l,e.n.size≤1048576∧e.i.size≤140737488355328
set_option maxHeartbeats 2000000 in
set_option maxRecDepth 4000 in
theorem tcheck_any (es:List En) (p:Option Addr) (c n:Nat) (w:World) (hn:n=es.length) (hp:NRw w p es) (hT:TrTab w) (hl:n≤1024→Few es) (hn2:n≤140737488355328) :
  Calls Tryz.prog 163 #[.slice p n c] w fun e w'=>e=.returned (.int .i64 (chkT es:Int))∧Below w.heap.size w w':=by
 obtain ⟨R,hR⟩:∃ R,R=chkT es:=⟨_,rfl⟩
 rw [←hR]
 by_cases hbig:1024<n
 ·have HR:Hid (R=4):=by show _=_;rw [hR,chkT,if_pos (by omega)]
  clear hR hn hp
  go_enter Tryz.func163,Tryz.ntmps163
  go_wp2
  go_ret
  exact ⟨by rw [HR.out];rfl,Below.refl _ _⟩
 ·have HR:Hid (R=chkFrom es 0):=by show _=_;rw [hR,chkT,if_neg (by omega)]
  have HL:=Lib.hid (hl (by omega))
  have HN:=Lib.hid hn
  have HP:=Lib.hid hp
  have HT:=Lib.hid hT
  have hmm:=make_sb n w
  have hb1:Below w.heap.size w (w.alloc (.map #[] 0)):=below_new (Below.refl _ _) _
  have hm1:=msb_new w
  have hs1:w.heap.size<(w.alloc (.map #[] 0)).heap.size:=by simp
  obtain ⟨w1,hw1⟩:∃ w1,w1=w.alloc (.map #[] 0):=⟨_,rfl⟩
  obtain ⟨M,hM⟩:∃ M,M=w.heap.size:=⟨_,rfl⟩
  rw [←hw1,←hM] at hmm hm1
  rw [←hw1] at hb1 hs1
  have HM:=Lib.hid hM
  clear hR hl hn hp hT hw1
  rw [←hM] at hs1
  clear hM
  go_enter Tryz.func163,Tryz.ntmps163
  go_wp2
  go_loopw [14] (fun iv wr=>∃ (k:Nat) (D:DataW Unit),k≤n∧iv=.int .i64 k∧Msb wr M k D∧Hid (IsSt D (nms es k))∧Hid (R=chkFrom es k)∧Hid (Below w.heap.size w wr)∧M<wr.heap.size) (fun iv _=>n-(intOf iv).toNat)
  case atStart=>exact ⟨0,_,by omega,rfl,hm1,isSt_nil,HR.out,hb1,hs1⟩
  case round =>
   clear hm1 HR hb1 hs1 hmm
   obtain ⟨k,D,hk,rfl,hm,HI,HR,HB,hs⟩:=hrel
   by_cases hlt:k<n
   ·have hkl:k<es.length:=by rw [←HN.out];exact hlt
    obtain ⟨e,he⟩:∃ e,e=es[k]:=⟨_,rfl⟩
    have hfe:=HL.out e (by rw [he];exact List.getElem_mem hkl)
    obtain ⟨g,o,rfl,hg,a0,a1,a2⟩:=HP.out.below HB.out k hkl
    rw [←he] at a0 a1 a2
    obtain ⟨w2,hw2⟩:∃ w2,w2=wr.alloc (.cells #[.int .i64 e.m,.string e.n,.string e.i] 107):=⟨_,rfl⟩
    obtain ⟨E,hE⟩:∃ E,E=wr.heap.size:=⟨_,rfl⟩
    have hbx:Below wr.heap.size wr w2:=by rw [hw2];exact below_new (Below.refl _ _) _
    have hrow:w2.heap[E]?=some (.cells #[.int .i64 e.m,.string e.n,.string e.i] 107 (0,0)):=by rw [hw2,hE];exact heap_alloc_new _ _
    have e0:w2.cell? ⟨E,0,none⟩=some (.int .i64 e.m):=cell_of_row w2 _ 0 _ _ _ hrow
    have e1:w2.cell? ⟨E,1,none⟩=some (.string e.n):=cell_of_row w2 _ 1 _ _ _ hrow
    have e2:w2.cell? ⟨E,2,none⟩=some (.string e.i):=cell_of_row w2 _ 2 _ _ _ hrow
    have hm2:=hm.below hbx
    have HW2:=Lib.hid hw2
    have HE0:=Lib.hid hE
    have HB2:=Lib.hid (HB.out.trans (hbx.mono HB.out.size))
    obtain ⟨ok,hok⟩:∃ ok,ok=okEn e:=⟨_,rfl⟩
    have HV:Hid (Calls Tryz.prog 188 #[.agg #[.int .i64 e.m,.string e.n,.string e.i]] w2 fun x w'=>x=.returned (.bool ok)∧Below w2.heap.size w2 w'):=by
     rw [hok]
     exact valid_any e w2 (HT.out.below HB2.out) hfe.1 hfe.2
    have hsz2:=hbx.size
    have hP2:=HP.out.below HB2.out
    have HP2:=Lib.hid hP2
    rw [he] at hok
    have HE:=Lib.hid he
    have HOK:=Lib.hid hok
    have HF:=Lib.hid hfe
    clear hw2 hE hbx hrow hm he hok hfe hP2
    go_upto_region 7 with fail
    rw [←HW2.out,←HE0.out]
    rcases ok with _|_
    ·have HX:Hid (R=1):=by show _=_;rw [HR.out,chkFrom_bad hkl (by rw [badT_1 hkl HOK.out.symm];decide),badT_1 hkl HOK.out.symm]
     go_wp2_with (go_at_call 188;((with_reducible refine HV.out.mono ?_);rintro x w3 ⟨rfl,hb3⟩))
     go_ret
     exact ⟨by rw [HX.out];rfl,HB2.out.trans (hb3.mono HB2.out.size)⟩
    ·go_upto_region 9 with (go_at_call 188;((with_reducible refine HV.out.mono ?_);rintro x w3 ⟨rfl,hb3⟩))
     obtain ⟨L,hL⟩:∃ L,L=(if 0<k then lessE (es.getD (k-1) En.zero) e else true):=⟨_,rfl⟩
     have HL0:=Lib.hid hL
     have HB3:=Lib.hid (HB2.out.trans (hb3.mono HB2.out.size))
     have hm3:=hm2.below hb3
     have c0:=cell_bel e0 hb3
     have c1:=cell_bel e1 hb3
     have c2:=cell_bel e2 hb3
     have HM3:=Lib.hid hm3
     have hsz3:=hb3.size
     have hs3:M<w3.heap.size:=by omega
     have q0:∀ x:BelW w3,x.w.cell? ⟨E,0,none⟩=some (.int .i64 e.m):=fun x=>cell_bel c0 x.h
     have q1:∀ x:BelW w3,x.w.cell? ⟨E,1,none⟩=some (.string e.n):=fun x=>cell_bel c1 x.h
     have q2:∀ x:BelW w3,x.w.cell? ⟨E,2,none⟩=some (.string e.i):=fun x=>cell_bel c2 x.h
     have hq:Nonempty (BelW w3):=⟨⟨w3,Below.refl _ _⟩⟩
     have HQ1:=Lib.hid q1
     have HP3:=Lib.hid (HP2.out.below hb3)
     clear HV hL hb3 hm3 hm2 e0 e1 e2 c0 c1 c2 HW2 HE0 a0 a1 a2
     go_cut [23] from 23 to 35 (fun b wx=>b=.bool (!L)∧∃ x:BelW w3,wx=x.w)
     case first =>
      by_cases hk0:k=0
      ·have h1:decide ((0:Int)<(k:Int))=false:=decide_eq_false (by omega)
       have h2:decide (0<k)=false:=decide_eq_false (by omega)
       have HLX:Hid (L=true):=by show _=_;rw [HL0.out,if_neg (by omega)]
       clear hk0 HL0 hk
       refine wp_region_bel (w0:=w3) (Below.refl _ _) (by kernel_rfl) (by kernel_rfl) ?_
       repeat (go_big_quiet_step (fail))
       refine wpQuiet_nil ?_
       rintro _ ⟨x,rfl⟩
       go_wp2_with fail
       go_meet
       exact ⟨by rw [HLX.out];rfl,x,rfl⟩
      ·obtain ⟨j,hj⟩:∃ j,j=k-1:=⟨_,rfl⟩
       have hkj:k=j+1:=by omega
       have hjl:j<es.length:=by omega
       have h1:decide ((0:Int)<(k:Int))=true:=decide_eq_true (by omega)
       have h2:decide (0<k)=true:=decide_eq_true (by omega)
       have h3:IntKind.i64.wrap ((k:Int)-1)=(j:Int):=by rw [IntWalk.i64_in _ (by omega)];omega
       have h4:(0:Int)≤(j:Int):=by omega
       have h5:(j:Int)<(n:Int):=by omega
       have h6:j<n:=by omega
       obtain ⟨g',o',he2,hg3,b0,b1,b2⟩:=HP3.out j hjl
       simp only [Option.some.injEq,Addr.mk.injEq,and_true] at he2
       obtain ⟨rfl,rfl⟩:=he2
       have hfp:=HL.out es[j] (List.getElem_mem hjl)
       have HLX:Hid (L=lessE es[j] e):=by show _=_;rw [HL0.out,if_pos (by omega),show k-1=j by omega,getD_en hjl]
       obtain ⟨f,hf⟩:∃ f,f=es[j]:=⟨_,rfl⟩
       rw [←hf] at b0 b1 b2 hfp HLX
       have r0:∀ x:BelW w3,x.w.cell? ⟨g,o+j*3,none⟩=some (.int .i64 f.m):=fun x=>cell_bel b0 x.h
       have r1:∀ x:BelW w3,x.w.cell? ⟨g,o+j*3+1,none⟩=some (.string f.n):=fun x=>cell_bel b1 x.h
       have r2:∀ x:BelW w3,x.w.cell? ⟨g,o+j*3+2,none⟩=some (.string f.i):=fun x=>cell_bel b2 x.h
       have CL:=Lib.hid (fun (x:BelW w3)=>Calls.bel_class (x:=x) (by
        have:=tless_any f e x.w (by have:=hfp.1;omega) (by have:=HF.out.1;omega)
        rw [←HLX.out] at this
        exact this))
       clear hk0 HL0 hk hj hkj hjl hf hfp b0 b1 b2 HLX
       refine wp_region_bel (w0:=w3) (Below.refl _ _) (by kernel_rfl) (by kernel_rfl) ?_
       repeat (go_big_quiet_step ((go_at_call 189;exact CL.out _)))
       refine wpQuiet_nil ?_
       rintro _ ⟨x,rfl⟩
       go_wp2_with fail
       go_meet
       exact ⟨rfl,x,rfl⟩
     case rest =>
      obtain ⟨rfl,x,rfl⟩:=hcut
      have HBX:=Lib.hid (HB3.out.trans (x.h.mono HB3.out.size))
      have hsx:M<x.w.heap.size:=Nat.lt_of_lt_of_le hs3 x.h.size
      have hmx:=HM3.out.below x.h
      have c1:=HQ1.out x
      obtain ⟨wx,hwx⟩:∃ wx,wx=x.w:=⟨_,rfl⟩
      rw [←hwx] at hmx c1 HBX hsx ⊢
      clear hwx q0 q1 q2 HM3 HP3 hq HP2 HB2 HB hsz3 hsz2
      clear x
      rcases L with _|_
      ·have HX:Hid (R=150):=by
        show _=_
        have h0:=HL0.out
        by_cases hk0:0<k
        ·rw [if_pos hk0] at h0
         obtain ⟨j,rfl⟩:∃ j,k=j+1:=⟨k-1,by omega⟩
         rw [Nat.add_sub_cancel,getD_en (by omega),HE.out] at h0
         have h1:=badT_150 hkl HOK.out.symm h0.symm
         rw [HR.out,chkFrom_bad hkl (by rw [h1];decide),h1]
        ·rw [if_neg hk0] at h0
         cases h0
       clear HR HL0
       go_wp2_with fail
       go_ret
       exact ⟨by rw [HX.out];rfl,HBX.out⟩
      ·have hless:0<k→lessE (es.getD (k-1) En.zero) es[k]=true:=fun h=>by
        have h0:=HL0.out
        rw [if_pos h,HE.out] at h0
        exact h0.symm
       obtain ⟨B,hB⟩:∃ B,B=decide (e.n.data.toList∈nms es k):=⟨_,rfl⟩
       have hlk:=msb_look hmx (t:=e.n) (by have:=HF.out.1;omega) (B:=B) (by rw [HI.out.look,hB])
       rcases B with _|_
       ·have hno:¬ es[k].n.data.toList∈nms es k:=by rw [←HE.out];exact of_decide_eq_false hB.symm
        have HR2:Hid (R=chkFrom es (k+1)):=by show _=_;rw [HR.out,chkFrom_step hkl (badT_0 hkl HOK.out.symm hless hno)]
        have hput:=HI.out.put e.n.data.toList
        rw [HE.out,←nms_next hkl,←HE.out] at hput
        have HPT:=Lib.hid hput
        have hkey:=skeyS (t:=e.n) (by have:=HF.out.1;omega)
        obtain ⟨K,hK⟩:∃ K,K=Lit.string e.n.data.toList:=⟨_,rfl⟩
        rw [←hK] at hkey HPT
        clear HR HL0 hB hless hno hput HI hK
        go_wp2_with (at_mapUpdate;refine wpList_mapUpdate_own _ rfl _ _ _ 83 rfl 9 4 str_keyedS Tryz.underlying83 _ M k D rfl hmx (by unfold maxLen;omega) _ _ _ rfl rfl hkey _ [] (plainElem_bool Tryz.underlying4 true) ?_;intro w4 hm4 hg4)
        go_roundw
        case rel=>exact ⟨k+1,_,by omega,by go_num,hm4,HPT.out,HR2.out,HBX.out.grown hg4 (by have:=HM.out;omega) (fun j hj=>by have:=HM.out;cases hj;omega),Nat.lt_of_lt_of_le hsx hg4.size⟩
        case measure=>simp [intOf];omega
       ·have hin:es[k].n.data.toList∈nms es k:=by rw [←HE.out];exact of_decide_eq_true hB.symm
        have h1:=badT_6 hkl HOK.out.symm hless hin
        have HX:Hid (R=6):=by show _=_;rw [HR.out,chkFrom_bad hkl (by rw [h1];decide),h1]
        clear HR HL0 hB hless hin h1
        go_wp2_with fail
        go_ret
        exact ⟨by rw [HX.out];rfl,HBX.out⟩
   ·have HX:Hid (R=0):=by show _=_;rw [HR.out,chkFrom_end (by have:=HN.out;omega)]
    clear HR
    go_wp2_with fail
    go_ret
    exact ⟨by rw [HX.out];rfl,HB.out⟩
end Go.Proofs.YtnoopcenogbjiaaGreatDoor
/-
 The walk of the reference's Check.
-/
namespace Go.Proofs.YtnoopcenogbjiaaGreatDoor
open Go.RowKit
theorem nms_no {l:List En} {j k:Nat} (h:∀ e∈l.take j,e.n≠(l.getD k En.zero).n) (hk:k<l.length) (hj:j=k):¬ l[k].n.data.toList∈nms l k:=by
 subst hj
 rw [mem_nms]
 rintro ⟨e,he,hx⟩
 exact h e he (by rw [getD_en hk];exact hx)
set_option maxHeartbeats 2000000 in
set_option maxRecDepth 4000 in
theorem trcheck_any (es:List En) (p:Option Addr) (c n:Nat) (w:World) (hn:n=es.length) (hp:NRw w p es) (hl:n≤1024→Few es) (hn2:n≤140737488355328) :
  Calls Tryz.prog 85 #[.slice p n c] w fun e w'=>e=.returned (.int .i64 (chkT es:Int))∧Below w.heap.size w w':=by
 obtain ⟨R,hR⟩:∃ R,R=chkT es:=⟨_,rfl⟩
 rw [←hR]
 by_cases hbig:1024<n
 ·have HR:Hid (R=4):=by show _=_;rw [hR,chkT,if_pos (by omega)]
  clear hR hn hp
  go_enter Tryz.func85,Tryz.ntmps85
  go_wp2
  go_ret
  exact ⟨by rw [HR.out];rfl,Below.refl _ _⟩
 ·have HR:Hid (R=chkFrom es 0):=by show _=_;rw [hR,chkT,if_neg (by omega)]
  have HL:=Lib.hid (hl (by omega))
  have HN:=Lib.hid hn
  have HP:=Lib.hid hp
  clear hR hl hn hp
  go_enter Tryz.func85,Tryz.ntmps85
  go_wp2
  go_loopw [10] (fun iv wr=>∃ k:Nat,k≤n∧iv=.int .i64 k∧Hid (R=chkFrom es k)∧Hid (Below w.heap.size w wr)) (fun iv _=>n-(intOf iv).toNat)
  case atStart=>exact ⟨0,by omega,rfl,HR.out,Below.refl _ _⟩
  case round =>
   clear HR
   obtain ⟨k,hk,rfl,HR,HB⟩:=hrel
   by_cases hlt:k<n
   ·have hkl:k<es.length:=by rw [←HN.out];exact hlt
    obtain ⟨e,he⟩:∃ e,e=es[k]:=⟨_,rfl⟩
    have hfe:=HL.out e (by rw [he];exact List.getElem_mem hkl)
    obtain ⟨g,o,rfl,hg,a0,a1,a2⟩:=HP.out.below HB.out k hkl
    rw [←he] at a0 a1 a2
    obtain ⟨ok,hok⟩:∃ ok,ok=okEn e:=⟨_,rfl⟩
    obtain ⟨w2,hw2⟩:∃ w2,w2=wr:=⟨_,rfl⟩
    have HV:Hid (Calls Tryz.prog 118 #[.agg #[.int .i64 e.m,.string e.n,.string e.i]] wr fun x w'=>x=.returned (.bool ok)∧Below wr.heap.size wr w'):=by
     rw [hok]
     exact may_any e wr hfe.1 hfe.2
    rw [he] at hok
    have HE:=Lib.hid he
    have HOK:=Lib.hid hok
    have HF:=Lib.hid hfe
    have HP2:=Lib.hid (HP.out.below HB.out)
    clear hw2 he hok hfe
    rcases ok with _|_
    ·have HX:Hid (R=1):=by show _=_;rw [HR.out,chkFrom_bad hkl (by rw [badT_1 hkl HOK.out.symm];decide),badT_1 hkl HOK.out.symm]
     go_wp2_with (go_at_call 118;((with_reducible refine HV.out.mono ?_);rintro x w3 ⟨rfl,hb3⟩))
     go_ret
     exact ⟨by rw [HX.out];rfl,HB.out.trans (hb3.mono HB.out.size)⟩
    ·go_upto_region 8 with (go_at_call 118;((with_reducible refine HV.out.mono ?_);rintro x w3 ⟨rfl,hb3⟩))
     obtain ⟨L,hL⟩:∃ L,L=(if 0<k then lessE (es.getD (k-1) En.zero) e else true):=⟨_,rfl⟩
     have HL0:=Lib.hid hL
     have HB3:=Lib.hid (HB.out.trans (hb3.mono HB.out.size))
     have c0:=cell_bel a0 hb3
     have c1:=cell_bel a1 hb3
     have c2:=cell_bel a2 hb3
     have q0:∀ x:BelW w3,x.w.cell? ⟨g,o+k*3,none⟩=some (.int .i64 e.m):=fun x=>cell_bel c0 x.h
     have q1:∀ x:BelW w3,x.w.cell? ⟨g,o+k*3+1,none⟩=some (.string e.n):=fun x=>cell_bel c1 x.h
     have q2:∀ x:BelW w3,x.w.cell? ⟨g,o+k*3+2,none⟩=some (.string e.i):=fun x=>cell_bel c2 x.h
     have hq:Nonempty (BelW w3):=⟨⟨w3,Below.refl _ _⟩⟩
     have HP3:=Lib.hid (HP2.out.below hb3)
     have g4:(0:Int)≤(k:Int):=by omega
     have g5:(k:Int)<(n:Int):=by omega
     clear HV hL hb3 c0 c1 c2 a0 a1 a2
     go_cut [33] from 19 to 33 (fun b wx=>b=.bool (!L)∧∃ x:BelW w3,wx=x.w)
     case first =>
      by_cases hk0:k=0
      ·have h1:decide ((0:Int)<(k:Int))=false:=decide_eq_false (by omega)
       have h2:decide (0<k)=false:=decide_eq_false (by omega)
       have HLX:Hid (L=true):=by show _=_;rw [HL0.out,if_neg (by omega)]
       clear hk0 HL0 hk
       refine wp_region_bel (w0:=w3) (Below.refl _ _) (by kernel_rfl) (by kernel_rfl) ?_
       repeat (go_big_quiet_step (fail))
       refine wpQuiet_nil ?_
       rintro _ ⟨x,rfl⟩
       go_wp2_with fail
       go_meet
       exact ⟨by rw [HLX.out];rfl,x,rfl⟩
      ·obtain ⟨j,hj⟩:∃ j,j=k-1:=⟨_,rfl⟩
       have hkj:k=j+1:=by omega
       have hjl:j<es.length:=by omega
       have h1:decide ((0:Int)<(k:Int))=true:=decide_eq_true (by omega)
       have h2:decide (0<k)=true:=decide_eq_true (by omega)
       have h3:IntKind.i64.wrap ((k:Int)-1)=(j:Int):=by rw [IntWalk.i64_in _ (by omega)];omega
       have h4:(0:Int)≤(j:Int):=by omega
       have h5:(j:Int)<(n:Int):=by omega
       have h6:j<n:=by omega
       obtain ⟨g',o',he2,hg3,b0,b1,b2⟩:=HP3.out j hjl
       simp only [Option.some.injEq,Addr.mk.injEq,and_true] at he2
       obtain ⟨rfl,rfl⟩:=he2
       have hfp:=HL.out es[j] (List.getElem_mem hjl)
       have HLX:Hid (L=lessE es[j] e):=by show _=_;rw [HL0.out,if_pos (by omega),show k-1=j by omega,getD_en hjl]
       obtain ⟨f,hf⟩:∃ f,f=es[j]:=⟨_,rfl⟩
       rw [←hf] at b0 b1 b2 hfp HLX
       have r0:∀ x:BelW w3,x.w.cell? ⟨g,o+j*3,none⟩=some (.int .i64 f.m):=fun x=>cell_bel b0 x.h
       have r1:∀ x:BelW w3,x.w.cell? ⟨g,o+j*3+1,none⟩=some (.string f.n):=fun x=>cell_bel b1 x.h
       have r2:∀ x:BelW w3,x.w.cell? ⟨g,o+j*3+2,none⟩=some (.string f.i):=fun x=>cell_bel b2 x.h
       have CL:=Lib.hid (fun (x:BelW w3)=>Calls.bel_class (x:=x) (by
        have:=trless_any f e x.w (by have:=hfp.1;omega) (by have:=HF.out.1;omega)
        rw [←HLX.out] at this
        exact this))
       clear hk0 HL0 hk hj hkj hjl hf hfp b0 b1 b2 HLX
       refine wp_region_bel (w0:=w3) (Below.refl _ _) (by kernel_rfl) (by kernel_rfl) ?_
       repeat (go_big_quiet_step ((go_at_call 119;exact CL.out _)))
       refine wpQuiet_nil ?_
       rintro _ ⟨x,rfl⟩
       go_wp2_with fail
       go_meet
       exact ⟨rfl,x,rfl⟩
     case rest =>
      obtain ⟨rfl,x,rfl⟩:=hcut
      have HBX:=Lib.hid (HB3.out.trans (x.h.mono HB3.out.size))
      obtain ⟨wx,hwx⟩:∃ wx,wx=x.w:=⟨_,rfl⟩
      have HPX:=Lib.hid (HP3.out.below x.h)
      rw [←hwx] at HBX HPX ⊢
      clear hwx q0 q1 q2 HP3 hq HP2 HB
      clear x
      rcases L with _|_
      ·have HX:Hid (R=150):=by
        show _=_
        have h0:=HL0.out
        by_cases hk0:0<k
        ·rw [if_pos hk0] at h0
         obtain ⟨j,rfl⟩:∃ j,k=j+1:=⟨k-1,by omega⟩
         rw [Nat.add_sub_cancel,getD_en (by omega),HE.out] at h0
         have h1:=badT_150 hkl HOK.out.symm h0.symm
         rw [HR.out,chkFrom_bad hkl (by rw [h1];decide),h1]
        ·rw [if_neg hk0] at h0
         cases h0
       clear HR HL0
       go_wp2_with fail
       go_ret
       exact ⟨by rw [HX.out];rfl,HBX.out⟩
      ·have HLS:Hid (0<k→lessE (es.getD (k-1) En.zero) es[k]=true):=fun h=>by
        have h0:=HL0.out
        rw [if_pos h,HE.out] at h0
        exact h0.symm
       clear HL0
       go_wp2_with fail
       go_loopw [35] (fun jv wr=>∃ j:Nat,j≤k∧jv=.int .i64 j∧Hid (∀ e∈es.take j,e.n≠(es.getD k En.zero).n)∧Hid (Below wx.heap.size wx wr)) (fun jv _=>k-(intOf jv).toNat)
       case atStart=>exact ⟨0,by omega,rfl,fun e he=>by simp at he,Below.refl _ _⟩
       case round =>
        obtain ⟨j,hj,rfl,HNO,HJ⟩:=hrel
        have HBJ:=Lib.hid (HBX.out.trans (HJ.out.mono HBX.out.size))
        by_cases hjk:j<k
        ·have hjl:j<es.length:=by omega
         obtain ⟨g',o',he2,hg3,b0,b1,b2⟩:=HPX.out.below HJ.out j hjl
         obtain ⟨g2,o2,he3,hg4,d0,d1,d2⟩:=HPX.out.below HJ.out k hkl
         simp only [Option.some.injEq,Addr.mk.injEq,and_true] at he2 he3
         obtain ⟨rfl,rfl⟩:=he2
         obtain ⟨rfl,rfl⟩:=he3
         rw [←HE.out] at d1
         have g6:(0:Int)≤(j:Int):=by omega
         have g7:(j:Int)<(n:Int):=by omega
         have g8:j<n:=by omega
         obtain ⟨f,hf⟩:∃ f,f=es[j]:=⟨_,rfl⟩
         rw [←hf] at b1
         have HFJ:=Lib.hid hf
         by_cases hne:f.n=e.n
         ·have hin:es[k].n.data.toList∈nms es k:=mem_nms.2 ⟨es[j],by rw [List.mem_take_iff_getElem];exact ⟨j,by omega,rfl⟩,by rw [←HFJ.out,hne,HE.out]⟩
          have h1:=badT_6 hkl HOK.out.symm HLS.out hin
          have HX:Hid (R=6):=by show _=_;rw [HR.out,chkFrom_bad hkl (by rw [h1];decide),h1]
          rw [hne] at b1
          obtain ⟨t,ht⟩:∃ t,t=e.n:=⟨_,rfl⟩
          rw [←ht] at b1 d1
          clear HR hin h1 hne hf ht b0 b2 d0 d2 hg3 hg4
          go_upto_region 13 with fail
          go_quiet (fail)
          go_wp2_with fail
          go_ret
          exact ⟨by rw [HX.out];rfl,below_drewN HBJ.out _⟩
         ·have hb:(f.n.toList==e.n.toList)=false:=ba_ne hne
          have HX:Hid (∀ e∈es.take (j+1),e.n≠(es.getD k En.zero).n):=fun x hx=>by
           rw [List.take_succ_eq_append_getElem hjl,List.mem_append,List.mem_singleton] at hx
           rcases hx with hx|rfl
           ·exact HNO.out x hx
           ·rw [←HFJ.out,getD_en hkl,←HE.out]
            exact hne
          obtain ⟨t,ht⟩:∃ t,t=e.n:=⟨_,rfl⟩
          obtain ⟨u,hu⟩:∃ u,u=f.n:=⟨_,rfl⟩
          rw [←ht,←hu] at hb
          rw [←hu] at b1
          rw [←ht] at d1
          clear HNO hne hf ht hu b0 b2 d0 d2 hg3 hg4
          go_upto_region 13 with fail
          go_quiet (fail)
          go_wp2_with fail
          go_roundw
          case rel=>exact ⟨j+1,by omega,by go_num,HX.out,below_drewN HJ.out _⟩
          case measure=>simp [intOf];omega
        ·have hjk2:j=k:=by omega
         have HR2:Hid (R=chkFrom es (k+1)):=by show _=_;rw [HR.out,chkFrom_step hkl (badT_0 hkl HOK.out.symm HLS.out (nms_no HNO.out hkl hjk2))]
         clear HR hjk2 HNO
         go_wp2_with fail
         go_roundw
         case rel=>exact ⟨k+1,by omega,by go_num,HR2.out,HBJ.out⟩
         case measure=>simp [intOf];omega
   ·have HX:Hid (R=0):=by show _=_;rw [HR.out,chkFrom_end (by have:=HN.out;omega)]
    clear HR
    go_wp2_with fail
    go_ret
    exact ⟨by rw [HX.out];rfl,HB.out⟩
end Go.Proofs.YtnoopcenogbjiaaGreatDoor
