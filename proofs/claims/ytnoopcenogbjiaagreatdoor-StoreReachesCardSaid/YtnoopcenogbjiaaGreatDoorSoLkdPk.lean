/-
 The walk of the reference's linked.
-/
import Derived.Test.YtnoopcenogbjiaaGreatDoorSoInsBPk
import Derived.Test.YtnoopcenogbjiaaGreatDoorSoNmPPk
import Derived.Test.YtnoopcenogbjiaaGreatDoorSoSrtPk
set_option linter.unusedVariables false
set_option linter.unusedSimpArgs false
namespace Go.Proofs.YtnoopcenogbjiaaGreatDoor
open Go Go.RowKit Go.Maps Go.WideMaps
def isB (l:List It) (id:ByteArray) (kd:Int):Bool:=hasI l id&&decide ((getI l id).k=kd)
def lkAll (l:List It) (L:List Lk):Bool:=L.all fun lk=>isB l lk.i lk.k
theorem lkAll_lkdI {l:List It} {e:It} {cut:Bool}:lkAll l (lksOf e.k e.b.data.toList cut)=true↔lkdI l e cut:=by
 unfold lkAll lkdI isB
 simp only [List.all_eq_true,Bool.and_eq_true,decide_eq_true_eq]
theorem lkAll_tree {l:List It} {es:List En} {j:Nat} (h:j<es.length):lkAll l (treeLk (es.drop j))=(isB l es[j].i (if es[j].m=4 then 2 else 1)&&lkAll l (treeLk (es.drop (j+1)))):=by
 rw [List.drop_eq_getElem_cons h]
 rfl
theorem lkAll_ids {l:List It} {ps:List (List UInt8)} {j:Nat} (h:j<ps.length):lkAll l (toL 3 (ps.drop j))=(isB l (str ps[j]) 3&&lkAll l (toL 3 (ps.drop (j+1)))):=by
 rw [List.drop_eq_getElem_cons h]
 rfl
theorem lkAll_tree_end {l:List It} {es:List En} {j:Nat} (h:¬ j<es.length):lkAll l (treeLk (es.drop j))=true:=by
 rw [List.drop_eq_nil_of_le (by omega)]
 rfl
theorem lkAll_ids_end {l:List It} {ps:List (List UInt8)} {j:Nat} (h:¬ j<ps.length):lkAll l (toL 3 (ps.drop j))=true:=by
 rw [List.drop_eq_nil_of_le (by omega)]
 rfl
theorem lnk_ok3 {b:List UInt8} (h:(lnkL 3 b).1=0):(parC b).1=0:=by
 by_cases hb:bytesE 3 b=0
 ·rw [lnkL_3 hb] at h;exact h
 ·rw [lnkL,if_pos hb] at h;exact absurd h hb
theorem lnk_ok4 {b:List UInt8} (h:(lnkL 4 b).1=0):(parG b).1=0:=by
 by_cases hb:bytesE 4 b=0
 ·rw [lnkL,if_neg (by omega),if_pos rfl] at h;exact h
 ·rw [lnkL,if_pos hb] at h;exact absurd h hb
set_option maxHeartbeats 8000000 in
set_option maxRecDepth 8000 in
theorem linked_any (l:List It) (k:Int) (b:ByteArray) (cut:Bool) (p:Option Addr) (n c:Nat) (w:World) (h0:(lnkL k b.data.toList).1=0) (hn:n=l.length) (hp:ItRw w p l) (hn2:n≤1000) (hb:b.size≤1048576) :
  Calls Tryz.prog 67 #[.agg #[.slice p n c],.agg #[.int .i64 k,.string b],.bool cut] w fun e w'=>e=.returned (.bool (lkAll l (lksOf k b.data.toList cut)))∧Below w.heap.size w w':=by
 obtain ⟨w1,hw1⟩:∃ w1,w1=w.alloc (.cells #[.slice p n c] 24):=⟨_,rfl⟩
 obtain ⟨w2,hw2⟩:∃ w2,w2=w1.alloc (.cells #[.int .i64 k,.string b] 29):=⟨_,rfl⟩
 obtain ⟨I,hI⟩:∃ I,I=w.heap.size:=⟨_,rfl⟩
 obtain ⟨O,hO⟩:∃ O,O=w.heap.size+1:=⟨_,rfl⟩
 have hs1:w1.heap.size=w.heap.size+1:=by rw [hw1];simp
 have h1:w1.heap[I]?=some (.cells #[.slice p n c] 24 (0,0)):=by rw [hw1,hI];exact heap_alloc_new _ _
 have hb1:Below w.heap.size w w1:=by rw [hw1];exact below_new (Below.refl _ _) _
 have hb2:Below w1.heap.size w1 w2:=by rw [hw2];exact below_new (Below.refl _ _) _
 have h2:w2.heap[O]?=some (.cells #[.int .i64 k,.string b] 29 (0,0)):=by rw [hw2,hO,←hs1];exact heap_alloc_new _ _
 have x0:w2.cell? ⟨I,0,none⟩=some (.slice p n c):=cell_bel (cell_of_row _ _ 0 _ _ _ h1) hb2
 obtain ⟨y0,y1,-,-⟩:=ob_at h2
 have hb12:Below w.heap.size w w2:=hb1.trans (hb2.mono hb1.size)
 have HIS:Hid (∀ (wb w':World) (id:ByteArray) (kd:Int),Below w2.heap.size w2 wb→Below wb.heap.size wb w'→Calls Tryz.prog 98 #[.agg #[.slice p n c],.string id,.int .i64 kd] w' fun e w''=>e=.returned (.bool (isB l id kd))∧Below wb.heap.size wb w''):=fun wb w' id kd h0 h =>
  (risk_any l id kd p n c w' hn ((hp.below hb12).below (h0.trans (h.mono h0.size))) (by omega)).mono fun e w'' ⟨h1,h2⟩=>⟨h1,h.trans (h2.mono h.size)⟩
 have HB12:=Lib.hid hb12
 have HW1:=Lib.hid hw1
 have HW2:=Lib.hid hw2
 have HI:=Lib.hid hI
 have HO:Hid (O=I+1):=by show O=_;omega
 have HH0:=Lib.hid h0
 clear hw1 hw2 hI hO hs1 h1 hb1 hb2 h2 hb12 hn hp hn2 h0
 by_cases hk2:k=2
 ·subst hk2
  obtain ⟨K,hK⟩:∃ K,K=(parE b.data.toList).1:=⟨_,rfl⟩
  obtain ⟨es,hes⟩:∃ es,es=(parE b.data.toList).2:=⟨_,rfl⟩
  obtain ⟨m,hm⟩:∃ m,m=es.length:=⟨_,rfl⟩
  have hmx:m≤1024:=by rw [hm,hes];exact parE_len _
  have hpa:=trparse_any b w2 hb
  have hpa2:Calls Tryz.prog 50 #[.string b] w2 fun e w''=>(∃ q d,e=.returned (.tuple #[.slice q m d,.int .i64 (K:Int)])∧NRw w'' q es)∧Below w2.heap.size w2 w'':=hpa.mono fun e w'' ⟨⟨v,h1,q,d,h2,h3,h4⟩,h5⟩=>by
   rw [h2,←hes,←hm,←hK] at h1
   rw [←hes] at h4
   exact ⟨⟨q,d,h1,h4⟩,h5⟩
  have HPA:=Lib.hid hpa2
  have HL:Hid (lksOf 2 b.data.toList cut=treeLk es):=by show _=_;rw [lksOf,if_pos rfl,hes]
  have HM:=Lib.hid hm
  clear hpa hpa2 hK hes hm HH0 hb
  rw [HL.out]
  go_enter Tryz.func67,Tryz.ntmps67
  go_upto_region 1 with fail
  rw [←HW1.out,←HW2.out,←HI.out,←HO.out]
  go_upto_region 4 with (go_at_call 50;((with_reducible refine HPA.out.mono ?_);rintro e w3 ⟨⟨q,d,rfl,hr⟩,hb3⟩))
  have HR:=Lib.hid hr
  have HB3:=Lib.hid hb3
  clear hr hb3 HPA HW1 HW2
  go_wp2_with fail
  go_loopw [9] (fun iv wr=>∃ j:Nat,j≤m∧iv=.int .i64 (j:Int)∧Hid (lkAll l (treeLk es)=lkAll l (treeLk (es.drop j)))∧Hid (Below w3.heap.size w3 wr)) (fun iv _=>m-(intOf iv).toNat)
  case atStart=>exact ⟨0,by omega,rfl,rfl,Below.refl _ _⟩
  case round =>
   obtain ⟨j,hj,rfl,HJ,HBW⟩:=hrel
   by_cases hlt:j<m
   ·have hjl:j<es.length:=by rw [←HM.out];exact hlt
    obtain ⟨g,o,hpe,hg,a0,-,a2⟩:=HR.out.below HBW.out j hjl
    subst hpe
    have hst:=lkAll_tree (l:=l) hjl
    obtain ⟨⟨em,en,ei⟩,he⟩:∃ e,e=es[j]:=⟨_,rfl⟩
    rw [←he] at a0 a2 hst
    simp only at a0 a2 hst
    have hb4:Below w2.heap.size w2 wr:=HB3.out.trans (HBW.out.mono HB3.out.size)
    have z0:=cell_bel x0 hb4
    have q1:(j:Int)<(m:Int):=by omega
    obtain ⟨D,hD⟩:∃ D:Int,D=if em=4 then 2 else 1:=⟨_,rfl⟩
    rw [←hD] at hst
    obtain ⟨X,hX⟩:∃ X,X=isB l ei D:=⟨_,rfl⟩
    rw [←hX] at hst
    have HSTE:=Lib.hid hst
    have HB4:=Lib.hid hb4
    have HC:Hid (∀ w',Below wr.heap.size wr w'→Calls Tryz.prog 98 #[.agg #[.slice p n c],.string ei,.int .i64 D] w' fun e w''=>e=.returned (.bool X)∧Below wr.heap.size wr w''):=fun w' h=>by
     have:=HIS.out wr w' ei D hb4 h
     rwa [←hX] at this
    have HD:=Lib.hid hD
    clear hst he hg hb4 x0 y0 y1 hX hD
    have hcs:((em==4)=true∧D=2)∨((em==4)=false∧D=1):=by
     by_cases hm4:em=4
     ·exact .inl ⟨by simp [hm4],by rw [HD.out,if_pos hm4]⟩
     ·exact .inr ⟨by simp [hm4],by rw [HD.out,if_neg hm4]⟩
    clear HD
    rcases hcs with ⟨g1,rfl⟩|⟨g1,rfl⟩<;>cases X
    all_goals go_upto_region 10 with fail
    all_goals go_region_law (go_simp;go_at_call 98;((with_reducible refine (HC.out _ (by first|exact Below.refl _ _|exact (Below.refl _ _).drew)).mono ?_);rintro e w5 ⟨rfl,hb5⟩))
    all_goals go_wp2_with fail
    all_goals first
     | (go_ret;exact ⟨by rw [HJ.out,HSTE.out];rfl,HB12.out.trans ((HB4.out.trans (hb5.mono HB4.out.size)).mono HB12.out.size)⟩)
     | (go_roundw<;>first|exact ⟨j+1,by omega,by go_num,by rw [HJ.out,HSTE.out];rfl,HBW.out.trans (hb5.mono HBW.out.size)⟩|(simp [intOf];omega))
   ·have q1:¬ (j:Int)<(m:Int):=by omega
    have HE:Hid (lkAll l (treeLk (es.drop j))=true):=lkAll_tree_end (by rw [←HM.out];omega)
    clear hlt x0 y0 y1
    go_wp2_with fail
    go_ret
    exact ⟨by rw [HJ.out,HE.out];rfl,HB12.out.trans ((HB3.out.trans (HBW.out.mono HB3.out.size)).mono HB12.out.size)⟩
 by_cases hk3:k=3
 ·subst hk3
  have hc0:=lnk_ok3 HH0.out
  obtain ⟨⟨t,ps,⟨an,am,aT,az⟩,⟨cn,cm,cT,cz⟩,x⟩,hC⟩:∃ C,C=(parC b.data.toList).2:=⟨_,rfl⟩
  obtain ⟨m,hm⟩:∃ m,m=ps.length:=⟨_,rfl⟩
  have hpl:=parC_len hc0
  rw [←hC] at hpl
  have hmx:m≤8:=by rw [hm];exact hpl
  have hpa:=rcparse_any b w2 hb
  have hpa2:Calls Tryz.prog 51 #[.string b] w2 fun e w''=>(∃ q d,e=.returned (.tuple #[.agg #[.string t,.slice q m d,.string an,.string am,.int .i64 aT,.int .i64 az,.string cn,.string cm,.int .i64 cT,.int .i64 cz,.string x],.int .i64 0])∧SRw w'' q ps)∧Below w2.heap.size w2 w'':=hpa.mono fun e w'' ⟨⟨q,d,h1,h4⟩,h5⟩=>by
   rw [←hC,hc0] at h1
   rw [←hC] at h4
   rw [hm]
   exact ⟨⟨q,d,h1,h4⟩,h5⟩
  have HPA:=Lib.hid hpa2
  have HL:Hid (lkAll l (lksOf 3 b.data.toList cut)=(isB l t 2&&lkAll l (if cut=true then [] else toL 3 ps))):=by
   show _=_
   rw [lksOf,if_neg (by decide),if_pos rfl,if_pos hc0,←hC]
   rfl
  have HM:=Lib.hid hm
  clear hpa hpa2 hc0 hC hpl hm HH0 hb
  obtain ⟨T,hT⟩:∃ T,T=isB l t 2:=⟨_,rfl⟩
  obtain ⟨PL,hPL⟩:∃ PL,PL=if cut=true then [] else toL 3 ps:=⟨_,rfl⟩
  have HPL:=Lib.hid hPL
  rw [HL.out,←hT,←hPL]
  clear hPL
  have HIT:Hid (∀ wb w',Below w2.heap.size w2 wb→Below wb.heap.size wb w'→Calls Tryz.prog 98 #[.agg #[.slice p n c],.string t,.int .i64 2] w' fun e w''=>e=.returned (.bool T)∧Below wb.heap.size wb w''):=fun wb w' h0 h=>by
   have:=HIS.out wb w' t 2 h0 h
   rwa [←hT] at this
  clear hT HL
  go_enter Tryz.func67,Tryz.ntmps67
  go_upto_region 1 with fail
  rw [←HW1.out,←HW2.out,←HI.out,←HO.out]
  go_upto_region 14 with (go_at_call 51;((with_reducible refine HPA.out.mono ?_);rintro e w3 ⟨⟨q,d,rfl,hr⟩,hb3⟩))
  obtain ⟨w4,hw4⟩:∃ w4,w4=w3.alloc (.cells #[.string t,.slice q m d,.string an,.string am,.int .i64 aT,.int .i64 az,.string cn,.string cm,.int .i64 cT,.int .i64 cz,.string x] 64):=⟨_,rfl⟩
  obtain ⟨G,hG⟩:∃ G,G=w3.heap.size:=⟨_,rfl⟩
  have h4:w4.heap[G]?=some (.cells #[.string t,.slice q m d,.string an,.string am,.int .i64 aT,.int .i64 az,.string cn,.string cm,.int .i64 cT,.int .i64 cz,.string x] 64 (0,0)):=by rw [hw4,hG];exact heap_alloc_new _ _
  have hb34:Below w3.heap.size w3 w4:=by rw [hw4];exact below_new (Below.refl _ _) _
  rw [←hw4,←hG]
  have c0:w4.cell? ⟨G,0,none⟩=some (.string t):=cell_of_row _ _ 0 _ _ _ h4
  have c1:w4.cell? ⟨G,1,none⟩=some (.slice q m d):=cell_of_row _ _ 1 _ _ _ h4
  have HB4:Hid (Below w2.heap.size w2 w4):=hb3.trans (hb34.mono hb3.size)
  have HR:=Lib.hid (hr.below hb34)
  have z0:=cell_bel x0 HB4.out
  clear hw4 hG h4 hb34 hb3 hr HPA HW1 HW2 x0 y0 y1
  cases cut with
  | true =>
   have HPL0:Hid (PL=[]):=by show _=_;rw [HPL.out];rfl
   clear HPL
   go_wp2_with fail
   go_loopw [13] (fun iv wr=>iv=.int .i64 0∧Hid (w4=wr)) (fun iv _=>1)
   case atStart=>exact ⟨rfl,rfl⟩
   case round =>
    obtain ⟨rfl,hwr⟩:=hrel
    have hwr2:=hwr.out
    clear hwr
    subst hwr2
    by_cases hm0:0<m
    ·have q1:(0:Int)<(m:Int):=by omega
     clear hm0
     go_wp2_with (go_at_call 98;((with_reducible refine (HIT.out _ _ HB4.out (Below.refl _ _)).mono ?_);rintro e w5 ⟨rfl,hb5⟩))
     go_ret
     exact ⟨by rw [HPL0.out];cases T<;>rfl,HB12.out.trans ((HB4.out.trans (hb5.mono HB4.out.size)).mono HB12.out.size)⟩
    ·have q1:¬ (0:Int)<(m:Int):=by omega
     clear hm0
     go_wp2_with (go_at_call 98;((with_reducible refine (HIT.out _ _ HB4.out (Below.refl _ _)).mono ?_);rintro e w5 ⟨rfl,hb5⟩))
     go_ret
     exact ⟨by rw [HPL0.out];cases T<;>rfl,HB12.out.trans ((HB4.out.trans (hb5.mono HB4.out.size)).mono HB12.out.size)⟩
  | false =>
   have HPL0:Hid (PL=toL 3 ps):=by show _=_;rw [HPL.out];rfl
   clear HPL
   go_wp2_with fail
   go_loopw [13] (fun iv wr=>∃ j:Nat,j≤m∧iv=.int .i64 (j:Int)∧Hid (lkAll l (toL 3 ps)=lkAll l (toL 3 (ps.drop j)))∧Hid (Below w4.heap.size w4 wr)) (fun iv _=>m-(intOf iv).toNat)
   case atStart=>exact ⟨0,by omega,rfl,rfl,Below.refl _ _⟩
   case round =>
    obtain ⟨j,hj,rfl,HJ,HBW⟩:=hrel
    have e0:=cell_bel c0 HBW.out
    have e1:=cell_bel c1 HBW.out
    have f0:=cell_bel z0 HBW.out
    have HB5:=Lib.hid (HB4.out.trans (HBW.out.mono HB4.out.size))
    clear c0 c1 z0
    by_cases hlt:j<m
    ·have hjl:j<ps.length:=by rw [←HM.out];exact hlt
     obtain ⟨g,o,hpe,hg,a0⟩:=HR.out.below HBW.out j hjl
     subst hpe
     obtain ⟨s,hs⟩:∃ s,s=str ps[j]:=⟨_,rfl⟩
     rw [←hs] at a0
     have hst:=lkAll_ids (l:=l) hjl
     rw [←hs] at hst
     have q1:(j:Int)<(m:Int):=by omega
     obtain ⟨X,hX⟩:∃ X,X=isB l s 3:=⟨_,rfl⟩
     rw [←hX] at hst
     have HSTE:=Lib.hid hst
     have HC:Hid (∀ w',Below wr.heap.size wr w'→Calls Tryz.prog 98 #[.agg #[.slice p n c],.string s,.int .i64 3] w' fun e w''=>e=.returned (.bool X)∧Below wr.heap.size wr w''):=fun w' h=>by
      have:=HIS.out wr w' s 3 HB5.out h
      rwa [←hX] at this
     clear hst hg hX hs
     cases X with
     | true =>
      go_upto_region 17 with fail
      go_region_law (go_simp;go_at_call 98;((with_reducible refine (HC.out _ (by first|exact Below.refl _ _|exact (Below.refl _ _).drew)).mono ?_);rintro e w5 ⟨rfl,hb5⟩))
      all_goals go_wp2_with fail
      all_goals go_roundw
      all_goals first
       | (exact ⟨j+1,by omega,by go_num,by rw [HJ.out,HSTE.out];rfl,HBW.out.trans (hb5.mono HBW.out.size)⟩)
       | (simp [intOf];omega)
     | false =>
      go_upto_region 17 with fail
      go_region_law (go_simp;go_at_call 98;((with_reducible refine (HC.out _ (by first|exact Below.refl _ _|exact (Below.refl _ _).drew)).mono ?_);rintro e w5 ⟨rfl,hb5⟩))
      all_goals go_wp2_with fail
      all_goals go_ret
      all_goals exact ⟨by rw [HPL0.out,HJ.out,HSTE.out];cases T<;>rfl,HB12.out.trans ((HB5.out.trans (hb5.mono HB5.out.size)).mono HB12.out.size)⟩
    ·have q1:¬ (j:Int)<(m:Int):=by omega
     have HE:Hid (lkAll l (toL 3 (ps.drop j))=true):=lkAll_ids_end (by rw [←HM.out];omega)
     clear hlt
     go_wp2_with (go_at_call 98;((with_reducible refine (HIT.out _ _ HB5.out (Below.refl _ _)).mono ?_);rintro e w5 ⟨rfl,hb5⟩))
     go_ret
     exact ⟨by rw [HPL0.out,HJ.out,HE.out];cases T<;>rfl,HB12.out.trans ((HB5.out.trans (hb5.mono HB5.out.size)).mono HB12.out.size)⟩
 by_cases hk4:k=4
 ·subst hk4
  have hc0:=lnk_ok4 HH0.out
  obtain ⟨⟨o,kd,nm,⟨gn,gm,gT,gz⟩,gx⟩,hG⟩:∃ G,G=(parG b.data.toList).2:=⟨_,rfl⟩
  have hpa:=rgparse_any b w2 hb
  have hpa2:Calls Tryz.prog 52 #[.string b] w2 fun e w''=>e=.returned (.tuple #[.agg #[.string o,.int .i64 kd,.string nm,.string gn,.string gm,.int .i64 gT,.int .i64 gz,.string gx],.int .i64 0])∧Below w2.heap.size w2 w'':=hpa.mono fun e w'' ⟨h1,h5⟩=>by
   rw [←hG,hc0] at h1
   exact ⟨h1,h5⟩
  have HPA:=Lib.hid hpa2
  have HL:Hid (lkAll l (lksOf 4 b.data.toList cut)=isB l o kd):=by
   show _=_
   rw [lksOf,if_neg (by decide),if_neg (by decide),if_pos rfl,if_pos hc0,←hG]
   simp [lkAll]
  clear hpa hpa2 hc0 hG HH0 hb
  obtain ⟨T,hT⟩:∃ T,T=isB l o kd:=⟨_,rfl⟩
  rw [HL.out,←hT]
  have HIT:Hid (∀ wb w',Below w2.heap.size w2 wb→Below wb.heap.size wb w'→Calls Tryz.prog 98 #[.agg #[.slice p n c],.string o,.int .i64 kd] w' fun e w''=>e=.returned (.bool T)∧Below wb.heap.size wb w''):=fun wb w' h0 h=>by
   have:=HIS.out wb w' o kd h0 h
   rwa [←hT] at this
  clear hT HL
  go_enter Tryz.func67,Tryz.ntmps67
  go_upto_region 1 with fail
  rw [←HW1.out,←HW2.out,←HI.out,←HO.out]
  go_upto_region 22 with (go_at_call 52;((with_reducible refine HPA.out.mono ?_);rintro e w3 ⟨rfl,hb3⟩))
  obtain ⟨w4,hw4⟩:∃ w4,w4=w3.alloc (.cells #[.string o,.int .i64 kd,.string nm,.string gn,.string gm,.int .i64 gT,.int .i64 gz,.string gx] 80):=⟨_,rfl⟩
  obtain ⟨G,hG⟩:∃ G,G=w3.heap.size:=⟨_,rfl⟩
  have h4:w4.heap[G]?=some (.cells #[.string o,.int .i64 kd,.string nm,.string gn,.string gm,.int .i64 gT,.int .i64 gz,.string gx] 80 (0,0)):=by rw [hw4,hG];exact heap_alloc_new _ _
  have hb34:Below w3.heap.size w3 w4:=by rw [hw4];exact below_new (Below.refl _ _) _
  rw [←hw4,←hG]
  have c0:w4.cell? ⟨G,0,none⟩=some (.string o):=cell_of_row _ _ 0 _ _ _ h4
  have c1:w4.cell? ⟨G,1,none⟩=some (.int .i64 kd):=cell_of_row _ _ 1 _ _ _ h4
  have HB4:Hid (Below w2.heap.size w2 w4):=hb3.trans (hb34.mono hb3.size)
  have z0:=cell_bel x0 HB4.out
  clear hw4 hG h4 hb34 hb3 HPA HW1 HW2 x0 y0 y1
  go_wp2_with (go_at_call 98;((with_reducible refine (HIT.out _ _ HB4.out (Below.refl _ _)).mono ?_);rintro e w5 ⟨rfl,hb5⟩))
  go_ret
  exact ⟨rfl,HB12.out.trans ((HB4.out.trans (hb5.mono HB4.out.size)).mono HB12.out.size)⟩
 ·have g2:(k==2)=false:=by simp [hk2]
  have g3:(k==3)=false:=by simp [hk3]
  have g4:(k==4)=false:=by simp [hk4]
  have HL:Hid (lkAll l (lksOf k b.data.toList cut)=true):=by
   show _=_
   rw [lksOf,if_neg hk2,if_neg hk3,if_neg hk4]
   rfl
  rw [HL.out]
  clear hk2 hk3 hk4 HL
  go_enter Tryz.func67,Tryz.ntmps67
  go_upto_region 1 with fail
  rw [←HW1.out,←HW2.out,←HI.out,←HO.out]
  clear HW1 HW2
  go_wp2_with fail
  go_ret
  exact ⟨rfl,HB12.out⟩
def gdI (l:List It) (cs:List (List UInt8)) (x:List UInt8):Bool:=lkAll l (lksOf (getI l (str x)).k (getI l (str x)).b.data.toList (decide (x∈cs)))
theorem whole_bool {l:List It} (hr:rightI l=true) (cs ids:List (List UInt8)):wholeI l cs ids=(decide ((rwkA l cs ids).2=[])&&(rwkA l cs ids).1.all (gdI l cs)):=by
 have h:=whole_ref hr cs ids
 have h2:(decide ((rwkA l cs ids).2=[])&&(rwkA l cs ids).1.all (gdI l cs))=true↔(rwkA l cs ids).2=[]∧∀ x∈(rwkA l cs ids).1,lkdI l (getI l (str x)) (decide (x∈cs)):=by
  rw [Bool.and_eq_true,decide_eq_true_eq,List.all_eq_true]
  exact and_congr_right fun _=>forall_congr' fun x=>forall_congr' fun _=>lkAll_lkdI
 rw [←h2] at h
 exact Bool.eq_iff_iff.2 h
theorem all_drop {A:List (List UInt8)} {f:List UInt8→Bool} {j:Nat} (h:j<A.length):(A.drop j).all f=(f A[j]&&(A.drop (j+1)).all f):=by
 rw [List.drop_eq_getElem_cons h]
 rfl
theorem holds_dec {cs:List (List UInt8)} (hs:SrtS cs) (x:List UInt8):holdsS cs (str x)=decide (x∈cs):=by
 have:=holds_mem hs (x:=x)
 cases hh:holdsS cs (str x)
 ·rw [hh] at this;exact (decide_eq_false fun e=>by simpa using this.2 e).symm
 ·exact (decide_eq_true (this.1 hh)).symm
set_option maxHeartbeats 8000000 in
set_option maxRecDepth 8000 in
theorem rwholeS_any (l:List It) (cuts ids:List (List UInt8)) (p q q2:Option Addr) (n c m d m2 d2:Nat) (w:World) (hri:rightI l=true) (hn:n=l.length) (hp:ItRw w p l) (hn2:n≤1000) (hm:m=cuts.length) (hq:SRw w q cuts) (hmn:m≤1000) (hm2:m2=ids.length) (hq2:SRw w q2 ids) (hbz:∀ x∈l,x.b.size≤1048576) (hF:rwkF l (srtS cuts) ids≤200000) :
  Calls Tryz.prog 34 #[.agg #[.slice p n c],.slice q m d,.slice q2 m2 d2] w fun e w'=>e=.returned (.bool (wholeI l cuts ids))∧Below w.heap.size w w':=by
 obtain ⟨cs,hcs⟩:∃ cs,cs=srtS cuts:=⟨_,rfl⟩
 have hsr:SrtS cs∧∀ x,x∈cs↔x∈cuts:=by rw [hcs];exact srtS_at cuts
 have hcl:cs.length≤m:=by rw [hcs,hm];exact srtS_len cuts
 rw [←wholeI_cuts l hsr.2 ids,whole_bool hri]
 rw [←hcs] at hF
 obtain ⟨-,-,hA1,-⟩:=rwkA_all hri cs ids
 obtain ⟨w1,hw1⟩:∃ w1,w1=w.alloc (.cells #[.slice p n c] 24):=⟨_,rfl⟩
 obtain ⟨I,hI⟩:∃ I,I=w.heap.size:=⟨_,rfl⟩
 have hx:w1.heap[I]?=some (.cells #[.slice p n c] 24 (0,0)):=by rw [hw1,hI];exact heap_alloc_new w _
 have hbx:Below w.heap.size w w1:=by rw [hw1];exact below_new (Below.refl _ _) _
 have x0:w1.cell? ⟨I,0,none⟩=some (.slice p n c):=cell_of_row _ _ 0 _ _ _ hx
 have HSO:=Lib.hid (rsorted_any cuts q m d w1 hm (hq.below hbx) (by omega))
 rw [←hcs] at HSO
 have hbz2:∀ x∈l,x.b.size≤140737488355328:=fun x hx=>by have:=hbz x hx;omega
 have HWK:Hid (∀ w' q' k d',Below w1.heap.size w1 w'→k=cs.length→SRw w' q' cs→Calls Tryz.prog 64 #[.agg #[.slice p n c],.slice q' k d',.slice q2 m2 d2] w' fun e w''=>(∃ p3 n3 c3 p4 n4 c4,e=.returned (.tuple #[.slice p3 n3 c3,.slice p4 n4 c4])∧n3=(rwkA l cs ids).1.length∧n3≤c3∧SRw w'' p3 (rwkA l cs ids).1∧n4=(rwkA l cs ids).2.length∧n4≤c4∧SRw w'' p4 (rwkA l cs ids).2)∧Below w'.heap.size w' w''):=fun w' q' k d' hb hk hq' =>
  rwalk_any l cs ids p q' q2 n c k d' m2 d2 w' hri hn ((hp.below hbx).below hb) hn2 hk hq' hsr.1 hm2 ((hq2.below hbx).below hb) hbz2 hF (by omega)
 obtain ⟨A,hA⟩:∃ A,A=(rwkA l cs ids).1:=⟨_,rfl⟩
 obtain ⟨B,hB⟩:∃ B,B=(rwkA l cs ids).2:=⟨_,rfl⟩
 rw [←hA,←hB] at HWK ⊢
 rw [←hA] at hA1
 have hhas:∀ x∈A,hasI l (str x)=true:=fun x hx=>by
  have h1:=((hA1 x).1 hx).2
  cases hp:hasI l (str x) with
  | true=>rfl
  | false=>exact absurd ((right_knd hri x).2 hp) h1
 have hAl:A.length≤1000000:=by
  have h2:=rwk_len (cs:=cs) hri (rwkF l cs ids) [] [] ids List.Pairwise.nil
  have h3:A=(rwk (fun x=>hasI l (str x)) (nmA l cs) (rwkF l cs ids) [] [] ids).1:=hA
  rw [←h3] at h2
  unfold rwkF at hF
  simp at h2
  omega
 have HAH:=Lib.hid hhas
 have HP:=Lib.hid (hp.below hbx)
 have HN:=Lib.hid hn
 have HBX:=Lib.hid hbx
 have HW1:=Lib.hid hw1
 have HI:=Lib.hid hI
 have HSR:=Lib.hid hsr
 have HBZ:=Lib.hid hbz
 have HRI:=Lib.hid hri
 clear hw1 hI hx hbx hA hB hA1 hhas hp hn hq hm hq2 hm2 hbz hbz2 hF hcs hri hsr
 go_enter Tryz.func34,Tryz.ntmps34
 go_upto_region 1 with fail
 rw [←HW1.out,←HI.out]
 go_upto_region 2 with (go_at_call 56;((with_reducible refine HSO.out.mono ?_);rintro e w2 ⟨⟨qs,ms,ds,rfl,hms,-,-,hrs⟩,hb2⟩;have HMS:=Lib.hid hms;have HRS:=Lib.hid hrs;have HB2:=Lib.hid hb2;clear hms hrs hb2))
 have y0:=cell_bel x0 HB2.out
 have hms:ms≤1000:=by have:=HMS.out;omega
 go_upto_region 3 with (go_at_call 64;((with_reducible refine (HWK.out _ _ _ _ HB2.out HMS.out HRS.out).mono ?_);rintro e w3 ⟨⟨p3,n3,c3,p4,n4,c4,rfl,hn3,hnc3,hr3,hn4,hnc4,hr4⟩,hb3⟩;have HN3:=Lib.hid hn3;have HN4:=Lib.hid hn4;have HR3:=Lib.hid hr3;have HB3:=Lib.hid hb3;clear hn3 hn4 hr3 hr4 hnc4 hb3))
 have HB13:Hid (Below w1.heap.size w1 w3):=HB2.out.trans (HB3.out.mono HB2.out.size)
 have z0:=cell_bel y0 HB3.out
 have HRS3:=Lib.hid (HRS.out.below HB3.out)
 clear x0 y0 HRS HWK HSO HW1 HI
 by_cases hz:n4=0
 ·have g1:¬ (0:Int)<(n4:Int):=by omega
  have HB0:Hid (decide (B=[])=true):=decide_eq_true (List.eq_nil_of_length_eq_zero (by rw [←HN4.out];exact hz))
  have hn3:n3≤1000000:=by have:=HN3.out;omega
  clear hz HN4
  go_wp2_with fail
  go_loopw [10] (fun iv wr=>∃ j:Nat,j≤n3∧iv=.int .i64 (j:Int)∧Hid (A.all (gdI l cs)=(A.drop j).all (gdI l cs))∧Hid (Below w3.heap.size w3 wr)) (fun iv _=>n3-(intOf iv).toNat)
  case atStart=>exact ⟨0,by omega,rfl,rfl,Below.refl _ _⟩
  case round =>
   obtain ⟨j,hj,rfl,HJ,HBW⟩:=hrel
   have HB1W:=Lib.hid (HB13.out.trans (HBW.out.mono HB13.out.size))
   have c0:=cell_bel z0 HBW.out
   clear z0
   by_cases hlt:j<n3
   ·have hjl:j<A.length:=by rw [←HN3.out];exact hlt
    obtain ⟨g,o,hpe,hg,a0⟩:=HR3.out.below HBW.out j hjl
    subst hpe
    have hst:=all_drop (f:=gdI l cs) hjl
    obtain ⟨x,hx⟩:∃ x,x=A[j]:=⟨_,rfl⟩
    obtain ⟨s,hs⟩:∃ s,s=str x:=⟨_,rfl⟩
    rw [←hx,←hs] at a0
    rw [←hx] at hst
    have hxh:hasI l s=true:=by rw [hs,hx];exact HAH.out _ (List.getElem_mem hjl)
    obtain ⟨X,hX⟩:∃ X,X=gdI l cs x:=⟨_,rfl⟩
    rw [←hX] at hst
    have hok:=right_get HRI.out (x:=x) (by rw [←hs];exact hxh)
    have hsz:(getI l s).b.size≤1048576:=HBZ.out _ (getI_mem hxh).1
    obtain ⟨E,hE⟩:∃ E,E=getE l s:=⟨_,rfl⟩
    unfold gdI at hX
    rw [←hs] at hok hX
    obtain ⟨⟨xi,xk,xb⟩,hXG⟩:∃ G,G=getI l s:=⟨_,rfl⟩
    rw [←hXG] at hok hX hsz
    simp only at hok hX hsz
    have q1:(j:Int)<(n3:Int):=by omega
    have HRG2:Hid (∀ w',Below wr.heap.size wr w'→Calls Tryz.prog 21 #[.agg #[.slice p n c],.string s] w' fun e w''=>e=.returned (.tuple #[.agg #[.int .i64 xk,.string xb],.int .i64 (E:Int)])∧Below w'.heap.size w' w''∧Below wr.heap.size wr w''):=fun w' h=>by
     have:=rsget_any l s p n c w' HN.out (HP.out.below (HB1W.out.trans (h.mono HB1W.out.size))) (by omega)
     rw [←hXG,←hE] at this
     exact this.mono fun e w'' ⟨h1,h2⟩=>⟨h1,h2,h.trans (h2.mono h.size)⟩
    have HHO:Hid (∀ w4 w',Below wr.heap.size wr w4→Below w4.heap.size w4 w'→Calls Tryz.prog 36 #[.slice qs ms ds,.string s] w' fun e w''=>e=.returned (.bool (decide (x∈cs)))∧w'=w''):=fun w4 w' h4 h=>by
     have hh:=HBW.out.trans ((h4.trans (h.mono h4.size)).mono HBW.out.size)
     have:=rholds_any cs s qs ms ds w' HMS.out (HRS3.out.below hh) (by omega)
     rw [hs,holds_dec HSR.out.1,←hs] at this
     exact this
    have HLK:Hid (∀ w4 w',Below wr.heap.size wr w4→Below w4.heap.size w4 w'→Calls Tryz.prog 67 #[.agg #[.slice p n c],.agg #[.int .i64 xk,.string xb],.bool (decide (x∈cs))] w' fun e w''=>e=.returned (.bool X)∧Below w4.heap.size w4 w''):=fun w4 w' h4 h=>by
     have hh:=HB1W.out.trans ((h4.trans (h.mono h4.size)).mono HB1W.out.size)
     have:=linked_any l xk xb (decide (x∈cs)) p n c w' hok HN.out (HP.out.below hh) hn2 hsz
     rw [←hX] at this
     exact this.mono fun e w'' ⟨h1,h2⟩=>⟨h1,h.trans (h2.mono h.size)⟩
    have HSTE:=Lib.hid hst
    obtain ⟨D,hD⟩:∃ D,D=decide (x∈cs):=⟨_,rfl⟩
    rw [←hD] at HHO HLK
    clear hst hX hok hsz hE hXG hxh hs hx hg hD
    go_upto_region 8 with fail
    go_cut [11,12] from 31 to 39 (fun pv ev wx=>∃ O,pv=.pointer (some ⟨O,0,none⟩)∧Hid (wx.heap[O]?=some (.cells #[.int .i64 xk,.string xb] 29 (0,0)))∧Hid (Below wr.heap.size wr wx))
    case first =>
     have za:=fun ob=>cell_bel a0 (below_new (Below.refl wr.heap.size wr) ob)
     have zc:=fun ob=>cell_bel c0 (below_new (Below.refl wr.heap.size wr) ob)
     have zb:=fun ob=>cell_bel (w':=wr.drew.alloc ob) a0 (below_new (Below.refl wr.heap.size wr).drew ob)
     have zd:=fun ob=>cell_bel (w':=wr.drew.alloc ob) c0 (below_new (Below.refl wr.heap.size wr).drew ob)
     go_region_law (go_simp;go_at_call 21;((with_reducible refine (HRG2.out _ (by first|exact Below.refl _ _|exact (Below.refl _ _).drew|exact below_new (Below.refl _ _) _|exact (below_new (Below.refl _ _) _).drew|exact below_new (Below.refl _ _).drew _)).mono ?_);rintro e w5 ⟨rfl,hb5,hd5⟩;first
      | (have hy:=(hb5.block _ (by simp)).trans (heap_alloc_new wr (.cells #[.int .i64 0,.string ⟨#[]⟩] 29));obtain ⟨o0,o1,f0,f1⟩:=ob_at hy)
      | (have hy:=(hb5.block _ (by simp)).trans (heap_alloc_new wr.drew (.cells #[.int .i64 0,.string ⟨#[]⟩] 29));obtain ⟨o0,o1,f0,f1⟩:=ob_at hy)
      | skip))
     all_goals go_wp2_with fail
     all_goals go_meet
     all_goals first
      | exact ⟨_,rfl,heap_alloc_new _ _,below_new hd5 _⟩
      | exact ⟨_,rfl,ob_row hy,set2_below hd5 (Nat.le_refl _)⟩
    case rest =>
    obtain ⟨O1,rfl,HO1,HB4⟩:=hcut
    rename World=>w4
    replace a0:=cell_bel a0 HB4.out
    replace c0:=cell_bel c0 HB4.out
    obtain ⟨p0,p1,-,-⟩:=ob_at HO1.out
    have HHO4:=Lib.hid (fun w' h=>HHO.out w4 w' HB4.out h)
    have HLK4:=Lib.hid (fun w' h=>HLK.out w4 w' HB4.out h)
    have HBW4:=Lib.hid (HBW.out.trans (HB4.out.mono HBW.out.size))
    clear HRG2 HHO HLK HO1
    cases X with
    | true =>
     go_upto_region 9 with fail
     go_region_law (go_simp;first
      | (go_at_call 36;((with_reducible refine (HHO4.out _ (by first|exact Below.refl _ _|exact (Below.refl _ _).drew)).mono ?_);rintro e w6 ⟨rfl,rfl⟩))
      | (go_at_call 67;((with_reducible refine (HLK4.out _ (by first|exact Below.refl _ _|exact (Below.refl _ _).drew)).mono ?_);rintro e w7 ⟨rfl,hb7⟩)))
     all_goals go_wp2_with fail
     all_goals go_roundw
     all_goals first
      | (exact ⟨j+1,by omega,by go_num,by rw [HJ.out,HSTE.out];rfl,HBW4.out.trans (hb7.mono HBW4.out.size)⟩)
      | (simp [intOf];omega)
    | false =>
     go_upto_region 9 with fail
     go_region_law (go_simp;first
      | (go_at_call 36;((with_reducible refine (HHO4.out _ (by first|exact Below.refl _ _|exact (Below.refl _ _).drew)).mono ?_);rintro e w6 ⟨rfl,rfl⟩))
      | (go_at_call 67;((with_reducible refine (HLK4.out _ (by first|exact Below.refl _ _|exact (Below.refl _ _).drew)).mono ?_);rintro e w7 ⟨rfl,hb7⟩)))
     all_goals go_wp2_with fail
     all_goals go_ret
     all_goals exact ⟨by rw [HB0.out,Bool.true_and,HJ.out,HSTE.out];rfl,HBX.out.trans ((HB13.out.trans ((HBW4.out.trans (hb7.mono HBW4.out.size)).mono HB13.out.size)).mono HBX.out.size)⟩
   ·have q1:¬ (j:Int)<(n3:Int):=by omega
    have HE:Hid ((A.drop j).all (gdI l cs)=true):=by show _=_;rw [List.drop_eq_nil_of_le (by have:=HN3.out;omega)];rfl
    clear hlt
    go_wp2_with fail
    go_ret
    exact ⟨by rw [HB0.out,Bool.true_and,HJ.out,HE.out];rfl,HBX.out.trans (HB1W.out.mono HBX.out.size)⟩
 ·have g1:(0:Int)<(n4:Int):=by omega
  have HB0:Hid (decide (B=[])=false):=decide_eq_false fun e=>hz (by rw [HN4.out,e];rfl)
  clear hz
  go_wp2_with fail
  go_ret
  exact ⟨by rw [HB0.out];rfl,HBX.out.trans (HB13.out.mono HBX.out.size)⟩
end Go.Proofs.YtnoopcenogbjiaaGreatDoor
