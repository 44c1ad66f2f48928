/-
 The walk of the reference's one.
-/
import Derived.Test.YtnoopcenogbjiaaGreatDoorTrBodyPk
import Derived.Test.YtnoopcenogbjiaaGreatDoorTrModePk
import Derived.Test.YtnoopcenogbjiaaGreatDoorIdRHex
import Derived.Test.YtnoopcenogbjiaaGreatDoorTrValidPk
import Derived.Test.YtnoopcenogbjiaaGreatDoorOwBPk
set_option linter.unusedVariables false
set_option linter.unusedSimpArgs false
namespace Go.Proofs.YtnoopcenogbjiaaGreatDoor
open Go.RowKit
def OneR (R:Nat×En×List UInt8) (n:Nat) (w:World) (e:Ending) (w':World):Prop :=
 (∃ z:Int,e=.returned (.tuple #[.agg #[.int .i64 R.2.1.m,.string R.2.1.n,.string R.2.1.i],.int .i64 z,.int .i64 (R.1:Int)])∧(R.1=0→∃ k:Nat,z=(k:Int)∧k+R.2.2.length=n))∧Below w.heap.size w w'
theorem oneR_bad {R:Nat×En×List UInt8} {n:Nat} {w w':World} {c:Nat} (h:R=(c,En.zero,[])) (hc:c≠0) (hb:Below w.heap.size w w'):OneR R n w (.returned (.tuple #[.agg #[.int .i64 0,.string ⟨#[]⟩,.string ⟨#[]⟩],.int .i64 0,.int .i64 (c:Int)])) w':=by
 subst h
 exact ⟨⟨0,rfl,fun h=>absurd h hc⟩,hb⟩
theorem oneR_ok {R:Nat×En×List UInt8} {n k:Nat} {w w':World} {q:Int} {N I:ByteArray} {rest:List UInt8} (h:R=(0,⟨q,N,I⟩,rest)) (hk:k+rest.length=n) (hb:Below w.heap.size w w'):OneR R n w (.returned (.tuple #[.agg #[.int .i64 q,.string N,.string I],.int .i64 (k:Int),.int .i64 0])) w':=by
 subst h
 exact ⟨⟨_,rfl,fun _=>⟨k,rfl,hk⟩⟩,hb⟩
theorem modeT_no {l:List UInt8} (h:(modeT l).1=0):(modeT l).2=2∨(modeT l).2=3:=by
 unfold modeT at h ⊢
 split
 ·rename_i h1;rw [if_pos h1] at h;cases h
 rename_i h1
 rw [if_neg h1] at h
 split
 ·rename_i h2;rw [if_pos h2] at h;cases h
 rename_i h2
 rw [if_neg h2] at h
 split
 ·rename_i h3;rw [if_pos h3] at h;cases h
 rename_i h3
 rw [if_neg h3] at h
 split
 ·rename_i h4;rw [if_pos h4] at h;cases h
 exact errTo_le l 5
theorem shI_none {k:Nat} {x:Int} (h:x=-1):shI k x=-1:=by rw [h];rfl
theorem shI_some {k j:Nat}:shI k (j:Int)=((k+j:Nat):Int):=by
 unfold shI
 rw [if_neg (by omega)]
 omega
set_option maxHeartbeats 4000000 in
set_option maxRecDepth 4000 in
theorem rone_any (s:ByteArray) (w:World) (hs:s.size≤1048576) :
  Calls Tryz.prog 84 #[.string s] w (OneR (oneT s.data.toList) s.size w):=by
 obtain ⟨R,hR⟩:∃ R,R=oneT s.data.toList:=⟨_,rfl⟩
 rw [←hR]
 have hb1:Below w.heap.size w (w.alloc (.cells #[.int .i64 0,.string ⟨#[]⟩,.string ⟨#[]⟩] 107)):=below_new (Below.refl _ _) _
 have hr1:=heap_alloc_new w (.cells #[.int .i64 0,.string ⟨#[]⟩,.string ⟨#[]⟩] 107)
 obtain ⟨w1,hw1⟩:∃ w1,w1=w.alloc (.cells #[.int .i64 0,.string ⟨#[]⟩,.string ⟨#[]⟩] 107):=⟨_,rfl⟩
 rw [←hw1] at hb1 hr1
 have HM:=Lib.hid (fun w=>rmode_any s w (by omega))
 have HW1:=Lib.hid hw1
 have HB1:=Lib.hid hb1
 have HR1:=Lib.hid hr1
 have f0:=frozen_of_row w1 w.heap.size 0 _ _ hr1
 have f1:=frozen_of_row w1 w.heap.size 1 _ _ hr1
 have f2:=frozen_of_row w1 w.heap.size 2 _ _ hr1
 have y0:w1.cell? ⟨w.heap.size,0,none⟩=some (.int .i64 0):=cell_of_row w1 w.heap.size 0 _ _ _ hr1
 have y1:w1.cell? ⟨w.heap.size,1,none⟩=some (.string ⟨#[]⟩):=cell_of_row w1 w.heap.size 1 _ _ _ hr1
 have y2:w1.cell? ⟨w.heap.size,2,none⟩=some (.string ⟨#[]⟩):=cell_of_row w1 w.heap.size 2 _ _ _ hr1
 by_cases hm:(modeT s.data.toList).1=0
 ·have hno:=modeT_no hm
  have HX:Hid (R=((modeT s.data.toList).2,En.zero,[])):=by show _=_;rw [hR,oneT,if_pos hm]
  obtain ⟨d,hd⟩:∃ d,d=(modeT s.data.toList).2:=⟨_,rfl⟩
  have hM:rmodeT s.data.toList=if d=3 then -1 else 0:=by rw [hd];unfold rmodeT;rw [if_neg (by rw [hm];decide)]
  rw [←hd] at hno HX
  rw [hM] at HM
  clear hR hm hw1 hb1 hr1 hM hd
  rcases hno with h2|h3
  ·have HX2:Hid (R=(2,En.zero,[])):=by show _=_;rw [HX.out,h2]
   rw [if_neg (by omega)] at HM
   clear h2 HX
   go_enter Tryz.func84,Tryz.ntmps84
   go_upto_region 1 with fail
   rw [←HW1.out]
   go_wp2_with (go_at_call 115;((with_reducible refine (HM.out _).mono ?_);rintro x w2 ⟨rfl,rfl⟩))
   obtain ⟨d0,d1,d2⟩:=ent_end (v0:=.int .i64 0) (v1:=.string ⟨#[]⟩) (v2:=.string ⟨#[]⟩) HR1.out
   refine bodyPost_ret (v:=.tuple #[.agg #[.int .i64 0,.string ⟨#[]⟩,.string ⟨#[]⟩],.int .i64 0,.int .i64 2]) (by simp [results,Tryz.results84,go_sem,d0,d1,d2]) rfl (oneR_bad (c:=2) HX2.out (by decide) (set3_below HB1.out (Nat.le_refl _)))
  ·have HX2:Hid (R=(3,En.zero,[])):=by show _=_;rw [HX.out,h3]
   rw [if_pos h3] at HM
   clear h3 HX
   go_enter Tryz.func84,Tryz.ntmps84
   go_upto_region 1 with fail
   rw [←HW1.out]
   go_wp2_with (go_at_call 115;((with_reducible refine (HM.out _).mono ?_);rintro x w2 ⟨rfl,rfl⟩))
   obtain ⟨d0,d1,d2⟩:=ent_end (v0:=.int .i64 0) (v1:=.string ⟨#[]⟩) (v2:=.string ⟨#[]⟩) HR1.out
   refine bodyPost_ret (v:=.tuple #[.agg #[.int .i64 0,.string ⟨#[]⟩,.string ⟨#[]⟩],.int .i64 0,.int .i64 3]) (by simp [results,Tryz.results84,go_sem,d0,d1,d2]) rfl (oneR_bad (c:=3) HX2.out (by decide) (set3_below HB1.out (Nat.le_refl _)))
 ·obtain ⟨he0,hq1,hq4⟩:=modeT_yes hm
  obtain ⟨q,hq⟩:∃ q,q=(modeT s.data.toList).1:=⟨_,rfl⟩
  have hpf:Lib.hasPrefix s.data.toList (wordM q)=true:=by
   rw [hq]
   unfold modeT at hm ⊢
   split
   ·assumption
   rename_i h1
   rw [if_neg h1] at hm
   split
   ·assumption
   rename_i h2
   rw [if_neg h2] at hm
   split
   ·assumption
   rename_i h3
   rw [if_neg h3] at hm
   split
   ·assumption
   rename_i h4
   rw [if_neg h4] at hm
   exact absurd rfl hm
  obtain ⟨F,hF⟩:∃ F,F=(wordM q).length:=⟨_,rfl⟩
  have hFs:F≤s.size:=by have:=pre_lenT hpf;rw [list_len] at this;omega
  obtain ⟨r,hr⟩:∃ r,r=s.data.toList.drop F:=⟨_,rfl⟩
  have hrl:r.length+F=s.size:=by rw [hr,List.length_drop,list_len];omega
  have HX:Hid (R=restT q r (Lib.indexByte r 0)):=by show _=_;rw [hR,oneT,if_neg hm,←hq,←hF,←hr]
  have hM:rmodeT s.data.toList=(q:Int):=by unfold rmodeT;rw [if_pos hm,hq]
  rw [hM] at HM
  rw [←hq] at hq1 hq4
  have HD:Hid (∀ w,Calls Tryz.prog 116 #[.int .i64 (q:Int)] w fun e w'=>e=.returned (.string (str (wordM q)))∧w'=w):=fun w=>rdigitsT_any q w hq1 hq4
  obtain ⟨W,hW⟩:∃ W,W=str (wordM q):=⟨_,rfl⟩
  have hWs:W.size=F:=by rw [hW,str_size,hF]
  rw [←hW] at HD
  have HFI:Hid (∀ w,Calls Tryz.prog 117 #[.string s,.int .u8 0,.int .i64 (F:Int)] w fun e w'=>e=.returned (.int .i64 (shI F (Lib.indexByte r 0)))∧w'=w):=fun w=>by
   rw [hr]
   exact rfindF_any s 0 0 F w hFs rfl (by omega)
  have HRS:=Lib.hid hr
  have HF:=Lib.hid hF
  clear hR hm hw1 hb1 hr1 hM hq he0 hpf hF hr hW
  rcases idx_natT r 0 with h0|⟨k,h0,hk⟩
  ·rw [h0] at HFI HX
   rw [shI_none rfl] at HFI
   have HXE:Hid (R=(3,En.zero,[])):=by show _=_;rw [HX.out,restT,if_pos (.inl (by decide))]
   clear h0 HX hrl
   have HWS:=Lib.hid hWs
   clear hWs
   go_enter Tryz.func84,Tryz.ntmps84
   go_upto_region 1 with fail
   rw [←HW1.out]
   go_upto_region 7 with (first
    | (go_at_call 115;((with_reducible refine (HM.out _).mono ?_);rintro x w2 ⟨rfl,rfl⟩))
    | (go_at_call 116;((with_reducible refine (HD.out _).mono ?_);rintro x w3 ⟨rfl,rfl⟩)))
   rw [HWS.out]
   go_wp2_with (go_at_call 117;((with_reducible refine (HFI.out _).mono ?_);rintro x w4 ⟨rfl,rfl⟩))
   obtain ⟨d0,d1,d2⟩:=ent_end (v0:=.int .i64 0) (v1:=.string ⟨#[]⟩) (v2:=.string ⟨#[]⟩) HR1.out
   refine bodyPost_ret (v:=.tuple #[.agg #[.int .i64 0,.string ⟨#[]⟩,.string ⟨#[]⟩],.int .i64 0,.int .i64 3]) (by simp [results,Tryz.results84,go_sem,d0,d1,d2]) rfl (oneR_bad (c:=3) HXE.out (by decide) (set3_below HB1.out (Nat.le_refl _)))
  ·rw [h0] at HFI HX
   rw [shI_some] at HFI
   obtain ⟨T,hT⟩:∃ T,T=F+k:=⟨_,rfl⟩
   rw [←hT] at HFI
   have hTs:T<s.size:=by omega
   have HWS:=Lib.hid hWs
   clear h0 hWs
   by_cases hsh:r.length<k+21
   ·have HXE:Hid (R=(3,En.zero,[])):=by show _=_;rw [HX.out,restT,if_pos (.inr (by simp only [Int.toNat_natCast];omega))]
    have j2:(s.size:Int)-(T:Int)<21:=by omega
    have HT:=Lib.hid hT
    clear HX hk hsh hT hrl
    go_enter Tryz.func84,Tryz.ntmps84
    go_upto_region 1 with fail
    rw [←HW1.out]
    go_upto_region 7 with (first
     | (go_at_call 115;((with_reducible refine (HM.out _).mono ?_);rintro x w2 ⟨rfl,rfl⟩))
     | (go_at_call 116;((with_reducible refine (HD.out _).mono ?_);rintro x w3 ⟨rfl,rfl⟩)))
    rw [HWS.out]
    go_wp2_with (go_at_call 117;((with_reducible refine (HFI.out _).mono ?_);rintro x w4 ⟨rfl,rfl⟩))
    obtain ⟨d0,d1,d2⟩:=ent_end (v0:=.int .i64 0) (v1:=.string ⟨#[]⟩) (v2:=.string ⟨#[]⟩) HR1.out
    refine bodyPost_ret (v:=.tuple #[.agg #[.int .i64 0,.string ⟨#[]⟩,.string ⟨#[]⟩],.int .i64 0,.int .i64 3]) (by simp [results,Tryz.results84,go_sem,d0,d1,d2]) rfl (oneR_bad (c:=3) HXE.out (by decide) (set3_below HB1.out (Nat.le_refl _)))
   ·have j2:¬ (s.size:Int)-(T:Int)<21:=by omega
    obtain ⟨S,hS⟩:∃ S,S=T+1:=⟨_,rfl⟩
    obtain ⟨U,hU⟩:∃ U,U=T+21:=⟨_,rfl⟩
    obtain ⟨N,hN⟩:∃ N,N=s.extract F T:=⟨_,rfl⟩
    obtain ⟨RW,hRW⟩:∃ RW,RW=s.extract S U:=⟨_,rfl⟩
    obtain ⟨I,hI⟩:∃ I,I=str (hexL RW.data.toList):=⟨_,rfl⟩
    have hRWs:RW.size≤20:=by rw [hRW,ByteArray.size_extract];omega
    have HHX:Hid (∀ W,Calls Tryz.prog 82 #[.string RW] W fun e w'=>e=.returned (.string I)∧∃ y:BelW W,w'=y.w):=fun W =>
     (rhex_any RW W (by omega)).mono fun e w' ⟨he,hb⟩=>⟨by rw [he,hI],⟨w',hb⟩,rfl⟩
    have HXE:Hid (R=(0,⟨(q:Int),N,I⟩,r.drop (k+21))∧U+(r.drop (k+21)).length=s.size):=by
     refine ⟨?_,by rw [List.length_drop];omega⟩
     rw [HX.out,restT,if_neg (by simp only [Int.toNat_natCast];omega)]
     simp only [Int.toNat_natCast]
     have e1:str (r.take k)=N:=ba_ext (by rw [hN,str_list,HRS.out,ext_bytes,show T-F=k by omega])
     have e2:(r.drop (k+1)).take 20=RW.data.toList:=by rw [hRW,HRS.out,ext_bytes,List.drop_drop,show U-S=20 by omega,show F+(k+1)=S by omega]
     rw [e1,e2,←hI]
    have i1:IntKind.i64.wrap ((T:Int)+1)=(S:Int):=by rw [IntWalk.i64_in _ (by omega)];omega
    have i2:IntKind.i64.wrap ((T:Int)+21)=(U:Int):=by rw [IntWalk.i64_in _ (by omega)];omega
    have i3:(0:Int)≤(F:Int):=by omega
    have i4:(F:Int)≤(T:Int):=by omega
    have i5:(T:Int)≤(s.size:Int):=by omega
    have i6:(0:Int)≤(S:Int):=by omega
    have i7:(S:Int)≤(U:Int):=by omega
    have i8:(U:Int)≤(s.size:Int):=by omega
    have i9:F≤T:=by omega
    have i10:T≤s.size:=by omega
    have i11:S≤U:=by omega
    have i12:U≤s.size:=by omega
    have hN2:=hN.symm
    have hRW2:=hRW.symm
    clear HX hk hsh hT hrl hS hU hI hRWs hN hRW
    go_enter Tryz.func84,Tryz.ntmps84
    go_upto_region 1 with fail
    rw [←HW1.out]
    go_upto_region 7 with (first
     | (go_at_call 115;((with_reducible refine (HM.out _).mono ?_);rintro x w2 ⟨rfl,rfl⟩))
     | (go_at_call 116;((with_reducible refine (HD.out _).mono ?_);rintro x w3 ⟨rfl,rfl⟩)))
    rw [HWS.out]
    go_upto_region 10 with (go_at_call 117;((with_reducible refine (HFI.out _).mono ?_);rintro x w4 ⟨rfl,rfl⟩))
    have hry:∀ y:BelW w4.drew,y.w.heap[w.heap.size]?=some (.cells #[.int .i64 0,.string ⟨#[]⟩,.string ⟨#[]⟩] 107 (0,0)):=fun y=>(y.h.block w.heap.size (row_lt HR1.out)).trans HR1.out
    have s0:∀ y:BelW w4.drew,y.w.cell? ⟨w.heap.size,0,none⟩=some (.int .i64 0):=fun y=>cell_of_row y.w w.heap.size 0 _ _ _ (hry y)
    have s1:∀ y:BelW w4.drew,y.w.cell? ⟨w.heap.size,1,none⟩=some (.string ⟨#[]⟩):=fun y=>cell_of_row y.w w.heap.size 1 _ _ _ (hry y)
    have s2:∀ y:BelW w4.drew,y.w.cell? ⟨w.heap.size,2,none⟩=some (.string ⟨#[]⟩):=fun y=>cell_of_row y.w w.heap.size 2 _ _ _ (hry y)
    have t0:∀ y:BelW w4.drew,y.w.frozen? ⟨w.heap.size,0,none⟩=false:=fun y=>frozen_of_row y.w w.heap.size 0 _ _ (hry y)
    have t1:∀ y:BelW w4.drew,y.w.frozen? ⟨w.heap.size,1,none⟩=false:=fun y=>frozen_of_row y.w w.heap.size 1 _ _ (hry y)
    have t2:∀ y:BelW w4.drew,y.w.frozen? ⟨w.heap.size,2,none⟩=false:=fun y=>frozen_of_row y.w w.heap.size 2 _ _ (hry y)
    have HRY:=Lib.hid hry
    clear hry
    go_region_with (go_at_call 82;((with_reducible refine (HHX.out _).mono ?_);rintro e _ ⟨rfl,y,rfl⟩))
    all_goals go_wp2_with fail
    obtain ⟨d0,d1,d2⟩:=ent_end (v0:=.int .i64 (q:Int)) (v1:=.string N) (v2:=.string I) (HRY.out y)
    refine bodyPost_ret (v:=.tuple #[.agg #[.int .i64 (q:Int),.string N,.string I],.int .i64 (U:Int),.int .i64 0]) (by simp [results,Tryz.results84,go_sem,d0,d1,d2]) rfl (oneR_ok HXE.out.1 HXE.out.2 (set3_below (HB1.out.drew.trans (y.h.mono (show w.heap.size≤w4.drew.heap.size from HB1.out.size))) (Nat.le_refl _)))
theorem Tryz.infoEn:(Tryz.prog.info? 107).map (fun i=>(i.zero,i.size,i.bytes))=some (some (.agg #[.int .i64 0,.string ⟨#[]⟩,.string ⟨#[]⟩]),3,40):=by kernel_rfl
def ncells (l:List En):List Value:=l.flatMap En.cells
theorem ncells_append (a b:List En):ncells (a++b)=ncells a++ncells b:=by simp [ncells]
theorem ncells_one (l:List En):∀ u∈ncells l,u.oneCell'=true:=by
 intro u hu
 simp only [ncells,List.mem_flatMap,En.cells,List.mem_cons,List.not_mem_nil,or_false] at hu
 obtain ⟨e,_,rfl|rfl|rfl⟩:=hu<;>rfl
theorem ncells_at:∀ (l:List En) (k c:Nat) (hk:k<l.length),c<3→(ncells l)[k*3+c]?=(En.cells l[k])[c]?
 | e::l,0,c,_,hc=>by
  simp only [ncells,List.flatMap_cons,Nat.zero_mul,Nat.zero_add,List.getElem_cons_zero]
  rw [List.getElem?_append_left (by simp [En.cells];omega)]
 | e::l,k+1,c,hk,hc=>by
  have ih:=ncells_at l k c (by simpa using hk) hc
  simp only [ncells,List.flatMap_cons,List.getElem_cons_succ] at ih ⊢
  rw [List.getElem?_append_right (by simp [En.cells];omega),←ih]
  congr 1
  simp [En.cells]
  omega
def NOw (w:World) (base:Nat) (v:Value) (l:List En):Prop:=w.ownsRow base 107 3 v l.length (ncells l)
theorem NOw.nil (w:World) (base:Nat):NOw w base (.slice none 0 0) []:=World.ownsRow_nil w base 107 3
theorem NOw.below {w w':World} {base:Nat} {v:Value} {l:List En} (h:NOw w base v l) (hb:Below w.heap.size w w'):NOw w' base v l:=own_below h hb
theorem NOw.rw {w:World} {base:Nat} {v:Value} {l:List En} (h:NOw w base v l):∃ p cap,v=.slice p l.length cap∧l.length≤cap∧NRw w p l:=by
 have h':w.ownsRow base 107 3 v l.length (ncells l):=h
 rcases h'.2 with ⟨rfl,hx⟩|⟨g,cap,cur,rfl,_,hg,hc,_⟩
 ·have h0:l=[]:=by
   cases l with
   | nil=>rfl
   | cons a r=>simp [ncells,En.cells] at hx
  subst h0
  exact ⟨none,0,rfl,Nat.le_refl _,NRw.nil _ _⟩
 ·refine ⟨_,cap,rfl,hc,fun k hk=>?_⟩
  have at' (c:Nat) (hc:c<3):w.cell? ⟨g,0+k*3+c,none⟩=(En.cells l[k])[c]?:=by
   rw [Nat.zero_add,World.ownsRow.cellAt h' (k*3+c) (by omega),ncells_at l k c hk hc]
  exact ⟨g,0,rfl,(Array.getElem?_eq_some_iff.mp hg).1,at' 0 (by decide),at' 1 (by decide),at' 2 (by decide)⟩
theorem new_en (w:World) (e:En) (j:Nat) (u:Value) (hj:(En.cells e)[j]?=some u):(w.alloc (.cells #[.int .i64 e.m,.string e.n,.string e.i] 107)).cell? ((⟨w.heap.size,0,none⟩:Addr).add j)=some u:=by
 rw [Addr.add_lit,Nat.zero_add]
 refine (World.cell?_alloc_mark w #[.int .i64 e.m,.string e.n,.string e.i] 107 (0,0) j).trans ?_
 rw [←hj]
 simp [En.cells]
theorem wp_no_one {ops:Array Oper} {rest:List Oper} {o:Oper} {a:Act} {Q:Exit→Act→World→Prop} {w:World} (hgd:o.guard=none) (sl x:Operand)
  (ho:o.op=.call { callee:=.builtin .append,args:=#[sl,x],argTypes:=#[74,74] })
  {base:Nat} {v:Value} {l:List En} (hs:a.eval sl=v) (hown:NOw w base v l) (e:En) (m:Int) (nm id:ByteArray) (he:e=⟨m,nm,id⟩) (hx:a.eval x=.slice (some ⟨w.heap.size,0,none⟩) 1 1) (hb:l.length+1≤1048576) (hbase:base≤w.heap.size)
  (h:∀ v' w',NOw w' base v' (l++[e])→(w.alloc (.cells #[.int .i64 m,.string nm,.string id] 107)).grownBy w' v.ownBlock→wpList Tryz.prog ops Q rest (a.put o.dst v') w'):wpList Tryz.prog ops Q (o::rest) a (w.alloc (.cells #[.int .i64 m,.string nm,.string id] 107)):=by
 obtain ⟨i0,hi,hz0,hz1,hz2⟩:=info_parts Tryz.infoEn
 subst he
 have hown2:w.ownsRow base 107 3 v l.length (ncells l):=hown
 exact wpList_append_own _ hgd sl x 74 ho base 107 i0 (.agg #[.int .i64 0,.string ⟨#[]⟩,.string ⟨#[]⟩]) 3 40 Tryz.underlying74 hi hz0 hz1 hz2 rfl (by decide) v l.length (ncells l) hs (hown2.alloc _) ⟨w.heap.size,0,none⟩ 1 1 (En.cells ⟨m,nm,id⟩) hx rfl (fun j u hj=>new_en w ⟨m,nm,id⟩ j u hj) (fun u hu=>ncells_one [⟨m,nm,id⟩] u (by simpa [ncells] using hu)) (by unfold maxLen;omega) (by omega) (by simp;omega)
  (fun v' w' h1 h2 _=>h v' w' (by
   unfold NOw
   rw [ncells_append,List.length_append]
   simpa [ncells] using h1) h2)
theorem NOw.bel1 {B base:Nat} {w0 w w':World} {v:Value} {l:List En} {o:Obj} (h:NOw w base v l) (hb:Below B w0 w) (hB:B≤base) (hs:B≤w.heap.size) (hg:(w.alloc o).grownBy w' v.ownBlock):Below B w0 w' :=
 app_step hb h hg hB hs
theorem BSl.back {w w':World} {b:Nat} {v:Value} {l:List UInt8} (h:BSl w' b v l) (hb:Below w.heap.size w w') (hl:b<w.heap.size):BSl w b v l:=by
 obtain ⟨o,c,hv,hc,_,hx⟩:=h
 exact ⟨o,c,hv,hc,hl,fun k hk=>(hb.cell (p:=⟨b,o+k,none⟩) hl).symm.trans (hx k hk)⟩
theorem oneT_len {l:List UInt8} (h:(oneT l).1=0):(oneT l).2.2.length+21≤l.length∧(oneT l).2.1.n.size≤l.length∧(oneT l).2.1.i.size≤40:=by
 unfold oneT restT at h ⊢
 split at h
 ·rename_i h0
  exact absurd h (by
   have:(modeT l).2≠0:=by
    intro e
    unfold modeT at h0 e
    repeat' split at h0
    all_goals try cases h0
    simp_all
    have:=errTo_le l 5
    omega
   exact this)
 ·rename_i h0
  rw [if_neg h0]
  split at h
  ·cases h
  ·rename_i h1
   rw [if_neg h1]
   simp only [List.length_drop,str_size,List.length_take,hexL_len]
   rw [List.length_drop] at h1
   omega
theorem parFrom_nil (es:List En):parFrom [] es=if chkT es=0 then (0,es) else (chkT es,[]):=by rw [parFrom,if_pos rfl]
theorem parFrom_bad {l:List UInt8} {es:List En} (h:l≠[]) (h0:(oneT l).1≠0):parFrom l es=((oneT l).1,[]):=by rw [parFrom,if_neg h,if_pos h0]
theorem parFrom_step {l:List UInt8} {es:List En} (h:l≠[]) (h0:(oneT l).1=0):parFrom l es=parFrom (oneT l).2.2 (es++[(oneT l).2.1]):=by
 rw [parFrom,if_neg h,if_neg (by rw [h0];decide),if_pos (by have:=oneT_len h0;omega)]
def slnT:Value→Nat
 | .slice _ n _=>n
 | _=>0
def ParT (R:Nat×List En) (w:World) (e:Ending) (w':World):Prop:=(∃ v,e=.returned (.tuple #[v,.int .i64 (R.1:Int)])∧∃ p c,v=.slice p R.2.length c∧R.2.length≤c∧NRw w' p R.2)∧Below w.heap.size w w'
theorem parT_bad {R:Nat×List En} {w w':World} {c:Nat} (h:R=(c,[])) (hb:Below w.heap.size w w'):ParT R w (.returned (.tuple #[.slice none 0 0,.int .i64 (c:Int)])) w':=by
 subst h
 exact ⟨⟨_,rfl,none,0,rfl,Nat.le_refl _,NRw.nil _ _⟩,hb⟩
theorem parT_ok {R:Nat×List En} {w w':World} {es:List En} {base:Nat} {v:Value} (h:R=(0,es)) (hv:NOw w' base v es) (hb:Below w.heap.size w w'):ParT R w (.returned (.tuple #[v,.int .i64 0])) w':=by
 subst h
 obtain ⟨p,cap,rfl,hc,hr⟩:=hv.rw
 exact ⟨⟨_,rfl,p,cap,rfl,hc,hr⟩,hb⟩
set_option maxHeartbeats 4000000 in
set_option maxRecDepth 4000 in
theorem tparse_any (s:ByteArray) (w:World) (hT:TrTab w) (hs:s.size≤1048576) :
  Calls Tryz.prog 131 #[.string s] w (ParT (parE s.data.toList) w):=by
 obtain ⟨R,hR⟩:∃ R,R=parE s.data.toList:=⟨_,rfl⟩
 rw [←hR]
 have HR0:Hid (R=parFrom s.data.toList []):=hR
 obtain ⟨cap,w1,hcv,hcap,hb1,hbs1,hcx⟩:=to_bytes s w (by omega)
 have HBS:Hid (BSl w1 w.heap.size (.slice (some ⟨w.heap.size,0,none⟩) s.size cap) s.data.toList):=⟨0,cap,by rw [list_len],by rw [list_len];exact hcap,hbs1,fun k hk=>by rw [Nat.zero_add];exact hcx k hk⟩
 have HB1:=Lib.hid hb1
 have HT1:=Lib.hid (hT.below hb1)
 have hsl:s.data.toList.length≤1048576:=by rw [list_len];exact hs
 obtain ⟨L,hL⟩:∃ L,L=s.data.toList:=⟨_,rfl⟩
 rw [←hL] at HR0 HBS hsl
 obtain ⟨B,hB⟩:∃ B,B=w.heap.size:=⟨_,rfl⟩
 rw [←hB] at HBS hbs1
 have HBW:=Lib.hid hB
 have HLS:Hid (s.size=L.length):=by show _=_;rw [hL,list_len]
 clear hR hb1 hcx hT hL hB
 go_enter Tryz.func131,Tryz.ntmps131
 go_wp2_with fail
 rw [←HBW.out]
 go_loopw [5,4] (fun rv lv wr=>∃ (o n c:Nat) (r:List UInt8) (es:List En),rv=.slice (some ⟨B,o,none⟩) n c∧Hid (n=r.length)∧n+21*es.length≤1048576∧Hid (BSl w1 B rv r)∧Hid (NOw wr w1.heap.size lv es)∧Hid (R=parFrom r es)∧Hid (∀ e∈es,e.n.size≤1048576∧e.i.size≤40)∧Hid (Below w1.heap.size w1 wr)) (fun rv _ _=>slnT rv)
 case atStart=>exact ⟨0,s.size,cap,L,[],rfl,HLS.out,by simpa using hs,HBS.out,NOw.nil _ _,HR0.out,fun e he=>by simp at he,Below.refl _ _⟩
 case round =>
  clear HBS HR0
  obtain ⟨o,n,c,r,es,rfl,HN,hlen,HRV,HLV,HR,HSZ,HB⟩:=hrel
  have HBw:=Lib.hid (HB1.out.trans (HB.out.mono HB1.out.size))
  have hws:=HB.out.size
  by_cases hn0:0<n
  ·have hrn:r≠[]:=by
    intro h
    have:=HN.out
    rw [h] at this
    simp at this
    omega
   have HTK:=Lib.hid (take_any r B _ wr (HRV.out.below HB.out) (HT1.out.below HB.out) (by rw [←HN.out];omega))
   by_cases he:(oneT r).1=0
   ·obtain ⟨e,hee⟩:∃ e,e=(oneT r).2.1:=⟨_,rfl⟩
    obtain ⟨r2,hr2⟩:∃ r2,r2=(oneT r).2.2:=⟨_,rfl⟩
    have hol:=oneT_len he
    rw [←hee,←hr2] at hol
    have HX:Hid (R=parFrom r2 (es++[e])):=by show _=_;rw [HR.out,parFrom_step hrn he,←hee,←hr2]
    have HTK2:Hid (Calls Tryz.prog 162 #[.slice (some ⟨B,o,none⟩) n c] wr fun x w'=>(∃ o2 n2 c2,x=.returned (.tuple #[.agg #[.int .i64 e.m,.string e.n,.string e.i],.slice (some ⟨B,o2,none⟩) n2 c2,.int .i64 0])∧Hid (n2=r2.length)∧Hid (BSl w' B (.slice (some ⟨B,o2,none⟩) n2 c2) r2))∧Below wr.heap.size wr w') :=
     HTK.out.mono fun x w' ⟨⟨v,hx,hv⟩,hb⟩=>by
      have h:=hv he
      rw [←hr2] at h
      have h':=h
      obtain ⟨o2,c2,rfl,_⟩:=h
      exact ⟨⟨o2,r2.length,c2,by rw [hx,he,←hee];rfl,rfl,h'⟩,hb⟩
    have hrl2:r2.length+21≤n:=by rw [HN.out];exact hol.1
    have HSZ2:Hid (∀ x∈es++[e],x.n.size≤1048576∧x.i.size≤40):=fun x hx=>by
     rw [List.mem_append,List.mem_singleton] at hx
     rcases hx with hx|rfl
     ·exact HSZ.out x hx
     ·exact ⟨by have:=HN.out;omega,hol.2.2⟩
    clear HTK hrn he hee hr2 hol HR HSZ
    go_upto_region 7 with (go_at_call 162;((with_reducible refine HTK2.out.mono ?_);rintro x w3 ⟨⟨o2,n2,c2,rfl,HN2,HV2⟩,hb3⟩;have hbs3:=hb3.size))
    obtain ⟨wb,hwb⟩:∃ wb,wb=w3.alloc (.cells #[.int .i64 e.m,.string e.n,.string e.i] 107):=⟨_,rfl⟩
    obtain ⟨E,hE⟩:∃ E,E=w3.heap.size:=⟨_,rfl⟩
    have hbb:Below w3.heap.size w3 wb:=by rw [hwb];exact below_new (Below.refl _ _) _
    have hrow:wb.heap[E]?=some (.cells #[.int .i64 e.m,.string e.n,.string e.i] 107 (0,0)):=by rw [hwb,hE];exact heap_alloc_new _ _
    have e0:wb.cell? ⟨E,0,none⟩=some (.int .i64 e.m):=cell_of_row wb _ 0 _ _ _ hrow
    have e1:wb.cell? ⟨E,1,none⟩=some (.string e.n):=cell_of_row wb _ 1 _ _ _ hrow
    have e2:wb.cell? ⟨E,2,none⟩=some (.string e.i):=cell_of_row wb _ 2 _ _ _ hrow
    have HB3:=Lib.hid (HB.out.trans (hb3.mono HB.out.size))
    have HBb:=Lib.hid (HB3.out.trans (hbb.mono HB3.out.size))
    have HV3:=Lib.hid (HV2.out.back HB3.out hbs1)
    have ho4:=(HLV.out.below hb3).below hbb
    have hsb:=HBb.out.size
    rw [←hwb,←hE]
    clear hwb hE hbb hrow hb3 HV2 HLV HB3 HB
    go_upto_region 8 with (at_builtin;refine wp_no_one rfl _ _ rfl rfl ho4 e _ _ _ rfl rfl (by omega) hsb ?_;intro v4 w4 ho5 hg4)
    have HB4:=Lib.hid (ho4.bel1 HBb.out (Nat.le_refl _) hsb hg4)
    have HO5:=Lib.hid ho5
    have hl5:n2+21*(es++[e]).length≤1048576:=by rw [List.length_append,List.length_singleton,HN2.out];omega
    have hn2:n2<n:=by rw [HN2.out];omega
    clear hg4 ho5 ho4 e0 e1 e2
    go_wp2_with fail
    go_roundw
    case rel=>exact ⟨o2,n2,c2,r2,es++[e],rfl,HN2.out,hl5,HV3.out,HO5.out,HX.out,HSZ2.out,HB4.out⟩
    case measure=>simp [slnT];omega
   ·obtain ⟨d,hd⟩:∃ d,d=(oneT r).1:=⟨_,rfl⟩
    have HX:Hid (R=(d,[])):=by show _=_;rw [HR.out,parFrom_bad hrn he,←hd]
    rw [←hd] at he
    have hdb:((d:Int) != 0)=true:=by simp;omega
    have HTK2:Hid (Calls Tryz.prog 162 #[.slice (some ⟨B,o,none⟩) n c] wr fun x w'=>(∃ m N I v2,x=.returned (.tuple #[.agg #[.int .i64 m,.string N,.string I],v2,.int .i64 (d:Int)]))∧Below wr.heap.size wr w') :=
     HTK.out.mono fun x w' ⟨⟨v,hx,_⟩,hb⟩=>⟨⟨(oneT r).2.1.m,(oneT r).2.1.n,(oneT r).2.1.i,v,by rw [hx,hd]⟩,hb⟩
    clear HTK hrn he hd HR HSZ HLV HRV
    go_wp2_with (go_at_call 162;((with_reducible refine HTK2.out.mono ?_);rintro x w3 ⟨⟨m,N,I,v2,rfl⟩,hb3⟩;have hbs3:=hb3.size))
    go_ret2
    exact parT_bad HX.out (below_new (HBw.out.trans (hb3.mono HBw.out.size)) _)
  ·have hr0:r=[]:=by
    have:=HN.out
    cases r with
    | nil=>rfl
    | cons a l=>simp at this;omega
   have HR2:Hid (R=if chkT es=0 then (0,es) else (chkT es,[])):=by show _=_;rw [HR.out,hr0,parFrom_nil]
   obtain ⟨p,cp,rfl,hcp,hrw⟩:=HLV.out.rw
   obtain ⟨N,hN⟩:∃ N,N=es.length:=⟨_,rfl⟩
   have HCK:=Lib.hid (tcheck_any es p cp N wr hN hrw (HT1.out.below HB.out) (fun _ e he=>by have:=HSZ.out e he;omega) (by omega))
   obtain ⟨C,hC⟩:∃ C,C=chkT es:=⟨_,rfl⟩
   rw [←hC] at HCK HR2
   rw [←hN] at HLV hcp ⊢
   have HNN:=Lib.hid hN
   by_cases h0:C=0
   ·have HX:Hid (R=(0,es)):=by show _=_;rw [HR2.out,if_pos h0]
    have hcb:((C:Int) != 0)=false:=by simp [h0]
    clear hr0 hrw hN hC h0 HR HR2 HSZ HRV
    go_wp2_with (go_at_call 163;((with_reducible refine HCK.out.mono ?_);rintro x w3 ⟨rfl,hb3⟩))
    go_ret2
    exact parT_ok HX.out (HLV.out.below hb3) (HBw.out.trans (hb3.mono HBw.out.size))
   ·have HX:Hid (R=(C,[])):=by show _=_;rw [HR2.out,if_neg h0]
    have hcb:((C:Int) != 0)=true:=by simp;omega
    clear hr0 hrw hN hC h0 HR HR2 HSZ HRV
    go_wp2_with (go_at_call 163;((with_reducible refine HCK.out.mono ?_);rintro x w3 ⟨rfl,hb3⟩))
    go_ret2
    exact parT_bad HX.out (HBw.out.trans (hb3.mono HBw.out.size))
theorem str_none {s:ByteArray} (h:s.size=0):s.toList.isEmpty=true∧(s.toList==[])=true:=by
 rw [ByteArray.toList_eq]
 have:s.data.toList=[]:=List.eq_nil_of_length_eq_zero (by rw [list_len];exact h)
 rw [this]
 exact ⟨rfl,rfl⟩
theorem str_some {s:ByteArray} (h:0<s.size):s.toList.isEmpty=false∧(s.toList==[])=false:=by
 rw [ByteArray.toList_eq]
 cases hx:s.data.toList with
 | nil=>have:=list_len s;rw [hx] at this;simp at this;omega
 | cons a l=>exact ⟨rfl,rfl⟩
theorem oneT_rest {l:List UInt8} (h:(oneT l).1=0):(oneT l).2.2=l.drop (l.length-(oneT l).2.2.length):=by
 unfold oneT restT at h ⊢
 split at h
 ·rename_i h0
  rcases modeT_no h0 with e|e
  ·exact absurd (h.symm.trans e) (by decide)
  ·exact absurd (h.symm.trans e) (by decide)
 ·rename_i h0
  rw [if_neg h0]
  split at h
  ·cases h
  ·rename_i h1
   rw [if_neg h1]
   simp only [List.length_drop,List.drop_drop]
   rw [List.length_drop] at h1
   congr 1
   omega
set_option maxHeartbeats 4000000 in
set_option maxRecDepth 4000 in
theorem trparse_any (s:ByteArray) (w:World) (hs:s.size≤1048576) :
  Calls Tryz.prog 50 #[.string s] w (ParT (parE s.data.toList) w):=by
 obtain ⟨R,hR⟩:∃ R,R=parE s.data.toList:=⟨_,rfl⟩
 rw [←hR]
 have HR0:Hid (R=parFrom s.data.toList []):=hR
 clear hR
 go_enter Tryz.func50,Tryz.ntmps50
 go_wp2_with fail
 go_loopw [0,4] (fun sv lv wr=>∃ (r:ByteArray) (es:List En),sv=.string r∧r.size+21*es.length≤1048576∧Hid (NOw wr w.heap.size lv es)∧Hid (R=parFrom r.data.toList es)∧Hid (∀ e∈es,e.n.size≤1048576∧e.i.size≤40)∧Hid (Below w.heap.size w wr)) (fun sv _ _=>match sv with|.string r=>r.size|_=>0)
 case atStart=>exact ⟨s,[],rfl,by simpa using hs,NOw.nil _ _,HR0.out,fun e he=>by simp at he,Below.refl _ _⟩
 case round =>
  clear HR0
  obtain ⟨r,es,rfl,hlen,HLV,HR,HSZ,HB⟩:=hrel
  have hws:=HB.out.size
  by_cases hn0:0<r.size
  ·obtain ⟨z1,z2⟩:=str_some hn0
   have hrn:r.data.toList≠[]:=by
    intro h
    have:=list_len r
    rw [h] at this
    simp at this
    omega
   have HTK:=Lib.hid (rone_any r wr (by omega))
   by_cases he:(oneT r.data.toList).1=0
   ·obtain ⟨e,hee⟩:∃ e,e=(oneT r.data.toList).2.1:=⟨_,rfl⟩
    obtain ⟨r2,hr2⟩:∃ r2,r2=(oneT r.data.toList).2.2:=⟨_,rfl⟩
    have hol:=oneT_len he
    have hrest:=oneT_rest he
    rw [←hee,←hr2,list_len] at hol
    rw [←hr2,list_len] at hrest
    obtain ⟨k,hk⟩:∃ k,k=r.size-r2.length:=⟨_,rfl⟩
    have HX:Hid (R=parFrom (r.extract k r.size).data.toList (es++[e])):=by
     show _=_
     rw [HR.out,parFrom_step hrn he,←hee,←hr2,ext_bytes,List.take_of_length_le (by rw [List.length_drop,list_len];exact Nat.le_refl _),hk,←hrest]
    have HTK2:Hid (Calls Tryz.prog 84 #[.string r] wr fun x w'=>x=.returned (.tuple #[.agg #[.int .i64 e.m,.string e.n,.string e.i],.int .i64 (k:Int),.int .i64 0])∧Below wr.heap.size wr w') :=
     HTK.out.mono fun x w' ⟨⟨z,hx,hv⟩,hb⟩=>by
      obtain ⟨k2,hz,hk2⟩:=hv he
      rw [←hr2] at hk2
      have hkk:k2=k:=(Nat.eq_sub_of_add_eq hk2).trans hk.symm
      rw [hkk] at hz
      exact ⟨by rw [hx,he,hz,←hee];rfl,hb⟩
    have hkr:k≤r.size:=by omega
    have hk0:(0:Int)≤(k:Int):=by omega
    have hk1:(k:Int)≤(r.size:Int):=by omega
    have HSZ2:Hid (∀ x∈es++[e],x.n.size≤1048576∧x.i.size≤40):=fun x hx=>by
     rw [List.mem_append,List.mem_singleton] at hx
     rcases hx with hx|rfl
     ·exact HSZ.out x hx
     ·exact ⟨by omega,hol.2.2⟩
    have hsz2:(r.extract k r.size).size+21≤r.size:=by rw [ByteArray.size_extract];omega
    have HK:=Lib.hid hk
    clear HTK hrn he hee hr2 hol hrest HR HSZ hk
    go_upto_region 6 with (go_at_call 84;((with_reducible refine HTK2.out.mono ?_);rintro x w3 ⟨rfl,hb3⟩;have hbs3:=hb3.size))
    obtain ⟨wb,hwb⟩:∃ wb,wb=w3.alloc (.cells #[.int .i64 e.m,.string e.n,.string e.i] 107):=⟨_,rfl⟩
    obtain ⟨E,hE⟩:∃ E,E=w3.heap.size:=⟨_,rfl⟩
    have hbb:Below w3.heap.size w3 wb:=by rw [hwb];exact below_new (Below.refl _ _) _
    have hrow:wb.heap[E]?=some (.cells #[.int .i64 e.m,.string e.n,.string e.i] 107 (0,0)):=by rw [hwb,hE];exact heap_alloc_new _ _
    have e0:wb.cell? ⟨E,0,none⟩=some (.int .i64 e.m):=cell_of_row wb _ 0 _ _ _ hrow
    have e1:wb.cell? ⟨E,1,none⟩=some (.string e.n):=cell_of_row wb _ 1 _ _ _ hrow
    have e2:wb.cell? ⟨E,2,none⟩=some (.string e.i):=cell_of_row wb _ 2 _ _ _ hrow
    have HB3:=Lib.hid (HB.out.trans (hb3.mono HB.out.size))
    have HBb:=Lib.hid (HB3.out.trans (hbb.mono HB3.out.size))
    have ho4:=(HLV.out.below hb3).below hbb
    have hsb:=HBb.out.size
    rw [←hwb,←hE]
    clear hwb hE hbb hrow hb3 HLV HB3 HB
    go_upto_region 7 with (at_builtin;refine wp_no_one rfl _ _ rfl rfl ho4 e _ _ _ rfl rfl (by omega) hsb ?_;intro v4 w4 ho5 hg4)
    have HB4:=Lib.hid (ho4.bel1 HBb.out (Nat.le_refl _) hsb hg4)
    have HO5:=Lib.hid ho5
    have hl5:(r.extract k r.size).size+21*(es++[e]).length≤1048576:=by rw [List.length_append,List.length_singleton];omega
    clear hg4 ho5 ho4 e0 e1 e2
    go_wp2_with fail
    go_roundw
    case rel=>exact ⟨r.extract k r.size,es++[e],rfl,hl5,HO5.out,HX.out,HSZ2.out,HB4.out⟩
    case measure=>simp only [Array.getD];show (r.extract k r.size).size<r.size;omega
   ·obtain ⟨d,hd⟩:∃ d,d=(oneT r.data.toList).1:=⟨_,rfl⟩
    have HX:Hid (R=(d,[])):=by show _=_;rw [HR.out,parFrom_bad hrn he,←hd]
    rw [←hd] at he
    have hdb:((d:Int) != 0)=true:=by simp;omega
    have HTK2:Hid (Calls Tryz.prog 84 #[.string r] wr fun x w'=>(∃ m N I z,x=.returned (.tuple #[.agg #[.int .i64 m,.string N,.string I],.int .i64 z,.int .i64 (d:Int)]))∧Below wr.heap.size wr w') :=
     HTK.out.mono fun x w' ⟨⟨z,hx,_⟩,hb⟩=>⟨⟨(oneT r.data.toList).2.1.m,(oneT r.data.toList).2.1.n,(oneT r.data.toList).2.1.i,z,by rw [hx,hd]⟩,hb⟩
    clear HTK hrn he hd HR HSZ HLV
    go_wp2_with (go_at_call 84;((with_reducible refine HTK2.out.mono ?_);rintro x w3 ⟨⟨m,N,I,z,rfl⟩,hb3⟩;have hbs3:=hb3.size))
    go_ret2
    exact parT_bad HX.out (below_new (HB.out.trans (hb3.mono HB.out.size)) _)
  ·obtain ⟨z1,z2⟩:=str_none (s:=r) (by omega)
   have hr0:r.data.toList=[]:=List.eq_nil_of_length_eq_zero (by rw [list_len];omega)
   have HR2:Hid (R=if chkT es=0 then (0,es) else (chkT es,[])):=by show _=_;rw [HR.out,hr0,parFrom_nil]
   obtain ⟨p,cp,rfl,hcp,hrw⟩:=HLV.out.rw
   obtain ⟨N,hN⟩:∃ N,N=es.length:=⟨_,rfl⟩
   have HCK:=Lib.hid (trcheck_any es p cp N wr hN hrw (fun _ e he=>by have:=HSZ.out e he;omega) (by omega))
   obtain ⟨C,hC⟩:∃ C,C=chkT es:=⟨_,rfl⟩
   rw [←hC] at HCK HR2
   rw [←hN] at HLV hcp ⊢
   have HNN:=Lib.hid hN
   by_cases h0:C=0
   ·have HX:Hid (R=(0,es)):=by show _=_;rw [HR2.out,if_pos h0]
    have hcb:((C:Int) != 0)=false:=by simp [h0]
    clear hr0 hrw hN hC h0 HR HR2 HSZ
    go_wp2_with (go_at_call 85;((with_reducible refine HCK.out.mono ?_);rintro x w3 ⟨rfl,hb3⟩))
    go_ret2
    exact parT_ok HX.out (HLV.out.below hb3) (HB.out.trans (hb3.mono HB.out.size))
   ·have HX:Hid (R=(C,[])):=by show _=_;rw [HR2.out,if_neg h0]
    have hcb:((C:Int) != 0)=true:=by simp;omega
    clear hr0 hrw hN hC h0 HR HR2 HSZ
    go_wp2_with (go_at_call 85;((with_reducible refine HCK.out.mono ?_);rintro x w3 ⟨rfl,hb3⟩))
    go_ret2
    exact parT_bad HX.out (HB.out.trans (hb3.mono HB.out.size))
end Go.Proofs.YtnoopcenogbjiaaGreatDoor
