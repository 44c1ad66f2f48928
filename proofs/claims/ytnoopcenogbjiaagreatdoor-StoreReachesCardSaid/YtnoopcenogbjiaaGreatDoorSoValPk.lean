/-
 Whether a store is right, plain.
-/
import Derived.Test.YtnoopcenogbjiaaGreatDoorSoRowsPk
import Derived.Test.YtnoopcenogbjiaaGreatDoorObRBytesPk
import Derived.Lib.AppendZeros
import Derived.Lib.SliceRun
import Derived.Laws.AppendOwnNone
import Derived.BigQuiet
import Derived.Deep.QuietTactic
set_option linter.unusedVariables false
set_option linter.unusedSimpArgs false
namespace Go.Proofs.YtnoopcenogbjiaaGreatDoor
open Go Go.RowKit
def badI (l:List It) (k:Nat):Bool:=(decide (0<k)&&!(ltB (l.getD (k-1) It.zero).i (l.getD k It.zero).i))||(!(decide ((lnkL (l.getD k It.zero).k (l.getD k It.zero).b.data.toList).1=0))||!(decide (str (idL (l.getD k It.zero).k (l.getD k It.zero).b.data.toList)=(l.getD k It.zero).i)))
def rightI (l:List It):Bool:=decide (l.length≤65536)&&decide (∀ k,k<l.length→badI l k=false)
theorem rightI_big {l:List It} (h:65536<l.length):rightI l=false:=by rw [rightI,decide_eq_false (by omega)];rfl
theorem rightI_bad {l:List It} {k:Nat} (h:k<l.length) (hb:badI l k=true):rightI l=false:=by
 rw [rightI,decide_eq_false (show ¬ ∀ k,k<l.length→badI l k=false from fun h2=>by rw [h2 k h] at hb;cases hb),Bool.and_false]
theorem rightI_ok {l:List It} (h:l.length≤65536) (hb:∀ k,k<l.length→badI l k=false):rightI l=true:=by rw [rightI,decide_eq_true h,decide_eq_true hb];rfl
theorem rightI_parts {l:List It} (h:rightI l=true):l.length≤65536∧∀ k,k<l.length→badI l k=false:=by
 rw [rightI,Bool.and_eq_true,decide_eq_true_eq,decide_eq_true_eq] at h
 exact h
theorem getDI_at {l:List It} {k:Nat} (h:k<l.length):l.getD k It.zero=l[k]:=by rw [List.getD_eq_getElem?_getD,List.getElem?_eq_getElem h];rfl
theorem rightI_at {l:List It} (h:rightI l=true) {k:Nat} (hk:k<l.length):(lnkL (l.getD k It.zero).k (l.getD k It.zero).b.data.toList).1=0∧str (idL (l.getD k It.zero).k (l.getD k It.zero).b.data.toList)=(l.getD k It.zero).i:=by
 have h1:=(rightI_parts h).2 k hk
 unfold badI at h1
 rw [Bool.or_eq_false_iff,Bool.or_eq_false_iff,Bool.not_eq_false',Bool.not_eq_false',decide_eq_true_eq,decide_eq_true_eq] at h1
 exact h1.2
theorem ItRw.src {w:World} {ad:Addr} {l:List It} (h:ItRw w (some ad) l):∀ j u,(itcells l)[j]?=some u→w.cell? (ad.add j)=some u:=by
 intro j u hu
 have hj:j<(itcells l).length:=by
  rcases Nat.lt_or_ge j (itcells l).length with h|h
  ·exact h
  ·rw [List.getElem?_eq_none h] at hu;cases hu
 rw [itcells_len] at hj
 have hk:j / 3<l.length:=by omega
 obtain ⟨g,o,he,-,h0,h1,h2⟩:=h (j / 3) hk
 simp only [Option.some.injEq] at he
 subst he
 rw [Addr.add_mid]
 have e:=itcells_at l (j / 3) (j%3) hk (Nat.mod_lt _ (by decide))
 rw [show j / 3*3+j%3=j by omega,hu] at e
 have h3:j%3=0∨j%3=1∨j%3=2:=by omega
 rcases h3 with h3|h3|h3
 ·rw [h3] at e
  rw [show o+j=o+j / 3*3 by omega,h0,e];rfl
 ·rw [h3] at e
  rw [show o+j=o+j / 3*3+1 by omega,h1,e];rfl
 ·rw [h3] at e
  rw [show o+j=o+j / 3*3+2 by omega,h2,e];rfl
section
variable {ops:Array Oper} {rest:List Oper} {o:Oper} {a:Act} {Q:Exit→Act→World→Prop} {w:World} {base:Nat} {l:List It}
theorem wp_it_many {v:Value} (hgd:o.guard=none) (sl x:Operand) (ho:o.op=.call { callee:=.builtin .append,args:=#[sl,x],argTypes:=#[22,22] }) (hs:a.eval sl=v) (hown:ItOw w base v l) (ad:Addr) (m c:Nat) (mid:List It) (hm:m=mid.length) (hx:a.eval x=.slice (some ad) m c)
  (hsrc:∀ j u,(itcells mid)[j]?=some u→w.cell? (ad.add j)=some u) (hb:l.length+m≤1048576) (hbase:base≤w.heap.size)
  (h:∀ v' w',ItOw w' base v' (l++mid)→w.grownBy w' v.ownBlock→wpList Tryz.prog ops Q rest (a.put o.dst v') w'):wpList Tryz.prog ops Q (o::rest) a w:=by
 obtain ⟨i0,hi,hz0,hz1,hz2⟩:=info_parts Tryz.infoIt
 subst hm
 exact wpList_append_own _ hgd sl x 22 ho base 39 i0 (.agg #[.string ⟨#[]⟩,.int .i64 0,.string ⟨#[]⟩]) 3 40 Tryz.underlying22 hi hz0 hz1 hz2 rfl (by decide) v l.length (itcells l) hs hown ad mid.length c (itcells mid) hx (itcells_len _) hsrc (itcells_one _) (by unfold maxLen;omega) (by omega) hbase
  (fun v' w' h1 h2 _=>h v' w' (by
   unfold ItOw
   rw [itcells_append,List.length_append]
   exact h1) h2)
theorem wp_it_none {v:Value} (hgd:o.guard=none) (sl x:Operand) (ho:o.op=.call { callee:=.builtin .append,args:=#[sl,x],argTypes:=#[22,22] }) (hs:a.eval sl=v) (hown:ItOw w base v l) (hx:a.eval x=.slice none 0 0)
  (h:wpList Tryz.prog ops Q rest (a.put o.dst v) w):wpList Tryz.prog ops Q (o::rest) a w:=by
 obtain ⟨i0,hi,hz0,hz1,hz2⟩:=info_parts Tryz.infoIt
 exact wpList_append_own_none hgd sl x 22 ho base 39 i0 3 Tryz.underlying22 hi v l.length (itcells l) hs hown hx h
end
set_option maxHeartbeats 1000000 in
set_option maxRecDepth 6000 in
theorem sclone_any (l:List It) (p:Option Addr) (n c:Nat) (w:World) (hn:n=l.length) (hp:ItRw w p l) (hn2:n≤1000000) :
  Calls Tryz.prog 45 #[.slice p n c] w fun e w'=>∃ v',e=.returned v'∧ItOw w' w.heap.size v' l∧Below w.heap.size w w':=by
 have q22:∀ (w:World) (a:Option Addr) (n c n' c':Nat),(binOp .eql 22 (.slice a n c) (.slice none n' c')).run Tryz.prog w=.ok (.bool a.isNone) w:=fun w a n c n' c'=>Lib.run_eql_slice_nil w _ _ a n c n' c' Tryz.underlying22
 cases p with
 | none =>
  have h0:l=[]:=by
   cases l with
   | nil=>rfl
   | cons x r=>obtain ⟨g,o,h,_⟩:=hp 0 (by simp);cases h
  subst h0
  subst hn
  go_enter Tryz.func45,Tryz.ntmps45
  go_wp2
  go_ret
  exact ⟨_,rfl,ItOw.nil _ _,Below.refl _ _⟩
 | some ad =>
  have HN:=Lib.hid hn
  have HS:=Lib.hid hp.src
  have HL:Hid (([]:List It).length+n≤1048576):=by show _+_≤_;simp;omega
  clear hn hp
  go_enter Tryz.func45,Tryz.ntmps45
  go_wp2_with (at_builtin;refine wp_it_many (l:=[]) (base:=w.heap.size) rfl _ _ rfl rfl (World.ownsRow_made _ #[] 0 (Nat.le_refl _) (Nat.zero_le _) (by simp)) ad n c l HN.out rfl (fun j u hu=>Lib.cell?_alloc_some _ (HS.out j u hu)) HL.out (by simp) ?_;intro v' w2 h1 h2;have HO2:=Lib.hid h1;have HG2:=Lib.hid h2;clear h1 h2)
  go_ret
  exact ⟨_,rfl,by simpa using HO2.out,((Below.refl _ w).alloc (Nat.le_refl _) _).grown HG2.out (by simp) (by intro k hk;cases hk;exact Nat.le_refl _)⟩
set_option maxHeartbeats 2000000 in
set_option maxRecDepth 6000 in
theorem sgrow_any (n:Nat) (w:World) (hn:0<n) (hn2:n≤1048576) :
  Calls Tryz.prog 78 #[.slice none 0 0,.int .i64 (n:Int)] w fun e w'=>∃ v',e=.returned v'∧ItOw w' w.heap.size v' []∧Below w.heap.size w w':=by
 obtain ⟨i0,hi,hz0,hz1,hz2⟩:=info_parts Tryz.infoIt
 have hr:=Lib.run_append_nil_zeros (P:=Tryz.prog) w 22 3 22 39 i0 (.agg #[.string ⟨#[]⟩,.int .i64 0,.string ⟨#[]⟩]) .i64 .i64 Tryz.underlying22 Tryz.underlying3 hi hz0 n hn (by omega) (by omega) (by rw [hz2];omega)
 have hge:=grownCap_ge w n 0 39
 have hcm:=grownCap_le_maxLen w n 0 39 (by unfold maxLen;omega)
 obtain ⟨cap,hcap⟩:∃ cap,cap=grownCap w n 0 39:=⟨_,rfl⟩
 rw [←hcap] at hr hge hcm
 obtain ⟨Z,hZ⟩:∃ Z,Z=(Builtin.zeroCells (Value.agg #[.string ⟨#[]⟩,.int .i64 0,.string ⟨#[]⟩]).cells n++Builtin.zeroCells (Value.agg #[.string ⟨#[]⟩,.int .i64 0,.string ⟨#[]⟩]).cells (cap-n)):=⟨_,rfl⟩
 have hZs:Z.size=cap*3:=by rw [hZ];simp [size_zeroCells,Value.cells];omega
 rw [←hZ] at hr
 have HO:Hid (ItOw (w.drew.alloc (.cells Z 39)) w.heap.size (.slice (some ⟨w.heap.size,0,none⟩) 0 cap) []):=World.ownsRow_made w.drew Z cap (Nat.le_refl _) hcm hZs
 have HB:Hid (Below w.heap.size w (w.drew.alloc (.cells Z 39))):=(below_drewN (Below.refl _ w) 1).alloc (Nat.le_refl _) _
 have g0:¬ (n:Int)<0:=by omega
 have g1:(0:Int)<(n:Int):=by omega
 have g2:(n:Int)≤(cap:Int):=by omega
 have g3:(0:Int)≤(cap:Int):=by omega
 have HR:=Lib.hid hr
 clear hr hi hz0 hz1 hz2 hge hcm hcap hZ hZs
 go_enter Tryz.func78,Tryz.ntmps78
 go_wp2_with (at_builtin;refine Lib.wpList_append_run _ rfl _ _ _ _ rfl _ _ rfl rfl _ _ HR.out ?_)
 go_ret
 exact ⟨_,rfl,HO.out,HB.out⟩
def CatRw (w:World) (R:Nat) (ps:List (Value×List It)):Prop:=∀ k (h:k<ps.length),w.cell? ⟨R,k,none⟩=some ps[k].1∧R<w.heap.size∧∃ p c,ps[k].1=.slice p ps[k].2.length c∧(p=none→c=0)∧ItRw w p ps[k].2
theorem CatRw.below {w w':World} {R:Nat} {ps:List (Value×List It)} (h:CatRw w R ps) (hb:Below w.heap.size w w'):CatRw w' R ps:=fun k hk=>by
 obtain ⟨h1,h2,p,c,h3,h4,h5⟩:=h k hk
 exact ⟨(hb.cell (p:=⟨R,_,none⟩) h2).trans h1,Nat.lt_of_lt_of_le h2 hb.size,p,c,h3,h4,h5.below hb⟩
def catL (ps:List (Value×List It)):List It:=ps.flatMap (·.2)
theorem catL_succ {ps:List (Value×List It)} {k:Nat} (h:k<ps.length):catL (ps.take (k+1))=catL (ps.take k)++ps[k].2:=by
 rw [List.take_succ_eq_append_getElem h,catL,catL,List.flatMap_append]
 simp
theorem catL_le (ps:List (Value×List It)) (k:Nat):(catL (ps.take k)).length≤(catL ps).length:=by
 conv=>rhs;rw [←List.take_append_drop k ps,catL,List.flatMap_append,List.length_append]
 exact Nat.le_add_right _ _
theorem itrw_nil {w:World} {l:List It} (h:ItRw w none l):l=[]:=by
 cases l with
 | nil=>rfl
 | cons x r=>obtain ⟨g,o,h,_⟩:=h 0 (by simp);cases h
set_option maxHeartbeats 4000000 in
set_option maxRecDepth 6000 in
theorem sconcat_any (ps:List (Value×List It)) (R n c:Nat) (w:World) (hn:n=ps.length) (hp:CatRw w R ps) (h0:0<(catL ps).length) (h2:(catL ps).length≤1048576) (hn2:n≤1000) :
  Calls Tryz.prog 46 #[.slice (some ⟨R,0,none⟩) n c] w fun e w'=>∃ v',e=.returned v'∧ItOw w' w.heap.size v' (catL ps)∧Below w.heap.size w w':=by
 obtain ⟨T,hT⟩:∃ T,T=(catL ps).length:=⟨_,rfl⟩
 rw [←hT] at h0 h2
 have HT:=Lib.hid hT
 have HN:=Lib.hid hn
 have HP:=Lib.hid hp
 have HG:=Lib.hid (fun w=>sgrow_any T w h0 h2)
 have H2:=Lib.hid h2
 clear hT hn hp h0 h2
 go_enter Tryz.func46,Tryz.ntmps46
 go_wp2
 go_loopw [3,11] (fun s i wr=>∃ k m:Nat,k≤n∧i=.int .i64 (k:Int)∧s=.int .i64 (m:Int)∧Hid (m=(catL (ps.take k)).length)∧w=wr) (fun s i _=>n-(intOf i).toNat)
 case atStart=>exact ⟨0,0,by omega,rfl,rfl,rfl,rfl⟩
 case round =>
  obtain ⟨k,m,hk,rfl,rfl,HM,rfl⟩:=hrel
  by_cases hlt:k<n
  ·have hkl:k<ps.length:=by rw [←HN.out];exact hlt
   obtain ⟨a0,-,p,cc,he,-,-⟩:=HP.out k hkl
   obtain ⟨m',hm'⟩:∃ m',m'=ps[k].2.length:=⟨_,rfl⟩
   rw [he,←hm'] at a0
   have hs:=catL_succ hkl
   have hle:=catL_le ps (k+1)
   have hmm:m+m'=(catL (ps.take (k+1))).length:=by rw [hs,List.length_append,HM.out,hm']
   rw [←hmm,←HT.out] at hle
   have h2:=H2.out
   obtain ⟨z,hz⟩:∃ z,z=m+m':=⟨_,rfl⟩
   have e1:IntKind.i64.wrap ((m:Int)+(m':Int))=(z:Int):=by rw [IntWalk.i64_in _ (by omega)];omega
   have e1':(m:Int)+(m':Int)=(z:Int):=by omega
   have e2:¬ (z:Int)<0:=by omega
   have e3:z≤1048576:=by omega
   have HX:Hid (z=(catL (ps.take (k+1))).length):=by show _=_;rw [hz,hmm]
   have z1:(k:Int)<(n:Int):=by omega
   clear hz hmm hle hs hm' he hkl HM h2
   go_wp2
   go_roundw
   case rel=>exact ⟨k+1,z,by omega,by go_num,by go_num,HX,by first|trivial|rfl⟩
   case measure=>simp [intOf];omega
  ·obtain rfl:n=k:=by omega
   have hm:T=m:=by rw [HM.out,HT.out,List.take_of_length_le (by rw [←HN.out];exact Nat.le_refl _)]
   subst hm
   clear HM
   go_upto_region 10 with (with_reducible refine (HG.out _).mono ?_;rintro e w1 ⟨v1,rfl,hO1,hB1⟩)
   have HO1:=Lib.hid hO1
   have HB1:=Lib.hid hB1
   clear hO1 hB1 hlt hk
   go_wp2_with fail
   go_loopw [6,27] (fun v i wr=>∃ k:Nat,k≤n∧i=.int .i64 (k:Int)∧Hid (ItOw wr w.heap.size v (catL (ps.take k)))∧Hid (Below w.heap.size w wr)) (fun v i _=>n-(intOf i).toNat)
   case atStart=>exact ⟨0,by omega,rfl,HO1.out,HB1.out⟩
   case round =>
    obtain ⟨k,hk,rfl,HO,HB⟩:=hrel
    by_cases hlt:k<n
    ·have hkl:k<ps.length:=by rw [←HN.out];exact hlt
     obtain ⟨a0,-,p,cc,he,hc0,hrw⟩:=(HP.out.below HB.out) k hkl
     obtain ⟨m',hm'⟩:∃ m',m'=ps[k].2.length:=⟨_,rfl⟩
     rw [he,←hm'] at a0
     have hs:=catL_succ hkl
     have hle:=catL_le ps (k+1)
     rw [hs,←HT.out] at hle
     have HL:Hid ((catL (ps.take k)).length+m'≤1048576):=by show _≤_;rw [List.length_append] at hle;have:=H2.out;omega
     have z1:(k:Int)<(n:Int):=by omega
     have HS:=Lib.hid hs
     obtain ⟨mid,hmid⟩:∃ mid,mid=ps[k].2:=⟨_,rfl⟩
     rw [←hmid] at hrw hm' HS
     have HM:=Lib.hid hm'
     clear hs hle he hkl hmid hm'
     cases p with
     | none =>
      obtain rfl:=itrw_nil hrw
      obtain rfl:=hc0 rfl
      obtain rfl:m'=0:=HM.out
      go_wp2_with (at_builtin;refine wp_it_none rfl _ _ rfl rfl HO.out rfl ?_)
      go_roundw
      case rel=>exact ⟨k+1,by omega,by go_num,by show ItOw _ _ _ _;rw [HS.out,List.append_nil];exact HO.out,HB⟩
      case measure=>simp [intOf];omega
     | some ad =>
      have HSRC:=Lib.hid hrw.src
      clear hrw hc0
      go_wp2_with (at_builtin;refine wp_it_many rfl _ _ rfl rfl HO.out ad m' cc mid HM.out rfl HSRC.out HL.out HB.out.size ?_;intro v' w2 h1 h2;have HO2:=Lib.hid h1;have HB2:=Lib.hid (app_step0 HB.out HO.out h2 (Nat.le_refl _) HB.out.size);clear h1 h2)
      go_roundw
      case rel=>exact ⟨k+1,by omega,by go_num,by show ItOw _ _ _ _;rw [HS.out];exact HO2.out,HB2⟩
      case measure=>simp [intOf];omega
    ·obtain rfl:n=k:=by omega
     have hX:catL (ps.take n)=catL ps:=by rw [List.take_of_length_le (by rw [←HN.out];exact Nat.le_refl _)]
     rw [hX] at HO
     clear hX
     go_wp2_with fail
     go_ret
     exact ⟨_,rfl,HO.out,HB.out⟩
end Go.Proofs.YtnoopcenogbjiaaGreatDoor
/-
 The walk of the reference's Right.
-/
namespace Go.Proofs.YtnoopcenogbjiaaGreatDoor
open Go Go.RowKit Go.Maps Go.WideMaps
theorem str_dec {a b:ByteArray}:(a.toList==b.toList)=decide (a=b):=by
 rw [Bool.eq_iff_iff,beq_iff_eq,decide_eq_true_eq]
 exact ⟨toList_inj,fun h=>by rw [h]⟩
set_option maxHeartbeats 8000000 in
set_option maxRecDepth 8000 in
theorem rright_any (l:List It) (p:Option Addr) (n c:Nat) (w:World) (hn:n=l.length) (hp:ItRw w p l) (hs:∀ x∈l,x.b.size≤140737488355328) (hn2:n≤140737488355328) :
  Calls Tryz.prog 10 #[.agg #[.slice p n c]] w fun e w'=>e=.returned (.bool (rightI l))∧Below w.heap.size w w':=by
 obtain ⟨R,hR⟩:∃ R,R=rightI l:=⟨_,rfl⟩
 rw [←hR]
 obtain ⟨w1,hw1⟩:∃ w1,w1=w.alloc (.cells #[.slice p n c] 24):=⟨_,rfl⟩
 obtain ⟨B,hB⟩:∃ B,B=w.heap.size:=⟨_,rfl⟩
 have hx:w1.heap[B]?=some (.cells #[.slice p n c] 24 (0,0)):=by rw [hw1,hB];exact heap_alloc_new w _
 have hbx:Below w.heap.size w w1:=by rw [hw1];exact below_new (Below.refl _ _) _
 have x0:w1.cell? ⟨B,0,none⟩=some (.slice p n c):=cell_of_row _ _ 0 _ _ _ hx
 have HR:=Lib.hid hR
 have HN:=Lib.hid hn
 have HP:=Lib.hid (hp.below hbx)
 have HS:=Lib.hid hs
 have HBX:=Lib.hid hbx
 have HW1:=Lib.hid hw1
 have HB:=Lib.hid hB
 clear hR hn hp hs hbx hw1 hB
 by_cases h0:65536<n
 ·have HQ:Hid (R=false):=by show _=_;rw [HR.out];exact rightI_big (by rw [←HN.out];exact h0)
  have g0:(65536:Int)<(n:Int):=by omega
  clear h0 HR
  go_enter Tryz.func10,Tryz.ntmps10
  go_upto_region 1 with fail
  rw [←HW1.out,←HB.out]
  go_wp2_with fail
  go_ret
  exact ⟨by rw [HQ.out];rfl,HBX.out⟩
 have g0:¬ (65536:Int)<(n:Int):=by omega
 have hn3:n≤65536:=by omega
 clear h0 hn2
 go_enter Tryz.func10,Tryz.ntmps10
 go_upto_region 1 with fail
 rw [←HW1.out,←HB.out]
 go_wp2_with fail
 clear g0
 go_loopw [3] (fun iv wr=>∃ k:Nat,k≤n∧iv=.int .i64 (k:Int)∧Hid (∀ j,j<k→badI l j=false)∧Hid (Below w1.heap.size w1 wr)) (fun iv _=>n-(intOf iv).toNat)
 case atStart=>exact ⟨0,by omega,rfl,fun j hj=>absurd hj (Nat.not_lt_zero _),Below.refl _ _⟩
 case round =>
  obtain ⟨k,hk,rfl,HJ,HBW⟩:=hrel
  have c0:=cell_bel x0 HBW.out
  by_cases hlt:k<n
  ·have hkl:k<l.length:=by rw [←HN.out];exact hlt
   have hpw:=HP.out.below HBW.out
   have hbd:badI l k=((decide (0<k)&&!(ltB (l.getD (k-1) It.zero).i l[k].i))||(!(decide ((lnkL l[k].k l[k].b.data.toList).1=0))||!(decide (str (idL l[k].k l[k].b.data.toList)=l[k].i)))):=by rw [badI,getDI_at hkl]
   have hbs:=HS.out _ (List.getElem_mem hkl)
   obtain ⟨y,hy⟩:∃ y,y=(l.getD (k-1) It.zero).i:=⟨_,rfl⟩
   have hprev:0<k→∃ g o,p=some ⟨g,o,none⟩∧wr.cell? ⟨g,o+(k-1)*3,none⟩=some (.string y):=fun h=>by
    obtain ⟨g,o,h1,-,h2,-⟩:=hpw (k-1) (by omega)
    exact ⟨g,o,h1,by rw [h2,hy,getDI_at (by omega)]⟩
   obtain ⟨g,o,hpe,hg,a0,a1,a2⟩:=hpw k hkl
   obtain ⟨e,he⟩:∃ e,e=l[k]:=⟨_,rfl⟩
   rw [←he] at a0 a1 a2 hbd hbs
   rw [←hy] at hbd
   obtain ⟨id,kd,bd⟩:=e
   simp only at a0 a1 a2 hbd hbs
   obtain ⟨W,hW⟩:∃ W,W=(lnkL kd bd.data.toList).1:=⟨_,rfl⟩
   obtain ⟨D,hD⟩:∃ D,D=str (idL kd bd.data.toList):=⟨_,rfl⟩
   have hwh:=fun w'=>rwhole_any kd bd w' hbs
   have hid:=fun w'=>rid_any kd bd w' hbs
   rw [←hW] at hwh hbd
   rw [←hD] at hid hbd
   subst hpe
   obtain ⟨wI,hwI⟩:∃ wI,wI=wr.alloc (.cells #[.string id,.int .i64 kd,.string bd] 39):=⟨_,rfl⟩
   obtain ⟨E,hE⟩:∃ E,E=wr.heap.size:=⟨_,rfl⟩
   have hi:wI.heap[E]?=some (.cells #[.string id,.int .i64 kd,.string bd] 39 (0,0)):=by rw [hwI,hE];exact heap_alloc_new _ _
   have hbI:Below wr.heap.size wr wI:=by rw [hwI];exact below_new (Below.refl _ _) _
   obtain ⟨wO,hwO⟩:∃ wO,wO=wI.alloc (.cells #[.int .i64 kd,.string bd] 29):=⟨_,rfl⟩
   obtain ⟨O,hO⟩:∃ O,O=wI.heap.size:=⟨_,rfl⟩
   have ho:wO.heap[O]?=some (.cells #[.int .i64 kd,.string bd] 29 (0,0)):=by rw [hwO,hO];exact heap_alloc_new _ _
   have hbO:Below wI.heap.size wI wO:=by rw [hwO];exact below_new (Below.refl _ _) _
   have hbr:Below wr.heap.size wr wO:=hbI.trans (hbO.mono hbI.size)
   obtain ⟨i0,i1,i2⟩:=it_at hi
   have HWI:=Lib.hid hwI
   have HE:=Lib.hid hE
   have HWO:=Lib.hid hwO
   have HO:=Lib.hid hO
   clear hwI hE hwO hO
   go_upto_region 7 with fail
   rw [←HWI.out,←HE.out]
   go_upto_region 8 with fail
   rw [←HWO.out,←HO.out]
   have k0:∀ z:BelW wO,z.w.cell? ⟨E,0,none⟩=some (.string id):=fun z=>cell_bel (cell_bel i0 hbO) z.h
   have k1:∀ z:BelW wO,z.w.cell? ⟨O,0,none⟩=some (.int .i64 kd):=fun z=>cell_bel (cell_of_row _ _ 0 _ _ _ ho) z.h
   have k2:∀ z:BelW wO,z.w.cell? ⟨O,1,none⟩=some (.string bd):=fun z=>cell_bel (cell_of_row _ _ 1 _ _ _ ho) z.h
   have k3:∀ z:BelW wO,z.w.cell? ⟨B,0,none⟩=some (.slice (some ⟨g,o,none⟩) n c):=fun z=>cell_bel (cell_bel c0 hbr) z.h
   have HWH:Hid (∀ z:BelW wO,Calls Tryz.prog 17 #[.agg #[.int .i64 kd,.string bd]] z.w fun e w''=>e=.returned (.int .i64 (W:Int))∧∃ z:BelW wO,w''=z.w):=fun z=>Calls.bel_class (hwh z.w)
   have HID:Hid (∀ z:BelW wO,Calls Tryz.prog 16 #[.agg #[.int .i64 kd,.string bd]] z.w fun e w''=>e=.returned (.string D)∧∃ z:BelW wO,w''=z.w):=fun z=>Calls.bel_class (hid z.w)
   have HBr:=Lib.hid (HBW.out.trans (hbr.mono HBW.out.size))
   have hq:Nonempty (BelW wO):=⟨⟨wO,Below.refl _ _⟩⟩
   have HBD:=Lib.hid hbd
   have HKL:=Lib.hid hkl
   have k4:∀ z:BelW wO,0<k→z.w.cell? ⟨g,o+(k-1)*3,none⟩=some (.string y):=fun z h=>by
    obtain ⟨g',o',h1,h2⟩:=hprev h
    simp only [Option.some.injEq,Addr.mk.injEq,and_true] at h1
    obtain ⟨rfl,rfl⟩:=h1
    exact cell_bel (cell_bel h2 hbr) z.h
   have HK4:=Lib.hid k4
   clear hwh hid hbd hbs hW hD hy he hprev hpw HWI HE hi hbI HWO HO ho hbO hbr i0 i1 i2 a0 a1 a2 c0 hkl hg k4
   by_cases hk0:0<k
   case pos =>
    have gk:decide ((0:Int)<(k:Int))=true:=decide_eq_true (by omega)
    have k4:∀ z:BelW wO,z.w.cell? ⟨g,o+(k-1)*3,none⟩=some (.string y):=fun z=>HK4.out z hk0
    obtain ⟨k',hk'⟩:∃ k',k'=k-1:=⟨_,rfl⟩
    have ek:(k:Int)-1=(k':Int):=by omega
    have ek2:IntKind.i64.wrap ((k:Int)-1)=(k':Int):=by rw [IntWalk.i64_in _ (by omega)];omega
    have hk'n:k'<n:=by omega
    have hk'i:(k':Int)<(n:Int):=by omega
    rw [←hk'] at k4
    clear hk'
    cases hlt2:ltB y id with
    | false =>
     have gl:Op.bytesLess y.toList id.toList=false:=hlt2
     have HQ:Hid (R=false):=by
      show _=_
      rw [HR.out]
      exact rightI_bad HKL.out (by rw [HBD.out,hlt2,decide_eq_true hk0];rfl)
     clear hlt2
     refine wp_region_bel (w0:=wO) (Below.refl _ _) (by kernel_rfl) (by kernel_rfl) ?_
     repeat (go_big_quiet_step (first
      | (go_at_call 17;(with_reducible exact HWH.out _))
      | (go_at_call 16;(with_reducible exact HID.out _))))
     refine wpQuiet_nil ?_
     rintro _ ⟨z,rfl⟩
     have HZ:=Lib.hid z.h
     obtain ⟨wz,hwz⟩:∃ wz,wz=z.w:=⟨_,rfl⟩
     rw [←hwz] at HZ ⊢
     clear hwz
     go_wp2_with fail
     go_ret
     exact ⟨by rw [HQ.out];rfl,HBX.out.trans ((HBr.out.trans (HZ.out.mono HBr.out.size)).mono HBX.out.size)⟩
    | true =>
     have gl:Op.bytesLess y.toList id.toList=true:=hlt2
     by_cases hw0:W=0
     case neg =>
      have gw:((W:Int) != 0)=true:=by simp;omega
      have HQ:Hid (R=false):=by
       show _=_
       rw [HR.out]
       exact rightI_bad HKL.out (by rw [HBD.out,decide_eq_false hw0];simp)
      clear hw0
      refine wp_region_bel (w0:=wO) (Below.refl _ _) (by kernel_rfl) (by kernel_rfl) ?_
      repeat (go_big_quiet_step (first
       | (go_at_call 17;(with_reducible exact HWH.out _))
       | (go_at_call 16;(with_reducible exact HID.out _))))
      refine wpQuiet_nil ?_
      rintro _ ⟨z,rfl⟩
      have HZ:=Lib.hid z.h
      obtain ⟨wz,hwz⟩:∃ wz,wz=z.w:=⟨_,rfl⟩
      rw [←hwz] at HZ ⊢
      clear hwz
      go_wp2_with fail
      go_ret
      exact ⟨by rw [HQ.out];rfl,HBX.out.trans ((HBr.out.trans (HZ.out.mono HBr.out.size)).mono HBX.out.size)⟩
     have gw:((W:Int) != 0)=false:=by simp [hw0]
     by_cases hd:D=id
     case neg =>
      have gd:(D.toList==id.toList)=false:=by rw [str_dec];exact decide_eq_false hd
      have HQ:Hid (R=false):=by
       show _=_
       rw [HR.out]
       exact rightI_bad HKL.out (by rw [HBD.out,decide_eq_false hd];simp)
      clear hw0 hd
      refine wp_region_bel (w0:=wO) (Below.refl _ _) (by kernel_rfl) (by kernel_rfl) ?_
      repeat (go_big_quiet_step (first
       | (go_at_call 17;(with_reducible exact HWH.out _))
       | (go_at_call 16;(with_reducible exact HID.out _))))
      refine wpQuiet_nil ?_
      rintro _ ⟨z,rfl⟩
      have HZ:=Lib.hid z.h
      obtain ⟨wz,hwz⟩:∃ wz,wz=z.w:=⟨_,rfl⟩
      rw [←hwz] at HZ ⊢
      clear hwz
      go_wp2_with fail
      go_ret
      exact ⟨by rw [HQ.out];rfl,HBX.out.trans ((HBr.out.trans (HZ.out.mono HBr.out.size)).mono HBX.out.size)⟩
     have gd:(D.toList==id.toList)=true:=by rw [str_dec];exact decide_eq_true hd
     have HJ2:Hid (∀ j,j<k+1→badI l j=false):=fun j hj=>by
      rcases Nat.lt_or_ge j k with h|h
      ·exact HJ.out j h
      ·obtain rfl:j=k:=by omega
       rw [HBD.out,decide_eq_true hw0,decide_eq_true hd]
       simp [*]
     clear hw0 hd
     refine wp_region_bel (w0:=wO) (Below.refl _ _) (by kernel_rfl) (by kernel_rfl) ?_
     repeat (go_big_quiet_step (first
      | (go_at_call 17;(with_reducible exact HWH.out _))
      | (go_at_call 16;(with_reducible exact HID.out _))))
     refine wpQuiet_nil ?_
     rintro _ ⟨z,rfl⟩
     have HZ:=Lib.hid z.h
     obtain ⟨wz,hwz⟩:∃ wz,wz=z.w:=⟨_,rfl⟩
     rw [←hwz] at HZ ⊢
     clear hwz
     go_wp2_with fail
     go_roundw
     case rel=>exact ⟨k+1,by omega,by go_num,HJ2.out,HBr.out.trans (HZ.out.mono HBr.out.size)⟩
     case measure=>simp [intOf];omega
   case neg =>
    have gk:decide ((0:Int)<(k:Int))=false:=decide_eq_false (by omega)
    by_cases hw0:W=0
    case neg =>
     have gw:((W:Int) != 0)=true:=by simp;omega
     have HQ:Hid (R=false):=by
      show _=_
      rw [HR.out]
      exact rightI_bad HKL.out (by rw [HBD.out,decide_eq_false hw0];simp)
     clear hw0
     refine wp_region_bel (w0:=wO) (Below.refl _ _) (by kernel_rfl) (by kernel_rfl) ?_
     repeat (go_big_quiet_step (first
      | (go_at_call 17;(with_reducible exact HWH.out _))
      | (go_at_call 16;(with_reducible exact HID.out _))))
     refine wpQuiet_nil ?_
     rintro _ ⟨z,rfl⟩
     have HZ:=Lib.hid z.h
     obtain ⟨wz,hwz⟩:∃ wz,wz=z.w:=⟨_,rfl⟩
     rw [←hwz] at HZ ⊢
     clear hwz
     go_wp2_with fail
     go_ret
     exact ⟨by rw [HQ.out];rfl,HBX.out.trans ((HBr.out.trans (HZ.out.mono HBr.out.size)).mono HBX.out.size)⟩
    have gw:((W:Int) != 0)=false:=by simp [hw0]
    by_cases hd:D=id
    case neg =>
     have gd:(D.toList==id.toList)=false:=by rw [str_dec];exact decide_eq_false hd
     have HQ:Hid (R=false):=by
      show _=_
      rw [HR.out]
      exact rightI_bad HKL.out (by rw [HBD.out,decide_eq_false hd];simp)
     clear hw0 hd
     refine wp_region_bel (w0:=wO) (Below.refl _ _) (by kernel_rfl) (by kernel_rfl) ?_
     repeat (go_big_quiet_step (first
      | (go_at_call 17;(with_reducible exact HWH.out _))
      | (go_at_call 16;(with_reducible exact HID.out _))))
     refine wpQuiet_nil ?_
     rintro _ ⟨z,rfl⟩
     have HZ:=Lib.hid z.h
     obtain ⟨wz,hwz⟩:∃ wz,wz=z.w:=⟨_,rfl⟩
     rw [←hwz] at HZ ⊢
     clear hwz
     go_wp2_with fail
     go_ret
     exact ⟨by rw [HQ.out];rfl,HBX.out.trans ((HBr.out.trans (HZ.out.mono HBr.out.size)).mono HBX.out.size)⟩
    have gd:(D.toList==id.toList)=true:=by rw [str_dec];exact decide_eq_true hd
    have HJ2:Hid (∀ j,j<k+1→badI l j=false):=fun j hj=>by
     rcases Nat.lt_or_ge j k with h|h
     ·exact HJ.out j h
     ·obtain rfl:j=k:=by omega
      rw [HBD.out,decide_eq_true hw0,decide_eq_true hd]
      simp [*]
    clear hw0 hd
    refine wp_region_bel (w0:=wO) (Below.refl _ _) (by kernel_rfl) (by kernel_rfl) ?_
    repeat (go_big_quiet_step (first
     | (go_at_call 17;(with_reducible exact HWH.out _))
     | (go_at_call 16;(with_reducible exact HID.out _))))
    refine wpQuiet_nil ?_
    rintro _ ⟨z,rfl⟩
    have HZ:=Lib.hid z.h
    obtain ⟨wz,hwz⟩:∃ wz,wz=z.w:=⟨_,rfl⟩
    rw [←hwz] at HZ ⊢
    clear hwz
    go_wp2_with fail
    go_roundw
    case rel=>exact ⟨k+1,by omega,by go_num,HJ2.out,HBr.out.trans (HZ.out.mono HBr.out.size)⟩
    case measure=>simp [intOf];omega
  ·obtain rfl:k=n:=by omega
   have HQ:Hid (R=true):=by
    show _=_
    rw [HR.out]
    exact rightI_ok (by rw [←HN.out];exact hn3) fun j hj=>HJ.out j (by rw [HN.out];exact hj)
   go_wp2_with fail
   go_ret
   exact ⟨by rw [HQ.out];rfl,HBX.out.trans (HBW.out.mono HBX.out.size)⟩
end Go.Proofs.YtnoopcenogbjiaaGreatDoor
/-
 The walk of the object's Same (on a seat without the rest of object's reference).
-/
namespace Go.Proofs.YtnoopcenogbjiaaGreatDoor
open Go Go.RowKit
set_option maxHeartbeats 2000000 in
set_option maxRecDepth 4000 in
theorem obsame_any (k1 k2:Int) (b1 b2:ByteArray) (S:Bool) (w:World) (hS:S=decide (k1=k2∧b1=b2)) :
  Calls Tryz.prog 44 #[.agg #[.int .i64 k1,.string b1],.agg #[.int .i64 k2,.string b2]] w fun e w'=>e=.returned (.bool S)∧Below w.heap.size w w':=by
 by_cases hk:k1=k2
 ·subst hk
  by_cases hb:b1=b2
  ·subst hb
   have HS:Hid (S=true):=by show _=_;rw [hS];simp
   clear hS
   go_enter Tryz.func44,Tryz.ntmps44
   go_wp2
   go_ret
   exact ⟨by rw [HS.out];rfl,((Below.refl _ _).alloc (Nat.le_refl _) _).alloc (by simp) _⟩
  ·have HS:Hid (S=false):=by show _=_;rw [hS];simp [hb]
   have hne:(b1.toList==b2.toList)=false:=ba_ne hb
   have hne2:¬ b1.toList=b2.toList:=by simpa using hne
   clear hS
   go_enter Tryz.func44,Tryz.ntmps44
   go_wp2
   go_ret
   exact ⟨by rw [HS.out];rfl,((Below.refl _ _).alloc (Nat.le_refl _) _).alloc (by simp) _⟩
 ·have HS:Hid (S=false):=by show _=_;rw [hS];simp [hk]
  have hk2:(k1==k2)=false:=by simpa using hk
  clear hS
  go_enter Tryz.func44,Tryz.ntmps44
  go_wp2
  go_ret
  exact ⟨by rw [HS.out];rfl,((Below.refl _ _).alloc (Nat.le_refl _) _).alloc (by simp) _⟩
end Go.Proofs.YtnoopcenogbjiaaGreatDoor
