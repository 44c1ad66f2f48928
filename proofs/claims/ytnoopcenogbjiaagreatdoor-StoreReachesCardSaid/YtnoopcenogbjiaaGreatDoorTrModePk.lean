/-
 Bytes as they are read; the walk of takeMode.
-/
import Derived.Test.YtnoopcenogbjiaaGreatDoorTrBodyPk
import Derived.Test.YtnoopcenogbjiaaGreatDoorMarkRow
import Derived.Test.YtnoopcenogbjiaaGreatDoorLawPostPk
import Derived.Deep.RegionWith
import Derived.Lib.IndexLaws
import Derived.RegionTactic
import Derived.BigRegion
import Derived.StillTailTactics
import Derived.Deep.DeepCutAuto
import Derived.Deep.CutRange
set_option linter.unusedVariables false
set_option linter.unusedSimpArgs false
namespace Go.Proofs.YtnoopcenogbjiaaGreatDoor
open Go.RowKit
def BSl (w:World) (b:Nat) (v:Value) (l:List UInt8):Prop:=∃ o c,v=.slice (some ⟨b,o,none⟩) l.length c∧l.length≤c∧b<w.heap.size∧∀ k (h:k<l.length),w.cell? ⟨b,o+k,none⟩=some (.int .u8 (l[k].toNat:Int))
theorem BSl.below {w w':World} {b:Nat} {v:Value} {l:List UInt8} (h:BSl w b v l) (hb:Below w.heap.size w w'):BSl w' b v l:=by
 obtain ⟨o,c,hv,hc,hl,hx⟩:=h
 exact ⟨o,c,hv,hc,Nat.lt_of_lt_of_le hl hb.size,fun k hk=>(hb.cell (p:=⟨b,o+k,none⟩) hl).trans (hx k hk)⟩
def nums (l:List UInt8):List Int:=l.map fun b=>(b.toNat:Int)
theorem nums_len (l:List UInt8):(nums l).length=l.length:=by simp [nums]
theorem nums_bytes (l:List UInt8):Lib.bytesOf (nums l)=l:=by
 unfold Lib.bytesOf nums
 rw [List.map_map]
 conv=>rhs;rw [←List.map_id l]
 refine List.map_congr_left fun b _=>?_
 show UInt8.ofNat ((b.toNat:Int).toNat)=b
 simp
theorem nums_getD {l:List UInt8} {k:Nat} (h:k<l.length):(nums l).getD k 0=(l[k].toNat:Int):=by
 rw [List.getD_eq_getElem?_getD,List.getElem?_eq_getElem (by rw [nums_len];exact h)]
 simp [nums]
theorem to_bytes (s:ByteArray) (w:World) (hs:s.size≤140737488355328):∃ cap w',(convert 9 131 (.string s)).run Tryz.prog w=.ok (.slice (some ⟨w.heap.size,0,none⟩) s.size cap) w'∧s.size≤cap∧Below w.heap.size w w'∧w.heap.size<w'.heap.size ∧
  ∀ k (h:k<s.data.toList.length),w'.cell? ⟨w.heap.size,k,none⟩=some (.int .u8 (s.data.toList[k].toNat:Int)):=by
 have hm:=grownCap_le_maxLen w s.size 0 5 (by unfold maxLen;omega)
 have ho:=OwnM.start w s 5 hm
 refine ⟨_,_,run_bytes_of_string w 9 131 5 s Tryz.underlying9 Tryz.underlying131 Tryz.underlying5,grownCap_ge w s.size 0 5,?_,?_,fun k hk=>?_⟩
 ·exact ((Below.refl _ _).drew).alloc (Nat.le_refl _) _
 ·rw [World.size_alloc]
  exact Nat.lt_succ_self _
 ·have h1:=ho.cells k (.int .u8 (s.data.toList[k].toNat:Int)) (by simp [bcells,List.getElem?_map,List.getElem?_eq_getElem hk])
  rwa [Addr.add_lit,Nat.zero_add] at h1
theorem from_bytes {w:World} {b o n c k:Nat} {l:List UInt8} (hn:n=l.length) (hc:n≤c) (hl:b<w.heap.size) (hx:∀ k (h:k<l.length),w.cell? ⟨b,o+k,none⟩=some (.int .u8 (l[k].toNat:Int))) (hk:k≤n):BSl w b (Lib.sliceFrom b o n c k) (l.drop k):=by
 subst hn
 unfold Lib.sliceFrom
 by_cases h:c=k
 ·have hd:l.drop k=[]:=List.drop_eq_nil_of_le (by omega)
  rw [if_pos h,hd]
  exact ⟨o,c-k,by simp;omega,by simp,hl,fun j hj=>absurd hj (Nat.not_lt_zero _)⟩
 ·rw [if_neg h]
  refine ⟨o+k,c-k,by rw [List.length_drop],by rw [List.length_drop];omega,hl,fun j hj=>?_⟩
  rw [List.length_drop] at hj
  rw [Nat.add_assoc,hx (k+j) (by omega),List.getElem_drop]
def ModeR (l:List UInt8) (b:Nat) (w:World) (e:Ending) (w':World):Prop:=(∃ v,e=.returned (.tuple #[.int .i64 ((modeT l).1:Int),v,.int .i64 ((modeT l).2:Int)])∧((modeT l).1≠0→BSl w' b v (l.drop (wordM (modeT l).1).length)))∧Below w.heap.size w w'
theorem modeR_hit {l:List UInt8} {b:Nat} {w w':World} {q:Nat} {v:Value} (h:modeT l=(q,0)) (hv:BSl w' b v (l.drop (wordM q).length)) (hb:Below w.heap.size w w'):ModeR l b w (.returned (.tuple #[.int .i64 (q:Int),v,.int .i64 0])) w':=by
 refine ⟨⟨v,by rw [h];rfl,fun _=>by rw [h];exact hv⟩,hb⟩
theorem modeR_miss {l:List UInt8} {b:Nat} {w w':World} {c:Nat} {v:Value} (h:modeT l=(0,c)) (hb:Below w.heap.size w w'):ModeR l b w (.returned (.tuple #[.int .i64 0,v,.int .i64 (c:Int)])) w':=by
 refine ⟨⟨v,by rw [h];rfl,fun h0=>by rw [h] at h0;exact absurd rfl h0⟩,hb⟩
set_option maxHeartbeats 4000000 in
set_option maxRecDepth 4000 in
theorem takeMode_any (l:List UInt8) (b:Nat) (v:Value) (w:World) (hv:BSl w b v l) (hT:TrTab w) (hl:l.length≤1048576) :
  Calls Tryz.prog 186 #[v] w (ModeR l b w):=by
 obtain ⟨o,c,rfl,hc,hbl,hx⟩:=hv
 obtain ⟨n,hn⟩:∃ n,n=l.length:=⟨_,rfl⟩
 rw [←hn] at hc hl ⊢
 have HN:=Lib.hid hn
 have HX:=Lib.hid hx
 have HT:=Lib.hid hT
 clear hn hx hT
 go_enter Tryz.func186,Tryz.ntmps186
 go_wp2_with fail
 go_loopw [6,5] (fun iv ev wr=>∃ q d:Nat,1≤q∧q≤5∧iv=.int .i64 (q:Int)∧ev=.int .i64 (d:Int)∧Hid (d=errTo l q)∧Hid (∀ j:Nat,1≤j→j<q→Lib.hasPrefix l (wordM j)=false)∧Hid (Below w.heap.size w wr)) (fun iv _ _=>5-(intOf iv).toNat)
 case atStart=>exact ⟨1,2,by omega,by omega,rfl,rfl,rfl,fun j h1 h2=>by omega,Below.refl _ _⟩
 case round =>
  obtain ⟨q,d,hq1,hq5,rfl,rfl,HD,HNO,HB⟩:=hrel
  by_cases hlt:q<5
  ·obtain ⟨W,hW⟩:∃ W,W=str (wordM q):=⟨_,rfl⟩
   have dw:=(HT.out.below HB.out).word hq1 (by omega)
   rw [←hW] at dw
   have hWl:W.data.toList=wordM q:=by rw [hW,str_list]
   have hWs:W.size≤7:=by rw [hW,str_size];exact wordM_le _
   obtain ⟨cap,w2,hcv,hcap,hb2,hbs2,hcx⟩:=to_bytes W wr (by omega)
   have q0:(0:Int)≤(q:Int):=by omega
   have q6:(q:Int)<5:=by omega
   have q7:(q:Int)≤4:=by omega
   have HB2:=Lib.hid (HB.out.trans (hb2.mono HB.out.size))
   have HXW:Hid (∀ i,i<n→w2.cell? ⟨b,o+i,none⟩=some (.int .u8 ((nums l).getD i 0))):=fun i hi=>by
    have hi2:i<l.length:=by rw [←HN.out];exact hi
    rw [nums_getD hi2]
    exact (HB2.out.cell (p:=⟨b,o+i,none⟩) hbl).trans (HX.out i hi2)
   have HYW:Hid (∀ i,i<W.size→w2.cell? ⟨wr.heap.size,0+i,none⟩=some (.int .u8 ((nums (wordM q)).getD i 0))):=fun i hi=>by
    have hi2:i<W.data.toList.length:=by rw [list_len];exact hi
    rw [nums_getD (by rw [←hWl];exact hi2),Nat.zero_add,hcx i hi2]
    simp only [hWl]
   have hxl:(nums l).length=n:=by rw [nums_len,HN.out]
   have hyl:(nums (wordM q)).length=W.size:=by rw [nums_len,←hWl,list_len]
   have HC1:=Lib.hid (Tryz.bytes_CutPrefix b o n c wr.heap.size 0 W.size cap (nums l) (nums (wordM q)) w2 hxl hyl hc HXW.out HYW.out)
   have HC2:=Lib.hid (Tryz.bytes_HasPrefix wr.heap.size 0 W.size cap b o n c (nums (wordM q)) (nums l) w2 hyl hxl hcap HYW.out HXW.out)
   rw [nums_bytes,nums_bytes] at HC1 HC2
   obtain ⟨V,hV⟩:∃ V,V=Lib.bytesTrimPrefix b o n c (nums l) (nums (wordM q)):=⟨_,rfl⟩
   rw [←hV] at HC1
   obtain ⟨P,hP⟩:∃ P,P=Lib.hasPrefix l (wordM q):=⟨_,rfl⟩
   obtain ⟨P2,hP2⟩:∃ P,P=Lib.hasPrefix (wordM q) l:=⟨_,rfl⟩
   rw [←hP] at HC1
   rw [←hP2] at HC2
   have HBL:Hid (BSl w2 b (Lib.sliceFrom b o n c (wordM q).length) (l.drop (wordM q).length)∨P=false):=by
    show _∨_
    cases hP3:P with
    | false=>exact .inr rfl
    | true =>
     left
     have hle:(wordM q).length≤l.length:=(List.isPrefixOf_iff_prefix.1 (show (wordM q).isPrefixOf l=true by rw [←hP3,hP];rfl)).length_le
     exact from_bytes HN.out hc (Nat.lt_of_lt_of_le hbl HB2.out.size) (fun k hk=>(HB2.out.cell (p:=⟨b,o+k,none⟩) hbl).trans (HX.out k hk)) (by rw [HN.out];exact hle)
   have HVV:Hid (P=true→V=Lib.sliceFrom b o n c (wordM q).length):=fun h=>by
    rw [hV,Lib.bytesTrimPrefix,nums_bytes,nums_bytes,←hP,if_pos h,nums_len]
   have HP:=Lib.hid hP
   have HP2:=Lib.hid hP2
   have hWB:wr.heap.size=wr.heap.size:=rfl
   clear hW hWl hcx hxl hyl hV hP hP2 hWB hb2 hWs
   rcases P with _|_
   ·have HNX:Hid (∀ j:Nat,1≤j→j<q+1→Lib.hasPrefix l (wordM j)=false):=fun j h1 h2=>by
     rcases Nat.lt_or_ge j q with h3|h3
     ·exact HNO.out j h1 h3
     ·obtain rfl:j=q:=by omega
      exact HP.out.symm
    rcases P2 with _|_
    ·have HDX:Hid (d=errTo l (q+1)):=by show _=_;rw [errTo,if_neg (by rw [←HP2.out];intro h;cases h.2)];exact HD.out
     clear HD HNO HBL HVV HXW HYW
     go_wp2_with (first
      | (go_at_call 206;((with_reducible refine HC1.out.mono ?_);rintro x w3 ⟨rfl,rfl⟩))
      | (go_at_call 207;((with_reducible refine HC2.out.mono ?_);rintro x w4 ⟨rfl,rfl⟩)))
     go_roundw
     case rel=>exact ⟨q+1,d,by omega,by omega,by go_num,rfl,HDX.out,HNX.out,HB2.out⟩
     case measure=>simp [intOf];omega
    ·have HDX:Hid (3=errTo l (q+1)):=by show _=_;rw [errTo,if_pos ⟨hq1,HP2.out.symm⟩]
     clear HD HNO HBL HVV HXW HYW
     go_wp2_with (first
      | (go_at_call 206;((with_reducible refine HC1.out.mono ?_);rintro x w3 ⟨rfl,rfl⟩))
      | (go_at_call 207;((with_reducible refine HC2.out.mono ?_);rintro x w4 ⟨rfl,rfl⟩)))
     go_roundw
     case rel=>exact ⟨q+1,3,by omega,by omega,by go_num,rfl,HDX.out,HNX.out,HB2.out⟩
     case measure=>simp [intOf];omega
   ·have HM:Hid (modeT l=(q,0)):=modeT_hit hq1 (by omega) HP.out.symm HNO.out
    have HBV:Hid (BSl w2 b V (l.drop (wordM q).length)):=by
     show BSl _ _ _ _
     rw [HVV.out rfl]
     rcases HBL.out with h|h
     ·exact h
     ·cases h
    clear HD HNO HBL HVV HXW HYW HC2 HP HP2
    go_wp2_with (go_at_call 206;((with_reducible refine HC1.out.mono ?_);rintro x w3 ⟨rfl,rfl⟩))
    go_ret3
    exact modeR_hit HM.out HBV.out HB2.out
  ·obtain rfl:q=5:=by omega
   have HM:Hid (modeT l=(0,d)):=by show _=_;rw [HD.out];exact modeT_miss HNO.out
   clear HNO HD
   go_wp2_with fail
   go_ret3
   exact modeR_miss HM.out HB.out
theorem modeT_yes {l:List UInt8} (h:(modeT l).1≠0):(modeT l).2=0∧1≤(modeT l).1∧(modeT l).1≤4:=by
 unfold modeT at h ⊢
 split
 ·exact ⟨rfl,by decide,by decide⟩
 split
 ·exact ⟨rfl,by decide,by decide⟩
 split
 ·exact ⟨rfl,by decide,by decide⟩
 split
 ·exact ⟨rfl,by decide,by decide⟩
 rename_i h1 h2 h3 h4
 rw [if_neg h1,if_neg h2,if_neg h3,if_neg h4] at h
 exact absurd rfl h
theorem bsl_index {w:World} {b o c n:Nat} {r:List UInt8} (hn:n=r.length) (hx:∀ k (h:k<r.length),w.cell? ⟨b,o+k,none⟩=some (.int .u8 (r[k].toNat:Int))) :
  Calls Tryz.prog 187 #[.slice (some ⟨b,o,none⟩) n c,.int .u8 0] w fun e w'=>e=.returned (.int .i64 (Lib.indexByte r 0))∧w'=w:=by
 have h:=Tryz.bytes_IndexByte b o n c (nums r) 0 w (by rw [nums_len,hn]) (fun i hi=>by
  have hi2:i<r.length:=by omega
  rw [nums_getD hi2]
  exact hx i hi2)
 rw [nums_bytes] at h
 exact h
theorem idx_natT (l:List UInt8) (c:UInt8):Lib.indexByte l c=-1∨∃ k:Nat,Lib.indexByte l c=k∧k<l.length:=by
 have h:=Lib.indexByte_ge l c
 by_cases h1:Lib.indexByte l c=-1
 ·exact .inl h1
 ·obtain ⟨k,hk⟩:∃ k:Nat,Lib.indexByte l c=k:=⟨(Lib.indexByte l c).toNat,by omega⟩
  exact .inr ⟨k,hk,(List.getElem?_eq_some_iff.mp (Lib.indexByte_some hk).1).1⟩
def TakeR (R:Nat×En×List UInt8) (b:Nat) (w:World) (e:Ending) (w':World):Prop :=
 (∃ v,e=.returned (.tuple #[.agg #[.int .i64 R.2.1.m,.string R.2.1.n,.string R.2.1.i],v,.int .i64 (R.1:Int)])∧(R.1=0→BSl w' b v R.2.2))∧Below w.heap.size w w'
theorem takeR_bad {R:Nat×En×List UInt8} {b:Nat} {w w':World} {c:Nat} {v:Value} (h:R=(c,En.zero,[])) (hc:c≠0) (hb:Below w.heap.size w w'):TakeR R b w (.returned (.tuple #[.agg #[.int .i64 0,.string ⟨#[]⟩,.string ⟨#[]⟩],v,.int .i64 (c:Int)])) w':=by
 subst h
 exact ⟨⟨v,rfl,fun h=>absurd h hc⟩,hb⟩
theorem ent_row {w:World} {E:Nat} {c0 c1 c2 v0 v1 v2:Value} (h:w.heap[E]?=some (.cells #[c0,c1,c2] 107 (0,0))) :
  (((w.setCell ⟨E,0,none⟩ v0).setCell ⟨E,1,none⟩ v1).setCell ⟨E,2,none⟩ v2).heap[E]?=some (.cells #[v0,v1,v2] 107 (0,0)):=by
 have h0:(w.setCell ⟨E,0,none⟩ v0).heap[E]?=some (.cells #[v0,c1,c2] 107 (0,0)):=by
  have h:=heap_setCell_same w E 0 _ 107 v0 h
  simp only [List.setIfInBounds_toArray,List.set_cons_zero] at h
  exact h
 have h1:((w.setCell ⟨E,0,none⟩ v0).setCell ⟨E,1,none⟩ v1).heap[E]?=some (.cells #[v0,v1,c2] 107 (0,0)):=by
  have h:=heap_setCell_same (w.setCell ⟨E,0,none⟩ v0) E 1 _ 107 v1 h0
  simp only [List.setIfInBounds_toArray,List.set_cons_zero,List.set_cons_succ] at h
  exact h
 have h:=heap_setCell_same ((w.setCell ⟨E,0,none⟩ v0).setCell ⟨E,1,none⟩ v1) E 2 _ 107 v2 h1
 simp only [List.setIfInBounds_toArray,List.set_cons_zero,List.set_cons_succ] at h
 exact h
theorem ent_end {w:World} {E:Nat} {c0 c1 c2 v0 v1 v2:Value} (h:w.heap[E]?=some (.cells #[c0,c1,c2] 107 (0,0))) :
  (((w.setCell ⟨E,0,none⟩ v0).setCell ⟨E,1,none⟩ v1).setCell ⟨E,2,none⟩ v2).cell? ⟨E,0,none⟩=some v0∧(((w.setCell ⟨E,0,none⟩ v0).setCell ⟨E,1,none⟩ v1).setCell ⟨E,2,none⟩ v2).cell? ⟨E,1,none⟩=some v1∧(((w.setCell ⟨E,0,none⟩ v0).setCell ⟨E,1,none⟩ v1).setCell ⟨E,2,none⟩ v2).cell? ⟨E,2,none⟩=some v2:=by
 have h2:=ent_row (v0:=v0) (v1:=v1) (v2:=v2) h
 exact ⟨cell_of_row _ _ 0 _ _ _ h2,cell_of_row _ _ 1 _ _ _ h2,cell_of_row _ _ 2 _ _ _ h2⟩
theorem set3_below {B E:Nat} {w0 w:World} {v0 v1 v2:Value} (h:Below B w0 w) (hE:B≤E):Below B w0 (((w.setCell ⟨E,0,none⟩ v0).setCell ⟨E,1,none⟩ v1).setCell ⟨E,2,none⟩ v2) :=
 ((h.setCell (p:=⟨E,0,none⟩) hE _).setCell (p:=⟨E,1,none⟩) hE _).setCell (p:=⟨E,2,none⟩) hE _
theorem set3_cell {w:World} {P b i:Nat} {v0 v1 v2:Value} (h:b≠P):(((w.setCell ⟨P,0,none⟩ v0).setCell ⟨P,1,none⟩ v1).setCell ⟨P,2,none⟩ v2).cell? ⟨b,i,none⟩=w.cell? ⟨b,i,none⟩ :=
 World.cell?_of_block (((Below.heap_setCell _ ⟨P,2,none⟩ v2 b h).trans (Below.heap_setCell _ ⟨P,1,none⟩ v1 b h)).trans (Below.heap_setCell _ ⟨P,0,none⟩ v0 b h))
theorem ent_ne {w:World} {P b o:Nat} {x:Int} (h:w.heap[P]?=some (.cells #[.int .i64 0,.string ⟨#[]⟩,.string ⟨#[]⟩] 107 (0,0))) (hc:w.cell? ⟨b,o,none⟩=some (.int .u8 x)):b≠P:=by
 rintro rfl
 simp only [World.cell?,h] at hc
 match o,hc with
 | 0,hc=>simp at hc
 | 1,hc=>simp at hc
 | 2,hc=>simp at hc
 | o+3,hc=>simp at hc
theorem takeR_ok {R:Nat×En×List UInt8} {b:Nat} {w w':World} {q:Int} {N I:ByteArray} {rest:List UInt8} {v:Value} (h:R=(0,⟨q,N,I⟩,rest)) (hv:BSl w' b v rest) (hb:Below w.heap.size w w'):TakeR R b w (.returned (.tuple #[.agg #[.int .i64 q,.string N,.string I],v,.int .i64 0])) w':=by
 subst h
 exact ⟨⟨v,rfl,fun _=>hv⟩,hb⟩
theorem conv_at {w:World} {b o c:Nat} {l:List UInt8} (hx:∀ k (h:k<l.length),w.cell? ⟨b,o+k,none⟩=some (.int .u8 (l[k].toNat:Int))) (hb:b<w.heap.size) (m:Nat) (hm:m=l.length) {w':World} (h:Below w.heap.size w w') :
  (convert 131 9 (.slice (some ⟨b,o,none⟩) m c)).run Tryz.prog w'=.ok (.string (str l)) w':=by
 subst hm
 refine run_convert_bytes_back (P:=Tryz.prog) w' 131 9 5 ⟨b,o,none⟩ c l Tryz.underlying131 Tryz.underlying5 Tryz.underlying9 fun j hj=>?_
 rw [Addr.add_lit]
 exact (h.cell (p:=⟨b,o+j,none⟩) hb).trans (hx j hj)
set_option maxHeartbeats 4000000 in
set_option maxRecDepth 4000 in
theorem take_any (l:List UInt8) (b:Nat) (v:Value) (w:World) (hv:BSl w b v l) (hT:TrTab w) (hl:l.length≤1048576) :
  Calls Tryz.prog 162 #[v] w (TakeR (oneT l) b w):=by
 obtain ⟨R,hR⟩:∃ R,R=oneT l:=⟨_,rfl⟩
 rw [←hR]
 have hb1:Below w.heap.size w (w.alloc (.cells #[.int .i64 0,.string ⟨#[]⟩,.string ⟨#[]⟩] 107)):=below_new (Below.refl _ _) _
 have hr1:=heap_alloc_new w (.cells #[.int .i64 0,.string ⟨#[]⟩,.string ⟨#[]⟩] 107)
 have hs1:w.heap.size<(w.alloc (.cells #[.int .i64 0,.string ⟨#[]⟩,.string ⟨#[]⟩] 107)).heap.size:=by simp
 obtain ⟨w1,hw1⟩:∃ w1,w1=w.alloc (.cells #[.int .i64 0,.string ⟨#[]⟩,.string ⟨#[]⟩] 107):=⟨_,rfl⟩
 rw [←hw1] at hb1 hr1 hs1
 have HM:=Lib.hid (takeMode_any l b v w1 (hv.below hb1) (hT.below hb1) hl)
 have HW1:=Lib.hid hw1
 have HB1:=Lib.hid hb1
 have HR1:=Lib.hid hr1
 by_cases hm:(modeT l).1=0
 ·have hc0:(modeT l).2≠0:=by
   intro h
   unfold modeT at hm h
   repeat' split at hm
   all_goals try cases hm
   simp_all
   have:=errTo_le l 5
   omega
  have HX:Hid (R=((modeT l).2,En.zero,[])):=by show _=_;rw [hR,oneT,if_pos hm]
  obtain ⟨d,hd⟩:∃ d,d=(modeT l).2:=⟨_,rfl⟩
  rw [←hd] at hc0 HX
  have hcb:((d:Int) != 0)=true:=by simp;omega
  have HM2:Hid (Calls Tryz.prog 186 #[v] w1 fun e w'=>(∃ v,e=.returned (.tuple #[.int .i64 0,v,.int .i64 (d:Int)]))∧Below w1.heap.size w1 w') :=
   HM.out.mono fun e w' ⟨⟨v,he,_⟩,hb⟩=>⟨⟨v,by rw [he,hm,hd];rfl⟩,hb⟩
  clear hR hm hw1 hb1 hr1 hv hT HM hd
  go_enter Tryz.func162,Tryz.ntmps162
  go_upto_region 1 with fail
  rw [←HW1.out]
  go_upto_region 3 with (go_at_call 186;((with_reducible refine HM2.out.mono ?_);rintro x w2 ⟨⟨v2,rfl⟩,hb2⟩))
  have hr2:=(hb2.block w.heap.size hs1).trans HR1.out
  have HR2:=Lib.hid hr2
  have HB2:=Lib.hid (HB1.out.trans (hb2.mono HB1.out.size))
  have f0:=frozen_of_row w2 w.heap.size 0 _ _ hr2
  have f1:=frozen_of_row w2 w.heap.size 1 _ _ hr2
  have f2:=frozen_of_row w2 w.heap.size 2 _ _ hr2
  have y0:=cell_of_row w2 w.heap.size 0 _ _ _ hr2
  have y1:=cell_of_row w2 w.heap.size 1 _ _ _ hr2
  have y2:=cell_of_row w2 w.heap.size 2 _ _ _ hr2
  clear hr2 hb2
  go_wp2_with fail
  obtain ⟨d0,d1,d2⟩:=ent_end (v0:=.int .i64 0) (v1:=.string ⟨#[]⟩) (v2:=.string ⟨#[]⟩) HR2.out
  refine bodyPost_ret (v:=.tuple #[.agg #[.int .i64 0,.string ⟨#[]⟩,.string ⟨#[]⟩],.slice none 0 0,.int .i64 (d:Int)]) (by simp [results,Tryz.results162,go_sem,d0,d1,d2]) rfl (takeR_bad HX.out hc0 (((HB2.out.setCell (Nat.le_refl _) _).setCell (Nat.le_refl _) _).setCell (Nat.le_refl _) _))
 ·obtain ⟨he0,hq1,hq4⟩:=modeT_yes hm
  obtain ⟨q,hq⟩:∃ q,q=(modeT l).1:=⟨_,rfl⟩
  obtain ⟨r,hr⟩:∃ r,r=l.drop (wordM q).length:=⟨_,rfl⟩
  have hrl:r.length≤1048576:=by rw [hr,List.length_drop];omega
  have HX:Hid (R=restT q r (Lib.indexByte r 0)):=by show _=_;rw [hR,oneT,if_neg hm,←hq,←hr]
  have HM2:Hid (Calls Tryz.prog 186 #[v] w1 fun e w'=>(∃ o n c,e=.returned (.tuple #[.int .i64 (q:Int),.slice (some ⟨b,o,none⟩) n c,.int .i64 0])∧n=r.length∧n≤c∧b<w'.heap.size∧∀ k (h:k<r.length),w'.cell? ⟨b,o+k,none⟩=some (.int .u8 (r[k].toNat:Int)))∧Below w1.heap.size w1 w') :=
   HM.out.mono fun e w' ⟨⟨v,he,hv⟩,hb⟩=>by
    have h:=hv hm
    rw [←hq,←hr] at h
    obtain ⟨o,c,rfl,hc,hbl,hx⟩:=h
    exact ⟨⟨o,r.length,c,by rw [he,he0,←hq];rfl,rfl,hc,hbl,hx⟩,hb⟩
  rw [←hq] at hq1 hq4
  clear hR hm hw1 hb1 hr1 hv hT HM hq he0 hr
  go_enter Tryz.func162,Tryz.ntmps162
  go_upto_region 1 with fail
  rw [←HW1.out]
  go_upto_region 4 with (go_at_call 186;((with_reducible refine HM2.out.mono ?_);rintro x w2 ⟨⟨o,n,c,rfl,hn,hc,hbl,hx⟩,hb2⟩;have HN:=Lib.hid hn;have HXX:=Lib.hid hx;clear hn hx))
  have hr2:=(hb2.block w.heap.size hs1).trans HR1.out
  have HR2:=Lib.hid hr2
  have HB2:=Lib.hid (HB1.out.trans (hb2.mono HB1.out.size))
  have HI:=Lib.hid (bsl_index (c:=c) HN.out HXX.out)
  have hrl2:n≤1048576:=by rw [HN.out];exact hrl
  have f0:=frozen_of_row w2 w.heap.size 0 _ _ hr2
  have f1:=frozen_of_row w2 w.heap.size 1 _ _ hr2
  have f2:=frozen_of_row w2 w.heap.size 2 _ _ hr2
  have y0:=cell_of_row w2 w.heap.size 0 _ _ _ hr2
  have y1:=cell_of_row w2 w.heap.size 1 _ _ _ hr2
  have y2:=cell_of_row w2 w.heap.size 2 _ _ _ hr2
  clear hr2 hb2 hrl
  rcases idx_natT r 0 with h0|⟨k,h0,hk⟩
  ·rw [h0] at HI HX
   have HXE:Hid (R=(3,En.zero,[])):=by show _=_;rw [HX.out,restT,if_pos (.inl (by decide))]
   clear h0 HX HXX
   go_wp2_with (go_at_call 187;((with_reducible refine HI.out.mono ?_);rintro x w3 ⟨rfl,rfl⟩))
   obtain ⟨d0,d1,d2⟩:=ent_end (v0:=.int .i64 0) (v1:=.string ⟨#[]⟩) (v2:=.string ⟨#[]⟩) HR2.out
   refine bodyPost_ret (v:=.tuple #[.agg #[.int .i64 0,.string ⟨#[]⟩,.string ⟨#[]⟩],.slice none 0 0,.int .i64 3]) (by simp [results,Tryz.results162,go_sem,d0,d1,d2]) rfl (takeR_bad (c:=3) HXE.out (by decide) (((HB2.out.setCell (Nat.le_refl _) _).setCell (Nat.le_refl _) _).setCell (Nat.le_refl _) _))
  ·rw [h0] at HI HX
   have hkn:k<n:=by rw [HN.out];exact hk
   have j1:IntKind.i64.wrap ((k:Int)+1)=(k:Int)+1:=IntWalk.i64_in _ (by omega)
   by_cases hsh:n<k+21
   ·have HXE:Hid (R=(3,En.zero,[])):=by show _=_;rw [HX.out,restT,if_pos (.inr (by have:=HN.out;simp only [Int.toNat_natCast];omega))]
    have j2:(n:Int)-((k:Int)+1)<20:=by omega
    clear h0 HX HXX hk j1 hsh
    go_wp2_with (go_at_call 187;((with_reducible refine HI.out.mono ?_);rintro x w3 ⟨rfl,rfl⟩))
    obtain ⟨d0,d1,d2⟩:=ent_end (v0:=.int .i64 0) (v1:=.string ⟨#[]⟩) (v2:=.string ⟨#[]⟩) HR2.out
    refine bodyPost_ret (v:=.tuple #[.agg #[.int .i64 0,.string ⟨#[]⟩,.string ⟨#[]⟩],.slice none 0 0,.int .i64 3]) (by simp [results,Tryz.results162,go_sem,d0,d1,d2]) rfl (takeR_bad (c:=3) HXE.out (by decide) (((HB2.out.setCell (Nat.le_refl _) _).setCell (Nat.le_refl _) _).setCell (Nat.le_refl _) _))
   ·have j2:¬ (n:Int)-((k:Int)+1)<20:=by omega
    clear j1
    go_upto_region 8 with (go_at_call 187;((with_reducible refine HI.out.mono ?_);rintro x w3 ⟨rfl,rfl⟩))
    obtain ⟨S,hS⟩:∃ S,S=k+1:=⟨_,rfl⟩
    obtain ⟨T,hT⟩:∃ T,T=k+21:=⟨_,rfl⟩
    rw [show ((k:Int)+1)=(S:Int) by omega]
    have j3:IntKind.i64.wrap ((S:Int)+20)=(T:Int):=by rw [IntWalk.i64_in _ (by omega)];omega
    have j4:(0:Int)≤(S:Int):=by omega
    have j5:(0:Int)≤(k:Int):=by omega
    have j6:(S:Int)≤(T:Int):=by omega
    have j7:(T:Int)≤(c:Int):=by omega
    have j8:(k:Int)≤(c:Int):=by omega
    have j9:S≤T:=by omega
    have j10:T≤c:=by omega
    have j11:k≤c:=by omega
    have HST:=Lib.hid (And.intro hS hT)
    have HK:=Lib.hid (And.intro hk hsh)
    clear hS hT hsh h0 hk
    go_quiet (fail)
    rw [if_neg (show ¬ T=S by have:=HST.out;omega),show T-S=20 by have:=HST.out;omega]
    go_upto_region 9 with fail
    have hb4:Below w3.heap.size w3 (w3.drewN nq):=below_drewN (Below.refl _ _) _
    obtain ⟨w4,hw4⟩:∃ w4,w4=w3.drewN nq:=⟨_,rfl⟩
    rw [←hw4] at hb4 ⊢
    obtain ⟨N,hNN⟩:∃ N,N=str (r.take k):=⟨_,rfl⟩
    obtain ⟨RW,hRW⟩:∃ RW,RW=str ((r.drop S).take 20):=⟨_,rfl⟩
    obtain ⟨I,hI⟩:∃ I,I=str (hexL ((r.drop S).take 20)):=⟨_,rfl⟩
    have hRWs:RW.size≤20:=by rw [hRW,str_size,List.length_take];omega
    have HHX:Hid (∀ W,Calls Tryz.prog 109 #[.string RW] W fun e w'=>e=.returned (.string I)∧∃ y:BelW W,w'=y.w):=fun W =>
     (hex_any RW W (by omega)).mono fun e w' ⟨he,hb⟩=>⟨by rw [he,hI,hRW,str_list],⟨w',hb⟩,rfl⟩
    have HC1:Hid (∀ W,Below w4.heap.size w4 W→(convert 131 9 (.slice (some ⟨b,o,none⟩) k k)).run Tryz.prog W=.ok (.string N) W):=fun W hW=>by
     rw [hNN]
     exact conv_at (w:=w3) (l:=r.take k) (fun j hj=>by rw [List.length_take] at hj;rw [List.getElem_take];exact HXX.out j (by omega)) hbl k (by rw [List.length_take];have:=HK.out.1;omega) (hb4.trans (hW.mono hb4.size))
    have HC2:Hid (∀ W,Below w4.heap.size w4 W→(convert 131 9 (.slice (some ⟨b,o+S,none⟩) 20 20)).run Tryz.prog W=.ok (.string RW) W):=fun W hW=>by
     rw [hRW]
     have hSr:S+20≤r.length:=by have:=HK.out.2;have:=HST.out;have:=HN.out;omega
     exact conv_at (w:=w3) (l:=(r.drop S).take 20) (fun j hj=>by
      rw [List.length_take,List.length_drop] at hj
      rw [List.getElem_take,List.getElem_drop,Nat.add_assoc]
      exact HXX.out (S+j) (by omega)) hbl 20 (by rw [List.length_take,List.length_drop];omega) (hb4.trans (hW.mono hb4.size))
    have hd4:Below w4.heap.size w4 w4.drew:=(Below.refl _ _).drew
    have ha4:Below w4.heap.size w4 (w4.alloc (.cells #[.int .i64 0,.string ⟨#[]⟩,.string ⟨#[]⟩] 107)).drew:=(below_new (Below.refl _ _) _).drew
    have p1:=HC1.out _ hd4
    have p2:=HC1.out _ ha4
    have p3:=fun (y:BelW w4.drew)=>HC1.out y.w (hd4.trans (y.h.mono hd4.size))
    have p4:=fun (y:BelW ((w4.alloc (.cells #[.int .i64 0,.string ⟨#[]⟩,.string ⟨#[]⟩] 107)).drew))=>HC1.out y.w (ha4.trans (y.h.mono ha4.size))
    have p5:=fun (y:BelW w4.drew)=>HC1.out (y.w.alloc (.cells #[.int .i64 0,.string ⟨#[]⟩,.string ⟨#[]⟩] 107)) (below_new (hd4.trans (y.h.mono hd4.size)) _)
    have r1:=HC2.out _ hd4
    have r2:=HC2.out _ ha4
    have hrb:(w4.alloc (.cells #[.int .i64 0,.string ⟨#[]⟩,.string ⟨#[]⟩] 107)).drew.heap[w4.heap.size]?=some (.cells #[.int .i64 0,.string ⟨#[]⟩,.string ⟨#[]⟩] 107 (0,0)):=heap_alloc_new w4 (.cells #[.int .i64 0,.string ⟨#[]⟩,.string ⟨#[]⟩] 107)
    have HRB:=Lib.hid hrb
    have hbl4:w4.heap.size<(w4.alloc (.cells #[.int .i64 0,.string ⟨#[]⟩,.string ⟨#[]⟩] 107)).drew.heap.size:=by show _<(w4.alloc _).heap.size;simp
    have hry:=fun (y:BelW ((w4.alloc (.cells #[.int .i64 0,.string ⟨#[]⟩,.string ⟨#[]⟩] 107)).drew))=>(y.h.block w4.heap.size hbl4).trans hrb
    have s0:∀ y:BelW ((w4.alloc (.cells #[.int .i64 0,.string ⟨#[]⟩,.string ⟨#[]⟩] 107)).drew),y.w.cell? ⟨w4.heap.size,0,none⟩=some (.int .i64 0):=fun y=>cell_of_row y.w w4.heap.size 0 _ _ _ (hry y)
    have s1:∀ y:BelW ((w4.alloc (.cells #[.int .i64 0,.string ⟨#[]⟩,.string ⟨#[]⟩] 107)).drew),y.w.cell? ⟨w4.heap.size,1,none⟩=some (.string ⟨#[]⟩):=fun y=>cell_of_row y.w w4.heap.size 1 _ _ _ (hry y)
    have s2:∀ y:BelW ((w4.alloc (.cells #[.int .i64 0,.string ⟨#[]⟩,.string ⟨#[]⟩] 107)).drew),y.w.cell? ⟨w4.heap.size,2,none⟩=some (.string ⟨#[]⟩):=fun y=>cell_of_row y.w w4.heap.size 2 _ _ _ (hry y)
    have t0:∀ y:BelW ((w4.alloc (.cells #[.int .i64 0,.string ⟨#[]⟩,.string ⟨#[]⟩] 107)).drew),y.w.frozen? ⟨w4.heap.size,0,none⟩=false:=fun y=>frozen_of_row y.w w4.heap.size 0 _ _ (hry y)
    have t1:∀ y:BelW ((w4.alloc (.cells #[.int .i64 0,.string ⟨#[]⟩,.string ⟨#[]⟩] 107)).drew),y.w.frozen? ⟨w4.heap.size,1,none⟩=false:=fun y=>frozen_of_row y.w w4.heap.size 1 _ _ (hry y)
    have t2:∀ y:BelW ((w4.alloc (.cells #[.int .i64 0,.string ⟨#[]⟩,.string ⟨#[]⟩] 107)).drew),y.w.frozen? ⟨w4.heap.size,2,none⟩=false:=fun y=>frozen_of_row y.w w4.heap.size 2 _ _ (hry y)
    have HRY:=Lib.hid hry
    have HD4:=Lib.hid hd4
    have HA4:=Lib.hid ha4
    have HW4:=Lib.hid hw4
    have HNI:=Lib.hid (And.intro hNN hI)
    clear hb4 hw4 hNN hRW hI hRWs HC1 HC2 hrb hry hd4 ha4 f0 f1 f2 y0 y1 y2 j3 j4 j5 j6 j7 j8 j9 j10 j11
    go_cut [11] (fun v11 wx=>∃ E,v11=.pointer (some ⟨E,0,none⟩)∧w4.heap.size≤E∧Hid (wx.heap[E]?=some (.cells #[.int .i64 (q:Int),.string N,.string I] 107 (0,0)))∧Hid (Below w4.heap.size w4 wx))
    case first =>
     go_region_with (go_at_call 109;((with_reducible refine (HHX.out _).mono ?_);rintro e _ ⟨rfl,y,rfl⟩))
     all_goals go_wp2_with fail
     all_goals go_meet
     all_goals first
      | exact ⟨w4.heap.size,rfl,Nat.le_refl _,ent_row (HRY.out y),set3_below (HA4.out.trans (y.h.mono HA4.out.size)) (Nat.le_refl _)⟩
      | exact ⟨y.w.heap.size,rfl,Nat.le_trans HD4.out.size y.h.size,heap_alloc_new _ _,below_new (HD4.out.trans (y.h.mono HD4.out.size)) _⟩
    case rest =>
     obtain ⟨E,rfl,hE,HE,H5⟩:=hcut
     clear p1 p2 p3 p4 p5 r1 r2 s0 s1 s2 t0 t1 t2 HHX HRB HRY HD4 HA4
     have hb5:Below w3.heap.size w3 wc:=by
      have h:=H5.out
      rw [HW4.out] at h
      have hb4:Below w3.heap.size w3 (w3.drewN nq):=below_drewN (Below.refl _ _) _
      exact hb4.trans (h.mono hb4.size)
     have hwl:w.heap.size<w3.heap.size:=row_lt HR2.out
     have hr5:=(hb5.block w.heap.size hwl).trans HR2.out
     have HR5:=Lib.hid hr5
     have HB5:=Lib.hid (HB2.out.trans (hb5.mono HB2.out.size))
     have f0:=frozen_of_row wc w.heap.size 0 _ _ hr5
     have f1:=frozen_of_row wc w.heap.size 1 _ _ hr5
     have f2:=frozen_of_row wc w.heap.size 2 _ _ hr5
     have y0:wc.cell? ⟨w.heap.size,0,none⟩=some (.int .i64 0):=cell_of_row wc w.heap.size 0 _ _ _ hr5
     have y1:wc.cell? ⟨w.heap.size,1,none⟩=some (.string ⟨#[]⟩):=cell_of_row wc w.heap.size 1 _ _ _ hr5
     have y2:wc.cell? ⟨w.heap.size,2,none⟩=some (.string ⟨#[]⟩):=cell_of_row wc w.heap.size 2 _ _ _ hr5
     have e0:wc.cell? ⟨E,0,none⟩=some (.int .i64 (q:Int)):=cell_of_row wc E 0 _ _ _ HE.out
     have e1:wc.cell? ⟨E,1,none⟩=some (.string N):=cell_of_row wc E 1 _ _ _ HE.out
     have e2:wc.cell? ⟨E,2,none⟩=some (.string I):=cell_of_row wc E 2 _ _ _ HE.out
     have hne:b≠w.heap.size:=by
      have h0:0<r.length:=by have:=HK.out.1;omega
      exact ent_ne HR2.out (HXX.out 0 h0)
     have HBV:Hid (BSl (((wc.setCell ⟨w.heap.size,0,none⟩ (.int .i64 (q:Int))).setCell ⟨w.heap.size,1,none⟩ (.string N)).setCell ⟨w.heap.size,2,none⟩ (.string I)).drew b (if c=T then .slice (some ⟨b,o,none⟩) (n-T) (c-T) else .slice (some ⟨b,o+T,none⟩) (n-T) (c-T)) (r.drop T)):=by
      have h:=from_bytes (w:=(((wc.setCell ⟨w.heap.size,0,none⟩ (.int .i64 (q:Int))).setCell ⟨w.heap.size,1,none⟩ (.string N)).setCell ⟨w.heap.size,2,none⟩ (.string I)).drew) (k:=T) HN.out hc (by simp;exact Nat.lt_of_lt_of_le hbl hb5.size) (fun j hj=>(set3_cell (w:=wc) hne).trans ((hb5.cell (p:=⟨b,o+j,none⟩) hbl).trans (HXX.out j hj))) (by have:=HST.out;have:=HK.out;omega)
      unfold Lib.sliceFrom at h
      split at h
      ·rename_i hc;show BSl _ _ _ _;rw [if_pos hc];exact h
      ·rename_i hc;show BSl _ _ _ _;rw [if_neg hc];exact h
     have hTn:T≤n:=by have:=HST.out;have:=HK.out;omega
     have hRe:Hid (R=(0,⟨(q:Int),N,I⟩,r.drop T)):=by
      show _=_
      rw [HX.out,restT,if_neg (by have:=HK.out;have:=HN.out;simp only [Int.toNat_natCast];omega),HNI.out.1,HNI.out.2,HST.out.1,HST.out.2]
      rfl
     have j3:IntKind.i64.wrap ((S:Int)+20)=(T:Int):=by have:=HST.out;rw [IntWalk.i64_in _ (by omega)];omega
     have j4:(0:Int)≤(T:Int):=by omega
     have j5:(T:Int)≤(n:Int):=by omega
     have j7:(T:Int)≤(c:Int):=by omega
     have j10:T≤c:=by omega
     clear hr5 hb5 HX HXX HST HK HNI HN HW4 H5
     go_upto_region 10 with fail
     go_region
     all_goals go_wp2_with fail
     all_goals obtain ⟨d0,d1,d2⟩:=ent_end (v0:=.int .i64 (q:Int)) (v1:=.string N) (v2:=.string I) HR5.out
     ·have hcT:c=T:=by assumption
      have hv:=HBV.out
      rw [if_pos hcT] at hv
      refine bodyPost_ret (v:=.tuple #[.agg #[.int .i64 (q:Int),.string N,.string I],.slice (some ⟨b,o,none⟩) (n-T) (c-T),.int .i64 0]) (by simp [results,Tryz.results162,go_sem,d0,d1,d2,hcT]) rfl (takeR_ok hRe hv (set3_below HB5.out (Nat.le_refl _)).drew)
     ·have hcT:¬c=T:=by assumption
      have hv:=HBV.out
      rw [if_neg hcT] at hv
      refine bodyPost_ret (v:=.tuple #[.agg #[.int .i64 (q:Int),.string N,.string I],.slice (some ⟨b,o+T,none⟩) (n-T) (c-T),.int .i64 0]) (by simp [results,Tryz.results162,go_sem,d0,d1,d2]) rfl (takeR_ok hRe hv (set3_below HB5.out (Nat.le_refl _)).drew)
end Go.Proofs.YtnoopcenogbjiaaGreatDoor
