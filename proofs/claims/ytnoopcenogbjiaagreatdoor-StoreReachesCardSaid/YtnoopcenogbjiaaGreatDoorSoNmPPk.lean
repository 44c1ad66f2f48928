/-
 The links of an object as the reference names them, plain; they are the program's links but for their order and number.
-/
import Derived.Test.YtnoopcenogbjiaaGreatDoorSoSrtPk
import Derived.Test.YtnoopcenogbjiaaGreatDoorSoFol0Pk
import Derived.Maps.AppendAt
set_option linter.unusedVariables false
set_option linter.unusedSimpArgs false
namespace Go.Proofs.YtnoopcenogbjiaaGreatDoor
open Go Go.RowKit Go.Maps Go.WideMaps
def nmR (k:Int) (b:List UInt8) (cut:Bool):List (List UInt8):=if cut=true∧k=3∧1<(lnkL k b).2.length then (lnkL k b).2.take 1 else (lnkL k b).2
theorem disL_head (a:List UInt8) (l:List (List UInt8)):∃ r,disL (a::l)=a::r:=by
 induction l using snoc_ind with
 | h0=>exact ⟨[],by simp [disL]⟩
 | h1 l s ih =>
  obtain ⟨r,hr⟩:=ih
  rw [←List.cons_append,disL_snoc,hr]
  split
  ·exact ⟨r,rfl⟩
  ·exact ⟨r++[s],rfl⟩
theorem toL_ids (k:Int) (ids:List (List UInt8)):(toL k ids).map (fun lk=>lk.i.data.toList)=ids:=by
 unfold toL
 rw [List.map_map]
 exact List.map_id'' (fun x=>str_list x) _
theorem treeLk_ids (es:List En):(treeLk es).map (fun lk=>lk.i.data.toList)=tids es:=by
 unfold treeLk tids
 rw [List.map_map]
 rfl
theorem nmR_mem {k:Int} {b:List UInt8} (h:(lnkL k b).1=0) (cut:Bool):(∀ x,x∈nmR k b cut↔x∈(lksOf k b cut).map fun lk=>lk.i.data.toList)∧(nmR k b cut).length≤(lksOf k b cut).length:=by
 have hb:bytesE k b=0:=by
  by_cases hb:bytesE k b=0
  ·exact hb
  ·rw [lnkL,if_pos hb] at h
   exact h
 by_cases h2:k=2
 ·subst h2
  rw [lnkL_2 hb] at h
  rw [nmR,if_neg (by simp),lnkL_2 hb,lksOf,if_pos rfl]
  refine ⟨fun x=>by rw [treeLk_ids,trL,disL_mem],?_⟩
  refine Nat.le_trans (disL_len _) ?_
  simp [trL,tids,treeLk]
 by_cases h3:k=3
 ·subst h3
  rw [lnkL_3 hb] at h
  have h0:(parC b).1=0:=h
  have hc:(cmL b).2=(parC b).2.t.data.toList::(parC b).2.ps:=by rw [cmL,if_pos h0]
  obtain ⟨r,hr⟩:=disL_head (parC b).2.t.data.toList (parC b).2.ps
  have hl:=disL_len ((parC b).2.t.data.toList::(parC b).2.ps)
  have hm:=disL_mem ((parC b).2.t.data.toList::(parC b).2.ps)
  rw [lksOf,if_neg (by decide),if_pos rfl,if_pos h0]
  cases cut with
  | false =>
   rw [nmR,if_neg (by simp),lnkL_3 hb]
   simp only [hc]
   refine ⟨fun x=>?_,?_⟩
   ·rw [hm,List.map_cons,if_neg (by decide),toL_ids]
   ·rw [List.length_cons,if_neg (by decide),toL,List.length_map]
    simpa using hl
  | true =>
   rw [if_pos rfl]
   by_cases h1:1<(lnkL 3 b).2.length
   ·rw [nmR,if_pos ⟨rfl,rfl,h1⟩,lnkL_3 hb]
    simp only [hc]
    rw [hr]
    exact ⟨fun x=>by simp,by simp⟩
   ·rw [nmR,if_neg (fun e=>h1 e.2.2)]
    rw [lnkL_3 hb] at h1 ⊢
    simp only [hc] at h1 ⊢
    rw [hr] at h1 ⊢
    obtain rfl:r=[]:=by
     cases r with
     | nil=>rfl
     | cons _ _=>simp at h1
    exact ⟨fun x=>by simp,by simp⟩
 by_cases h4:k=4
 ·subst h4
  have he:lnkL 4 b=tgL b:=by rw [lnkL,if_neg (by omega),if_pos rfl]
  rw [he] at h
  have h0:(parG b).1=0:=h
  rw [nmR,if_neg (by simp),he,lksOf,if_neg (by decide),if_neg (by decide),if_pos rfl,if_pos h0,tgL,if_pos h0]
  exact ⟨fun x=>by simp,by simp⟩
 ·have he:lnkL k b=(0,[]):=by rw [lnkL,if_neg (by omega),if_neg h4,if_neg h2,if_neg h3]
  rw [nmR,if_neg (by rw [he];simp),he,lksOf,if_neg h2,if_neg h3,if_neg h4]
  exact ⟨fun x=>by simp,by simp⟩
def nmA (l:List It) (cuts:List (List UInt8)) (x:List UInt8):List (List UInt8):=nmR (getI l (str x)).k (getI l (str x)).b.data.toList (decide (x∈cuts))
theorem right_get {l:List It} (h:rightI l=true) {x:List UInt8} (hx:hasI l (str x)=true):(lnkL (getI l (str x)).k (getI l (str x)).b.data.toList).1=0:=by
 obtain ⟨h1,-⟩:=getI_mem hx
 obtain ⟨k,hk,he⟩:=List.getElem_of_mem h1
 have h2:=(rightI_at h hk).1
 rw [getDI_at hk,he] at h2
 exact h2
theorem right_knd {l:List It} (h:rightI l=true) (x:List UInt8):kndI l x=0↔hasI l (str x)=false:=by
 cases hx:hasI l (str x) with
 | false=>exact ⟨fun _=>rfl,fun _=>by rw [kndI,getI_no hx];rfl⟩
 | true =>
  refine ⟨fun h0=>?_,fun h0=>by cases h0⟩
  have h2:=right_get h hx
  rw [show (getI l (str x)).k=0 from h0] at h2
  have h3:bytesE 0 (getI l (str x)).b.data.toList=140:=by rw [bytesE,if_pos (by decide)]
  rw [lnkL,if_pos (by rw [h3];decide),h3] at h2
  cases h2
theorem nmA_mem {l:List It} {cuts:List (List UInt8)} (h:rightI l=true) {x:List UInt8} (hx:hasI l (str x)=true):(∀ y,y∈nmA l cuts x↔y∈nmI l cuts x)∧(nmA l cuts x).length≤(getL l cuts (str x)).length:=by
 obtain ⟨h1,h2⟩:=nmR_mem (right_get h hx) (decide (x∈cuts))
 have e:getL l cuts (str x)=lksOf (getI l (str x)).k (getI l (str x)).b.data.toList (decide (x∈cuts)):=by rw [getL,str_list]
 unfold nmA nmI
 rw [e]
 exact ⟨h1,h2⟩
def pnA (l:List It) (cuts h:List (List UInt8)):Nat:=pen cuts (fun q=>if q∈h then some 0 else none) l
theorem pnA_step {l:List It} {cuts:List (List UInt8)} (hr:rightI l=true) (h:List (List UInt8)) (x:List UInt8) (hs:SrtS h) (hx:x∉h) (hp:hasI l (str x)=true):pnA l cuts (insS h (str x))+(nmA l cuts x).length+1≤pnA l cuts h:=by
 obtain ⟨h1,h2⟩:=getI_mem hp
 have h3:=pen_has cuts (fun q=>if q∈h then some 0 else none) 0 l _ h1 (by rw [h2,str_list,if_neg hx])
 have h4:wI cuts (getI l (str x))=1+2*(getL l cuts (str x)).length:=by rw [wI,getL,h2]
 have h5:=(nmA_mem (cuts:=cuts) hr hp).2
 have h6:(fun q=>if q∈insS h (str x) then some (0:Int) else none)=kput (fun q=>if q∈h then some 0 else none) (getI l (str x)).i.data.toList 0:=by
  funext q
  rw [kput,h2,str_list]
  by_cases hq:q=x
  ·rw [if_pos ((mem_ins hs x q).2 (.inr hq)),if_pos hq]
  ·rw [if_neg hq]
   by_cases hq2:q∈h
   ·rw [if_pos ((mem_ins hs x q).2 (.inl hq2)),if_pos hq2]
   ·rw [if_neg (fun e=>((mem_ins hs x q).1 e).elim hq2 hq),if_neg hq2]
 unfold pnA
 rw [h6]
 omega
def rwkF (l:List It) (cuts ids:List (List UInt8)):Nat:=pnA l cuts []+ids.length+1
def rwkA (l:List It) (cuts ids:List (List UInt8)):List (List UInt8)×List (List UInt8):=rwk (fun x=>hasI l (str x)) (nmA l cuts) (rwkF l cuts ids) [] [] ids
theorem rwkA_all {l:List It} (hr:rightI l=true) (cuts ids:List (List UInt8)) :
  SrtS (rwkA l cuts ids).1∧SrtS (rwkA l cuts ids).2∧(∀ x,x∈(rwkA l cuts ids).1↔Rch l cuts ids x∧kndI l x≠0)∧∀ x,x∈(rwkA l cuts ids).2↔Rch l cuts ids x∧kndI l x=0:=by
 obtain ⟨h1,h2,h3,h4⟩:=rwk_all (fun x=>hasI l (str x)) (nmA l cuts) (Rch l cuts ids) (pnA l cuts) ids (fun x hx hp y hy=>rch_step hx (((nmA_mem hr hp).1 y).1 hy))
  (fun S h0 h1=>rch_min S h0 fun x hx y hy=>by
   cases hp:hasI l (str x) with
   | true=>exact h1 x hx hp y (((nmA_mem hr hp).1 y).2 hy)
   | false =>
    rw [nmI,getL,getI_no hp] at hy
    exact absurd hy (by simp [It.zero,lksOf]))
  (fun h x hs hx hp=>by have:=pnA_step (cuts:=cuts) hr h x hs hx hp;omega) (rwkF l cuts ids) (Nat.lt_succ_self _) (fun x hx=>rch_base hx)
 refine ⟨h1,h2,fun x=>?_,fun x=>?_⟩
 ·unfold rwkA
  rw [h3 x,Ne,right_knd hr]
  simp
 ·unfold rwkA
  rw [h4 x,right_knd hr]
theorem reach_ref {l:List It} (hr:rightI l=true) (ids:List (List UInt8)):(rwkA l [] ids).2=missI l ids∧(reachC l ids=0↔(rwkA l [] ids).2=[])∧(reachC l ids=0→reachI l ids=(rwkA l [] ids).1)∧(reachC l ids≠0→reachI l ids=[]∧reachC l ids=171):=by
 obtain ⟨h1,h2,h3,h4⟩:=rwkA_all hr [] ids
 obtain ⟨h5,h6⟩:=reach_all l ids
 have hc:reachC l ids=0↔(reachF l ids).2=true:=by
  unfold reachC
  by_cases h:(reachF l ids).2=true
  ·rw [if_pos h];exact Iff.intro (fun _=>h) (fun _=>rfl)
  ·rw [if_neg h];exact Iff.intro (fun e=>by cases e) (fun e=>absurd e h)
 refine ⟨srt_unique _ _ h2 (keysL_srt _) fun x=>?_,?_,fun h=>?_,fun h=>?_⟩
 ·rw [missI,keysL_mem,miss_all,h4]
 ·rw [hc,h5,List.eq_nil_iff_forall_not_mem]
  refine Iff.intro (fun h x hx=>h x ((h4 x).1 hx).1 ((h4 x).1 hx).2) (fun h x hx hk=>h x ((h4 x).2 ⟨hx,hk⟩))
 ·have ht:=hc.1 h
  rw [reachI,if_pos ht]
  refine srt_unique _ _ (keysL_srt _) h1 fun x=>?_
  rw [keysL_mem,h6 ht,h3]
  exact ⟨fun hx=>⟨hx,h5.1 ht x hx⟩,fun hx=>hx.1⟩
 ·have hf:¬ (reachF l ids).2=true:=fun e=>h (hc.2 e)
  rw [reachI,if_neg hf,reachC,if_neg hf]
  exact ⟨rfl,rfl⟩
def lkdI (l:List It) (e:It) (cut:Bool):Prop:=∀ lk∈lksOf e.k e.b.data.toList cut,hasI l lk.i=true∧(getI l lk.i).k=lk.k
theorem okG_knd {g:Tg} (h:okG g=true):g.k≠0:=by
 intro h0
 unfold okG at h
 rw [h0] at h
 simp [wordL] at h
theorem lks_knd (k:Int) (b:List UInt8) (cut:Bool):∀ lk∈lksOf k b cut,lk.k≠0:=by
 intro lk h
 unfold lksOf at h
 by_cases h2:k=2
 ·rw [if_pos h2] at h
  unfold treeLk at h
  obtain ⟨e,-,rfl⟩:=List.mem_map.1 h
  simp only
  by_cases h4:e.m=4
  ·rw [if_pos h4];decide
  ·rw [if_neg h4];decide
 rw [if_neg h2] at h
 by_cases h3:k=3
 ·rw [if_pos h3] at h
  by_cases h0:(parC b).1=0
  ·rw [if_pos h0] at h
   rcases List.mem_cons.1 h with rfl|h
   ·simp
   ·cases cut with
    | true=>rw [if_pos rfl] at h;cases h
    | false =>
     rw [if_neg (by decide)] at h
     rw [(toL_mem.1 h).2]
     decide
  ·rw [if_neg h0] at h;cases h
 rw [if_neg h3] at h
 by_cases h4:k=4
 ·rw [if_pos h4] at h
  by_cases h0:(parG b).1=0
  ·rw [if_pos h0] at h
   obtain rfl:=List.mem_singleton.1 h
   exact okG_knd (chkG_ok (parG_back h0).1).1
  ·rw [if_neg h0] at h;cases h
 ·rw [if_neg h4] at h;cases h
theorem hasI_knd {l:List It} (hr:rightI l=true) (i:ByteArray):hasI l i=true↔(getI l i).k≠0:=by
 have h:=right_knd hr i.data.toList
 rw [knd_data,str_data] at h
 rw [Ne,h]
 simp
theorem whole_ref {l:List It} (hr:rightI l=true) (cuts ids:List (List UInt8)) :
  wholeI l cuts ids=true↔(rwkA l cuts ids).2=[]∧∀ x∈(rwkA l cuts ids).1,lkdI l (getI l (str x)) (decide (x∈cuts)):=by
 obtain ⟨-,-,h3,h4⟩:=rwkA_all hr cuts ids
 rw [whole_all]
 constructor
 ·intro h
  refine ⟨List.eq_nil_iff_forall_not_mem.2 fun x hx=>?_,fun x hx lk hl=>?_⟩
  ·obtain ⟨⟨lk,hl,rfl⟩,h0⟩:=(h4 x).1 hx
   rw [knd_data] at h0
   exact (h lk hl).1 h0
  ·obtain ⟨⟨lk0,hl0,rfl⟩,h0⟩:=(h3 x).1 hx
   rw [str_data] at hl
   have hL:Ls l cuts (toL 0 ids) lk:=.step hl0 (by rw [getL];exact hl)
   obtain ⟨h5,h6⟩:=h lk hL
   exact ⟨(hasI_knd hr _).2 h5,(h6.resolve_left (lks_knd _ _ _ lk hl)).symm⟩
 ·rintro ⟨h5,h6⟩ lk hl
  have hk:∀ lk,Ls l cuts (toL 0 ids) lk→(getI l lk.i).k≠0:=fun lk hl h0=>by
   have:lk.i.data.toList∈(rwkA l cuts ids).2:=(h4 _).2 ⟨⟨lk,hl,rfl⟩,by rw [knd_data];exact h0⟩
   rw [h5] at this
   cases this
  refine ⟨hk lk hl,?_⟩
  cases hl with
  | base h=>exact .inl (toL_mem.1 h).2
  | step h h' =>
   rename_i lk0
   have h7:=h6 lk0.i.data.toList ((h3 _).2 ⟨⟨lk0,h,rfl⟩,by rw [knd_data];exact hk _ h⟩) lk (by rw [str_data];rw [getL] at h';exact h')
   exact .inr h7.2.symm
theorem reach_closed {l:List It} (hr:rightI l=true) {ids:List (List UInt8)} (h0:reachC l ids=0) {x:List UInt8} (hx:x∈reachI l ids) :
  hasI l (str x)=true∧∀ y∈nmR (getI l (str x)).k (getI l (str x)).b.data.toList false,y∈reachI l ids:=by
 obtain ⟨h1,h2,h3,-⟩:=reach_ref hr ids
 obtain ⟨-,-,h5,h6⟩:=rwkA_all hr [] ids
 rw [h3 h0] at hx ⊢
 obtain ⟨h7,h8⟩:=(h5 x).1 hx
 have hp:hasI l (str x)=true:=by
  cases hp:hasI l (str x) with
  | true=>rfl
  | false=>exact absurd ((right_knd hr x).2 hp) h8
 refine ⟨hp,fun y hy=>?_⟩
 have hy2:y∈nmA l [] x:=by rw [nmA,show decide (x∈([]:List (List UInt8)))=false by simp];exact hy
 have hy3:=rch_step h7 (((nmA_mem hr hp).1 y).1 hy2)
 refine (h5 y).2 ⟨hy3,fun hk=>?_⟩
 have:=(h6 y).2 ⟨hy3,hk⟩
 rw [h2.1 h0] at this
 cases this
theorem rch_mono {l:List It} {cuts a b:List (List UInt8)} (h:∀ x∈a,x∈b):∀ x,Rch l cuts a x→Rch l cuts b x :=
 rch_min _ (fun x hx=>rch_base (h x hx)) fun _ hx _ hy=>rch_step hx hy
theorem reach_mono {l:List It} (hr:rightI l=true) {a b:List (List UInt8)} (h:∀ x∈a,x∈b) (h0:reachC l a=0) (h1:reachC l b=0) {x:List UInt8} (hx:x∈reachI l a):x∈reachI l b:=by
 rw [(reach_ref hr a).2.2.1 h0] at hx
 rw [(reach_ref hr b).2.2.1 h1]
 obtain ⟨h2,h3⟩:=((rwkA_all hr [] a).2.2.1 x).1 hx
 exact ((rwkA_all hr [] b).2.2.1 x).2 ⟨rch_mono h x h2,h3⟩
theorem miss_pos {l:List It} (hr:rightI l=true) {ids:List (List UInt8)} (h0:reachC l ids≠0):0<(missI l ids).length:=by
 obtain ⟨h1,h2,-,-⟩:=reach_ref hr ids
 rw [←h1,List.length_pos_iff]
 exact fun e=>h0 (h2.2 e)
theorem lksOf_len (k:Int) (b:List UInt8) (cut:Bool):(lksOf k b cut).length≤1024:=by
 unfold lksOf
 by_cases h2:k=2
 ·rw [if_pos h2,treeLk,List.length_map]
  exact parE_len b
 rw [if_neg h2]
 by_cases h3:k=3
 ·rw [if_pos h3]
  by_cases h0:(parC b).1=0
  ·rw [if_pos h0,List.length_cons]
   have:=parC_len h0
   cases cut
   ·rw [if_neg (by decide),toL,List.length_map];omega
   ·rw [if_pos rfl];simp
  ·rw [if_neg h0];simp
 rw [if_neg h3]
 by_cases h4:k=4
 ·rw [if_pos h4]
  split<;>simp
 ·rw [if_neg h4];simp
theorem pen_le (cuts:List (List UInt8)) (kf:Kf):∀ l:List It,pen cuts kf l≤2049*l.length
 | []=>by simp [pen]
 | x::r=>by
  have ih:=pen_le cuts kf r
  have h:=lksOf_len x.k x.b.data.toList (decide (x.i.data.toList∈cuts))
  rw [pen,List.length_cons]
  split
  ·rw [wI];omega
  ·omega
theorem rwkF_le {l:List It} {cuts ids:List (List UInt8)} (hl:l.length≤80) (hi:ids.length≤40):rwkF l cuts ids≤200000:=by
 have h:=pen_le cuts (fun q=>if q∈([]:List (List UInt8)) then some 0 else none) l
 unfold rwkF pnA
 omega
theorem rndS_le {l:List It} {cuts ids:List (List UInt8)} (hl:l.length≤80) (hi:ids.length≤40):rndS l cuts ids≤200000:=by
 have h:=pen_le cuts (fun _=>none) l
 have h2:(toL 0 ids).length=ids.length:=by rw [toL,List.length_map]
 unfold rndS phi
 rw [wsz,wsz,h2]
 simp only [List.length_nil]
 omega
theorem getL_cuts (l:List It) {a b:List (List UInt8)} (h:∀ x,x∈a↔x∈b) (id:ByteArray):getL l a id=getL l b id:=by
 unfold getL
 rw [show decide (id.data.toList∈a)=decide (id.data.toList∈b) from by simp only [h]]
theorem Ls_cuts {l:List It} {a b:List (List UInt8)} (h:∀ x,x∈a↔x∈b) {b0:List Lk} {lk:Lk} (hl:Ls l a b0 lk):Ls l b b0 lk:=by
 induction hl with
 | base h=>exact .base h
 | step _ h2 ih=>exact .step ih (by rw [←getL_cuts l h];exact h2)
theorem wholeI_cuts (l:List It) {a b:List (List UInt8)} (h:∀ x,x∈a↔x∈b) (ids:List (List UInt8)):wholeI l a ids=wholeI l b ids:=by
 have h1:wholeI l a ids=true↔wholeI l b ids=true:=by
  rw [whole_all,whole_all]
  exact ⟨fun hx lk hl=>hx lk (Ls_cuts (fun x=>(h x).symm) hl),fun hx lk hl=>hx lk (Ls_cuts h hl)⟩
 cases ha:wholeI l a ids<;>cases hb:wholeI l b ids<;>simp_all
theorem nmA_holds (l:List It) {cs:List (List UInt8)} (hs:SrtS cs) (id:ByteArray):nmR (getI l id).k (getI l id).b.data.toList (holdsS cs id)=nmA l cs id.data.toList:=by
 have h:holdsS cs id=decide (id.data.toList∈cs):=by
  have:=holdsS_iff hs id
  cases hh:holdsS cs id
  ·rw [hh] at this;exact (decide_eq_false fun e=>by simpa using this.2 e).symm
  ·exact (decide_eq_true (this.1 hh)).symm
 rw [nmA,str_data,h]
structure WkP (l:List It) (cs:List (List UInt8)) (R:List (List UInt8)×List (List UInt8)) (F k:Nat) (h kk td:List (List UInt8)) (i:Nat):Prop where
 r:rwk (fun x=>hasI l (str x)) (nmA l cs) k h kk (td.drop i)=R
 n:pnA l cs h+td.length<k+i
 f:pnA l cs h+td.length≤F
 ip:i≤td.length
 sh:SrtS h
 sk:SrtS kk
 lh:h.length+pnA l cs h≤F
 lk:kk.length≤i
section
variable {l:List It} {cs:List (List UInt8)} {R:List (List UInt8)×List (List UInt8)} {F k:Nat} {h kk td:List (List UInt8)} {i:Nat}
theorem WkP.start (ids:List (List UInt8)):WkP l cs (rwkA l cs ids) (rwkF l cs ids) (rwkF l cs ids) [] [] ids 0:=by
 refine ⟨rfl,?_,?_,Nat.zero_le _,List.Pairwise.nil,List.Pairwise.nil,?_,Nat.zero_le _⟩<;>(unfold rwkF;simp<;>omega)
theorem WkP.pos (hw:WkP l cs R F k h kk td i):∃ k',k=k'+1:=⟨k-1,by have:=hw.n;have:=hw.ip;omega⟩
theorem WkP.done (hw:WkP l cs R F k h kk td i) (he:¬ i<td.length):R=(h,kk):=by
 obtain ⟨k,rfl⟩:=hw.pos
 rw [←hw.r,List.drop_eq_nil_of_le (by omega),rwk_end]
theorem WkP.met (hw:WkP l cs R F (k+1) h kk td i) (hi:i<td.length) (hm:td[i]∈h∨td[i]∈kk):WkP l cs R F k h kk td (i+1):=by
 have hr:=hw.r
 rw [List.drop_eq_getElem_cons hi,rwk_met hm] at hr
 exact ⟨hr,by have:=hw.n;omega,hw.f,hi,hw.sh,hw.sk,hw.lh,by have:=hw.lk;omega⟩
theorem WkP.lack (hw:WkP l cs R F (k+1) h kk td i) (hi:i<td.length) (hm:¬ (td[i]∈h∨td[i]∈kk)) (hp:hasI l (str td[i])=false):WkP l cs R F k h (insS kk (str td[i])) td (i+1):=by
 have hr:=hw.r
 rw [List.drop_eq_getElem_cons hi,rwk_lack hm hp] at hr
 exact ⟨hr,by have:=hw.n;omega,hw.f,hi,hw.sh,insS_srt hw.sk _,hw.lh,by have:=hw.lk;have:=insS_len kk (str td[i]);omega⟩
theorem WkP.new (hr:rightI l=true) (hw:WkP l cs R F (k+1) h kk td i) (hi:i<td.length) (hm:¬ (td[i]∈h∨td[i]∈kk)) (hp:hasI l (str td[i])=true):WkP l cs R F k (insS h (str td[i])) kk (td++nmA l cs td[i]) (i+1):=by
 have h1:=pnA_step (cuts:=cs) hr h td[i] hw.sh (fun e=>hm (.inl e)) hp
 have h2:=hw.r
 rw [List.drop_eq_getElem_cons hi,rwk_new hm hp] at h2
 refine ⟨?_,?_,?_,?_,insS_srt hw.sh _,hw.sk,?_,by have:=hw.lk;omega⟩
 ·rw [List.drop_append_of_le_length (by omega)]
  exact h2
 ·rw [List.length_append];have:=hw.n;omega
 ·rw [List.length_append];have:=hw.f;omega
 ·rw [List.length_append];omega
 ·have:=hw.lh;have:=insS_len h (str td[i]);omega
end
theorem rwk_len {l:List It} {cs:List (List UInt8)} (hr:rightI l=true):∀ (f:Nat) (h k td:List (List UInt8)),SrtS h→(rwk (fun x=>hasI l (str x)) (nmA l cs) f h k td).1.length≤h.length+pnA l cs h
 | 0,_,_,_,_=>Nat.le_add_right _ _
 | f+1,_,_,[],_=>Nat.le_add_right _ _
 | f+1,h,k,x::r,hs=>by
  by_cases hm:x∈h∨x∈k
  ·rw [rwk_met hm]
   exact rwk_len (cs:=cs) hr f h k r hs
  ·cases hp:hasI l (str x) with
   | true =>
    have h1:=pnA_step (cuts:=cs) hr h x hs (fun e=>hm (.inl e)) hp
    have h2:=rwk_len (cs:=cs) hr f (insS h (str x)) k (r++nmA l cs x) (insS_srt hs _)
    have h3:=insS_len h (str x)
    rw [rwk_new hm hp]
    omega
   | false =>
    rw [rwk_lack hm hp]
    exact rwk_len (cs:=cs) hr f h _ r hs
def Far (w:World) (v:Value) (q:Option Addr):Prop:=∀ g o,q=some ⟨g,o,none⟩→v.ownBlock≠some g∧g<w.heap.size
theorem Far.nil (w:World) (v:Value):Far w v none:=fun _ _ h=>by cases h
theorem Far.same {w w':World} {v:Value} {q:Option Addr} (h:Far w v q) (hs:w.heap.size≤w'.heap.size):Far w' v q:=fun g o e=>⟨(h g o e).1,by have:=(h g o e).2;omega⟩
theorem SRw.far {w w':World} {v:Value} {q:Option Addr} {ls:List (List UInt8)} (h:SRw w q ls) (hf:Far w v q) (hg:w.grownBy w' v.ownBlock):SRw w' q ls:=fun i hi=>by
 obtain ⟨g,o,rfl,hgs,hc⟩:=h i hi
 have hne:=(hf g o rfl).1
 exact ⟨g,o,rfl,by have:=hg.size;omega,hg.cell hc fun e=>hne e.symm⟩
theorem Far.app {w w':World} {v v':Value} {q:Option Addr} (hf:Far w v q) (hg:w.grownBy w' v.ownBlock) (hat:v'.ownBlock=v.ownBlock∨v'.ownBlock=some w.heap.size):Far w' v' q:=fun g o e=>by
 obtain ⟨h1,h2⟩:=hf g o e
 refine ⟨fun e2=>?_,by have:=hg.size;omega⟩
 rcases hat with h|h
 ·exact h1 (h▸e2)
 ·rw [h] at e2
  cases e2
  omega
theorem Far.ins {w w':World} {base n:Nat} {v:Value} {xs:List Value} {p q:Option Addr} {ls:List (List UInt8)} (ho:w.ownsRow base 9 1 v n xs) (hf:Far w v p) (hr:SRw w' q ls) (hl:0<ls.length) (hs:w.heap.size≤w'.heap.size) (hq:q=p∨∀ g o,q=some ⟨g,o,none⟩→w.heap.size≤g):Far w' v q:=by
 rcases hq with rfl|hq
 ·exact hf.same hs
 ·intro g o e
  obtain ⟨g2,o2,h1,h2,-⟩:=hr 0 hl
  rw [e] at h1
  cases h1
  exact ⟨fun e2=>by have:=(ho.lt g e2).2;have:=hq g o e;omega,h2⟩
end Go.Proofs.YtnoopcenogbjiaaGreatDoor
/-
 'append(l, m...)' to a row of the call's own, with where the row then lies.
-/
namespace Go.Proofs.YtnoopcenogbjiaaGreatDoor
open Go.RowKit
theorem wp_so_manyA {ops:Array Oper} {rest:List Oper} {o:Oper} {a:Act} {Q:Exit→Act→World→Prop} {w:World} (hgd:o.guard=none) (sl x:Operand)
  (ho:o.op=.call { callee:=.builtin .append,args:=#[sl,x],argTypes:=#[41,41] })
  {base:Nat} {v:Value} {l m:List (List UInt8)} (hs:a.eval sl=v) (hown:SOw w base v l) (p:Option Addr) (n c:Nat) (hx:a.eval x=.slice p n c) (hn:n=m.length) (hr:SRw w p m) (hb:l.length+n≤1048576) (hbase:base≤w.heap.size)
  (h:∀ v' w',SOw w' base v' (l++m)→w.grownBy w' v.ownBlock→(v'.ownBlock=v.ownBlock∨v'.ownBlock=some w.heap.size)→wpList Tryz.prog ops Q rest (a.put o.dst v') w'):wpList Tryz.prog ops Q (o::rest) a w:=by
 obtain ⟨i0,hi,hz0,hz1,hz2⟩:=info_parts Tryz.infoStr
 rcases p with _|ad
 ·have h0:m=[]:=by
   cases m with
   | nil=>rfl
   | cons y l =>
    obtain ⟨g,o',h1,_⟩:=hr 0 (by simp)
    cases h1
  subst h0
  obtain rfl:n=0:=hn
  refine wpList_plain hgd fun K hK=>?_
  have hrun:=app_noneS w base 41 o.type 9 i0 1 Tryz.underlying41 hi v l.length (strs l) hown c
  unfold Oper.wp
  simp [execOp,ho,resolve,invoke,builtin,hs,hx,hrun,Result.andThen]
  exact hK _ _ (h v w (by simpa using hown) ⟨rfl,rfl,rfl,Nat.le_refl _,fun _ _ _=>rfl⟩ (.inl rfl))
 ·refine wpList_append_own_at w hgd sl x 41 ho base 9 i0 (.string ⟨#[]⟩) 1 16 Tryz.underlying41 hi hz0 hz1 hz2 rfl (by decide) v l.length (strs l) hs hown ad n c (strs m) hx (by rw [strs_len,Nat.mul_one,hn]) (fun j u hj=>?_) (strs_one _) (by unfold maxLen;omega) (by omega) hbase (fun v' w' h1 h2 _ h3=>h v' w' (by
   unfold SOw
   rw [strs_append,List.length_append,←hn]
   exact h1) h2 h3)
  have hj':j<m.length:=by
   have:=(List.getElem?_eq_some_iff.mp hj).1
   rwa [strs_len] at this
  obtain ⟨g,o',h1,_,h2⟩:=hr j hj'
  simp only [Option.some.injEq] at h1
  subst h1
  rw [Addr.add_lit,h2]
  have h3:(strs m)[j]?=some (Value.string (str m[j])):=by simp [strs,List.getElem?_map,List.getElem?_eq_getElem hj']
  rw [←h3,hj]
end Go.Proofs.YtnoopcenogbjiaaGreatDoor
