/-
 The walks of areIds and distinct.
-/
import Derived.Test.YtnoopcenogbjiaaGreatDoorCmIdmPk
import Derived.Test.YtnoopcenogbjiaaGreatDoorStOwPk
import Derived.Deep.RegionHeld3
set_option linter.unusedVariables false
set_option linter.unusedSimpArgs false
namespace Go.Proofs.YtnoopcenogbjiaaGreatDoor
open Go Go.RowKit Go.Maps Go.WideMaps
theorem allId_take {l:List (List UInt8)} {k:Nat} (h:k<l.length) (h0:allId (l.take k)=true):allId (l.take (k+1))=isId (str l[k]):=by
 unfold allId at *
 rw [List.take_succ_eq_append_getElem h,List.all_append,h0]
 simp
theorem allId_false {l:List (List UInt8)} {k:Nat} (h:k<l.length) (h0:isId (str l[k])=false):allId l=false:=by
 unfold allId
 rw [←Bool.not_eq_true,List.all_eq_true]
 intro h1
 rw [h1 _ (List.getElem_mem h)] at h0
 cases h0
set_option maxHeartbeats 1000000 in
set_option maxRecDepth 4000 in
theorem areIds_any (ls:List (List UInt8)) (p:Option Addr) (c n:Nat) (w:World) (hn:n=ls.length) (hp:SRw w p ls) (hl:∀ x∈ls,x.length≤140737488355328) (hn2:n≤140737488355328) :
  Calls Tryz.prog 174 #[.slice p n c] w fun e w'=>e=.returned (.bool (allId ls))∧Below w.heap.size w w':=by
 obtain ⟨R,hR⟩:∃ R,R=allId ls:=⟨_,rfl⟩
 rw [←hR]
 have HR:=Lib.hid hR
 have HN:=Lib.hid hn
 have HP:=Lib.hid hp
 have HL:=Lib.hid hl
 clear hR hn hp hl
 go_enter Tryz.func174,Tryz.ntmps174
 go_wp2
 go_loopw [7] (fun iv wr=>∃ k:Nat,k≤n∧iv=.int .i64 (k:Int)∧Hid (allId (ls.take k)=true)∧Hid (Below w.heap.size w wr)) (fun iv _=>n-(intOf iv).toNat)
 case atStart=>exact ⟨0,by omega,rfl,rfl,Below.refl _ _⟩
 case round =>
  obtain ⟨k,hk,rfl,HA,HB⟩:=hrel
  by_cases hlt:k<n
  ·have hkl:k<ls.length:=by rw [←HN.out];exact hlt
   obtain ⟨x,hx⟩:∃ x,x=str ls[k]:=⟨_,rfl⟩
   have hxs:x.size≤140737488355328:=by rw [hx,str_size];exact HL.out _ (List.getElem_mem hkl)
   obtain ⟨g,o,rfl,hg,a0⟩:=HP.out.below HB.out k hkl
   rw [←hx] at a0
   obtain ⟨I,hI⟩:∃ I,I=isId x:=⟨_,rfl⟩
   have HI:Hid (∀ w',Calls Tryz.prog 170 #[.string x] w' fun e w''=>e=.returned (.bool I)∧w'=w''):=fun w'=>by rw [hI];exact is_any x w' hxs
   rw [hx] at hI
   have HI2:=Lib.hid hI
   clear hx hxs hI
   rcases I with _|_
   ·have HX:Hid (R=false):=by show _=_;rw [HR.out,allId_false hkl HI2.out.symm]
    go_wp2_with (go_at_call 170;((with_reducible refine (HI.out _).mono ?_);rintro e w2 ⟨rfl,rfl⟩))
    go_ret
    exact ⟨by rw [HX.out];rfl,HB.out⟩
   ·have HX:Hid (allId (ls.take (k+1))=true):=by show _=_;rw [allId_take hkl HA.out,←HI2.out]
    go_wp2_with (go_at_call 170;((with_reducible refine (HI.out _).mono ?_);rintro e w2 ⟨rfl,rfl⟩))
    go_roundw
    case rel=>exact ⟨k+1,by omega,by go_num,HX.out,HB.out⟩
    case measure=>simp [intOf];omega
  ·have HX:Hid (R=true):=by
    show _=_
    have h:=HA.out
    rw [List.take_of_length_le (by have:=HN.out;omega)] at h
    rw [HR.out,h]
   go_wp2_with fail
   go_ret
   exact ⟨by rw [HX.out];rfl,HB.out⟩
theorem snoc_ind {α:Type} {P:List α→Prop} (h0:P []) (h1:∀ l s,P l→P (l++[s])) (l:List α):P l:=by
 have:∀ m:List α,P m.reverse:=fun m=>by
  induction m with
  | nil=>exact h0
  | cons a m ih =>
   rw [List.reverse_cons]
   exact h1 _ _ ih
 have h:=this l.reverse
 rwa [List.reverse_reverse] at h
def disL (l:List (List UInt8)):List (List UInt8):=l.foldl (fun o s=>if s∈o then o else o++[s]) []
theorem disL_snoc (l:List (List UInt8)) (s:List UInt8):disL (l++[s])=if s∈disL l then disL l else disL l++[s]:=by
 unfold disL
 rw [List.foldl_append]
 rfl
theorem disL_mem (l:List (List UInt8)) (x:List UInt8):x∈disL l↔x∈l:=by
 induction l using snoc_ind with
 | h0=>simp [disL]
 | h1 l s ih =>
  rw [disL_snoc,List.mem_append,List.mem_singleton]
  split
  ·rename_i h
   rw [ih]
   constructor
   ·exact .inl
   ·rintro (h1|rfl)
    ·exact h1
    ·exact ih.mp h
  ·rw [List.mem_append,List.mem_singleton,ih]
theorem disL_len (l:List (List UInt8)):(disL l).length≤l.length:=by
 induction l using snoc_ind with
 | h0=>simp [disL]
 | h1 l s ih =>
  rw [disL_snoc]
  split<;>simp<;>omega
theorem disL_nodup (l:List (List UInt8)):(disL l=l∧l.Nodup)∨((disL l).length<l.length∧¬ l.Nodup):=by
 induction l using snoc_ind with
 | h0=>left;simp [disL]
 | h1 l s ih =>
  rw [disL_snoc]
  have hn:(l++[s]).Nodup↔l.Nodup∧s∉l:=by
   rw [List.nodup_append]
   simp
   intro _
   exact ⟨fun h hs=>h s hs rfl,fun h a ha e=>h (e▸ha)⟩
  have hl:=disL_len l
  rcases ih with ⟨h1,h2⟩|⟨h1,h2⟩
  ·by_cases hs:s∈l
   ·rw [if_pos ((disL_mem l s).mpr hs)]
    right
    exact ⟨by simp;omega,fun h=>(hn.mp h).2 hs⟩
   ·rw [if_neg (fun h=>hs ((disL_mem l s).mp h)),h1]
    exact .inl ⟨rfl,hn.mpr ⟨h2,hs⟩⟩
  ·right
   refine ⟨?_,fun h=>h2 (hn.mp h).1⟩
   split<;>simp<;>omega
theorem disL_take {l:List (List UInt8)} {k:Nat} (h:k<l.length):disL (l.take (k+1))=if l[k]∈l.take k then disL (l.take k) else disL (l.take k)++[l[k]]:=by
 rw [List.take_succ_eq_append_getElem h,disL_snoc]
 simp only [disL_mem]
set_option maxHeartbeats 2000000 in
set_option maxRecDepth 4000 in
theorem distinct_any (ls:List (List UInt8)) (p:Option Addr) (c n:Nat) (w:World) (hn:n=ls.length) (hp:SRw w p ls) (hl:∀ x∈ls,x.length≤140737488355328) (hn2:n≤1000000) :
  Calls Tryz.prog 106 #[.slice p n c] w fun e w'=>∃ v,e=.returned v∧SOw w' w.heap.size v (disL ls)∧Below w.heap.size w w':=by
 have HN:=Lib.hid hn
 have HP:=Lib.hid hp
 have HL:=Lib.hid hl
 have hmm:=make_sb n w
 have hb1:Below w.heap.size w (w.alloc (.map #[] 0)):=below_new (Below.refl _ _) _
 have hm1:=msb_new w
 have hs1:w.heap.size<(w.alloc (.map #[] 0)).heap.size:=by simp
 obtain ⟨w1,hw1⟩:∃ w1,w1=w.alloc (.map #[] 0):=⟨_,rfl⟩
 obtain ⟨M,hM⟩:∃ M,M=w.heap.size:=⟨_,rfl⟩
 rw [←hw1,←hM] at hmm hm1
 rw [←hw1] at hb1 hs1
 have HM:=Lib.hid hM
 clear hn hp hl hw1
 rw [←hM] at hs1
 clear hM
 go_enter Tryz.func106,Tryz.ntmps106
 go_wp2
 go_loopw [3,12] (fun ov iv wr=>∃ (k:Nat) (D:DataW Unit) (os:List (List UInt8)),k≤n∧iv=.int .i64 (k:Int)∧Msb wr M k D∧Hid (IsSt D (ls.take k))∧SOw wr w1.heap.size ov os∧os.length≤k∧Hid (os=disL (ls.take k))∧Hid (Below w.heap.size w wr)∧w1.heap.size≤wr.heap.size) (fun _ iv _=>n-(intOf iv).toNat)
 case atStart=>exact ⟨0,_,[],by omega,rfl,hm1,isSt_nil,SOw.nil _ _,by simp,rfl,hb1,Nat.le_refl _⟩
 case round =>
  clear hm1 hb1 hmm
  obtain ⟨k,D,os,hk,rfl,hm,HI,ho,hol,HO,HB,hs⟩:=hrel
  by_cases hlt:k<n
  ·have hkl:k<ls.length:=by rw [←HN.out];exact hlt
   obtain ⟨x,hx⟩:∃ x,x=str ls[k]:=⟨_,rfl⟩
   have hxs:x.size≤140737488355328:=by rw [hx,str_size];exact HL.out _ (List.getElem_mem hkl)
   have hxl:x.data.toList=ls[k]:=by rw [hx];rfl
   obtain ⟨g,o,rfl,hg,a0⟩:=HP.out.below HB.out k hkl
   rw [←hx] at a0
   obtain ⟨B,hB⟩:∃ B,B=decide (x.data.toList∈ls.take k):=⟨_,rfl⟩
   have hlk:=msb_look hm (t:=x) hxs (B:=B) (by rw [HI.out.look,hB])
   have hkey:=skeyS (t:=x) hxs
   obtain ⟨K,hK⟩:∃ K,K=Lit.string x.data.toList:=⟨_,rfl⟩
   have hput:=HI.out.put x.data.toList
   rw [hxl,←List.take_succ_eq_append_getElem hkl,←hxl,←hK] at hput
   rw [←hK] at hkey
   have HPT:=Lib.hid hput
   have HTK:=Lib.hid (disL_take hkl)
   rw [←hxl] at HTK
   have hMw:M<w1.heap.size:=hs1
   clear hx hput hK HI hxs
   rcases B with _|_
   ·have HO2:Hid (os++[x.data.toList]=disL (ls.take (k+1))):=by
     show _=_
     rw [HTK.out,if_neg (of_decide_eq_false hB.symm),←HO.out]
    clear hB hxl
    go_wp2_with (first
     | (at_builtin;refine wp_so_one rfl _ _ rfl rfl ho x rfl (by omega) hs ?_;intro v4 w4 ho4 hg4;have hm4:=(hm.alloc (.cells #[.string x] 9)).kept hg4 (ho.apart hMw);have hb4:=ho.bel1 HB.out (by have:=HM.out;omega) (by have:=HM.out;omega) hg4;have hs4:=hg4.size)
     | (at_mapUpdate;refine wpList_mapUpdate_own _ rfl _ _ _ 83 rfl 9 4 str_keyedS Tryz.underlying83 _ M k D rfl hm4 (by unfold maxLen;omega) _ _ _ rfl rfl hkey _ [] (plainElem_bool Tryz.underlying4 true) ?_;intro w5 hm5 hg5))
    go_roundw
    case rel=>exact ⟨k+1,_,_,by omega,by go_num,hm5,HPT.out,ho4.grown hg5 hMw,by simp;omega,HO2.out,hb4.grown hg5 (by have:=HM.out;have:=hb4.size;omega) (fun j hj=>by have:=HM.out;cases hj;omega),by have:=hg5.size;simp at hs4;omega⟩
    case measure=>simp [intOf];omega
   ·have HO2:Hid (os=disL (ls.take (k+1))):=by
     show _=_
     rw [HTK.out,if_pos (of_decide_eq_true hB.symm),←HO.out]
    clear hB hxl
    go_wp2_with (at_mapUpdate;refine wpList_mapUpdate_own _ rfl _ _ _ 83 rfl 9 4 str_keyedS Tryz.underlying83 _ M k D rfl hm (by unfold maxLen;omega) _ _ _ rfl rfl hkey _ [] (plainElem_bool Tryz.underlying4 true) ?_;intro w5 hm5 hg5)
    go_roundw
    case rel=>exact ⟨k+1,_,_,by omega,by go_num,hm5,HPT.out,ho.grown hg5 hMw,by omega,HO2.out,HB.out.grown hg5 (by have:=HM.out;omega) (fun j hj=>by have:=HM.out;cases hj;omega),by have:=hg5.size;omega⟩
    case measure=>simp [intOf];omega
  ·have HX:Hid (os=disL ls):=by
    show _=_
    rw [HO.out,List.take_of_length_le (by have:=HN.out;omega)]
   have HOO:=Lib.hid ho
   clear ho hm
   go_wp2_with fail
   go_ret
   refine ⟨_,rfl,?_,HB.out⟩
   rw [←HX.out]
   have h1:=HOO.out
   refine ⟨h1.1,?_⟩
   rcases h1.2 with h2|⟨g,cap,cur,h3,h4,h5⟩
   ·exact .inl h2
   ·exact .inr ⟨g,cap,cur,h3,by have:=HM.out;omega,h5⟩
theorem ib_any (c:UInt8):∀ l:List UInt8,decide (0≤Lib.indexByte l c)=l.any fun b=>b==c
 | []=>rfl
 | b::l=>by
  have ih:=ib_any c l
  rw [Lib.indexByte,List.any_cons]
  cases hb:b==c with
  | true=>simp
  | false =>
   rw [←ih]
   by_cases h:Lib.indexByte l c=-1
   ·rw [h];rfl
   ·have h1:(Lib.indexByte l c==-1)=false:=by rw [beq_eq_false_iff_ne];exact h
    rw [h1]
    simp only [Bool.false_eq_true,if_false,Bool.false_or]
    rw [Bool.eq_iff_iff,decide_eq_true_eq,decide_eq_true_eq]
    have h2:-1≤Lib.indexByte l c:=by
     have:=Lib.index_ge l [c]
     rwa [Lib.index_one] at this
    omega
theorem cm_at {w:World} {E:Nat} {v0 v1 v2 v3 v4 v5 v6 v7 v8 v9 v10:Value} (h:w.heap[E]?=some (.cells #[v0,v1,v2,v3,v4,v5,v6,v7,v8,v9,v10] 64 (0,0))) :
  w.cell? ⟨E,0,none⟩=some v0∧w.cell? ⟨E,1,none⟩=some v1∧w.cell? ⟨E,2,none⟩=some v2∧w.cell? ⟨E,3,none⟩=some v3∧w.cell? ⟨E,4,none⟩=some v4∧w.cell? ⟨E,5,none⟩=some v5∧w.cell? ⟨E,6,none⟩=some v6∧w.cell? ⟨E,7,none⟩=some v7∧w.cell? ⟨E,8,none⟩=some v8∧w.cell? ⟨E,9,none⟩=some v9∧w.cell? ⟨E,10,none⟩=some v10 :=
 ⟨cell_of_row _ _ 0 _ _ _ h,cell_of_row _ _ 1 _ _ _ h,cell_of_row _ _ 2 _ _ _ h,cell_of_row _ _ 3 _ _ _ h,cell_of_row _ _ 4 _ _ _ h,cell_of_row _ _ 5 _ _ _ h,cell_of_row _ _ 6 _ _ _ h,cell_of_row _ _ 7 _ _ _ h,cell_of_row _ _ 8 _ _ _ h,cell_of_row _ _ 9 _ _ _ h,cell_of_row _ _ 10 _ _ _ h⟩
def codeC (b1 b2 b3 b4 z:Bool) (xs n:Nat) (D:Bool):Nat:=if b1=false∨b2=false∨b3=false∨b4=false∨z=true then 1 else if 4096<xs∨8<n then 4 else if D=true then 6 else 0
theorem chkC_code (c:Cm):chkC c=codeC (isId c.t) (allId c.ps) (okPn c.a) (okPn c.c) (decide (0≤Lib.indexByte c.x.data.toList 0)) c.x.size c.ps.length (decide ((disL c.ps).length<c.ps.length)):=by
 rw [ib_any,chkC,okC,noZ,codeC]
 have hd:=disL_nodup c.ps
 rcases isId c.t with _|_
 ·simp
 rcases allId c.ps with _|_
 ·simp
 rcases okPn c.a with _|_
 ·simp
 rcases okPn c.c with _|_
 ·simp
 rcases (c.x.data.toList.any fun b=>b==0) with _|_
 ·simp only [Bool.not_false,Bool.and_self,Bool.true_eq_false,if_false,or_self,Bool.false_eq_true,decide_eq_true_eq]
  split
  ·rfl
  ·rcases hd with ⟨h1,h2⟩|⟨h1,h2⟩
   ·rw [if_pos h2,if_neg (by rw [h1];omega)]
   ·rw [if_neg h2,if_pos h1]
 ·simp
theorem keepC {wr w1 w2:World} {B o:Nat} {v:Value} (hb:Below w1.heap.size w1 w2) (h:Below wr.heap.size wr w1∧w1.cell? ⟨B,o,none⟩=some v):Below wr.heap.size wr w2∧w2.cell? ⟨B,o,none⟩=some v :=
 ⟨h.1.trans (hb.mono h.1.size),cell_bel h.2 hb⟩
theorem one_drew {w:World}:Below w.heap.size w w.drew:=(Below.refl _ _).drew
set_option maxHeartbeats 4000000 in
set_option maxRecDepth 4000 in
theorem ccheck_any (c:Cm) (p:Option Addr) (n cap:Nat) (w:World) (hn:n=c.ps.length) (hp:SRw w p c.ps) (hl:∀ y∈c.ps,y.length≤140737488355328) (hn2:n≤140737488355328)
  (hs:c.t.size≤140737488355328∧c.a.n.size≤140737488355328∧c.a.m.size≤140737488355328∧c.c.n.size≤140737488355328∧c.c.m.size≤140737488355328) :
  Calls Tryz.prog 147 #[.agg #[.string c.t,.slice p n cap,.string c.a.n,.string c.a.m,.int .i64 c.a.t,.int .i64 c.a.z,.string c.c.n,.string c.c.m,.int .i64 c.c.t,.int .i64 c.c.z,.string c.x]] w
   fun e w'=>e=.returned (.int .i64 (chkC c:Int))∧Below w.heap.size w w':=by
 obtain ⟨R,hR⟩:∃ R,R=chkC c:=⟨_,rfl⟩
 rw [←hR]
 rw [chkC_code] at hR
 obtain ⟨t,ps,⟨an,am,aT,az⟩,⟨cn,cm,cT,cz⟩,x⟩:=c
 simp only at *
 obtain ⟨hs1,hs2,hs3,hs4,hs5⟩:=hs
 obtain ⟨b1,hb1⟩:∃ b,b=isId t:=⟨_,rfl⟩
 obtain ⟨b2,hb2⟩:∃ b,b=allId ps:=⟨_,rfl⟩
 obtain ⟨b3,hb3⟩:∃ b,b=okPn ⟨an,am,aT,az⟩:=⟨_,rfl⟩
 obtain ⟨b4,hb4⟩:∃ b,b=okPn ⟨cn,cm,cT,cz⟩:=⟨_,rfl⟩
 obtain ⟨z,hz⟩:∃ b,b=decide (0≤Lib.indexByte x.data.toList 0):=⟨_,rfl⟩
 rw [←hb1,←hb2,←hb3,←hb4,←hz,←hn] at hR
 have HR:=Lib.hid hR
 obtain ⟨w1,hw1⟩:∃ w1,w1=w.alloc (.cells #[.string t,.slice p n cap,.string an,.string am,.int .i64 aT,.int .i64 az,.string cn,.string cm,.int .i64 cT,.int .i64 cz,.string x] 64):=⟨_,rfl⟩
 have hx:=heap_alloc_new w (.cells #[.string t,.slice p n cap,.string an,.string am,.int .i64 aT,.int .i64 az,.string cn,.string cm,.int .i64 cT,.int .i64 cz,.string x] 64)
 rw [←hw1] at hx
 have hbx:Below w.heap.size w w1:=by rw [hw1];exact below_new (Below.refl _ _) _
 have hlt:w.heap.size<w1.heap.size:=row_lt hx
 have HI:Hid (∀ w',Calls Tryz.prog 170 #[.string t] w' fun e w''=>e=.returned (.bool b1)∧w'=w''):=fun w'=>by rw [hb1];exact is_any t w' hs1
 have HD:Hid (∀ w',Below w1.heap.size w1 w'→Calls Tryz.prog 174 #[.slice p n cap] w' fun e w''=>e=.returned (.bool b2)∧Below w1.heap.size w1 w''):=fun w' hb=>by
  rw [hb2]
  exact (areIds_any ps p cap n w' hn ((hp.below hbx).below hb) hl hn2).mono fun e w'' ⟨he,hw⟩=>⟨he,hb.trans (hw.mono hb.size)⟩
 have HA:Hid (∀ w',Below w1.heap.size w1 w'→Calls Tryz.prog 175 #[.agg #[.string an,.string am,.int .i64 aT,.int .i64 az]] w' fun e w''=>e=.returned (.bool b3)∧Below w1.heap.size w1 w''):=fun w' hb=>by
  rw [hb3]
  exact (person_any ⟨an,am,aT,az⟩ w' hs2 hs3).mono fun e w'' ⟨he,hw⟩=>⟨he,hb.trans (hw.mono hb.size)⟩
 have HC:Hid (∀ w',Below w1.heap.size w1 w'→Calls Tryz.prog 175 #[.agg #[.string cn,.string cm,.int .i64 cT,.int .i64 cz]] w' fun e w''=>e=.returned (.bool b4)∧Below w1.heap.size w1 w''):=fun w' hb=>by
  rw [hb4]
  exact (person_any ⟨cn,cm,cT,cz⟩ w' hs4 hs5).mono fun e w'' ⟨he,hw⟩=>⟨he,hb.trans (hw.mono hb.size)⟩
 have HZ:Hid (∀ w',Calls Tryz.prog 176 #[.string x,.string ⟨#[0]⟩] w' fun e w''=>e=.returned (.bool z)∧w'=w''):=fun w'=>by
  rw [hz]
  exact (Tryz.strings_Contains_one x 0 w').mono fun e w'' ⟨he,hw⟩=>⟨he,hw.symm⟩
 have HP:=Lib.hid (hp.below hbx)
 have HN:=Lib.hid hn
 have HL:=Lib.hid hl
 have HX:=Lib.hid hx
 have HLT:=Lib.hid hlt
 have HBX:=Lib.hid hbx
 have HW1:=Lib.hid hw1
 have hb0:=Below.refl w1.heap.size w1
 obtain ⟨x0,x1,x2,x3,x4,x5,x6,x7,x8,x9,x10⟩:=cm_at hx
 clear hR hn hp hl hs1 hs2 hs3 hs4 hs5 hb1 hb2 hb3 hb4 hz hw1 hx hbx hlt
 rcases b1 with _|_
 ·have HQ:Hid (R=1):=by show _=_;rw [HR.out,codeC,if_pos (.inl rfl)]
  clear HR
  go_enter Tryz.func147,Tryz.ntmps147
  go_upto_region 1 with fail
  rw [←HW1.out]
  go_wp2_with (first
     | (go_at_call 170;((with_reducible refine (HI.out _).mono ?_);rintro e wa ⟨rfl,rfl⟩))
     | (go_at_call 174;((with_reducible refine (HD.out _ hb0).mono ?_);rintro e wb ⟨rfl,hb1⟩;obtain ⟨y0,y1,y2,y3,y4,y5,y6,y7,y8,y9,y10⟩:=cm_at ((hb1.block _ HLT.out).trans HX.out)))
     | (go_at_call 175;first
      | ((with_reducible refine (HA.out _ hb1).mono ?_);rintro e wc ⟨rfl,hb2⟩;obtain ⟨z0,z1,z2,z3,z4,z5,z6,z7,z8,z9,z10⟩:=cm_at ((hb2.block _ HLT.out).trans HX.out))
      | ((with_reducible refine (HC.out _ hb2).mono ?_);rintro e wd ⟨rfl,hb3⟩;obtain ⟨u0,u1,u2,u3,u4,u5,u6,u7,u8,u9,u10⟩:=cm_at ((hb3.block _ HLT.out).trans HX.out)))
     | (go_at_call 176;((with_reducible refine (HZ.out _).mono ?_);rintro e we ⟨rfl,rfl⟩)))
  go_ret
  exact ⟨by rw [HQ.out];rfl,HBX.out.trans (hb0.mono HBX.out.size)⟩
 rcases b2 with _|_
 ·have HQ:Hid (R=1):=by show _=_;rw [HR.out,codeC,if_pos (.inr (.inl rfl))]
  clear HR
  go_enter Tryz.func147,Tryz.ntmps147
  go_upto_region 1 with fail
  rw [←HW1.out]
  go_wp2_with (first
     | (go_at_call 170;((with_reducible refine (HI.out _).mono ?_);rintro e wa ⟨rfl,rfl⟩))
     | (go_at_call 174;((with_reducible refine (HD.out _ hb0).mono ?_);rintro e wb ⟨rfl,hb1⟩;obtain ⟨y0,y1,y2,y3,y4,y5,y6,y7,y8,y9,y10⟩:=cm_at ((hb1.block _ HLT.out).trans HX.out)))
     | (go_at_call 175;first
      | ((with_reducible refine (HA.out _ hb1).mono ?_);rintro e wc ⟨rfl,hb2⟩;obtain ⟨z0,z1,z2,z3,z4,z5,z6,z7,z8,z9,z10⟩:=cm_at ((hb2.block _ HLT.out).trans HX.out))
      | ((with_reducible refine (HC.out _ hb2).mono ?_);rintro e wd ⟨rfl,hb3⟩;obtain ⟨u0,u1,u2,u3,u4,u5,u6,u7,u8,u9,u10⟩:=cm_at ((hb3.block _ HLT.out).trans HX.out)))
     | (go_at_call 176;((with_reducible refine (HZ.out _).mono ?_);rintro e we ⟨rfl,rfl⟩)))
  go_ret
  exact ⟨by rw [HQ.out];rfl,HBX.out.trans (hb1.mono HBX.out.size)⟩
 rcases b3 with _|_
 ·have HQ:Hid (R=1):=by show _=_;rw [HR.out,codeC,if_pos (.inr (.inr (.inl rfl)))]
  clear HR
  go_enter Tryz.func147,Tryz.ntmps147
  go_upto_region 1 with fail
  rw [←HW1.out]
  go_wp2_with (first
     | (go_at_call 170;((with_reducible refine (HI.out _).mono ?_);rintro e wa ⟨rfl,rfl⟩))
     | (go_at_call 174;((with_reducible refine (HD.out _ hb0).mono ?_);rintro e wb ⟨rfl,hb1⟩;obtain ⟨y0,y1,y2,y3,y4,y5,y6,y7,y8,y9,y10⟩:=cm_at ((hb1.block _ HLT.out).trans HX.out)))
     | (go_at_call 175;first
      | ((with_reducible refine (HA.out _ hb1).mono ?_);rintro e wc ⟨rfl,hb2⟩;obtain ⟨z0,z1,z2,z3,z4,z5,z6,z7,z8,z9,z10⟩:=cm_at ((hb2.block _ HLT.out).trans HX.out))
      | ((with_reducible refine (HC.out _ hb2).mono ?_);rintro e wd ⟨rfl,hb3⟩;obtain ⟨u0,u1,u2,u3,u4,u5,u6,u7,u8,u9,u10⟩:=cm_at ((hb3.block _ HLT.out).trans HX.out)))
     | (go_at_call 176;((with_reducible refine (HZ.out _).mono ?_);rintro e we ⟨rfl,rfl⟩)))
  go_ret
  exact ⟨by rw [HQ.out];rfl,HBX.out.trans (hb2.mono HBX.out.size)⟩
 rcases b4 with _|_
 ·have HQ:Hid (R=1):=by show _=_;rw [HR.out,codeC,if_pos (.inr (.inr (.inr (.inl rfl))))]
  clear HR
  go_enter Tryz.func147,Tryz.ntmps147
  go_upto_region 1 with fail
  rw [←HW1.out]
  go_wp2_with (first
     | (go_at_call 170;((with_reducible refine (HI.out _).mono ?_);rintro e wa ⟨rfl,rfl⟩))
     | (go_at_call 174;((with_reducible refine (HD.out _ hb0).mono ?_);rintro e wb ⟨rfl,hb1⟩;obtain ⟨y0,y1,y2,y3,y4,y5,y6,y7,y8,y9,y10⟩:=cm_at ((hb1.block _ HLT.out).trans HX.out)))
     | (go_at_call 175;first
      | ((with_reducible refine (HA.out _ hb1).mono ?_);rintro e wc ⟨rfl,hb2⟩;obtain ⟨z0,z1,z2,z3,z4,z5,z6,z7,z8,z9,z10⟩:=cm_at ((hb2.block _ HLT.out).trans HX.out))
      | ((with_reducible refine (HC.out _ hb2).mono ?_);rintro e wd ⟨rfl,hb3⟩;obtain ⟨u0,u1,u2,u3,u4,u5,u6,u7,u8,u9,u10⟩:=cm_at ((hb3.block _ HLT.out).trans HX.out)))
     | (go_at_call 176;((with_reducible refine (HZ.out _).mono ?_);rintro e we ⟨rfl,rfl⟩)))
  go_ret
  exact ⟨by rw [HQ.out];rfl,HBX.out.trans (hb3.mono HBX.out.size)⟩
 rcases z with _|_
 case true =>
  have HQ:Hid (R=1):=by show _=_;rw [HR.out,codeC,if_pos (.inr (.inr (.inr (.inr rfl))))]
  clear HR
  go_enter Tryz.func147,Tryz.ntmps147
  go_upto_region 1 with fail
  rw [←HW1.out]
  go_wp2_with (first
     | (go_at_call 170;((with_reducible refine (HI.out _).mono ?_);rintro e wa ⟨rfl,rfl⟩))
     | (go_at_call 174;((with_reducible refine (HD.out _ hb0).mono ?_);rintro e wb ⟨rfl,hb1⟩;obtain ⟨y0,y1,y2,y3,y4,y5,y6,y7,y8,y9,y10⟩:=cm_at ((hb1.block _ HLT.out).trans HX.out)))
     | (go_at_call 175;first
      | ((with_reducible refine (HA.out _ hb1).mono ?_);rintro e wc ⟨rfl,hb2⟩;obtain ⟨z0,z1,z2,z3,z4,z5,z6,z7,z8,z9,z10⟩:=cm_at ((hb2.block _ HLT.out).trans HX.out))
      | ((with_reducible refine (HC.out _ hb2).mono ?_);rintro e wd ⟨rfl,hb3⟩;obtain ⟨u0,u1,u2,u3,u4,u5,u6,u7,u8,u9,u10⟩:=cm_at ((hb3.block _ HLT.out).trans HX.out)))
     | (go_at_call 176;((with_reducible refine (HZ.out _).mono ?_);rintro e we ⟨rfl,rfl⟩)))
  go_ret
  exact ⟨by rw [HQ.out];rfl,HBX.out.trans (hb3.mono HBX.out.size)⟩
 have HR2:Hid (R=if 4096<x.size∨8<n then 4 else if decide ((disL ps).length<n)=true then 6 else 0):=by show _=_;rw [HR.out,codeC,if_neg (by simp)]
 clear HR
 go_enter Tryz.func147,Tryz.ntmps147
 go_upto_region 1 with fail
 rw [←HW1.out]
 go_upto_region 3 with (first
   | (go_at_call 170;((with_reducible refine (HI.out _).mono ?_);rintro e wa ⟨rfl,rfl⟩))
   | (go_at_call 174;((with_reducible refine (HD.out _ hb0).mono ?_);rintro e wb ⟨rfl,hb1⟩;obtain ⟨y0,y1,y2,y3,y4,y5,y6,y7,y8,y9,y10⟩:=cm_at ((hb1.block _ HLT.out).trans HX.out)))
   | (go_at_call 175;first
    | ((with_reducible refine (HA.out _ hb1).mono ?_);rintro e wc ⟨rfl,hb2⟩;obtain ⟨z0,z1,z2,z3,z4,z5,z6,z7,z8,z9,z10⟩:=cm_at ((hb2.block _ HLT.out).trans HX.out))
    | ((with_reducible refine (HC.out _ hb2).mono ?_);rintro e wd ⟨rfl,hb3⟩;obtain ⟨u0,u1,u2,u3,u4,u5,u6,u7,u8,u9,u10⟩:=cm_at ((hb3.block _ HLT.out).trans HX.out)))
   | (go_at_call 176;((with_reducible refine (HZ.out _).mono ?_);rintro e we ⟨rfl,rfl⟩)))
 have HB3:=Lib.hid hb3
 have HXD:=Lib.hid ((hb3.block _ HLT.out).trans HX.out)
 clear hb0 hb1 hb2 hb3 y0 z0 x0 y1 z1 x1 y2 z2 x2 y3 z3 x3 y4 z4 x4 y5 z5 x5 y6 z6 x6 y7 z7 x7 y8 z8 x8 y9 z9 x9 y10 z10 x10 HI HD HA HC HZ
 by_cases h1:4096<x.size
 ·have HQ:Hid (R=4):=by show _=_;rw [HR2.out,if_pos (.inl h1)]
  have g1:(4096:Int)<(x.size:Int):=by omega
  go_wp2_with fail
  go_ret
  exact ⟨by rw [HQ.out];rfl,HBX.out.trans (HB3.out.mono HBX.out.size)⟩
 by_cases h2:8<n
 ·have HQ:Hid (R=4):=by show _=_;rw [HR2.out,if_pos (.inr h2)]
  have g1:¬ (4096:Int)<(x.size:Int):=by omega
  have g2:(8:Int)<(n:Int):=by omega
  go_wp2_with fail
  go_ret
  exact ⟨by rw [HQ.out];rfl,HBX.out.trans (HB3.out.mono HBX.out.size)⟩
 have g1:¬ (4096:Int)<(x.size:Int):=by omega
 have g2:¬ (8:Int)<(n:Int):=by omega
 have HR3:Hid (R=if decide ((disL ps).length<n)=true then 6 else 0):=by show _=_;rw [HR2.out,if_neg (by omega)]
 obtain ⟨L,hL⟩:∃ L,L=(disL ps).length:=⟨_,rfl⟩
 rw [←hL] at HR3
 have hL8:L≤n:=by
  have:=disL_len ps
  have:=HN.out
  omega
 clear HR2 h1 h2
 go_upto_region 5 with fail
 obtain ⟨B,hB⟩:∃ B,B=w.heap.size:=⟨_,rfl⟩
 rw [←hB] at HXD ⊢
 have c1:wd.cell? ⟨B,1,none⟩=some (.slice p n cap):=(cm_at HXD.out).2.1
 have HPD:=Lib.hid (HP.out.below HB3.out)
 have HBD:=Lib.hid (HBX.out.trans (HB3.out.mono HBX.out.size))
 have HDS:Hid (∀ w',(Below wd.heap.size wd w'∧w'.cell? ⟨B,1,none⟩=some (.slice p n cap))→Calls Tryz.prog 106 #[.slice p n cap] w' fun e w''=>∃ q d,e=.returned (.slice q L d)∧Below w'.heap.size w' w''∧Below wd.heap.size wd w''):=fun w' hw =>
  (distinct_any ps p cap n w' HN.out (HPD.out.below hw.1) HL.out (by omega)).mono fun e w'' ⟨v,he,ho,hb⟩=>by
   obtain ⟨q,d,rfl,_⟩:=ho.rw
   exact ⟨q,d,by rw [he,hL],hb,hw.1.trans (hb.mono hw.1.size)⟩
 clear hL hB HX HLT HW1 HP HN HL HBX HB3 HXD HPD g1 g2
 by_cases h3:L<n
 ·have HQ:Hid (R=6):=by show _=_;rw [HR3.out,if_pos (decide_eq_true h3)]
  have g3:decide ((L:Int)<(n:Int))=true:=decide_eq_true (by omega)
  clear HR3
  go_region_held3 (fun w'=>Below wd.heap.size wd w'∧w'.cell? ⟨B,1,none⟩=some (.slice p n cap)) (first
   | exact keepC hb5 (by assumption)
   | exact keepC one_drew ⟨Below.refl _ _,c1⟩) (first
   | (go_at_call 106;((with_reducible refine (HDS.out _ (by assumption)).mono ?_);rintro e v1 ⟨q1,d1,rfl,hb5,hd5⟩)))
  all_goals go_wp2_with fail
  all_goals go_ret
  all_goals exact ⟨by rw [HQ.out];rfl,HBD.out.trans (hd5.mono HBD.out.size)⟩
 ·have HQ:Hid (R=0):=by show _=_;rw [HR3.out,if_neg (by simpa using h3)]
  have g3:decide ((L:Int)<(n:Int))=false:=decide_eq_false (by omega)
  clear HR3
  go_region_held3 (fun w'=>Below wd.heap.size wd w'∧w'.cell? ⟨B,1,none⟩=some (.slice p n cap)) (first
   | exact keepC hb5 (by assumption)
   | exact keepC one_drew ⟨Below.refl _ _,c1⟩) (first
   | (go_at_call 106;((with_reducible refine (HDS.out _ (by assumption)).mono ?_);rintro e v1 ⟨q1,d1,rfl,hb5,hd5⟩)))
  all_goals go_wp2_with fail
  all_goals go_ret
  all_goals exact ⟨by rw [HQ.out];rfl,HBD.out.trans (hd5.mono HBD.out.size)⟩
theorem whoL_size {p:Pn} (h:okPn p=true):(whoL p).size≤157:=by
 obtain ⟨h1,h2,h3,h4,h5,h6⟩:=okPn_parts h
 have n1:=(nameB_parts h1).2.1
 have n2:=(nameB_parts h2).2.1
 have n3:=itoa_len h3 (by omega)
 rw [list_len] at n1 n2
 unfold whoL
 simp only [ByteArray.size_append,zonL_len]
 show p.n.size+2+p.m.size+2+(str (Lib.itoa p.t)).size+1+5≤157
 omega
theorem isId_size {s:ByteArray} (h:isId s=true):s.size=40:=by
 simp only [isId,Bool.and_eq_true,decide_eq_true_eq] at h
 exact h.1
theorem allId_mem {l:List (List UInt8)} (h:allId l=true) {y:List UInt8} (hy:y∈l):isId (str y)=true:=by
 unfold allId at h
 rw [List.all_eq_true] at h
 exact h y hy
theorem flat_next {l:List (List UInt8)} {k:Nat} (h:k<l.length):(l.take (k+1)).flatMap (lineL wPar)=(l.take k).flatMap (lineL wPar)++lineL wPar l[k]:=by
 rw [List.take_succ_eq_append_getElem h,List.flatMap_append,List.flatMap_cons,List.flatMap_nil,List.append_nil]
theorem cm_row {w:World} {E:Nat} {c0 c1 c2 c3 c4 c5 c6 c7 c8 c9 c10 v0 v1 v2 v3 v4 v5 v6 v7 v8 v9 v10:Value} (h0:w.heap[E]?=some (.cells #[c0,c1,c2,c3,c4,c5,c6,c7,c8,c9,c10] 64 (0,0))) :
  (((((((((((w.setCell ⟨E,0,none⟩ v0).setCell ⟨E,1,none⟩ v1).setCell ⟨E,2,none⟩ v2).setCell ⟨E,3,none⟩ v3).setCell ⟨E,4,none⟩ v4).setCell ⟨E,5,none⟩ v5).setCell ⟨E,6,none⟩ v6).setCell ⟨E,7,none⟩ v7).setCell ⟨E,8,none⟩ v8).setCell ⟨E,9,none⟩ v9).setCell ⟨E,10,none⟩ v10).heap[E]?=some (.cells #[v0,v1,v2,v3,v4,v5,v6,v7,v8,v9,v10] 64 (0,0)):=by
 have h1:(w.setCell ⟨E,0,none⟩ v0).heap[E]?=some (.cells #[v0,c1,c2,c3,c4,c5,c6,c7,c8,c9,c10] 64 (0,0)):=by
  have h:=heap_setCell_same w E 0 _ 64 v0 h0
  simp only [List.setIfInBounds_toArray,List.set_cons_zero,List.set_cons_succ] at h
  exact h
 have h2:((w.setCell ⟨E,0,none⟩ v0).setCell ⟨E,1,none⟩ v1).heap[E]?=some (.cells #[v0,v1,c2,c3,c4,c5,c6,c7,c8,c9,c10] 64 (0,0)):=by
  have h:=heap_setCell_same (w.setCell ⟨E,0,none⟩ v0) E 1 _ 64 v1 h1
  simp only [List.setIfInBounds_toArray,List.set_cons_zero,List.set_cons_succ] at h
  exact h
 have h3:(((w.setCell ⟨E,0,none⟩ v0).setCell ⟨E,1,none⟩ v1).setCell ⟨E,2,none⟩ v2).heap[E]?=some (.cells #[v0,v1,v2,c3,c4,c5,c6,c7,c8,c9,c10] 64 (0,0)):=by
  have h:=heap_setCell_same ((w.setCell ⟨E,0,none⟩ v0).setCell ⟨E,1,none⟩ v1) E 2 _ 64 v2 h2
  simp only [List.setIfInBounds_toArray,List.set_cons_zero,List.set_cons_succ] at h
  exact h
 have h4:((((w.setCell ⟨E,0,none⟩ v0).setCell ⟨E,1,none⟩ v1).setCell ⟨E,2,none⟩ v2).setCell ⟨E,3,none⟩ v3).heap[E]?=some (.cells #[v0,v1,v2,v3,c4,c5,c6,c7,c8,c9,c10] 64 (0,0)):=by
  have h:=heap_setCell_same (((w.setCell ⟨E,0,none⟩ v0).setCell ⟨E,1,none⟩ v1).setCell ⟨E,2,none⟩ v2) E 3 _ 64 v3 h3
  simp only [List.setIfInBounds_toArray,List.set_cons_zero,List.set_cons_succ] at h
  exact h
 have h5:(((((w.setCell ⟨E,0,none⟩ v0).setCell ⟨E,1,none⟩ v1).setCell ⟨E,2,none⟩ v2).setCell ⟨E,3,none⟩ v3).setCell ⟨E,4,none⟩ v4).heap[E]?=some (.cells #[v0,v1,v2,v3,v4,c5,c6,c7,c8,c9,c10] 64 (0,0)):=by
  have h:=heap_setCell_same ((((w.setCell ⟨E,0,none⟩ v0).setCell ⟨E,1,none⟩ v1).setCell ⟨E,2,none⟩ v2).setCell ⟨E,3,none⟩ v3) E 4 _ 64 v4 h4
  simp only [List.setIfInBounds_toArray,List.set_cons_zero,List.set_cons_succ] at h
  exact h
 have h6:((((((w.setCell ⟨E,0,none⟩ v0).setCell ⟨E,1,none⟩ v1).setCell ⟨E,2,none⟩ v2).setCell ⟨E,3,none⟩ v3).setCell ⟨E,4,none⟩ v4).setCell ⟨E,5,none⟩ v5).heap[E]?=some (.cells #[v0,v1,v2,v3,v4,v5,c6,c7,c8,c9,c10] 64 (0,0)):=by
  have h:=heap_setCell_same (((((w.setCell ⟨E,0,none⟩ v0).setCell ⟨E,1,none⟩ v1).setCell ⟨E,2,none⟩ v2).setCell ⟨E,3,none⟩ v3).setCell ⟨E,4,none⟩ v4) E 5 _ 64 v5 h5
  simp only [List.setIfInBounds_toArray,List.set_cons_zero,List.set_cons_succ] at h
  exact h
 have h7:(((((((w.setCell ⟨E,0,none⟩ v0).setCell ⟨E,1,none⟩ v1).setCell ⟨E,2,none⟩ v2).setCell ⟨E,3,none⟩ v3).setCell ⟨E,4,none⟩ v4).setCell ⟨E,5,none⟩ v5).setCell ⟨E,6,none⟩ v6).heap[E]?=some (.cells #[v0,v1,v2,v3,v4,v5,v6,c7,c8,c9,c10] 64 (0,0)):=by
  have h:=heap_setCell_same ((((((w.setCell ⟨E,0,none⟩ v0).setCell ⟨E,1,none⟩ v1).setCell ⟨E,2,none⟩ v2).setCell ⟨E,3,none⟩ v3).setCell ⟨E,4,none⟩ v4).setCell ⟨E,5,none⟩ v5) E 6 _ 64 v6 h6
  simp only [List.setIfInBounds_toArray,List.set_cons_zero,List.set_cons_succ] at h
  exact h
 have h8:((((((((w.setCell ⟨E,0,none⟩ v0).setCell ⟨E,1,none⟩ v1).setCell ⟨E,2,none⟩ v2).setCell ⟨E,3,none⟩ v3).setCell ⟨E,4,none⟩ v4).setCell ⟨E,5,none⟩ v5).setCell ⟨E,6,none⟩ v6).setCell ⟨E,7,none⟩ v7).heap[E]?=some (.cells #[v0,v1,v2,v3,v4,v5,v6,v7,c8,c9,c10] 64 (0,0)):=by
  have h:=heap_setCell_same (((((((w.setCell ⟨E,0,none⟩ v0).setCell ⟨E,1,none⟩ v1).setCell ⟨E,2,none⟩ v2).setCell ⟨E,3,none⟩ v3).setCell ⟨E,4,none⟩ v4).setCell ⟨E,5,none⟩ v5).setCell ⟨E,6,none⟩ v6) E 7 _ 64 v7 h7
  simp only [List.setIfInBounds_toArray,List.set_cons_zero,List.set_cons_succ] at h
  exact h
 have h9:(((((((((w.setCell ⟨E,0,none⟩ v0).setCell ⟨E,1,none⟩ v1).setCell ⟨E,2,none⟩ v2).setCell ⟨E,3,none⟩ v3).setCell ⟨E,4,none⟩ v4).setCell ⟨E,5,none⟩ v5).setCell ⟨E,6,none⟩ v6).setCell ⟨E,7,none⟩ v7).setCell ⟨E,8,none⟩ v8).heap[E]?=some (.cells #[v0,v1,v2,v3,v4,v5,v6,v7,v8,c9,c10] 64 (0,0)):=by
  have h:=heap_setCell_same ((((((((w.setCell ⟨E,0,none⟩ v0).setCell ⟨E,1,none⟩ v1).setCell ⟨E,2,none⟩ v2).setCell ⟨E,3,none⟩ v3).setCell ⟨E,4,none⟩ v4).setCell ⟨E,5,none⟩ v5).setCell ⟨E,6,none⟩ v6).setCell ⟨E,7,none⟩ v7) E 8 _ 64 v8 h8
  simp only [List.setIfInBounds_toArray,List.set_cons_zero,List.set_cons_succ] at h
  exact h
 have h10:((((((((((w.setCell ⟨E,0,none⟩ v0).setCell ⟨E,1,none⟩ v1).setCell ⟨E,2,none⟩ v2).setCell ⟨E,3,none⟩ v3).setCell ⟨E,4,none⟩ v4).setCell ⟨E,5,none⟩ v5).setCell ⟨E,6,none⟩ v6).setCell ⟨E,7,none⟩ v7).setCell ⟨E,8,none⟩ v8).setCell ⟨E,9,none⟩ v9).heap[E]?=some (.cells #[v0,v1,v2,v3,v4,v5,v6,v7,v8,v9,c10] 64 (0,0)):=by
  have h:=heap_setCell_same (((((((((w.setCell ⟨E,0,none⟩ v0).setCell ⟨E,1,none⟩ v1).setCell ⟨E,2,none⟩ v2).setCell ⟨E,3,none⟩ v3).setCell ⟨E,4,none⟩ v4).setCell ⟨E,5,none⟩ v5).setCell ⟨E,6,none⟩ v6).setCell ⟨E,7,none⟩ v7).setCell ⟨E,8,none⟩ v8) E 9 _ 64 v9 h9
  simp only [List.setIfInBounds_toArray,List.set_cons_zero,List.set_cons_succ] at h
  exact h
 have h11:(((((((((((w.setCell ⟨E,0,none⟩ v0).setCell ⟨E,1,none⟩ v1).setCell ⟨E,2,none⟩ v2).setCell ⟨E,3,none⟩ v3).setCell ⟨E,4,none⟩ v4).setCell ⟨E,5,none⟩ v5).setCell ⟨E,6,none⟩ v6).setCell ⟨E,7,none⟩ v7).setCell ⟨E,8,none⟩ v8).setCell ⟨E,9,none⟩ v9).setCell ⟨E,10,none⟩ v10).heap[E]?=some (.cells #[v0,v1,v2,v3,v4,v5,v6,v7,v8,v9,v10] 64 (0,0)):=by
  have h:=heap_setCell_same ((((((((((w.setCell ⟨E,0,none⟩ v0).setCell ⟨E,1,none⟩ v1).setCell ⟨E,2,none⟩ v2).setCell ⟨E,3,none⟩ v3).setCell ⟨E,4,none⟩ v4).setCell ⟨E,5,none⟩ v5).setCell ⟨E,6,none⟩ v6).setCell ⟨E,7,none⟩ v7).setCell ⟨E,8,none⟩ v8).setCell ⟨E,9,none⟩ v9) E 10 _ 64 v10 h10
  simp only [List.setIfInBounds_toArray,List.set_cons_zero,List.set_cons_succ] at h
  exact h
 exact h11
theorem cm_frz {w:World} {E:Nat} {v0 v1 v2 v3 v4 v5 v6 v7 v8 v9 v10:Value} (h:w.heap[E]?=some (.cells #[v0,v1,v2,v3,v4,v5,v6,v7,v8,v9,v10] 64 (0,0))) :
  w.frozen? ⟨E,0,none⟩=false∧w.frozen? ⟨E,1,none⟩=false∧w.frozen? ⟨E,2,none⟩=false∧w.frozen? ⟨E,3,none⟩=false∧w.frozen? ⟨E,4,none⟩=false∧w.frozen? ⟨E,5,none⟩=false∧w.frozen? ⟨E,6,none⟩=false∧w.frozen? ⟨E,7,none⟩=false∧w.frozen? ⟨E,8,none⟩=false∧w.frozen? ⟨E,9,none⟩=false∧w.frozen? ⟨E,10,none⟩=false:=⟨frozen_of_row _ _ 0 _ _ h,frozen_of_row _ _ 1 _ _ h,frozen_of_row _ _ 2 _ _ h,frozen_of_row _ _ 3 _ _ h,frozen_of_row _ _ 4 _ _ h,frozen_of_row _ _ 5 _ _ h,frozen_of_row _ _ 6 _ _ h,frozen_of_row _ _ 7 _ _ h,frozen_of_row _ _ 8 _ _ h,frozen_of_row _ _ 9 _ _ h,frozen_of_row _ _ 10 _ _ h⟩
theorem set11_below {B E:Nat} {w0 w:World} {v0 v1 v2 v3 v4 v5 v6 v7 v8 v9 v10:Value} (h:Below B w0 w) (hE:B≤E):Below B w0 (((((((((((w.setCell ⟨E,0,none⟩ v0).setCell ⟨E,1,none⟩ v1).setCell ⟨E,2,none⟩ v2).setCell ⟨E,3,none⟩ v3).setCell ⟨E,4,none⟩ v4).setCell ⟨E,5,none⟩ v5).setCell ⟨E,6,none⟩ v6).setCell ⟨E,7,none⟩ v7).setCell ⟨E,8,none⟩ v8).setCell ⟨E,9,none⟩ v9).setCell ⟨E,10,none⟩ v10) :=
 (((((((((((h.setCell (p:=⟨E,0,none⟩) hE _).setCell (p:=⟨E,1,none⟩) hE _).setCell (p:=⟨E,2,none⟩) hE _).setCell (p:=⟨E,3,none⟩) hE _).setCell (p:=⟨E,4,none⟩) hE _).setCell (p:=⟨E,5,none⟩) hE _).setCell (p:=⟨E,6,none⟩) hE _).setCell (p:=⟨E,7,none⟩) hE _).setCell (p:=⟨E,8,none⟩) hE _).setCell (p:=⟨E,9,none⟩) hE _).setCell (p:=⟨E,10,none⟩) hE _)
theorem whoR_len (l:List UInt8):(whoR l).2.n.size≤l.length∧(whoR l).2.m.size≤l.length:=by
 have h1:=cutLen_le l [32,60]
 have h2:=cutLen_le (Lib.cut l [32,60]).2.1 [62,32]
 rw [whoR]
 unfold codeW
 split
 ·exact ⟨Nat.zero_le _,Nat.zero_le _⟩
 ·split
  ·exact ⟨Nat.zero_le _,Nat.zero_le _⟩
  ·simp only [whoP,str_size,whoN,whoM]
   omega
theorem valV_len (l wd:List UInt8):(valV l wd).length≤l.length:=(val_len l wd).1
theorem valR_len (l:List UInt8):(valR l).length≤l.length:=(val_len l []).2
theorem parsP_sum:∀ (n:Nat) (l:List UInt8) (B:Bool) (ps:List (List UInt8)),l.length≤n→(parsP l B ps).1.length+(parsP l B ps).2.1.length≤ps.length+l.length
 | n,l,B,ps,hn=>by
  cases h:Lib.hasPrefix l (wPar++[32]) with
  | false=>rw [parsP_end h];exact Nat.le_refl _
  | true =>
   have:=valR_lt (has_ne (by decide) h)
   rw [parsP_go h]
   cases n with
   | zero=>omega
   | succ n =>
    have:=parsP_sum n (valR l) ((B||!(valO l wPar))||!(isId (str (valV l wPar)))) (ps++[valV l wPar]) (by omega)
    simp only [List.length_append,List.length_singleton] at this
    omega
theorem parsP_all:∀ (n:Nat) (l:List UInt8) (B:Bool) (ps:List (List UInt8)) (M:Nat),l.length≤n→l.length≤M→(∀ y∈ps,y.length≤M)→∀ y∈(parsP l B ps).1,y.length≤M
 | n,l,B,ps,M,hn,hM,hp=>by
  cases h:Lib.hasPrefix l (wPar++[32]) with
  | false=>rw [parsP_end h];exact hp
  | true =>
   have h1:=valR_lt (has_ne (by decide) h)
   have h2:=valV_len l wPar
   rw [parsP_go h]
   cases n with
   | zero=>omega
   | succ n =>
    refine parsP_all n _ _ _ M (by omega) (by omega) fun y hy=>?_
    rw [List.mem_append,List.mem_singleton] at hy
    rcases hy with hy|rfl
    ·exact hp y hy
    ·omega
def ParCR (R:Nat×Cm) (w:World) (e:Ending) (w':World):Prop :=
 (∃ p cap,e=.returned (.tuple #[.agg #[.string R.2.t,.slice p R.2.ps.length cap,.string R.2.a.n,.string R.2.a.m,.int .i64 R.2.a.t,.int .i64 R.2.a.z,.string R.2.c.n,.string R.2.c.m,.int .i64 R.2.c.t,.int .i64 R.2.c.z,.string R.2.x],.int .i64 (R.1:Int)])∧SRw w' p R.2.ps)∧Below w.heap.size w w'
theorem parCR_bad {R:Nat×Cm} {w w':World} {c:Nat} (h:R=(c,Cm.zero)) (hb:Below w.heap.size w w') :
  ParCR R w (.returned (.tuple #[.agg #[.string ⟨#[]⟩,.slice none 0 0,.string ⟨#[]⟩,.string ⟨#[]⟩,.int .i64 0,.int .i64 0,.string ⟨#[]⟩,.string ⟨#[]⟩,.int .i64 0,.int .i64 0,.string ⟨#[]⟩],.int .i64 (c:Int)])) w':=by
 subst h
 exact ⟨⟨none,0,rfl,SRw.none _ _⟩,hb⟩
def restLen (w:World) (b:Nat):Nat:=match w.cell? ⟨b,0,none⟩ with
 | some (.string s)=>s.size
 | _=>0
theorem restLen_eq {w:World} {b:Nat} {s:ByteArray} {B:Bool} (h:Rd w b s B):restLen w b=s.size:=by
 unfold restLen
 rw [h.at.1]
theorem par_put {w4 w6:World} {ob:Obj} {b E base g c L:Nat} {v:Value} {ps:List (List UInt8)} {s V:ByteArray} {B:Bool} {v0 v2 v3 v4 v5 v6 v7 v8 v9 v10:Value}
  (hR:Rd w4 b s B) (hE:w4.heap[E]?=some (.cells #[v0,v,v2,v3,v4,v5,v6,v7,v8,v9,v10] 64 (0,0))) (ho:SOw w4 base v ps) (hb:b<base) (hEb:E<base) (hne:b≠E) (hbase:base≤w4.heap.size)
  (ho6:w6.ownsRow base 9 1 (.slice (some ⟨g,0,none⟩) (L+1) c) (L+1) (strs ps++[.string V])) (hL:L=ps.length) (hg6:(w4.alloc ob).grownBy w6 v.ownBlock) :
  w6.cell? ⟨E,1,none⟩=some v∧w6.frozen? ⟨E,1,none⟩=false∧Rd (w6.setCell ⟨E,1,none⟩ (.slice (some ⟨g,0,none⟩) (L+1) c)) b s B ∧
   (w6.setCell ⟨E,1,none⟩ (.slice (some ⟨g,0,none⟩) (L+1) c)).heap[E]?=some (.cells #[v0,.slice (some ⟨g,0,none⟩) (L+1) c,v2,v3,v4,v5,v6,v7,v8,v9,v10] 64 (0,0)) ∧
   SOw (w6.setCell ⟨E,1,none⟩ (.slice (some ⟨g,0,none⟩) (L+1) c)) base (.slice (some ⟨g,0,none⟩) (L+1) c) (ps++[V.data.toList])∧base≤(w6.setCell ⟨E,1,none⟩ (.slice (some ⟨g,0,none⟩) (L+1) c)).heap.size:=by
 have hb6:w6.heap[b]?=w4.heap[b]?:=(hg6.block b (by have:=hR.lt;simp;omega) (ho.apart hb)).trans (Below.heap_alloc w4 ob b hR.lt)
 have hE6:w6.heap[E]?=w4.heap[E]?:=(hg6.block E (by have:=row_lt hE;simp;omega) (ho.apart hEb)).trans (Below.heap_alloc w4 ob E (row_lt hE))
 have hr:w6.heap[E]?=some (.cells #[v0,v,v2,v3,v4,v5,v6,v7,v8,v9,v10] 64 (0,0)):=hE6.trans hE
 refine ⟨cell_of_row _ _ 1 _ _ _ hr,frozen_of_row _ _ 1 _ _ hr,(Below.heap_setCell _ ⟨E,1,none⟩ _ b hne).trans (hb6.trans hR),?_,?_,?_⟩
 ·have h:=heap_setCell_same w6 E 1 _ 64 (.slice (some ⟨g,0,none⟩) (L+1) c) hr
  simp only [List.setIfInBounds_toArray,List.set_cons_zero,List.set_cons_succ] at h
  exact h
 ·have h7:SOw w6 base (.slice (some ⟨g,0,none⟩) (L+1) c) (ps++[V.data.toList]):=by
   unfold SOw
   rw [strs_append,List.length_append,←hL]
   exact ho6
  exact SOw.grown (b:=E) h7 ⟨rfl,rfl,rfl,by simp,fun i _ hi=>Below.heap_setCell _ ⟨E,1,none⟩ _ i (fun e=>hi (by rw [e]))⟩ hEb
 ·have:=hg6.size
  simp at this ⊢
  omega
end Go.Proofs.YtnoopcenogbjiaaGreatDoor
