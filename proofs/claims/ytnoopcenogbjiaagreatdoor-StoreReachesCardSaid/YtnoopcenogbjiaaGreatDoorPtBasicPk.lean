/-
 The walks of path's small functions, and of the reference's.
-/
import Derived.Test.YtnoopcenogbjiaaGreatDoorRow
import Derived.Lib.SplitLaws
set_option linter.unusedVariables false
set_option linter.unusedSimpArgs false
namespace Go.Proofs.YtnoopcenogbjiaaGreatDoor
open Go.RowKit
theorem none_true {s:ByteArray} (h:s.size=0):s.toList.isEmpty=true:=by
 rw [ByteArray.toList_eq,List.eq_nil_of_length_eq_zero (l:=s.data.toList) (by rw [list_len];exact h)]
 rfl
theorem none_false {s:ByteArray} (h:0<s.size):s.toList.isEmpty=false:=by
 rw [ByteArray.toList_eq]
 cases hx:s.data.toList with
 | nil =>
  have:=list_len s
  rw [hx] at this
  simp at this
  omega
 | cons a t=>rfl
theorem pt47 (c:UInt8):((c.toNat:Int)==47)=(c==47):=by
 by_cases h:c=47
 ·subst h;rfl
 ·have:¬ c.toNat=47:=fun e=>h (UInt8.toNat_inj.mp (by rw [e];rfl))
  have e1:(c==47)=false:=by simp [h]
  rw [e1,beq_eq_false_iff_ne]
  omega
def cut:List UInt8→List UInt8→List (List UInt8)
 | cur,[]=>[cur]
 | cur,c::r=>if c=47 then cur::cut [] r else cut (cur++[c]) r
theorem cut_none:∀ (l cur:List UInt8),(∀ c∈l,c≠47)→cut cur l=[cur++l]
 | [],cur,_=>by simp [cut]
 | c::r,cur,h=>by
  rw [cut,if_neg (h c (by simp)),cut_none r (cur++[c]) (fun x hx=>h x (by simp [hx]))]
  simp
theorem cut_at:∀ (a r cur:List UInt8),(∀ c∈a,c≠47)→cut cur (a++47::r)=(cur++a)::cut [] r
 | [],r,cur,_=>by simp [cut]
 | c::a,r,cur,h=>by
  rw [List.cons_append,cut,if_neg (h c (by simp)),cut_at a r (cur++[c]) (fun x hx=>h x (by simp [hx]))]
  simp
theorem cut_free:∀ (l cur:List UInt8),(∀ c∈cur,c≠47)→∀ p∈cut cur l,∀ c∈p,c≠47
 | [],cur,h,p,hp=>by
  simp only [cut,List.mem_singleton] at hp
  subst hp
  exact h
 | c::r,cur,h,p,hp=>by
  rw [cut] at hp
  split at hp
  ·rcases List.mem_cons.mp hp with rfl|hp
   ·exact h
   ·exact cut_free r [] (by simp) p hp
  ·rename_i hc
   exact cut_free r (cur++[c]) (fun x hx=>by
    rcases List.mem_append.mp hx with hx|hx
    ·exact h x hx
    ·rw [List.mem_singleton.mp hx];exact hc) p hp
abbrev slash:ByteArray:=⟨#[47]⟩
theorem index47 (s:ByteArray):Lib.indexB s slash=Lib.indexByte s.data.toList 47:=Lib.index_one _ _
theorem cut_split:∀ (n:Nat) (s:ByteArray),s.size≤n→(Lib.splitB slash 0 (Lib.countB s slash) s).map (fun x=>x.data.toList)=cut [] s.data.toList:=by
 intro n
 induction n with
 | zero =>
  intro s hs
  have hl:s.data.toList=[]:=List.eq_nil_of_length_eq_zero (by rw [list_len];omega)
  have h1:Lib.indexB s slash=-1:=by rw [index47,hl];rfl
  rw [Lib.splitB_miss slash 0 _ s h1,hl]
  simp [cut,hl]
 | succ n ih =>
  intro s hs
  rcases Lib.indexB_cases s slash with h|⟨i,h,hi⟩
  ·rw [Lib.splitB_miss slash 0 _ s h,cut_none]
   ·simp
   ·intro c hc e
    subst e
    obtain ⟨k,hk⟩:=List.mem_iff_getElem?.mp hc
    rw [index47] at h
    exact Lib.indexByte_none h k hk
  ·have h1:slash.size=1:=rfl
   rw [h1] at hi
   have hr:=Lib.countB_hit s slash i (by decide) h
   rw [h1] at hr
   rw [hr,Nat.add_comm 1,Lib.splitB,if_neg (by rw [h];simp),h]
   have hx:(s.extract (i+1) s.size).size≤n:=by rw [ByteArray.size_extract];omega
   have he:s.data.toList=s.data.toList.take i++47::s.data.toList.drop (i+1):=by
    rw [index47] at h
    have h2:=(Lib.indexByte_some h).1
    obtain ⟨hlt,h3⟩:=List.getElem?_eq_some_iff.mp h2
    rw [←h3,←List.drop_eq_getElem_cons hlt,List.take_append_drop]
   have hd:(s.extract (i+1) s.size).data.toList=s.data.toList.drop (i+1):=by
    rw [ext_bytes,List.take_of_length_le (by rw [List.length_drop,list_len];omega)]
   have ht:(s.extract 0 i).data.toList=s.data.toList.take i:=by rw [ext_bytes,List.drop_zero,Nat.sub_zero]
   simp only [Int.toNat_natCast,Nat.add_zero,List.map_cons,h1]
   rw [ih _ hx,hd,ht]
   conv=>rhs;rw [he]
   rw [cut_at,List.nil_append]
   intro c hc e
   subst e
   obtain ⟨k,hk⟩:=List.mem_iff_getElem?.mp hc
   rw [List.getElem?_take] at hk
   split at hk
   ·rename_i hki
    rw [index47] at h
    exact (Lib.indexByte_some h).2 k hki hk
   ·simp at hk
def prts (s:ByteArray):List (List UInt8):=if s.size=0 then [] else cut [] s.data.toList
theorem pt_drop (s:ByteArray) (k:Nat) (h:k<s.size):s.data.toList.drop k=s[k]::s.data.toList.drop (k+1):=List.drop_eq_getElem_cons (by rw [list_len];exact h)
theorem pt_next (s:ByteArray) (x k:Nat) (h:k<s.size) (hx:x≤k):(s.data.toList.drop x).take (k+1-x)=(s.data.toList.drop x).take (k-x)++[s[k]]:=by
 rw [show k+1-x=(k-x)+1 by omega,List.take_succ_eq_append_getElem (by rw [List.length_drop,list_len];omega),List.getElem_drop]
 congr 2
 simp only [show x+(k-x)=k by omega]
 rfl
theorem pt_one (t:ByteArray):∀ u∈[Value.string t],u.oneCell'=true:=by intro u hu;simp at hu;subst hu;rfl
theorem pt_self (t:ByteArray):str t.data.toList=t:=ba_ext rfl
theorem strs_snoc (done:List (List UInt8)) (t:ByteArray):strs done++[Value.string t]=strs (done++[t.data.toList]):=by simp [strs,pt_self]
set_option maxHeartbeats 1000000 in
set_option maxRecDepth 4000 in
theorem rparts_any (s:ByteArray) (w:World) (hs:s.size≤1048576) :
  Calls Tryz.prog 167 #[.string s] w fun e w'=>(∃ p cap,e=.returned (.slice p (prts s).length cap)∧SRw w' p (prts s))∧Below w.heap.size w w':=by
 by_cases h0:s.size=0
 ·have he:=none_true h0
  rw [show prts s=[] from if_pos h0]
  clear h0
  go_enter Tryz.func167,Tryz.ntmps167
  go_wp2
  go_ret
  exact ⟨⟨none,0,rfl,SRw.none _ _⟩,Below.refl _ _⟩
 ·have he:=none_false (s:=s) (by omega)
  obtain ⟨i0,hi,hz0,hz1,hz2⟩:=info_parts Tryz.infoStr
  obtain ⟨R,hR⟩:∃ R,R=prts s:=⟨_,rfl⟩
  rw [←hR]
  have HR:Hid (R=[]++cut ((s.data.toList.drop 0).take (0-0)) (s.data.toList.drop 0)):=by show _=_;rw [hR];exact if_neg h0
  clear hR h0
  go_enter Tryz.func167,Tryz.ntmps167
  go_wp2
  go_loopw [3,4,5] (fun v xv i wr=>∃ (x k:Nat) (done:List (List UInt8)),xv=.int .i64 x∧i=.int .i64 k∧x≤k∧k≤s.size∧done.length≤k∧Hid (R=done++cut ((s.data.toList.drop x).take (k-x)) (s.data.toList.drop k))∧wr.ownsRow w.heap.size 9 1 v done.length (strs done)∧Below w.heap.size w wr) (fun _ _ i _=>s.size-(intOf i).toNat)
  case atStart=>exact ⟨0,0,[],rfl,rfl,by omega,by omega,by simp,HR,World.ownsRow_nil _ _ _ _,Below.refl _ _⟩
  case round =>
   clear HR
   obtain ⟨x,k,done,rfl,rfl,hxk,hks,hdl,HR,ho,hb⟩:=hrel
   have hbw:=hb.size
   by_cases hlt:k<s.size
   ·have h47:=pt47 s[k]
    have hr:=HR.out
    rw [pt_drop s k hlt,cut] at hr
    cases h48:(s[k]==47) with
    | true =>
     rw [h48] at h47
     rw [if_pos (by simpa using h48)] at hr
     have HX:Hid (R=(done++[(s.extract x k).data.toList])++cut ((s.data.toList.drop (k+1)).take (k+1-(k+1))) (s.data.toList.drop (k+1))):=by
      show _=_
      rw [hr,ext_bytes,Nat.sub_self,List.take_zero]
      simp
     clear hr HR h48
     go_wp2_with (at_builtin;refine wpList_append_own _ rfl _ _ 41 rfl w.heap.size 9 i0 (.string ⟨#[]⟩) 1 16 Tryz.underlying41 hi hz0 hz1 hz2 rfl (by decide) _ _ _ rfl (ho.alloc _) ⟨wr.heap.size,0,none⟩ 1 1 [.string (s.extract x k)] rfl rfl (new_cell wr _ _) (pt_one _) (by unfold maxLen;omega) (by omega) (by simp;omega) ?_;intro v1 w1 ho1 hg1 _)
     have hb1:Below w.heap.size w w1:=below_own (below_new hb _) (ho.alloc _) (Nat.le_refl _) hg1
     rw [strs_snoc] at ho1
     go_roundw
     case rel=>exact ⟨k+1,k+1,done++[(s.extract x k).data.toList],by go_num,by go_num,by omega,by omega,by simp;omega,HX,by rw [List.length_append];exact ho1,hb1⟩
     case measure=>simp [intOf];omega
    | false =>
     rw [h48] at h47
     rw [if_neg (by simpa using h48)] at hr
     have HX:Hid (R=done++cut ((s.data.toList.drop x).take (k+1-x)) (s.data.toList.drop (k+1))):=by
      show _=_
      rw [hr,pt_next s x k hlt hxk]
     clear hr HR h48
     go_wp2
     go_roundw
     case rel=>exact ⟨x,k+1,done,rfl,by go_num,by omega,by omega,by omega,HX,ho,hb⟩
     case measure=>simp [intOf];omega
   ·obtain rfl:k=s.size:=by omega
    have HX:Hid (R=done++[(s.extract x s.size).data.toList]):=by
     show _=_
     have hdn:s.data.toList.drop s.size=[]:=List.drop_eq_nil_of_le (by rw [list_len];exact Nat.le_refl _)
     rw [HR.out,hdn,cut,ext_bytes]
    go_wp2_with (at_builtin;refine wpList_append_own _ rfl _ _ 41 rfl w.heap.size 9 i0 (.string ⟨#[]⟩) 1 16 Tryz.underlying41 hi hz0 hz1 hz2 rfl (by decide) _ _ _ rfl (ho.alloc _) ⟨wr.heap.size,0,none⟩ 1 1 [.string (s.extract x s.size)] rfl rfl (new_cell wr _ _) (pt_one _) (by unfold maxLen;omega) (by omega) (by simp;omega) ?_;intro v1 w1 ho1 hg1 _)
    have hb1:Below w.heap.size w w1:=below_own (below_new hb _) (ho.alloc _) (Nat.le_refl _) hg1
    rw [strs_snoc] at ho1
    have ho2:w1.ownsRow w.heap.size 9 1 v1 R.length (strs R):=by rw [HX.out,List.length_append];exact ho1
    obtain ⟨p,cap,rfl,hsr⟩:=srw_of ho2
    clear ho1 ho2 hg1 ho
    go_wp2
    go_ret
    exact ⟨⟨p,cap,rfl,hsr⟩,hb1⟩
end Go.Proofs.YtnoopcenogbjiaaGreatDoor
