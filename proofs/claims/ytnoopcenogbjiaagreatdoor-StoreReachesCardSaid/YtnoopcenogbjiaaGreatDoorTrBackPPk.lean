/-
 Encoding and decoding trees: plain.
-/
import Derived.Test.YtnoopcenogbjiaaGreatDoorTrROnePk
import Derived.Test.YtnoopcenogbjiaaGreatDoorIdHexRaw
import Derived.Test.YtnoopcenogbjiaaGreatDoorObWordPk
import Derived.Test.YtnoopcenogbjiaaGreatDoorLawPostPk
import Derived.Lib.ItoaLen
import Derived.BigQuiet
import Derived.Deep.QuietTactic
import Derived.Test.YtnoopcenogbjiaaGreatDoorCmParsePk
set_option linter.unusedVariables false
set_option linter.unusedSimpArgs false
namespace Go.Proofs.YtnoopcenogbjiaaGreatDoor
open Go.RowKit
theorem modeT_pre {l:List UInt8} (h:(modeT l).1≠0):∃ x,l=wordM (modeT l).1++x:=by
 have h2:Lib.hasPrefix l (wordM (modeT l).1)=true:=by
  unfold modeT at h ⊢
  split
  ·assumption
  rename_i h1
  rw [if_neg h1] at h
  split
  ·assumption
  rename_i h2
  rw [if_neg h2] at h
  split
  ·assumption
  rename_i h3
  rw [if_neg h3] at h
  split
  ·assumption
  rename_i h4
  rw [if_neg h4] at h
  exact absurd rfl h
 obtain ⟨x,hx⟩:=List.isPrefixOf_iff_prefix.1 (show (wordM (modeT l).1).isPrefixOf l=true from h2)
 exact ⟨x,hx.symm⟩
theorem oneT_enc {l:List UInt8} (h:(oneT l).1=0):l=encOne (oneT l).2.1++(oneT l).2.2:=by
 unfold oneT restT at h ⊢
 split at h
 ·rename_i h0
  rcases modeT_no h0 with e|e
  ·exact absurd (h.symm.trans e) (by decide)
  ·exact absurd (h.symm.trans e) (by decide)
 ·rename_i h0
  rw [if_neg h0]
  obtain ⟨x,hx⟩:=modeT_pre h0
  obtain ⟨q,hq⟩:∃ q,q=(modeT l).1:=⟨_,rfl⟩
  rw [←hq] at hx h ⊢
  have hd:l.drop (wordM q).length=x:=by rw [hx];exact List.drop_left
  rw [hd] at h ⊢
  split at h
  ·cases h
  ·rename_i h1
   rw [if_neg h1]
   rcases idx_natT x 0 with h2|⟨k,h2,hk⟩
   ·exact (h1 (.inl (by omega))).elim
   ·rw [h2] at h1 ⊢
    simp only [Int.toNat_natCast] at h1 ⊢
    have hc:=(Lib.indexByte_some h2).1
    have hl:k+21≤x.length:=by omega
    have h3:((x.drop (k+1)).take 20).length=20:=by rw [List.length_take,List.length_drop];omega
    rw [encOne]
    simp only [str_list]
    rw [raw_hex _ 20 (by omega),List.take_of_length_le (i:=20) (l:=(x.drop (k+1)).take 20) (by omega)]
    have h4:x=x.take k++[0]++(x.drop (k+1)).take 20++x.drop (k+21):=by
     have e1:x.drop k=0::x.drop (k+1):=by
      rw [List.drop_eq_getElem_cons (by omega)]
      rw [List.getElem?_eq_getElem (by omega),Option.some.injEq] at hc
      rw [hc]
     have e2:x.drop (k+1)=(x.drop (k+1)).take 20++x.drop (k+21):=by
      conv=>lhs;rw [←List.take_append_drop 20 (x.drop (k+1))]
      rw [List.drop_drop]
     conv=>lhs;rw [←List.take_append_drop k x,e1,e2]
     simp
    conv=>lhs;rw [hx,h4]
    simp only [List.append_assoc]
theorem parFrom_back:∀ (n:Nat) (r:List UInt8) (acc es:List En),r.length≤n→parFrom r acc=(0,es)→chkT es=0∧∃ es2,es=acc++es2∧encT es2=r
 | n,r,acc,es,hn,h=>by
  by_cases hr:r=[]
  ·subst hr
   rw [parFrom_nil] at h
   split at h
   ·rename_i h0
    simp only [Prod.mk.injEq,true_and] at h
    subst h
    exact ⟨h0,[],by simp,rfl⟩
   ·rename_i h0
    simp only [Prod.mk.injEq] at h
    exact absurd h.1 h0
  ·by_cases h0:(oneT r).1=0
   ·have hl:=oneT_len h0
    cases n with
    | zero=>omega
    | succ n =>
     rw [parFrom_step hr h0] at h
     obtain ⟨h1,es2,he,hr2⟩:=parFrom_back n _ _ _ (by omega) h
     refine ⟨h1,(oneT r).2.1::es2,by rw [he,List.append_assoc];rfl,?_⟩
     rw [show encT ((oneT r).2.1::es2)=encOne (oneT r).2.1++encT es2 by simp [encT],hr2]
     exact (oneT_enc h0).symm
   ·rw [parFrom_bad hr h0] at h
    simp only [Prod.mk.injEq] at h
    exact absurd h.1 h0
theorem body_par {l:List UInt8} (h:(parE l).1=0):chkT (parE l).2=0∧bodyT (parE l).2=l:=by
 obtain ⟨h1,es2,he,hr⟩:=parFrom_back l.length l [] (parE l).2 (Nat.le_refl _) (by
  show parE l=_
  rw [←h])
 refine ⟨h1,?_⟩
 rw [bodyT_ok h1,he,List.nil_append,hr]
theorem par_err {l:List UInt8} (h:(parE l).1≠0):(parE l).2=[]:=by
 have:∀ (n:Nat) (r:List UInt8) (acc:List En),r.length≤n→(parFrom r acc).1≠0→(parFrom r acc).2=[]:=by
  intro n
  induction n with
  | zero =>
   intro r acc hn h
   have hr:r=[]:=List.eq_nil_of_length_eq_zero (by omega)
   subst hr
   rw [parFrom_nil] at h ⊢
   split at h
   ·exact absurd rfl h
   ·rename_i h0;rw [if_neg h0]
  | succ n ih =>
   intro r acc hn h
   by_cases hr:r=[]
   ·subst hr
    rw [parFrom_nil] at h ⊢
    split at h
    ·exact absurd rfl h
    ·rename_i h0;rw [if_neg h0]
   ·by_cases h0:(oneT r).1=0
    ·have hl:=oneT_len h0
     rw [parFrom_step hr h0] at h ⊢
     exact ih _ _ (by omega) h
    ·rw [parFrom_bad hr h0]
 exact this l.length l [] (Nat.le_refl _) h
theorem par_size {l:List UInt8}:∀ e∈(parE l).2,e.n.size≤l.length∧e.i.size≤40:=by
 have:∀ (n:Nat) (r:List UInt8) (acc:List En),r.length≤n→(∀ e∈acc,e.n.size≤l.length∧e.i.size≤40)→r.length≤l.length→∀ e∈(parFrom r acc).2,e.n.size≤l.length∧e.i.size≤40:=by
  intro n
  induction n with
  | zero =>
   intro r acc hn ha hr
   have hr:r=[]:=List.eq_nil_of_length_eq_zero (by omega)
   subst hr
   rw [parFrom_nil]
   split
   ·exact ha
   ·intro e he;simp at he
  | succ n ih =>
   intro r acc hn ha hrl
   by_cases hr:r=[]
   ·subst hr
    rw [parFrom_nil]
    split
    ·exact ha
    ·intro e he;simp at he
   ·by_cases h0:(oneT r).1=0
    ·have hl:=oneT_len h0
     rw [parFrom_step hr h0]
     refine ih _ _ (by omega) (fun e he=>?_) (by omega)
     rw [List.mem_append,List.mem_singleton] at he
     rcases he with he|rfl
     ·exact ha e he
     ·exact ⟨by omega,hl.2.2⟩
    ·rw [parFrom_bad hr h0]
     intro e he
     simp at he
 exact this l.length l [] (Nat.le_refl _) (fun e he=>by simp at he) (Nat.le_refl _)
theorem wordL_le (k:Int):(wordL k).length≤6:=by
 unfold wordL
 repeat (split;· decide)
 decide
theorem itoa_nat (n:Nat):Lib.itoa (n:Int)=Lib.decDigits n:=by rw [Lib.itoa,if_neg (by omega)];simp
theorem enc_str (k:Int) (b:ByteArray):str (wordL k)++⟨#[32]⟩++str (Lib.decDigits b.size)++⟨#[0]⟩++b=str (encL k b.data.toList):=by
 refine ba_ext ?_
 rw [str_list,encL]
 simp only [app_list,str_list,list_len]
 simp
theorem bytesE_kind {k:Int} {l:List UInt8} (h:wordL k=[]):bytesE k l=140:=by rw [bytesE,if_pos h]
theorem bytesE_big {k:Int} {l:List UInt8} (h:wordL k≠[]) (h2:1048576<l.length):bytesE k l=4:=by rw [bytesE,if_neg h,if_pos h2]
theorem bytesE_ok {k:Int} {l:List UInt8} (h:wordL k≠[]) (h2:¬ 1048576<l.length):bytesE k l=0:=by rw [bytesE,if_neg h,if_neg h2]
theorem bytesL_err {k:Int} {l:List UInt8} (h:bytesE k l≠0):bytesL k l=[]:=by rw [bytesL,if_neg h]
theorem bytesL_ok {k:Int} {l:List UInt8} (h:bytesE k l=0):bytesL k l=encL k l:=by rw [bytesL,if_pos h]
set_option maxHeartbeats 2000000 in
set_option maxRecDepth 4000 in
theorem bytes_any (k:Int) (b:ByteArray) (w:World) (h:WoTab w) (h2:StrTab w) (hb:b.size≤140737488355328) :
  Calls Tryz.prog 73 #[.agg #[.int .i64 k,.string b]] w fun e w'=>e=.returned (.tuple #[.string (str (bytesL k b.data.toList)),.int .i64 (bytesE k b.data.toList:Int)])∧Below w.heap.size w w':=by
 obtain ⟨t,ht⟩:∃ t,t=str (wordL k):=⟨_,rfl⟩
 have hts:t.size≤6:=by rw [ht,str_size];exact wordL_le k
 have HWd:Hid (∀ w',Below w.heap.size w w'→Calls Tryz.prog 107 #[.int .i64 k] w' fun e w''=>e=.returned (.string t)∧w''=w'):=fun w' hb=>by
  rw [ht]
  exact word_any k w' (h.below hb)
 have hx:=heap_alloc_new w (.cells #[.int .i64 k,.string b] 29)
 have hbx:Below w.heap.size w (w.alloc (.cells #[.int .i64 k,.string b] 29)):=(Below.refl _ _).alloc (Nat.le_refl _) _
 obtain ⟨w1,hw1⟩:∃ w1,w1=w.alloc (.cells #[.int .i64 k,.string b] 29):=⟨_,rfl⟩
 have HW1:=Lib.hid hw1
 rw [←hw1] at hx hbx
 have c0:=cell_of_row w1 w.heap.size 0 _ _ _ hx
 have c1:=cell_of_row w1 w.heap.size 1 _ _ _ hx
 have c0:w1.cell? ⟨w.heap.size,0,none⟩=some (.int .i64 k):=c0
 have c1:w1.cell? ⟨w.heap.size,1,none⟩=some (.string b):=c1
 have HBX:=Lib.hid hbx
 clear hw1 hx hbx
 by_cases hk:wordL k=[]
 ·have HR:Hid (bytesL k b.data.toList=[]∧(bytesE k b.data.toList)=140):=⟨bytesL_err (by rw [bytesE_kind hk];decide),bytesE_kind hk⟩
  have f1:t.toList.isEmpty=true:=by rw [ByteArray.toList_eq,ht,str_list,hk];rfl
  have f2:(t.toList==[])=true:=by rw [ByteArray.toList_eq,ht,str_list,hk];rfl
  clear ht hk
  go_enter Tryz.func73,Tryz.ntmps73
  go_upto_region 1 with fail
  rw [←HW1.out]
  go_wp2_with (go_at_call 107;((with_reducible refine (HWd.out _ HBX.out).mono ?_);rintro e w2 ⟨rfl,rfl⟩))
  go_ret2
  exact ⟨by rw [HR.out.1,HR.out.2];rfl,HBX.out⟩
 have f1:t.toList.isEmpty=false:=by
  rw [ByteArray.toList_eq,ht,str_list]
  cases hx:wordL k with
  | nil=>exact absurd hx hk
  | cons a l=>rfl
 have f2:(t.toList==[])=false:=by rw [ByteArray.toList_eq,ht,str_list,beq_eq_false_iff_ne];exact hk
 by_cases hbig:1048576<b.size
 ·have HR:Hid (bytesL k b.data.toList=[]∧(bytesE k b.data.toList)=4):=⟨bytesL_err (by rw [bytesE_big hk (by rw [list_len];exact hbig)];decide),bytesE_big hk (by rw [list_len];exact hbig)⟩
  clear ht hk
  go_enter Tryz.func73,Tryz.ntmps73
  go_upto_region 1 with fail
  rw [←HW1.out]
  go_wp2_with (go_at_call 107;((with_reducible refine (HWd.out _ HBX.out).mono ?_);rintro e w2 ⟨rfl,rfl⟩))
  go_ret2
  exact ⟨by rw [HR.out.1,HR.out.2];rfl,HBX.out⟩
 ·obtain ⟨d,hd⟩:∃ d,d=str (Lib.decDigits b.size):=⟨_,rfl⟩
  have hds:d.size≤21:=by rw [hd,str_size,←itoa_nat];exact Lib.itoa_length_le _ (by omega) (by omega)
  have HIt:=Lib.hid (fun (x:BelW w1)=>Calls.bel_class (x:=x) (v:=.string d) (by
   have:=itoa_any (b.size:Int) x.w (by omega) (by omega) ((h2.below HBX.out).below x.h)
   rw [itoa_nat,←hd] at this
   exact this))
  have HR:Hid (bytesL k b.data.toList=encL k b.data.toList∧(bytesE k b.data.toList)=0):=⟨bytesL_ok (bytesE_ok hk (by rw [list_len];exact hbig)),bytesE_ok hk (by rw [list_len];exact hbig)⟩
  have HE:Hid (t++⟨#[32]⟩++d++⟨#[0]⟩++b=str (encL k b.data.toList)):=by show _=_;rw [ht,hd];exact enc_str k b
  have k1:∀ x:BelW w1,x.w.cell? ⟨w.heap.size,1,none⟩=some (.string b):=fun x=>cell_bel c1 x.h
  have hq:Nonempty (BelW w1):=⟨⟨w1,Below.refl _ _⟩⟩
  clear ht hk hd
  go_enter Tryz.func73,Tryz.ntmps73
  go_upto_region 1 with fail
  rw [←HW1.out]
  go_wp2_with (go_at_call 107;((with_reducible refine (HWd.out _ HBX.out).mono ?_);rintro e w2 ⟨rfl,rfl⟩))
  refine wp_region_bel (w0:=w2) (Below.refl _ _) (by kernel_rfl) (by kernel_rfl) ?_
  repeat (go_big_quiet_step ((go_at_call 108;exact HIt.out _)))
  refine wpQuiet_nil ?_
  rintro _ ⟨x,rfl⟩
  have HX:=Lib.hid (HBX.out.trans (x.h.mono HBX.out.size))
  go_wp2
  go_ret2
  exact ⟨by rw [HR.out.1,HR.out.2,←HE.out];rfl,HX.out⟩
end Go.Proofs.YtnoopcenogbjiaaGreatDoor
/-
 The walks of the links of a tree, of a commit and of a tag; of Links and Whole.
-/
namespace Go.Proofs.YtnoopcenogbjiaaGreatDoor
open Go Go.RowKit Go.Maps Go.WideMaps
def LnkR (R:Nat×List (List UInt8)) (w:World) (e:Ending) (w':World):Prop:=(∃ v,e=.returned (.tuple #[v,.int .i64 (R.1:Int)])∧SOw w' w.heap.size v R.2)∧Below w.heap.size w w'
def tids (es:List En):List (List UInt8):=es.map fun e=>e.i.data.toList
theorem tids_take {es:List En} {k:Nat} (h:k<es.length):tids (es.take (k+1))=tids (es.take k)++[es[k].i.data.toList]:=by
 unfold tids
 rw [List.take_succ_eq_append_getElem h,List.map_append,List.map_singleton]
def trL (l:List UInt8):Nat×List (List UInt8):=((parE l).1,tids (parE l).2)
def cmL (l:List UInt8):Nat×List (List UInt8):=((parC l).1,if (parC l).1=0 then (parC l).2.t.data.toList::(parC l).2.ps else [])
def tgL (l:List UInt8):Nat×List (List UInt8):=((parG l).1,if (parG l).1=0 then [(parG l).2.o.data.toList] else [])
def lnkL (k:Int) (l:List UInt8):Nat×List (List UInt8) :=
 if bytesE k l≠0 then (bytesE k l,[]) else if k=4 then tgL l else if k=2 then ((trL l).1,disL (trL l).2) else if k=3 then ((cmL l).1,disL (cmL l).2) else (0,[])
theorem parE_len (l:List UInt8):(parE l).2.length≤1024:=by
 by_cases h:(parE l).1=0
 ·exact (chkT_all (body_par h).1).1
 ·rw [par_err h];simp
theorem parC_len {l:List UInt8} (h:(parC l).1=0):(parC l).2.ps.length≤8:=(chkC_ok (parC_back h).1).2.2.1
set_option maxHeartbeats 4000000 in
set_option maxRecDepth 4000 in
theorem treeLinks_any (s:ByteArray) (w:World) (hT:TrTab w) (hs:s.size≤1048576):Calls Tryz.prog 105 #[.string s] w (LnkR (trL s.data.toList) w):=by
 obtain ⟨⟨C,es⟩,hP⟩:∃ P,P=parE s.data.toList:=⟨_,rfl⟩
 have hlen:=parE_len s.data.toList
 have HTP:Hid (Calls Tryz.prog 131 #[.string s] w (ParT (C,es) w)):=by rw [hP];exact tparse_any s w hT hs
 have hR:trL s.data.toList=(C,tids es):=by rw [trL,←hP]
 rw [hR]
 rw [←hP] at hlen
 simp only at hlen
 clear hP hR hT hs
 go_enter Tryz.func105,Tryz.ntmps105
 go_upto_region 2 with (go_at_call 131;((with_reducible refine (HTP.out).mono ?_);rintro e w1 ⟨⟨v,rfl,p,c,rfl,hcap,hrow⟩,hb1⟩))
 obtain ⟨n,hn⟩:∃ n,n=es.length:=⟨_,rfl⟩
 rw [←hn] at hlen ⊢
 have HN:=Lib.hid hn
 have HP:=Lib.hid hrow
 have HB1:=Lib.hid hb1
 clear hn hrow hb1 hcap HTP
 go_wp2_with fail
 go_loopw [6,16] (fun ov iv wr=>∃ (k:Nat) (os:List (List UInt8)),k≤n∧iv=.int .i64 (k:Int)∧SOw wr w1.heap.size ov os∧os.length=k∧Hid (os=tids (es.take k))∧Hid (Below w1.heap.size w1 wr)) (fun _ iv _=>n-(intOf iv).toNat)
 case atStart=>exact ⟨0,[],by omega,rfl,SOw.nil _ _,rfl,rfl,Below.refl _ _⟩
 case round =>
  obtain ⟨k,os,hk,rfl,ho,hol,HO,HB⟩:=hrel
  by_cases hlt:k<n
  ·have hkl:k<es.length:=by rw [←HN.out];exact hlt
   obtain ⟨e,he⟩:∃ e,e=es[k]:=⟨_,rfl⟩
   obtain ⟨g,o,rfl,hg,a0,a1,a2⟩:=HP.out.below HB.out k hkl
   rw [←he] at a0 a1 a2
   have HO2:Hid (os++[e.i.data.toList]=tids (es.take (k+1))):=by show _=_;rw [tids_take hkl,←he,HO.out]
   obtain ⟨m',n',i'⟩:=e
   simp only at a0 a1 a2 HO2
   obtain ⟨w2,hw2⟩:∃ w2,w2=wr.alloc (.cells #[.int .i64 m',.string n',.string i'] 107):=⟨_,rfl⟩
   obtain ⟨E,hE⟩:∃ E,E=wr.heap.size:=⟨_,rfl⟩
   have hrow:w2.heap[E]?=some (.cells #[.int .i64 m',.string n',.string i'] 107 (0,0)):=by rw [hw2,hE];exact heap_alloc_new _ _
   have hbx:Below wr.heap.size wr w2:=by rw [hw2];exact below_new (Below.refl _ _) _
   have e2:w2.cell? ⟨E,2,none⟩=some (.string i'):=cell_of_row w2 _ 2 _ _ _ hrow
   have ho2:=ho.below hbx
   have hb2:Below w1.heap.size w1 w2:=HB.out.trans (hbx.mono HB.out.size)
   have HB2:=Lib.hid hb2
   have hs2:=hb2.size
   have HW2:=Lib.hid hw2
   have HE0:=Lib.hid hE
   clear he hw2 hE hrow hbx ho hb2 hkl hg
   go_upto_region 6 with fail
   rw [←HW2.out,←HE0.out]
   go_wp2_with (at_builtin;refine wp_so_one rfl _ _ rfl rfl ho2 i' rfl (by omega) hs2 ?_;intro v4 w4 ho4 hg4;have hb4:=ho2.bel1 HB2.out (Nat.le_refl _) hs2 hg4)
   go_roundw
   case rel=>exact ⟨k+1,_,by omega,by go_num,ho4,by simp [hol],HO2.out,hb4⟩
   case measure=>simp [intOf];omega
  ·obtain rfl:k=n:=by omega
   have HX:Hid (os=tids es):=by
    show _=_
    rw [HO.out,List.take_of_length_le (by have:=HN.out;omega)]
   have HOO:=Lib.hid ho
   clear ho
   go_wp2_with fail
   go_ret2
   refine ⟨⟨_,rfl,?_⟩,HB1.out.trans (HB.out.mono HB1.out.size)⟩
   rw [←HX.out]
   exact HOO.out.mono HB1.out.size
set_option maxHeartbeats 4000000 in
set_option maxRecDepth 4000 in
theorem commitLinks_any (s:ByteArray) (w:World) (hT:StrTab w) (hs:s.size≤1048576):Calls Tryz.prog 103 #[.string s] w (LnkR (cmL s.data.toList) w):=by
 obtain ⟨⟨C,⟨t,ps,⟨an,am,aT,az⟩,⟨cn,cm,cT,cz⟩,x⟩⟩,hP⟩:∃ P,P=parC s.data.toList:=⟨_,rfl⟩
 have HTP:Hid (Calls Tryz.prog 125 #[.string s] w (ParCR (C,⟨t,ps,⟨an,am,aT,az⟩,⟨cn,cm,cT,cz⟩,x⟩) w)):=by rw [hP];exact cparse_any s w hT hs
 have hlen:C=0→ps.length≤8:=fun h=>by
  have:=@parC_len s.data.toList
  rw [←hP] at this
  exact this h
 have hR:cmL s.data.toList=(C,if C=0 then t.data.toList::ps else []):=by rw [cmL,←hP]
 rw [hR]
 clear hP hR hT hs
 go_enter Tryz.func103,Tryz.ntmps103
 go_upto_region 2 with (go_at_call 125;((with_reducible refine (HTP.out).mono ?_);rintro e w1 ⟨⟨p,cap,rfl,hrow⟩,hb1⟩;simp only at hrow))
 obtain ⟨n,hn⟩:∃ n,n=ps.length:=⟨_,rfl⟩
 rw [←hn] at hlen ⊢
 obtain ⟨w2,hw2⟩:∃ w2,w2=w1.alloc (.cells #[.string t,.slice p n cap,.string an,.string am,.int .i64 aT,.int .i64 az,.string cn,.string cm,.int .i64 cT,.int .i64 cz,.string x] 64):=⟨_,rfl⟩
 obtain ⟨E,hE⟩:∃ E,E=w1.heap.size:=⟨_,rfl⟩
 have hr2:w2.heap[E]?=some (.cells #[.string t,.slice p n cap,.string an,.string am,.int .i64 aT,.int .i64 az,.string cn,.string cm,.int .i64 cT,.int .i64 cz,.string x] 64 (0,0)):=by rw [hw2,hE];exact heap_alloc_new _ _
 have hbx:Below w1.heap.size w1 w2:=by rw [hw2];exact below_new (Below.refl _ _) _
 rw [←hw2,←hE]
 have HB2:=Lib.hid (hb1.trans (hbx.mono hb1.size))
 have hrow2:=hrow.below hbx
 have HN:=Lib.hid hn
 obtain ⟨x0,x1,-⟩:=cm_at hr2
 clear hw2 hE hbx hrow hb1 HTP hn
 by_cases h0:C=0
 ·have g0:((C:Int) != 0)=false:=by simp [h0]
  have h8:=hlen h0
  have HC0:=Lib.hid h0
  have hown:SOw (w2.alloc (.cells #[.string t] 9)) w2.heap.size (.slice (some ⟨w2.heap.size,0,none⟩) 1 1) [t.data.toList]:=SOw.one w2 t (Nat.le_refl _)
  have hbn:Below w2.heap.size w2 (w2.alloc (.cells #[.string t] 9)):=below_new (Below.refl _ _) _
  have hr3:=hrow2.below hbn
  have y1:=cell_bel x1 hbn
  have hs3:=hbn.size
  have HB3:=Lib.hid hbn
  clear h0 hlen hrow2 hr2 hbn
  go_wp2_with (at_builtin;refine wp_so_many rfl _ _ rfl rfl hown p n cap rfl HN.out hr3 (by simp;omega) hs3 ?_;intro v4 w4 ho4 hg4;have hb4:Below w2.heap.size w2 w4:=HB3.out.grown hg4 hs3 (fun k hk=>(World.ownsRow.lt hown k hk).1))
  go_ret2
  refine ⟨⟨_,rfl,?_⟩,HB2.out.trans (hb4.mono HB2.out.size)⟩
  exact SOw.mono ho4 HB2.out.size
 ·have g0:((C:Int) != 0)=true:=by simp;omega
  have HC0:=Lib.hid h0
  clear h0 hlen
  go_wp2_with fail
  go_ret2
  refine ⟨⟨_,rfl,?_⟩,HB2.out⟩
  exact SOw.nil _ _
set_option maxHeartbeats 4000000 in
set_option maxRecDepth 4000 in
theorem tagLinks_any (s:ByteArray) (w:World) (hT:StrTab w) (hO:WoTab w) (hs:s.size≤1048576):Calls Tryz.prog 104 #[.string s] w (LnkR (tgL s.data.toList) w):=by
 obtain ⟨⟨C,⟨t,k,n,⟨an,am,aT,az⟩,x⟩⟩,hP⟩:∃ P,P=parG s.data.toList:=⟨_,rfl⟩
 have HTP:Hid (Calls Tryz.prog 126 #[.string s] w (ParGR (C,⟨t,k,n,⟨an,am,aT,az⟩,x⟩) w)):=by rw [hP];exact gparse_any s w hT hO hs
 have hR:tgL s.data.toList=(C,if C=0 then [t.data.toList] else []):=by rw [tgL,←hP]
 rw [hR]
 clear hP hR hT hO hs
 go_enter Tryz.func104,Tryz.ntmps104
 go_upto_region 2 with (go_at_call 126;((with_reducible refine (HTP.out).mono ?_);rintro e w1 ⟨rfl,hb1⟩))
 obtain ⟨w2,hw2⟩:∃ w2,w2=w1.alloc (.cells #[.string t,.int .i64 k,.string n,.string an,.string am,.int .i64 aT,.int .i64 az,.string x] 80):=⟨_,rfl⟩
 obtain ⟨E,hE⟩:∃ E,E=w1.heap.size:=⟨_,rfl⟩
 have hr2:w2.heap[E]?=some (.cells #[.string t,.int .i64 k,.string n,.string an,.string am,.int .i64 aT,.int .i64 az,.string x] 80 (0,0)):=by rw [hw2,hE];exact heap_alloc_new _ _
 have hbx:Below w1.heap.size w1 w2:=by rw [hw2];exact below_new (Below.refl _ _) _
 rw [←hw2,←hE]
 have HB2:=Lib.hid (hb1.trans (hbx.mono hb1.size))
 obtain ⟨x0,-⟩:=tg_at hr2
 clear hw2 hE hbx hb1 HTP hr2
 by_cases h0:C=0
 ·have g0:((C:Int) != 0)=false:=by simp [h0]
  have HC0:=Lib.hid h0
  clear h0
  go_wp2_with fail
  go_ret2
  refine ⟨⟨_,rfl,?_⟩,HB2.out.trans ((below_new (Below.refl _ _) _).mono HB2.out.size)⟩
  exact SOw.one w2 t HB2.out.size
 ·have g0:((C:Int) != 0)=true:=by simp;omega
  have HC0:=Lib.hid h0
  clear h0
  go_wp2_with fail
  go_ret2
  refine ⟨⟨_,rfl,?_⟩,HB2.out⟩
  exact SOw.nil _ _
theorem lnkL_err {k:Int} {l:List UInt8} (h:bytesE k l≠0):lnkL k l=(bytesE k l,[]):=by rw [lnkL,if_pos h]
theorem lnkL_4 {l:List UInt8} (h:bytesE 4 l=0):lnkL 4 l=tgL l:=by rw [lnkL,if_neg (by omega),if_pos rfl]
theorem lnkL_2 {l:List UInt8} (h:bytesE 2 l=0):lnkL 2 l=((trL l).1,disL (trL l).2):=by rw [lnkL,if_neg (by omega),if_neg (by decide),if_pos rfl]
theorem lnkL_3 {l:List UInt8} (h:bytesE 3 l=0):lnkL 3 l=((cmL l).1,disL (cmL l).2):=by rw [lnkL,if_neg (by omega),if_neg (by decide),if_neg (by decide),if_pos rfl]
theorem lnkL_1 {l:List UInt8} (h:bytesE 1 l=0):lnkL 1 l=(0,[]):=by rw [lnkL,if_neg (by omega),if_neg (by decide),if_neg (by decide),if_neg (by decide)]
theorem bytesE_kinds {k:Int} {l:List UInt8} (h:bytesE k l=0):k=1∨k=2∨k=3∨k=4:=by
 have h1:wordL k≠[]:=fun e=>by
  rw [bytesE_kind e] at h
  cases h
 have h2:1≤k∧k≤4:=by
  by_cases h':1≤k∧k≤4
  ·exact h'
  ·exact absurd (wordL_nil.mpr h') h1
 omega
theorem trL_len (l:List UInt8):(trL l).2.length≤1024:=by
 show (tids (parE l).2).length≤1024
 rw [tids,List.length_map]
 exact parE_len l
theorem cmL_len (l:List UInt8):(cmL l).2.length≤9:=by
 unfold cmL
 split
 ·rename_i h
  have:=parC_len h
  simp only [List.length_cons]
  omega
 ·simp
theorem trL_all {l:List UInt8} (hl:l.length≤1048576):∀ y∈(trL l).2,y.length≤140737488355328:=fun y hy=>by
 rw [show (trL l).2=tids (parE l).2 from rfl,tids,List.mem_map] at hy
 obtain ⟨e,he,rfl⟩:=hy
 have:=(par_size e he).2
 rw [list_len]
 omega
theorem cmL_all {l:List UInt8}:∀ y∈(cmL l).2,y.length≤140737488355328:=fun y hy=>by
 unfold cmL at hy
 split at hy
 ·rename_i h
  obtain ⟨i1,i2,-⟩:=okC_parts (chkC_ok (parC_back h).1).1
  have h1:=isId_size i1
  rcases List.mem_cons.1 hy with rfl|hy
  ·rw [list_len];omega
  ·have:=isId_size (allId_mem i2 hy)
   rw [str_size] at this
   omega
 ·simp at hy
set_option maxHeartbeats 4000000 in
set_option maxRecDepth 4000 in
theorem links_any (k:Int) (b:ByteArray) (w:World) (hT:StrTab w) (hO:WoTab w) (hR:TrTab w) (hb:b.size≤140737488355328) (hk:bytesE k b.data.toList=0→b.size≤1048576) :
  Calls Tryz.prog 72 #[.agg #[.int .i64 k,.string b]] w (LnkR (lnkL k b.data.toList) w):=by
 obtain ⟨E,hE⟩:∃ E,E=bytesE k b.data.toList:=⟨_,rfl⟩
 obtain ⟨l,hl⟩:∃ l,l=b.data.toList:=⟨_,rfl⟩
 obtain ⟨R,hRR⟩:∃ R,R=lnkL k l:=⟨_,rfl⟩
 rw [←hl,←hRR]
 obtain ⟨w1,hw1⟩:∃ w1,w1=w.alloc (.cells #[.int .i64 k,.string b] 29):=⟨_,rfl⟩
 have hx:w1.heap[w.heap.size]?=some (.cells #[.int .i64 k,.string b] 29 (0,0)):=by rw [hw1];exact heap_alloc_new w _
 have hbx:Below w.heap.size w w1:=by rw [hw1];exact below_new (Below.refl _ _) _
 have x0:w1.cell? ⟨w.heap.size,0,none⟩=some (.int .i64 k):=cell_of_row _ _ 0 _ _ _ hx
 have x1:w1.cell? ⟨w.heap.size,1,none⟩=some (.string b):=cell_of_row _ _ 1 _ _ _ hx
 have HBX:=Lib.hid hbx
 have HW1:=Lib.hid hw1
 obtain ⟨W,hW⟩:∃ W,W=str (bytesL k b.data.toList):=⟨_,rfl⟩
 have HB:Hid (Calls Tryz.prog 73 #[.agg #[.int .i64 k,.string b]] w1 fun e w'=>e=.returned (.tuple #[.string W,.int .i64 (E:Int)])∧Below w1.heap.size w1 w'):=by
  rw [hW,hE]
  exact bytes_any k b w1 (hO.below hbx) (hT.below hbx) hb
 have h2:∀ w2,Below w1.heap.size w1 w2→StrTab w2∧WoTab w2∧TrTab w2:=fun w2 h=>⟨(hT.below hbx).below h,(hO.below hbx).below h,(hR.below hbx).below h⟩
 by_cases h0:E=0
 case neg =>
  have HQ:Hid (R=(E,[])):=by show _=_;rw [hRR,hl,lnkL_err (by rw [←hE];exact h0),hE]
  have g0:((E:Int) != 0)=true:=by simp;omega
  clear hRR hl hE hw1 hx hbx hW h0 hT hO hR h2 hk
  go_enter Tryz.func72,Tryz.ntmps72
  go_upto_region 1 with fail
  rw [←HW1.out]
  go_wp2_with (go_at_call 73;((with_reducible refine (HB.out).mono ?_);rintro e w2 ⟨rfl,hb2⟩))
  go_ret2
  rw [HQ.out]
  exact ⟨⟨_,rfl,SOw.nil _ _⟩,HBX.out.trans (hb2.mono HBX.out.size)⟩
 have g0:((E:Int) != 0)=false:=by simp [h0]
 have hbs:b.size≤1048576:=hk (by rw [←hE];exact h0)
 have hE0:bytesE k l=0:=by rw [hl,←hE,h0]
 have hll:l.length≤1048576:=by rw [hl,list_len];omega
 have HT1:Hid (∀ w2,Below w1.heap.size w1 w2→Calls Tryz.prog 104 #[.string b] w2 (LnkR (tgL l) w2)):=fun w2 h=>by rw [hl];exact tagLinks_any b w2 (h2 w2 h).1 (h2 w2 h).2.1 (by omega)
 have HT2:Hid (∀ w2,Below w1.heap.size w1 w2→Calls Tryz.prog 105 #[.string b] w2 (LnkR (trL l) w2)):=fun w2 h=>by rw [hl];exact treeLinks_any b w2 (h2 w2 h).2.2 hbs
 have HT3:Hid (∀ w2,Below w1.heap.size w1 w2→Calls Tryz.prog 103 #[.string b] w2 (LnkR (cmL l) w2)):=fun w2 h=>by rw [hl];exact commitLinks_any b w2 (h2 w2 h).1 (by omega)
 have q1:=trL_len l
 have q2:=cmL_len l
 have q3:=trL_all hll
 have q4:=cmL_all (l:=l)
 obtain ⟨⟨tc,tl⟩,htl⟩:∃ q,q=trL l:=⟨_,rfl⟩
 obtain ⟨⟨cc,cl⟩,hcl⟩:∃ q,q=cmL l:=⟨_,rfl⟩
 obtain ⟨⟨gc,gl⟩,hgl⟩:∃ q,q=tgL l:=⟨_,rfl⟩
 rw [←htl] at HT2 q1 q3
 rw [←hcl] at HT3 q2 q4
 rw [←hgl] at HT1
 simp only at q1 q2 q3 q4
 have HD1:Hid (∀ w2 p c n,n=tl.length→SRw w2 p tl→Calls Tryz.prog 106 #[.slice p n c] w2 fun e w'=>∃ v,e=.returned v∧SOw w' w2.heap.size v (disL tl)∧Below w2.heap.size w2 w'):=fun w2 p c n hn h=>distinct_any tl p c n w2 hn h q3 (by omega)
 have HD2:Hid (∀ w2 p c n,n=cl.length→SRw w2 p cl→Calls Tryz.prog 106 #[.slice p n c] w2 fun e w'=>∃ v,e=.returned v∧SOw w' w2.heap.size v (disL cl)∧Below w2.heap.size w2 w'):=fun w2 p c n hn h=>distinct_any cl p c n w2 hn h q4 (by omega)
 have hkk:=bytesE_kinds hE0
 have HR:Hid (R=if k=4 then (gc,gl) else if k=2 then (tc,disL tl) else if k=3 then (cc,disL cl) else (0,[])):=by
  show _=_
  rw [hRR,lnkL,if_neg (by omega),←htl,←hcl,←hgl]
 clear hRR hl hE hx hbx hW h0 hT hO hR h2 hk hbs hE0 hll htl hcl hgl q1 q2 q3 q4 hw1
 go_enter Tryz.func72,Tryz.ntmps72
 go_upto_region 1 with fail
 rw [←HW1.out]
 go_upto_region 4 with (go_at_call 73;((with_reducible refine (HB.out).mono ?_);rintro e w2 ⟨rfl,hb2⟩;have y0:=cell_bel x0 hb2;have y1:=cell_bel x1 hb2))
 have HB2:=Lib.hid hb2
 have HBY:=Lib.hid (HBX.out.trans (hb2.mono HBX.out.size))
 clear x0 x1 HB hb2
 by_cases k4:k=4
 ·have g4:((k:Int)==4)=true:=by simp [k4]
  have HQ:Hid (R=(gc,gl)):=by show _=_;rw [HR.out,if_pos k4]
  clear k4 hkk HR
  go_wp2_with (go_at_call 104;((with_reducible refine (HT1.out _ HB2.out).mono ?_);rintro e w3 ⟨⟨v,rfl,hv⟩,hb3⟩))
  go_ret2
  rw [HQ.out]
  exact ⟨⟨_,rfl,hv.mono HBY.out.size⟩,HBY.out.trans (hb3.mono HBY.out.size)⟩
 have g4:((k:Int)==4)=false:=by simp [k4]
 by_cases k2:k=2
 ·have g2:((k:Int)==2)=true:=by simp [k2]
  have HQ:Hid (R=(tc,disL tl)):=by show _=_;rw [HR.out,if_neg k4,if_pos k2]
  clear k4 k2 hkk HR
  go_wp2_with (first
   | (go_at_call 105;((with_reducible refine (HT2.out _ HB2.out).mono ?_);rintro e w3 ⟨⟨v,rfl,hv⟩,hb3⟩;obtain ⟨p,c,rfl,hr⟩:=hv.rw))
   | (go_at_call 106;((with_reducible refine (HD1.out _ _ _ _ rfl hr).mono ?_);rintro e w4 ⟨u,rfl,hu,hb4⟩)))
  go_ret2
  rw [HQ.out]
  have HBZ:=HBY.out.trans (hb3.mono HBY.out.size)
  exact ⟨⟨_,rfl,hu.mono HBZ.size⟩,HBZ.trans (hb4.mono HBZ.size)⟩
 have g2:((k:Int)==2)=false:=by simp [k2]
 by_cases k3:k=3
 ·have g3:((k:Int)==3)=true:=by simp [k3]
  have HQ:Hid (R=(cc,disL cl)):=by show _=_;rw [HR.out,if_neg k4,if_neg k2,if_pos k3]
  clear k4 k2 k3 hkk HR
  go_wp2_with (first
   | (go_at_call 103;((with_reducible refine (HT3.out _ HB2.out).mono ?_);rintro e w3 ⟨⟨v,rfl,hv⟩,hb3⟩;obtain ⟨p,c,rfl,hr⟩:=hv.rw))
   | (go_at_call 106;((with_reducible refine (HD2.out _ _ _ _ rfl hr).mono ?_);rintro e w4 ⟨u,rfl,hu,hb4⟩)))
  go_ret2
  rw [HQ.out]
  have HBZ:=HBY.out.trans (hb3.mono HBY.out.size)
  exact ⟨⟨_,rfl,hu.mono HBZ.size⟩,HBZ.trans (hb4.mono HBZ.size)⟩
 have g3:((k:Int)==3)=false:=by simp [k3]
 have HQ:Hid (R=(0,[])):=by show _=_;rw [HR.out,if_neg k4,if_neg k2,if_neg k3]
 clear k4 k2 k3 hkk HR
 go_wp2_with fail
 go_ret2
 rw [HQ.out]
 exact ⟨⟨_,rfl,SOw.nil _ _⟩,HBY.out⟩
set_option maxHeartbeats 2000000 in
theorem whole_any (k:Int) (b:ByteArray) (w:World) (hT:StrTab w) (hO:WoTab w) (hR:TrTab w) (hb:b.size≤140737488355328) (hk:bytesE k b.data.toList=0→b.size≤1048576) :
  Calls Tryz.prog 40 #[.agg #[.int .i64 k,.string b]] w fun e w'=>e=.returned (.int .i64 ((lnkL k b.data.toList).1:Int))∧Below w.heap.size w w':=by
 obtain ⟨⟨C,L⟩,hL⟩:∃ q,q=lnkL k b.data.toList:=⟨_,rfl⟩
 obtain ⟨w1,hw1⟩:∃ w1,w1=w.alloc (.cells #[.int .i64 k,.string b] 29):=⟨_,rfl⟩
 have hx:w1.heap[w.heap.size]?=some (.cells #[.int .i64 k,.string b] 29 (0,0)):=by rw [hw1];exact heap_alloc_new w _
 have hbx:Below w.heap.size w w1:=by rw [hw1];exact below_new (Below.refl _ _) _
 have x0:w1.cell? ⟨w.heap.size,0,none⟩=some (.int .i64 k):=cell_of_row _ _ 0 _ _ _ hx
 have x1:w1.cell? ⟨w.heap.size,1,none⟩=some (.string b):=cell_of_row _ _ 1 _ _ _ hx
 have HBX:=Lib.hid hbx
 have HW1:=Lib.hid hw1
 have HL:Hid (Calls Tryz.prog 72 #[.agg #[.int .i64 k,.string b]] w1 (LnkR (C,L) w1)):=by
  rw [hL]
  exact links_any k b w1 (hT.below hbx) (hO.below hbx) (hR.below hbx) hb hk
 rw [←hL]
 clear hL hw1 hx hbx hT hO hR hb hk
 go_enter Tryz.func40,Tryz.ntmps40
 go_upto_region 1 with fail
 rw [←HW1.out]
 go_wp2_with (go_at_call 72;((with_reducible refine (HL.out).mono ?_);rintro e w2 ⟨⟨v,rfl,hv⟩,hb2⟩))
 go_ret
 exact ⟨rfl,HBX.out.trans (hb2.mono HBX.out.size)⟩
end Go.Proofs.YtnoopcenogbjiaaGreatDoor
