/-
 The walks of the reference's Check and Bytes, of both Id and of Same.
-/
import Derived.Test.YtnoopcenogbjiaaGreatDoorTrBackPPk
import Derived.Test.YtnoopcenogbjiaaGreatDoorShaPadPk
import Derived.Test.YtnoopcenogbjiaaGreatDoorCmRPar
import Derived.Test.YtnoopcenogbjiaaGreatDoorCmRPTag
import Derived.Test.YtnoopcenogbjiaaGreatDoorTrROnePk
set_option linter.unusedVariables false
set_option linter.unusedSimpArgs false
namespace Go.Proofs.YtnoopcenogbjiaaGreatDoor
open Go.RowKit
set_option maxHeartbeats 2000000 in
theorem rcheck_any (k:Int) (b:ByteArray) (w:World) (hb:b.size≤140737488355328) :
  Calls Tryz.prog 79 #[.agg #[.int .i64 k,.string b]] w fun e w'=>e=.returned (.int .i64 (bytesE k b.data.toList:Int))∧Below w.heap.size w w':=by
 obtain ⟨t,ht⟩:∃ t,t=str (wordL k):=⟨_,rfl⟩
 have HWd:Hid (∀ w',Calls Tryz.prog 80 #[.int .i64 k] w' fun e w''=>e=.returned (.string t)∧w''=w'):=fun w'=>by
  rw [ht]
  exact rword_any k w'
 have hx:=heap_alloc_new w (.cells #[.int .i64 k,.string b] 29)
 have hbx:Below w.heap.size w (w.alloc (.cells #[.int .i64 k,.string b] 29)):=(Below.refl _ _).alloc (Nat.le_refl _) _
 obtain ⟨w1,hw1⟩:∃ w1,w1=w.alloc (.cells #[.int .i64 k,.string b] 29):=⟨_,rfl⟩
 have HW1:=Lib.hid hw1
 rw [←hw1] at hx hbx
 have c0:=cell_of_row w1 w.heap.size 0 _ _ _ hx
 have c1:=cell_of_row w1 w.heap.size 1 _ _ _ hx
 have c0:w1.cell? ⟨w.heap.size,0,none⟩=some (.int .i64 k):=c0
 have c1:w1.cell? ⟨w.heap.size,1,none⟩=some (.string b):=c1
 have HBX:=Lib.hid hbx
 clear hw1 hx hbx
 by_cases hk:wordL k=[]
 ·have HR:Hid ((bytesE k b.data.toList)=140):=bytesE_kind hk
  have f1:t.toList.isEmpty=true:=by rw [ByteArray.toList_eq,ht,str_list,hk];rfl
  have f2:(t.toList==[])=true:=by rw [ByteArray.toList_eq,ht,str_list,hk];rfl
  clear ht hk
  go_enter Tryz.func79,Tryz.ntmps79
  go_upto_region 1 with fail
  rw [←HW1.out]
  go_wp2_with (go_at_call 80;((with_reducible refine (HWd.out _).mono ?_);rintro e w2 ⟨rfl,rfl⟩))
  go_ret
  exact ⟨by rw [HR.out];rfl,HBX.out⟩
 have f1:t.toList.isEmpty=false:=by
  rw [ByteArray.toList_eq,ht,str_list]
  cases hx:wordL k with
  | nil=>exact absurd hx hk
  | cons a l=>rfl
 have f2:(t.toList==[])=false:=by rw [ByteArray.toList_eq,ht,str_list,beq_eq_false_iff_ne];exact hk
 by_cases hbig:1048576<b.size
 ·have HR:Hid ((bytesE k b.data.toList)=4):=bytesE_big hk (by rw [list_len];exact hbig)
  clear ht hk
  go_enter Tryz.func79,Tryz.ntmps79
  go_upto_region 1 with fail
  rw [←HW1.out]
  go_wp2_with (go_at_call 80;((with_reducible refine (HWd.out _).mono ?_);rintro e w2 ⟨rfl,rfl⟩))
  go_ret
  exact ⟨by rw [HR.out];rfl,HBX.out⟩
 ·have HR:Hid ((bytesE k b.data.toList)=0):=bytesE_ok hk (by rw [list_len];exact hbig)
  clear ht hk
  go_enter Tryz.func79,Tryz.ntmps79
  go_upto_region 1 with fail
  rw [←HW1.out]
  go_wp2_with (go_at_call 80;((with_reducible refine (HWd.out _).mono ?_);rintro e w2 ⟨rfl,rfl⟩))
  go_ret
  exact ⟨by rw [HR.out];rfl,HBX.out⟩
set_option maxHeartbeats 2000000 in
set_option maxRecDepth 4000 in
theorem rbytes_any (k:Int) (b:ByteArray) (w:World) (hb:b.size≤140737488355328) :
  Calls Tryz.prog 48 #[.agg #[.int .i64 k,.string b]] w fun e w'=>e=.returned (.tuple #[.string (str (bytesL k b.data.toList)),.int .i64 (bytesE k b.data.toList:Int)])∧Below w.heap.size w w':=by
 obtain ⟨E,hE⟩:∃ E,E=bytesE k b.data.toList:=⟨_,rfl⟩
 have HCh:Hid (∀ w',Calls Tryz.prog 79 #[.agg #[.int .i64 k,.string b]] w' fun e w''=>e=.returned (.int .i64 (E:Int))∧Below w'.heap.size w' w''):=fun w'=>by
  rw [hE]
  exact rcheck_any k b w' hb
 have hx:=heap_alloc_new w (.cells #[.int .i64 k,.string b] 29)
 have hbx:Below w.heap.size w (w.alloc (.cells #[.int .i64 k,.string b] 29)):=(Below.refl _ _).alloc (Nat.le_refl _) _
 obtain ⟨w1,hw1⟩:∃ w1,w1=w.alloc (.cells #[.int .i64 k,.string b] 29):=⟨_,rfl⟩
 have HW1:=Lib.hid hw1
 rw [←hw1] at hx hbx
 have c0:=cell_of_row w1 w.heap.size 0 _ _ _ hx
 have c1:=cell_of_row w1 w.heap.size 1 _ _ _ hx
 have c0:w1.cell? ⟨w.heap.size,0,none⟩=some (.int .i64 k):=c0
 have c1:w1.cell? ⟨w.heap.size,1,none⟩=some (.string b):=c1
 have HBX:=Lib.hid hbx
 clear hw1 hx hbx
 rw [←hE]
 by_cases h0:E=0
 ·subst h0
  have hne:wordL k≠[]:=fun h=>by rw [bytesE_kind h] at hE;cases hE
  have hsz:b.size≤1048576:=by
   rcases Nat.lt_or_ge 1048576 b.size with h|h
   ·rw [bytesE_big hne (by rw [list_len];exact h)] at hE
    cases hE
   ·exact h
  obtain ⟨t,ht⟩:∃ t,t=str (wordL k):=⟨_,rfl⟩
  have hts:t.size≤6:=by rw [ht,str_size];exact wordL_le k
  obtain ⟨d,hd⟩:∃ d,d=str (Lib.decDigits b.size):=⟨_,rfl⟩
  have hds:d.size≤21:=by rw [hd,str_size,←itoa_nat];exact Lib.itoa_length_le _ (by omega) (by omega)
  have HR:Hid (bytesL k b.data.toList=encL k b.data.toList):=bytesL_ok hE.symm
  have HE:Hid (t++⟨#[32]⟩++d++⟨#[0]⟩++b=str (encL k b.data.toList)):=by show _=_;rw [ht,hd];exact enc_str k b
  have HDg:Hid (∀ w2:World,∀ x:BelW w2,Calls Tryz.prog 81 #[.int .i64 (b.size:Int)] x.w fun e w''=>e=.returned (.string d)∧∃ y:BelW w2,w''=y.w):=fun w2 x=>Calls.bel_class (x:=x) (by rw [hd];exact robdigits_any b.size x.w (by omega))
  have HWd:Hid (∀ w2:World,∀ x:BelW w2,Calls Tryz.prog 80 #[.int .i64 k] x.w fun e w''=>e=.returned (.string t)∧∃ y:BelW w2,w''=y.w):=fun w2 x=>Calls.same_class (x:=x) (by rw [ht];exact rword_any k x.w)
  clear ht hd hE hne
  go_enter Tryz.func48,Tryz.ntmps48
  go_upto_region 1 with fail
  rw [←HW1.out]
  go_wp2_with (go_at_call 79;((with_reducible refine (HCh.out _).mono ?_);rintro e w2 ⟨rfl,hb2⟩))
  have HB2:=Lib.hid (HBX.out.trans (hb2.mono HBX.out.size))
  have k0:∀ x:BelW w2,x.w.cell? ⟨w.heap.size,0,none⟩=some (.int .i64 k):=fun x=>cell_bel (cell_bel c0 hb2) x.h
  have k1:∀ x:BelW w2,x.w.cell? ⟨w.heap.size,1,none⟩=some (.string b):=fun x=>cell_bel (cell_bel c1 hb2) x.h
  have hq:Nonempty (BelW w2):=⟨⟨w2,Below.refl _ _⟩⟩
  clear c0 c1 hb2
  refine wp_region_bel (w0:=w2) (Below.refl _ _) (by kernel_rfl) (by kernel_rfl) ?_
  repeat (go_big_quiet_step (first|(go_at_call 81;exact HDg.out _ _)|(go_at_call 80;exact HWd.out _ _)))
  refine wpQuiet_nil ?_
  rintro _ ⟨x,rfl⟩
  have HX:=Lib.hid (HB2.out.trans (x.h.mono HB2.out.size))
  go_wp2
  go_ret2
  exact ⟨by rw [HR.out,←HE.out];rfl,HX.out⟩
 ·have HR:Hid (bytesL k b.data.toList=[]):=bytesL_err (by rw [←hE];exact h0)
  have f1:((E:Int) != 0)=true:=by simpa using h0
  clear hE h0
  go_enter Tryz.func48,Tryz.ntmps48
  go_upto_region 1 with fail
  rw [←HW1.out]
  go_wp2_with (go_at_call 79;((with_reducible refine (HCh.out _).mono ?_);rintro e w2 ⟨rfl,hb2⟩))
  go_ret2
  exact ⟨by rw [HR.out];rfl,HBX.out.trans (hb2.mono HBX.out.size)⟩
def idL (k:Int) (b:List UInt8):List UInt8:=if bytesE k b=0 then ofC (str (encL k b)) else []
theorem bytesL_len {k:Int} {b:ByteArray}:(bytesL k b.data.toList).length≤2000000:=by
 unfold bytesL
 split
 ·rename_i h
  have hb:b.size≤1048576:=by
   rcases Nat.lt_or_ge 1048576 b.size with h'|h'
   ·exfalso
    by_cases hw:wordL k=[]
    ·rw [bytesE_kind hw] at h;cases h
    ·rw [bytesE_big hw (by rw [list_len];exact h')] at h;cases h
   ·exact h'
  have h1:(Lib.decDigits b.size).length≤21:=by rw [←itoa_nat];exact Lib.itoa_length_le _ (by omega) (by omega)
  have h2:=wordL_le k
  unfold encL
  simp only [List.length_append,List.length_cons,list_len]
  omega
 ·simp
set_option maxHeartbeats 2000000 in
set_option maxRecDepth 4000 in
theorem id_any (k:Int) (b:ByteArray) (w:World) (h:WoTab w) (h2:StrTab w) (h3:KTab w) (hb:b.size≤140737488355328) :
  Calls Tryz.prog 41 #[.agg #[.int .i64 k,.string b]] w fun e w'=>e=.returned (.string (str (idL k b.data.toList)))∧Below w.heap.size w w':=by
 obtain ⟨E,hE⟩:∃ E,E=bytesE k b.data.toList:=⟨_,rfl⟩
 obtain ⟨s,hs⟩:∃ s,s=str (bytesL k b.data.toList):=⟨_,rfl⟩
 have hsl:s.size≤2000000:=by rw [hs,str_size];exact bytesL_len
 have HBy:Hid (∀ w',Below w.heap.size w w'→Calls Tryz.prog 73 #[.agg #[.int .i64 k,.string b]] w' fun e w''=>e=.returned (.tuple #[.string s,.int .i64 (E:Int)])∧Below w.heap.size w w''):=fun w' hw=>by
  rw [hE,hs]
  exact (bytes_any k b w' (h.below hw) (h2.below hw) hb).mono fun e w'' ⟨he,hb2⟩=>⟨he,hw.trans (hb2.mono hw.size)⟩
 have HOf:Hid (∀ w',Below w.heap.size w w'→Calls Tryz.prog 74 #[.string s] w' fun e w''=>e=.returned (.string (str (ofC s)))∧Below w.heap.size w w''):=fun w' hw =>
  (of_any s w' (by omega) (h3.below hw)).mono fun e w'' ⟨he,hb2⟩=>⟨he,hw.trans (hb2.mono hw.size)⟩
 have hx:=heap_alloc_new w (.cells #[.int .i64 k,.string b] 29)
 have hbx:Below w.heap.size w (w.alloc (.cells #[.int .i64 k,.string b] 29)):=(Below.refl _ _).alloc (Nat.le_refl _) _
 obtain ⟨w1,hw1⟩:∃ w1,w1=w.alloc (.cells #[.int .i64 k,.string b] 29):=⟨_,rfl⟩
 have HW1:=Lib.hid hw1
 rw [←hw1] at hx hbx
 have c0:=cell_of_row w1 w.heap.size 0 _ _ _ hx
 have c1:=cell_of_row w1 w.heap.size 1 _ _ _ hx
 have c0:w1.cell? ⟨w.heap.size,0,none⟩=some (.int .i64 k):=c0
 have c1:w1.cell? ⟨w.heap.size,1,none⟩=some (.string b):=c1
 have HBX:=Lib.hid hbx
 clear hw1 hx hbx
 by_cases h0:E=0
 ·subst h0
  have HR:Hid (str (idL k b.data.toList)=str (ofC s)):=by show _=_;rw [idL,if_pos hE.symm,hs,bytesL_ok hE.symm]
  clear hE hs
  go_enter Tryz.func41,Tryz.ntmps41
  go_upto_region 1 with fail
  rw [←HW1.out]
  go_wp2_with (first
   | (go_at_call 73;((with_reducible refine (HBy.out _ HBX.out).mono ?_);rintro e w2 ⟨rfl,hb2⟩))
   | (go_at_call 74;((with_reducible refine (HOf.out _ hb2).mono ?_);rintro e w3 ⟨rfl,hb3⟩)))
  go_ret
  exact ⟨by rw [HR.out];rfl,hb3⟩
 ·have HR:Hid (str (idL k b.data.toList)=⟨#[]⟩):=by show _=_;rw [idL,if_neg (by rw [←hE];exact h0)];rfl
  have f1:((E:Int) != 0)=true:=by simpa using h0
  clear hE hs h0
  go_enter Tryz.func41,Tryz.ntmps41
  go_upto_region 1 with fail
  rw [←HW1.out]
  go_wp2_with (go_at_call 73;((with_reducible refine (HBy.out _ HBX.out).mono ?_);rintro e w2 ⟨rfl,hb2⟩))
  go_ret
  exact ⟨by rw [HR.out];rfl,hb2⟩
set_option maxHeartbeats 2000000 in
set_option maxRecDepth 4000 in
theorem rid_any (k:Int) (b:ByteArray) (w:World) (hb:b.size≤140737488355328) :
  Calls Tryz.prog 16 #[.agg #[.int .i64 k,.string b]] w fun e w'=>e=.returned (.string (str (idL k b.data.toList)))∧Below w.heap.size w w':=by
 obtain ⟨E,hE⟩:∃ E,E=bytesE k b.data.toList:=⟨_,rfl⟩
 obtain ⟨s,hs⟩:∃ s,s=str (bytesL k b.data.toList):=⟨_,rfl⟩
 have hsl:s.size≤2000000:=by rw [hs,str_size];exact bytesL_len
 have HBy:Hid (∀ w',Below w.heap.size w w'→Calls Tryz.prog 48 #[.agg #[.int .i64 k,.string b]] w' fun e w''=>e=.returned (.tuple #[.string s,.int .i64 (E:Int)])∧Below w.heap.size w w''):=fun w' hw=>by
  rw [hE,hs]
  exact (rbytes_any k b w' hb).mono fun e w'' ⟨he,hb2⟩=>⟨he,hw.trans (hb2.mono hw.size)⟩
 have HOf:Hid (∀ w',Below w.heap.size w w'→Calls Tryz.prog 49 #[.string s] w' fun e w''=>e=.returned (.string (str (ofC s)))∧Below w.heap.size w w''):=fun w' hw =>
  (rof_any s w' (by omega)).mono fun e w'' ⟨he,hb2⟩=>⟨he,hw.trans (hb2.mono hw.size)⟩
 have hx:=heap_alloc_new w (.cells #[.int .i64 k,.string b] 29)
 have hbx:Below w.heap.size w (w.alloc (.cells #[.int .i64 k,.string b] 29)):=(Below.refl _ _).alloc (Nat.le_refl _) _
 obtain ⟨w1,hw1⟩:∃ w1,w1=w.alloc (.cells #[.int .i64 k,.string b] 29):=⟨_,rfl⟩
 have HW1:=Lib.hid hw1
 rw [←hw1] at hx hbx
 have c0:=cell_of_row w1 w.heap.size 0 _ _ _ hx
 have c1:=cell_of_row w1 w.heap.size 1 _ _ _ hx
 have c0:w1.cell? ⟨w.heap.size,0,none⟩=some (.int .i64 k):=c0
 have c1:w1.cell? ⟨w.heap.size,1,none⟩=some (.string b):=c1
 have HBX:=Lib.hid hbx
 clear hw1 hx hbx
 by_cases h0:E=0
 ·subst h0
  have HR:Hid (str (idL k b.data.toList)=str (ofC s)):=by show _=_;rw [idL,if_pos hE.symm,hs,bytesL_ok hE.symm]
  clear hE hs
  go_enter Tryz.func16,Tryz.ntmps16
  go_upto_region 1 with fail
  rw [←HW1.out]
  go_wp2_with (first
   | (go_at_call 48;((with_reducible refine (HBy.out _ HBX.out).mono ?_);rintro e w2 ⟨rfl,hb2⟩))
   | (go_at_call 49;((with_reducible refine (HOf.out _ hb2).mono ?_);rintro e w3 ⟨rfl,hb3⟩)))
  go_ret
  exact ⟨by rw [HR.out];rfl,hb3⟩
 ·have HR:Hid (str (idL k b.data.toList)=⟨#[]⟩):=by show _=_;rw [idL,if_neg (by rw [←hE];exact h0)];rfl
  have f1:((E:Int) != 0)=true:=by simpa using h0
  clear hE hs h0
  go_enter Tryz.func16,Tryz.ntmps16
  go_upto_region 1 with fail
  rw [←HW1.out]
  go_wp2_with (go_at_call 48;((with_reducible refine (HBy.out _ HBX.out).mono ?_);rintro e w2 ⟨rfl,hb2⟩))
  go_ret
  exact ⟨by rw [HR.out];rfl,hb2⟩
end Go.Proofs.YtnoopcenogbjiaaGreatDoor
/-
 The walks of the reference's Has, Whole and Links.
-/
namespace Go.Proofs.YtnoopcenogbjiaaGreatDoor
open Go Go.RowKit Go.Maps Go.WideMaps
theorem mem_drop {X:List (List UInt8)} {x:List UInt8} {k:Nat} (h:k<X.length):decide (x∈X.drop k)=(decide (X[k]=x)||decide (x∈X.drop (k+1))):=by
 rw [List.drop_eq_getElem_cons h,Bool.eq_iff_iff]
 simp only [decide_eq_true_eq,Bool.or_eq_true,List.mem_cons]
 exact ⟨fun h=>h.imp Eq.symm id,fun h=>h.imp Eq.symm id⟩
set_option maxHeartbeats 1000000 in
set_option maxRecDepth 4000 in
theorem rhas_any (X:List (List UInt8)) (s:ByteArray) (p:Option Addr) (c n:Nat) (w:World) (hn:n=X.length) (hp:SRw w p X) (hl:n≤1099511627776) :
  Calls Tryz.prog 99 #[.slice p n c,.string s] w fun e w'=>e=.returned (.bool (decide (s.data.toList∈X)))∧w=w':=by
 obtain ⟨R,hR⟩:∃ R,R=decide (s.data.toList∈X):=⟨_,rfl⟩
 rw [←hR]
 have HB:Hid (R=decide (s.data.toList∈X.drop 0)):=hR
 have HN:=Lib.hid hn
 clear hR hn
 go_enter Tryz.func99,Tryz.ntmps99
 go_wp2
 go_loopw [5] (fun i wr=>∃ k:Nat,k≤n∧i=.int .i64 (k:Int)∧Hid (R=decide (s.data.toList∈X.drop k))∧w=wr) (fun i _=>n-(intOf i).toNat)
 case atStart=>exact ⟨0,by omega,rfl,HB.out,rfl⟩
 case round =>
  clear HB
  obtain ⟨k,hk,rfl,HB,rfl⟩:=hrel
  by_cases hlt:k<n
  ·have hx:k<X.length:=by rw [←HN.out];exact hlt
   obtain ⟨g,o,rfl,hg,a0⟩:=hp k hx
   have hb:=HB.out
   rw [mem_drop hx] at hb
   by_cases he:X[k]=s.data.toList
   ·rw [decide_eq_true he,Bool.true_or] at hb
    have HR:=Lib.hid hb
    rw [show str X[k]=s by rw [he];rfl] at a0
    clear hg he hb HB hx hp
    go_wp2
    go_ret
    exact ⟨by rw [HR.out];rfl,rfl⟩
   ·rw [decide_eq_false he,Bool.false_or] at hb
    have HR:=Lib.hid hb
    obtain ⟨t,ht⟩:∃ t,t=str X[k]:=⟨_,rfl⟩
    have hne:(t.toList==s.toList)=false:=by
     rw [ByteArray.toList_eq,ByteArray.toList_eq,ht,str_list]
     simpa using he
    rw [←ht] at a0
    clear hg he hb HB hx ht
    go_wp2
    go_roundw
    case rel=>exact ⟨k+1,by omega,by go_num,HR.out,by first|trivial|rfl⟩
    case measure=>simp [intOf];omega
  ·obtain rfl:k=n:=by omega
   have HR:Hid (R=false):=by
    show _=_
    rw [HB.out,List.drop_of_length_le (by have:=HN.out;omega)]
    rfl
   clear HB
   go_wp2
   go_ret
   exact ⟨by rw [HR.out];rfl,rfl⟩
theorem bytesE_sz {k:Int} {b:ByteArray} (h:bytesE k b.data.toList=0):b.size≤1048576:=by
 have hw:wordL k≠[]:=fun e=>by rw [bytesE_kind e] at h;cases h
 rcases Nat.lt_or_ge 1048576 b.data.toList.length with h'|h'
 ·rw [bytesE_big hw h'] at h;cases h
 ·rwa [list_len] at h'
theorem lnkL_zero {k:Int} {l:List UInt8} (h:(lnkL k l).1=0):bytesE k l=0:=by
 by_cases h0:bytesE k l=0
 ·exact h0
 ·rw [lnkL_err h0] at h
  exact h
theorem lnkL_nil {k:Int} {l:List UInt8} (h:(lnkL k l).1≠0):(lnkL k l).2=[]:=by
 by_cases h0:bytesE k l=0
 ·rcases bytesE_kinds h0 with rfl|rfl|rfl|rfl
  ·rw [lnkL_1 h0]
  ·rw [lnkL_2 h0] at h ⊢
   have:(parE l).1≠0:=h
   rw [trL,par_err this]
   rfl
  ·rw [lnkL_3 h0] at h ⊢
   have:(parC l).1≠0:=h
   rw [cmL,if_neg this]
   rfl
  ·rw [lnkL_4 h0] at h ⊢
   have:(parG l).1≠0:=h
   rw [tgL,if_neg this]
 ·rw [lnkL_err h0]
set_option maxHeartbeats 4000000 in
set_option maxRecDepth 4000 in
theorem rwhole_any (k:Int) (b:ByteArray) (w:World) (hb:b.size≤140737488355328) :
  Calls Tryz.prog 17 #[.agg #[.int .i64 k,.string b]] w fun e w'=>e=.returned (.int .i64 ((lnkL k b.data.toList).1:Int))∧Below w.heap.size w w':=by
 obtain ⟨E,hE⟩:∃ E,E=bytesE k b.data.toList:=⟨_,rfl⟩
 obtain ⟨S,hS⟩:∃ S,S=str (bytesL k b.data.toList):=⟨_,rfl⟩
 obtain ⟨R,hR⟩:∃ R,R=(lnkL k b.data.toList).1:=⟨_,rfl⟩
 rw [←hR]
 obtain ⟨w1,hw1⟩:∃ w1,w1=w.alloc (.cells #[.int .i64 k,.string b] 29):=⟨_,rfl⟩
 have hx:w1.heap[w.heap.size]?=some (.cells #[.int .i64 k,.string b] 29 (0,0)):=by rw [hw1];exact heap_alloc_new w _
 have hbx:Below w.heap.size w w1:=by rw [hw1];exact below_new (Below.refl _ _) _
 have x0:w1.cell? ⟨w.heap.size,0,none⟩=some (.int .i64 k):=cell_of_row _ _ 0 _ _ _ hx
 have x1:w1.cell? ⟨w.heap.size,1,none⟩=some (.string b):=cell_of_row _ _ 1 _ _ _ hx
 have HBX:=Lib.hid hbx
 have HW1:=Lib.hid hw1
 have HBY:Hid (Calls Tryz.prog 48 #[.agg #[.int .i64 k,.string b]] w1 fun e w''=>e=.returned (.tuple #[.string S,.int .i64 (E:Int)])∧Below w1.heap.size w1 w''):=by
  rw [hS,hE]
  exact rbytes_any k b w1 hb
 have HT2:Hid (b.size≤1048576→∀ w',Calls Tryz.prog 50 #[.string b] w' fun e w''=>(∃ v,e=.returned (.tuple #[v,.int .i64 ((parE b.data.toList).1:Int)]))∧Below w'.heap.size w' w''):=fun hs w'=>(trparse_any b w' hs).mono fun e w'' ⟨⟨v,h1,_⟩,h2⟩=>⟨⟨v,h1⟩,h2⟩
 have HT3:Hid (b.size≤1048576→∀ w',Calls Tryz.prog 51 #[.string b] w' fun e w''=>(∃ v,e=.returned (.tuple #[v,.int .i64 ((parC b.data.toList).1:Int)]))∧Below w'.heap.size w' w''):=fun hs w'=>(rcparse_any b w' hs).mono fun e w'' ⟨⟨p,c,h1,_⟩,h2⟩=>⟨⟨_,h1⟩,h2⟩
 have HT4:Hid (b.size≤1048576→∀ w',Calls Tryz.prog 52 #[.string b] w' fun e w''=>(∃ v,e=.returned (.tuple #[v,.int .i64 ((parG b.data.toList).1:Int)]))∧Below w'.heap.size w' w''):=fun hs w'=>(rgparse_any b w' hs).mono fun e w'' ⟨h1,h2⟩=>⟨⟨_,h1⟩,h2⟩
 have r4:bytesE k b.data.toList=0→k=4→R=(parG b.data.toList).1:=fun h h'=>by subst h';rw [hR,lnkL_4 h];rfl
 have r2:bytesE k b.data.toList=0→k=2→R=(parE b.data.toList).1:=fun h h'=>by subst h';rw [hR,lnkL_2 h];rfl
 have r3:bytesE k b.data.toList=0→k=3→R=(parC b.data.toList).1:=fun h h'=>by subst h';rw [hR,lnkL_3 h];rfl
 have r1:bytesE k b.data.toList=0→¬ k=2→¬ k=3→¬ k=4→R=0:=fun h h2 h3 h4=>by
  rcases bytesE_kinds h with h'|h'|h'|h'
  ·subst h';rw [hR,lnkL_1 h]
  ·exact absurd h' h2
  ·exact absurd h' h3
  ·exact absurd h' h4
 have hbz:bytesE k b.data.toList=0→b.size≤1048576:=bytesE_sz
 have re:bytesE k b.data.toList≠0→R=bytesE k b.data.toList:=fun h=>by rw [hR,lnkL_err h]
 rw [←hE] at r1 r2 r3 r4 re hbz
 obtain ⟨C2,hC2⟩:∃ C,C=(parE b.data.toList).1:=⟨_,rfl⟩
 obtain ⟨C3,hC3⟩:∃ C,C=(parC b.data.toList).1:=⟨_,rfl⟩
 obtain ⟨C4,hC4⟩:∃ C,C=(parG b.data.toList).1:=⟨_,rfl⟩
 rw [←hC2] at HT2 r2
 rw [←hC3] at HT3 r3
 rw [←hC4] at HT4 r4
 clear hE hS hR hw1 hx hbx hC2 hC3 hC4 hb
 by_cases h0:E=0
 case neg =>
  have HQ:=Lib.hid (re h0)
  have g0:((E:Int) != 0)=true:=by simp;omega
  clear r1 r2 r3 r4 re h0 hbz
  go_enter Tryz.func17,Tryz.ntmps17
  go_upto_region 1 with fail
  rw [←HW1.out]
  go_wp2_with (go_at_call 48;((with_reducible refine (HBY.out).mono ?_);rintro e w2 ⟨rfl,hb2⟩))
  go_ret
  exact ⟨by rw [HQ.out];rfl,HBX.out.trans (hb2.mono HBX.out.size)⟩
 have g0:((E:Int) != 0)=false:=by simp [h0]
 have HT2:=Lib.hid (HT2.out (hbz h0))
 have HT3:=Lib.hid (HT3.out (hbz h0))
 have HT4:=Lib.hid (HT4.out (hbz h0))
 have q1:=Lib.hid (r1 h0)
 have q2:=Lib.hid (r2 h0)
 have q3:=Lib.hid (r3 h0)
 have q4:=Lib.hid (r4 h0)
 have HE0:Hid ((0:Nat)=E):=h0.symm
 clear r1 r2 r3 r4 re h0 hbz
 by_cases k2:k=2
 ·have HQ:=Lib.hid (q2.out k2)
  have g2:(k==2)=true:=by simp [k2]
  clear q1 q2 q3 q4 k2
  go_enter Tryz.func17,Tryz.ntmps17
  go_upto_region 1 with fail
  rw [←HW1.out]
  go_wp2_with (first
   | (go_at_call 48;((with_reducible refine (HBY.out).mono ?_);rintro e w2 ⟨rfl,hb2⟩;have y0:=cell_bel x0 hb2;have y1:=cell_bel x1 hb2))
   | (go_at_call 50;((with_reducible refine (HT2.out _).mono ?_);rintro e w3 ⟨⟨v,rfl⟩,hb3⟩)))
  go_ret
  exact ⟨by rw [HQ.out];rfl,HBX.out.trans ((hb2.trans (hb3.mono hb2.size)).mono HBX.out.size)⟩
 have g2:(k==2)=false:=by simp [k2]
 by_cases k3:k=3
 ·have HQ:=Lib.hid (q3.out k3)
  have g3:(k==3)=true:=by simp [k3]
  clear q1 q2 q3 q4 k2 k3
  go_enter Tryz.func17,Tryz.ntmps17
  go_upto_region 1 with fail
  rw [←HW1.out]
  go_wp2_with (first
   | (go_at_call 48;((with_reducible refine (HBY.out).mono ?_);rintro e w2 ⟨rfl,hb2⟩;have y0:=cell_bel x0 hb2;have y1:=cell_bel x1 hb2))
   | (go_at_call 51;((with_reducible refine (HT3.out _).mono ?_);rintro e w3 ⟨⟨v,rfl⟩,hb3⟩)))
  go_ret
  exact ⟨by rw [HQ.out];rfl,HBX.out.trans ((hb2.trans (hb3.mono hb2.size)).mono HBX.out.size)⟩
 have g3:(k==3)=false:=by simp [k3]
 by_cases k4:k=4
 ·have HQ:=Lib.hid (q4.out k4)
  have g4:(k==4)=true:=by simp [k4]
  clear q1 q2 q3 q4 k2 k3 k4
  go_enter Tryz.func17,Tryz.ntmps17
  go_upto_region 1 with fail
  rw [←HW1.out]
  go_wp2_with (first
   | (go_at_call 48;((with_reducible refine (HBY.out).mono ?_);rintro e w2 ⟨rfl,hb2⟩;have y0:=cell_bel x0 hb2;have y1:=cell_bel x1 hb2))
   | (go_at_call 52;((with_reducible refine (HT4.out _).mono ?_);rintro e w3 ⟨⟨v,rfl⟩,hb3⟩)))
  go_ret
  exact ⟨by rw [HQ.out];rfl,HBX.out.trans ((hb2.trans (hb3.mono hb2.size)).mono HBX.out.size)⟩
 have g4:(k==4)=false:=by simp [k4]
 have HQ:Hid (R=E):=by show _=_;rw [q1.out k2 k3 k4];exact HE0.out
 clear q1 q2 q3 q4 k2 k3 k4
 go_enter Tryz.func17,Tryz.ntmps17
 go_upto_region 1 with fail
 rw [←HW1.out]
 go_wp2_with (go_at_call 48;((with_reducible refine (HBY.out).mono ?_);rintro e w2 ⟨rfl,hb2⟩;have y0:=cell_bel x0 hb2;have y1:=cell_bel x1 hb2))
 go_ret
 exact ⟨by rw [HQ.out];rfl,HBX.out.trans (hb2.mono HBX.out.size)⟩
set_option maxHeartbeats 8000000 in
set_option maxRecDepth 8000 in
theorem rlinks_any (k:Int) (b:ByteArray) (w:World) (hb:b.size≤140737488355328) :
  Calls Tryz.prog 68 #[.agg #[.int .i64 k,.string b]] w (LnkR (lnkL k b.data.toList) w):=by
 have fW:=fun w'=>rwhole_any k b w' hb
 have fT2:=fun (h:b.size≤1048576) w'=>trparse_any b w' h
 have fT3:=fun (h:b.size≤1048576) w'=>rcparse_any b w' h
 have fT4:=fun (h:b.size≤1048576) w'=>rgparse_any b w' h
 have hz:=@lnkL_zero k b.data.toList
 have hnil:=@lnkL_nil k b.data.toList
 have h2len:=parE_len b.data.toList
 have h3len:=@parC_len b.data.toList
 obtain ⟨⟨K,LL⟩,hR⟩:∃ q,q=lnkL k b.data.toList:=⟨_,rfl⟩
 rw [←hR] at fW hz hnil ⊢
 simp only at fW hz hnil
 obtain ⟨w1,hw1⟩:∃ w1,w1=w.alloc (.cells #[.int .i64 k,.string b] 29):=⟨_,rfl⟩
 have hx:w1.heap[w.heap.size]?=some (.cells #[.int .i64 k,.string b] 29 (0,0)):=by rw [hw1];exact heap_alloc_new w _
 have hbx:Below w.heap.size w w1:=by rw [hw1];exact below_new (Below.refl _ _) _
 have x0:w1.cell? ⟨w.heap.size,0,none⟩=some (.int .i64 k):=cell_of_row _ _ 0 _ _ _ hx
 have x1:w1.cell? ⟨w.heap.size,1,none⟩=some (.string b):=cell_of_row _ _ 1 _ _ _ hx
 have HBX:=Lib.hid hbx
 have HW1:=Lib.hid hw1
 have HWH:=Lib.hid (fW w1)
 clear fW hw1 hx hbx hb
 by_cases h0:K=0
 case neg =>
  have HQ:Hid (LL=[]):=hnil h0
  have g0:((K:Int) != 0)=true:=by simp;omega
  clear fT2 fT3 fT4 hz hnil h0 h2len h3len hR
  go_enter Tryz.func68,Tryz.ntmps68
  go_upto_region 1 with fail
  rw [←HW1.out]
  go_wp2_with (go_at_call 17;((with_reducible refine (HWH.out).mono ?_);rintro e w2 ⟨rfl,hb2⟩))
  go_ret2
  rw [HQ.out]
  exact ⟨⟨_,rfl,SOw.nil _ _⟩,HBX.out.trans (hb2.mono HBX.out.size)⟩
 have g0:((K:Int) != 0)=false:=by simp [h0]
 have hE0:=hz h0
 have hbz:b.size≤1048576:=bytesE_sz hE0
 have HR:=Lib.hid hR
 have HKK:=Lib.hid h0
 clear hz hnil h0 hR
 go_enter Tryz.func68,Tryz.ntmps68
 go_upto_region 1 with fail
 rw [←HW1.out]
 go_upto_region 4 with (go_at_call 17;((with_reducible refine (HWH.out).mono ?_);rintro e w2 ⟨rfl,hb2⟩;have y0:=cell_bel x0 hb2;have y1:=cell_bel x1 hb2))
 have HB2:=Lib.hid (HBX.out.trans (hb2.mono HBX.out.size))
 clear x0 x1 HWH hb2 HBX HW1
 by_cases k2:k=2
 ·subst k2
  have hL:=lnkL_2 hE0
  rw [←HR.out] at hL
  have h3:=fT2 hbz w2
  obtain ⟨⟨C,es⟩,hes⟩:∃ q,q=parE b.data.toList:=⟨_,rfl⟩
  rw [trL,←hes] at hL
  rw [←hes] at h3 h2len
  simp only at hL h2len
  obtain ⟨ALL,hA⟩:∃ A,A=tids es:=⟨_,rfl⟩
  have HQ:Hid (LL=disL ALL):=by show _=_;rw [hA];exact (Prod.mk.inj hL).2
  have hALL:ALL.length≤1100:=by rw [hA,tids,List.length_map];omega
  have HTP:=Lib.hid h3
  have HAA:=Lib.hid hA
  clear h3 hL hes hA fT2 fT3 fT4 h3len hE0 HR
  go_upto_region 8 with (go_at_call 50;((with_reducible refine (HTP.out).mono ?_);rintro e w3 ⟨⟨v,rfl,p,c,rfl,hcap,hrow⟩,hb3⟩))
  obtain ⟨n,hn⟩:∃ n,n=es.length:=⟨_,rfl⟩
  rw [←hn] at h2len ⊢
  have HN:=Lib.hid hn
  have HP:=Lib.hid hrow
  have HB3:=Lib.hid (HB2.out.trans (hb3.mono HB2.out.size))
  clear hn hrow hb3 hcap HTP y0 y1
  go_wp2_with fail
  go_loopw [5,8] (fun ov iv wr=>∃ (k:Nat) (os:List (List UInt8)),k≤n∧iv=.int .i64 (k:Int)∧SOw wr w3.heap.size ov os∧os.length=k∧Hid (os=tids (es.take k))∧Hid (Below w3.heap.size w3 wr)) (fun _ iv _=>n-(intOf iv).toNat)
  case atStart=>exact ⟨0,[],by omega,rfl,SOw.nil _ _,rfl,rfl,Below.refl _ _⟩
  case round =>
   obtain ⟨k,os,hk,rfl,ho,hol,HO,HB⟩:=hrel
   by_cases hlt:k<n
   ·have hkl:k<es.length:=by rw [←HN.out];exact hlt
    obtain ⟨e,he⟩:∃ e,e=es[k]:=⟨_,rfl⟩
    obtain ⟨g,o,rfl,hg,a0,a1,a2⟩:=HP.out.below HB.out k hkl
    rw [←he] at a0 a1 a2
    have HO2:Hid (os++[e.i.data.toList]=tids (es.take (k+1))):=by show _=_;rw [tids_take hkl,←he,HO.out]
    obtain ⟨m',n',i'⟩:=e
    simp only at a0 a1 a2 HO2
    have hbs:=HB.out.size
    clear he hkl hg
    go_wp2_with (at_builtin;refine wp_so_one rfl _ _ rfl rfl ho i' rfl (by omega) hbs ?_;intro v4 w4 ho4 hg4;have hb4:=ho.bel1 HB.out (Nat.le_refl _) hbs hg4)
    go_roundw
    case rel=>exact ⟨k+1,_,by omega,by go_num,ho4,by simp [hol],HO2.out,hb4⟩
    case measure=>simp [intOf];omega
   ·obtain rfl:k=n:=by omega
    obtain ⟨pv0,cv0,rfl,-⟩:=ho.rw
    obtain ⟨v,hvv⟩:∃ v,v=Value.slice pv0 os.length cv0:=⟨_,rfl⟩
    rw [←hvv] at ho ⊢
    obtain ⟨wt,hwt⟩:∃ wt,wt=wr:=⟨_,rfl⟩
    have HV:Hid (SOw wt w3.heap.size v ALL):=by
     show SOw _ _ _ _
     rw [HAA.out,hwt,show tids es=os by rw [HO.out,List.take_of_length_le (by have:=HN.out;omega)]]
     exact ho
    have HT:Hid (Below w.heap.size w wt):=by rw [hwt];exact HB3.out.trans (HB.out.mono HB3.out.size)
    rw [←hwt]
    clear hwt ho HO HB HP HN hol hlt hk h2len hvv
    obtain ⟨pv,cv,rfl,hrow⟩:=HV.out.rw
    obtain ⟨n,hn⟩:∃ n,n=ALL.length:=⟨_,rfl⟩
    rw [←hn] at hALL ⊢
    have HN:=Lib.hid hn
    have HP:=Lib.hid hrow
    have hBw:=HT.out.size
    clear hn hrow HV
    go_wp2_with fail
    go_loopw [13,14] (fun ov iv wx=>∃ (j:Nat) (os:List (List UInt8)),j≤n∧iv=.int .i64 (j:Int)∧SOw wx wt.heap.size ov os∧os.length≤j∧Hid (os=disL (ALL.take j))∧Hid (Below wt.heap.size wt wx)) (fun _ iv _=>n-(intOf iv).toNat)
    case atStart=>exact ⟨0,[],by omega,rfl,SOw.nil _ _,by simp,by show _=_;rfl,Below.refl _ _⟩
    case round =>
     obtain ⟨j,os,hj,rfl,ho,hol,HO,HB⟩:=hrel
     by_cases hlt:j<n
     ·have hjl:j<ALL.length:=by rw [←HN.out];exact hlt
      obtain ⟨y,hy⟩:∃ y,y=str ALL[j]:=⟨_,rfl⟩
      have hyl:ALL[j]=y.data.toList:=by rw [hy];rfl
      have htk:=disL_take hjl
      rw [←HO.out] at htk
      have hmem:ALL[j]∈ALL.take j↔y.data.toList∈os:=by rw [HO.out,disL_mem,hyl]
      obtain ⟨g,o,rfl,hg,a0⟩:=HP.out.below HB.out j hjl
      rw [←hy] at a0
      obtain ⟨q,cq,rfl,hq⟩:=ho.rw
      obtain ⟨m,hm⟩:∃ m,m=os.length:=⟨_,rfl⟩
      have HH:=rhas_any os y q cq m wr hm hq (by omega)
      rw [←hm] at ho hol ⊢
      have HM:=Lib.hid hm
      by_cases hin:y.data.toList∈os
      ·rw [decide_eq_true hin] at HH
       have HHH:=Lib.hid HH
       have HO2:Hid (os=disL (ALL.take (j+1))):=by show _=_;rw [htk,if_pos (hmem.mpr hin)]
       have HOS:=Lib.hid ho
       clear hy hyl htk hmem hm HH hin hjl hg hq ho HO
       go_wp2_with (go_at_call 99;((with_reducible refine (HHH.out).mono ?_);rintro e w3 ⟨rfl,rfl⟩))
       go_roundw
       case rel=>exact ⟨j+1,os,by omega,by go_num,HOS.out,by have:=HM.out;omega,HO2.out,HB.out⟩
       case measure=>simp [intOf];omega
      ·rw [decide_eq_false hin] at HH
       have HHH:=Lib.hid HH
       have HO2:Hid (os++[y.data.toList]=disL (ALL.take (j+1))):=by show _=_;rw [htk,if_neg (fun h=>hin (hmem.mp h)),hyl]
       have hbs:=HB.out.size
       have hom:os.length≤1100:=by omega
       clear hy hyl htk hmem hm HH hin hjl hg hq HO
       go_wp2_with (first
        | (go_at_call 99;((with_reducible refine (HHH.out).mono ?_);rintro e w3 ⟨rfl,rfl⟩))
        | (at_builtin;refine wp_so_one rfl _ _ rfl rfl ho y rfl (by omega) hbs ?_;intro v4 w4 ho4 hg4;have hb4:=ho.bel1 HB.out (Nat.le_refl _) hbs hg4))
       go_roundw
       case rel=>exact ⟨j+1,_,by omega,by go_num,ho4,by have:=HM.out;simp;omega,HO2.out,hb4⟩
       case measure=>simp [intOf];omega
     ·obtain rfl:j=n:=by omega
      have HX:Hid (os=disL ALL):=by
       show _=_
       rw [HO.out,List.take_of_length_le (by have:=HN.out;omega)]
      have HOO:=Lib.hid ho
      clear ho
      go_wp2_with fail
      go_ret2
      rw [HQ.out]
      refine ⟨⟨_,by show _=Ending.returned (.tuple #[_,.int .i64 ((K:Nat):Int)]);rw [HKK.out];rfl,?_⟩,HT.out.trans (HB.out.mono HT.out.size)⟩
      show SOw _ _ _ (disL ALL)
      rw [←HX.out]
      exact HOO.out.mono hBw
 have g2:(k==2)=false:=by simp [k2]
 by_cases k3:k=3
 ·subst k3
  have hL:=lnkL_3 hE0
  rw [←HR.out] at hL
  have h3:=fT3 hbz w2
  obtain ⟨⟨C,⟨t,ps,⟨an,am,aT,az⟩,⟨cn,cm,cT,cz⟩,x⟩⟩,hes⟩:∃ q,q=parC b.data.toList:=⟨_,rfl⟩
  rw [cmL,←hes] at hL
  rw [←hes] at h3 h3len
  simp only at hL h3len
  have hC0:C=0:=by rw [←(Prod.mk.inj hL).1];exact HKK.out
  rw [if_pos hC0] at hL
  have hpl:=h3len hC0
  obtain ⟨ALL,hA⟩:∃ A,A=t.data.toList::ps:=⟨_,rfl⟩
  have HQ:Hid (LL=disL ALL):=by show _=_;rw [hA];exact (Prod.mk.inj hL).2
  have hALL:ALL.length≤1100:=by rw [hA,List.length_cons];omega
  have HTP:=Lib.hid h3
  have HAA:=Lib.hid hA
  clear h3 hL hes hA fT2 fT3 fT4 h2len h3len hE0 HR hC0 k2
  go_upto_region 14 with (go_at_call 51;((with_reducible refine (HTP.out).mono ?_);rintro e w3 ⟨⟨p,cap,rfl,hrow⟩,hb3⟩;simp only at hrow))
  obtain ⟨n,hn⟩:∃ n,n=ps.length:=⟨_,rfl⟩
  rw [←hn] at hpl ⊢
  obtain ⟨P,hP⟩:∃ P,P=w3.heap.size:=⟨_,rfl⟩
  obtain ⟨w4,hw4⟩:∃ w4,w4=w3.alloc (.cells #[.string t,.slice p n cap,.string an,.string am,.int .i64 aT,.int .i64 az,.string cn,.string cm,.int .i64 cT,.int .i64 cz,.string x] 64):=⟨_,rfl⟩
  have hp4:w4.heap[P]?=some (.cells #[.string t,.slice p n cap,.string an,.string am,.int .i64 aT,.int .i64 az,.string cn,.string cm,.int .i64 cT,.int .i64 cz,.string x] 64 (0,0)):=by rw [hw4,hP];exact heap_alloc_new _ _
  have ha4:Below w3.heap.size w3 w4:=by rw [hw4];exact below_new (Below.refl _ _) _
  have hr4:=hrow.below ha4
  have hb4:=HB2.out.trans ((hb3.trans (ha4.mono hb3.size)).mono HB2.out.size)
  have hbase:w4.heap.size≤w4.heap.size:=Nat.le_refl _
  have hbase2:=hb4.size
  have ho0:SOw w4 w4.heap.size (.slice none 0 0) []:=SOw.nil _ _
  rw [←hw4,←hP]
  obtain ⟨u0,u1,u2,u3,u4,u5,u6,u7,u8,u9,u10⟩:=cm_at hp4
  have HP4:=Lib.hid hp4
  have HR4:=Lib.hid hr4
  have HB4:=Lib.hid hb4
  have HN:=Lib.hid hn
  clear hw4 hP hp4 hrow hb3 ha4 hr4 hn HTP HB2 y0 y1 hb4
  go_upto_region 15 with (at_builtin;refine wp_so_one rfl _ _ rfl rfl ho0 t rfl (by simp) hbase ?_;intro v5 w5 ho5 hg5;have hb5:=ho0.bel1 (Below.refl _ _) hbase hbase hg5)
  have HR5:=Lib.hid (HR4.out.below hb5)
  have hbase5:=hb5.size
  clear u0 u1 u2 u3 u4 u5 u6 u7 u8 u9 u10
  obtain ⟨u0,u1,u2,u3,u4,u5,u6,u7,u8,u9,u10⟩:=cm_at ((hb5.block _ (row_lt HP4.out)).trans HP4.out)
  go_upto_region 16 with (at_builtin;refine wp_so_many rfl _ _ rfl rfl ho5 p n cap rfl HN.out HR5.out (by simp;omega) hbase5 ?_;intro v6 w6 ho6 hg6;have hb6:=hb5.grown hg6 hbase5 (fun k hk=>(World.ownsRow.lt ho5 k hk).1))
  obtain ⟨wt,hwt⟩:∃ wt,wt=w6:=⟨_,rfl⟩
  have HV:Hid (SOw wt w4.heap.size v6 ALL):=by
   show SOw _ _ _ _
   rw [HAA.out,hwt]
   exact ho6
  have HT:Hid (Below w.heap.size w wt):=by rw [hwt];exact HB4.out.trans (hb6.mono HB4.out.size)
  rw [←hwt]
  clear hwt ho6 ho5 ho0 hg5 hg6 hb5 hb6 HR5 HP4 HR4 HB4 u0 u1 u2 u3 u4 u5 u6 u7 u8 u9 u10 HN hbase hbase2 hbase5 hpl
  obtain ⟨pv,cv,rfl,hrow⟩:=HV.out.rw
  obtain ⟨n,hn⟩:∃ n,n=ALL.length:=⟨_,rfl⟩
  rw [←hn] at hALL ⊢
  have HN:=Lib.hid hn
  have HP:=Lib.hid hrow
  have hBw:=HT.out.size
  clear hn hrow HV
  go_wp2_with fail
  go_loopw [13,14] (fun ov iv wx=>∃ (j:Nat) (os:List (List UInt8)),j≤n∧iv=.int .i64 (j:Int)∧SOw wx wt.heap.size ov os∧os.length≤j∧Hid (os=disL (ALL.take j))∧Hid (Below wt.heap.size wt wx)) (fun _ iv _=>n-(intOf iv).toNat)
  case atStart=>exact ⟨0,[],by omega,rfl,SOw.nil _ _,by simp,by show _=_;rfl,Below.refl _ _⟩
  case round =>
   obtain ⟨j,os,hj,rfl,ho,hol,HO,HB⟩:=hrel
   by_cases hlt:j<n
   ·have hjl:j<ALL.length:=by rw [←HN.out];exact hlt
    obtain ⟨y,hy⟩:∃ y,y=str ALL[j]:=⟨_,rfl⟩
    have hyl:ALL[j]=y.data.toList:=by rw [hy];rfl
    have htk:=disL_take hjl
    rw [←HO.out] at htk
    have hmem:ALL[j]∈ALL.take j↔y.data.toList∈os:=by rw [HO.out,disL_mem,hyl]
    obtain ⟨g,o,rfl,hg,a0⟩:=HP.out.below HB.out j hjl
    rw [←hy] at a0
    obtain ⟨q,cq,rfl,hq⟩:=ho.rw
    obtain ⟨m,hm⟩:∃ m,m=os.length:=⟨_,rfl⟩
    have HH:=rhas_any os y q cq m wr hm hq (by omega)
    rw [←hm] at ho hol ⊢
    have HM:=Lib.hid hm
    by_cases hin:y.data.toList∈os
    ·rw [decide_eq_true hin] at HH
     have HHH:=Lib.hid HH
     have HO2:Hid (os=disL (ALL.take (j+1))):=by show _=_;rw [htk,if_pos (hmem.mpr hin)]
     have HOS:=Lib.hid ho
     clear hy hyl htk hmem hm HH hin hjl hg hq ho HO
     go_wp2_with (go_at_call 99;((with_reducible refine (HHH.out).mono ?_);rintro e w3 ⟨rfl,rfl⟩))
     go_roundw
     case rel=>exact ⟨j+1,os,by omega,by go_num,HOS.out,by have:=HM.out;omega,HO2.out,HB.out⟩
     case measure=>simp [intOf];omega
    ·rw [decide_eq_false hin] at HH
     have HHH:=Lib.hid HH
     have HO2:Hid (os++[y.data.toList]=disL (ALL.take (j+1))):=by show _=_;rw [htk,if_neg (fun h=>hin (hmem.mp h)),hyl]
     have hbs:=HB.out.size
     have hom:os.length≤1100:=by omega
     clear hy hyl htk hmem hm HH hin hjl hg hq HO
     go_wp2_with (first
      | (go_at_call 99;((with_reducible refine (HHH.out).mono ?_);rintro e w3 ⟨rfl,rfl⟩))
      | (at_builtin;refine wp_so_one rfl _ _ rfl rfl ho y rfl (by omega) hbs ?_;intro v4 w4 ho4 hg4;have hb4:=ho.bel1 HB.out (Nat.le_refl _) hbs hg4))
     go_roundw
     case rel=>exact ⟨j+1,_,by omega,by go_num,ho4,by have:=HM.out;simp;omega,HO2.out,hb4⟩
     case measure=>simp [intOf];omega
   ·obtain rfl:j=n:=by omega
    have HX:Hid (os=disL ALL):=by
     show _=_
     rw [HO.out,List.take_of_length_le (by have:=HN.out;omega)]
    have HOO:=Lib.hid ho
    clear ho
    go_wp2_with fail
    go_ret2
    rw [HQ.out]
    refine ⟨⟨_,by show _=Ending.returned (.tuple #[_,.int .i64 ((K:Nat):Int)]);rw [HKK.out];rfl,?_⟩,HT.out.trans (HB.out.mono HT.out.size)⟩
    show SOw _ _ _ (disL ALL)
    rw [←HX.out]
    exact HOO.out.mono hBw
 have g3:(k==3)=false:=by simp [k3]
 by_cases k4:k=4
 ·subst k4
  have hL:=lnkL_4 hE0
  rw [←HR.out] at hL
  have h3:=fT4 hbz w2
  obtain ⟨⟨C,⟨o,kk,nn,⟨an,am,aT,az⟩,x⟩⟩,hes⟩:∃ q,q=parG b.data.toList:=⟨_,rfl⟩
  rw [tgL,←hes] at hL
  rw [←hes] at h3
  simp only at hL
  have hC0:C=0:=by rw [←(Prod.mk.inj hL).1];exact HKK.out
  rw [if_pos hC0] at hL
  obtain ⟨ALL,hA⟩:∃ A,A=[o.data.toList]:=⟨_,rfl⟩
  have HQ:Hid (LL=disL ALL):=by show _=_;rw [hA];exact (Prod.mk.inj hL).2
  have hALL:ALL.length≤1100:=by rw [hA];simp
  have HTP:=Lib.hid h3
  have HAA:=Lib.hid hA
  clear h3 hL hes hA fT2 fT3 fT4 h2len h3len hE0 HR hC0 k2 k3
  go_upto_region 18 with (go_at_call 52;((with_reducible refine (HTP.out).mono ?_);rintro e w3 ⟨rfl,hb3⟩))
  obtain ⟨P,hP⟩:∃ P,P=w3.heap.size:=⟨_,rfl⟩
  obtain ⟨w4,hw4⟩:∃ w4,w4=w3.alloc (.cells #[.string o,.int .i64 kk,.string nn,.string an,.string am,.int .i64 aT,.int .i64 az,.string x] 80):=⟨_,rfl⟩
  have hp4:w4.heap[P]?=some (.cells #[.string o,.int .i64 kk,.string nn,.string an,.string am,.int .i64 aT,.int .i64 az,.string x] 80 (0,0)):=by rw [hw4,hP];exact heap_alloc_new _ _
  have ha4:Below w3.heap.size w3 w4:=by rw [hw4];exact below_new (Below.refl _ _) _
  have hb4:=HB2.out.trans ((hb3.trans (ha4.mono hb3.size)).mono HB2.out.size)
  have hbase:w4.heap.size≤w4.heap.size:=Nat.le_refl _
  have ho0:SOw w4 w4.heap.size (.slice none 0 0) []:=SOw.nil _ _
  rw [←hw4,←hP]
  obtain ⟨u0,u1,u2,u3,u4,u5,u6,u7⟩:=tg_at hp4
  have HB4:=Lib.hid hb4
  clear hw4 hP hp4 hb3 ha4 HTP HB2 y0 y1 hb4
  go_upto_region 19 with (at_builtin;refine wp_so_one rfl _ _ rfl rfl ho0 o rfl (by simp) hbase ?_;intro v5 w5 ho5 hg5;have hb5:=ho0.bel1 (Below.refl _ _) hbase hbase hg5)
  obtain ⟨wt,hwt⟩:∃ wt,wt=w5:=⟨_,rfl⟩
  have HV:Hid (SOw wt w4.heap.size v5 ALL):=by
   show SOw _ _ _ _
   rw [HAA.out,hwt]
   exact ho5
  have HT:Hid (Below w.heap.size w wt):=by rw [hwt];exact HB4.out.trans (hb5.mono HB4.out.size)
  rw [←hwt]
  clear hwt ho5 ho0 hg5 hb5 HB4 u0 u1 u2 u3 u4 u5 u6 u7 hbase
  obtain ⟨pv,cv,rfl,hrow⟩:=HV.out.rw
  obtain ⟨n,hn⟩:∃ n,n=ALL.length:=⟨_,rfl⟩
  rw [←hn] at hALL ⊢
  have HN:=Lib.hid hn
  have HP:=Lib.hid hrow
  have hBw:=HT.out.size
  clear hn hrow HV
  go_wp2_with fail
  go_loopw [13,14] (fun ov iv wx=>∃ (j:Nat) (os:List (List UInt8)),j≤n∧iv=.int .i64 (j:Int)∧SOw wx wt.heap.size ov os∧os.length≤j∧Hid (os=disL (ALL.take j))∧Hid (Below wt.heap.size wt wx)) (fun _ iv _=>n-(intOf iv).toNat)
  case atStart=>exact ⟨0,[],by omega,rfl,SOw.nil _ _,by simp,by show _=_;rfl,Below.refl _ _⟩
  case round =>
   obtain ⟨j,os,hj,rfl,ho,hol,HO,HB⟩:=hrel
   by_cases hlt:j<n
   ·have hjl:j<ALL.length:=by rw [←HN.out];exact hlt
    obtain ⟨y,hy⟩:∃ y,y=str ALL[j]:=⟨_,rfl⟩
    have hyl:ALL[j]=y.data.toList:=by rw [hy];rfl
    have htk:=disL_take hjl
    rw [←HO.out] at htk
    have hmem:ALL[j]∈ALL.take j↔y.data.toList∈os:=by rw [HO.out,disL_mem,hyl]
    obtain ⟨g,o,rfl,hg,a0⟩:=HP.out.below HB.out j hjl
    rw [←hy] at a0
    obtain ⟨q,cq,rfl,hq⟩:=ho.rw
    obtain ⟨m,hm⟩:∃ m,m=os.length:=⟨_,rfl⟩
    have HH:=rhas_any os y q cq m wr hm hq (by omega)
    rw [←hm] at ho hol ⊢
    have HM:=Lib.hid hm
    by_cases hin:y.data.toList∈os
    ·rw [decide_eq_true hin] at HH
     have HHH:=Lib.hid HH
     have HO2:Hid (os=disL (ALL.take (j+1))):=by show _=_;rw [htk,if_pos (hmem.mpr hin)]
     have HOS:=Lib.hid ho
     clear hy hyl htk hmem hm HH hin hjl hg hq ho HO
     go_wp2_with (go_at_call 99;((with_reducible refine (HHH.out).mono ?_);rintro e w3 ⟨rfl,rfl⟩))
     go_roundw
     case rel=>exact ⟨j+1,os,by omega,by go_num,HOS.out,by have:=HM.out;omega,HO2.out,HB.out⟩
     case measure=>simp [intOf];omega
    ·rw [decide_eq_false hin] at HH
     have HHH:=Lib.hid HH
     have HO2:Hid (os++[y.data.toList]=disL (ALL.take (j+1))):=by show _=_;rw [htk,if_neg (fun h=>hin (hmem.mp h)),hyl]
     have hbs:=HB.out.size
     have hom:os.length≤1100:=by omega
     clear hy hyl htk hmem hm HH hin hjl hg hq HO
     go_wp2_with (first
      | (go_at_call 99;((with_reducible refine (HHH.out).mono ?_);rintro e w3 ⟨rfl,rfl⟩))
      | (at_builtin;refine wp_so_one rfl _ _ rfl rfl ho y rfl (by omega) hbs ?_;intro v4 w4 ho4 hg4;have hb4:=ho.bel1 HB.out (Nat.le_refl _) hbs hg4))
     go_roundw
     case rel=>exact ⟨j+1,_,by omega,by go_num,ho4,by have:=HM.out;simp;omega,HO2.out,hb4⟩
     case measure=>simp [intOf];omega
   ·obtain rfl:j=n:=by omega
    have HX:Hid (os=disL ALL):=by
     show _=_
     rw [HO.out,List.take_of_length_le (by have:=HN.out;omega)]
    have HOO:=Lib.hid ho
    clear ho
    go_wp2_with fail
    go_ret2
    rw [HQ.out]
    refine ⟨⟨_,by show _=Ending.returned (.tuple #[_,.int .i64 ((K:Nat):Int)]);rw [HKK.out];rfl,?_⟩,HT.out.trans (HB.out.mono HT.out.size)⟩
    show SOw _ _ _ (disL ALL)
    rw [←HX.out]
    exact HOO.out.mono hBw
 have g4:(k==4)=false:=by simp [k4]
 have HQ:Hid (LL=[]):=by
  have hk:=bytesE_kinds hE0
  have h1:k=1:=by omega
  subst h1
  have hL:=lnkL_1 hE0
  rw [←HR.out] at hL
  exact (Prod.mk.inj hL).2
 clear fT2 fT3 fT4 h2len h3len hE0 HR k2 k3 k4
 go_wp2_with fail
 go_loopw [13,14] (fun ov iv wx=>ov=.slice none 0 0∧iv=.int .i64 0∧w2=wx) (fun _ _ _=>0)
 case atStart=>exact ⟨rfl,rfl,rfl⟩
 case round =>
  obtain ⟨rfl,rfl,rfl⟩:=hrel
  go_wp2_with fail
  go_ret2
  rw [HQ.out]
  exact ⟨⟨_,by show _=Ending.returned (.tuple #[_,.int .i64 ((K:Nat):Int)]);rw [HKK.out];rfl,SOw.nil _ _⟩,HB2.out⟩
end Go.Proofs.YtnoopcenogbjiaaGreatDoor
