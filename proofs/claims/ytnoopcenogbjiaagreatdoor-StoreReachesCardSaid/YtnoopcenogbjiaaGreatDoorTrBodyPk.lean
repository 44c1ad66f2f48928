/-
 The walks of Body, of the reference's digits and Body.
-/
import Derived.Test.YtnoopcenogbjiaaGreatDoorTrValidPk
import Derived.Test.YtnoopcenogbjiaaGreatDoorOwBPk
import Derived.Test.YtnoopcenogbjiaaGreatDoorIdRaw
set_option linter.unusedVariables false
set_option linter.unusedSimpArgs false
namespace Go.Proofs.YtnoopcenogbjiaaGreatDoor
open Go.RowKit
theorem wordM_le (m:Int):(wordM m).length≤7:=by
 unfold wordM
 repeat' split
 all_goals decide
theorem okEn_size {e:En} (h:okEn e=true):e.n.size≤255∧isId e.i=true∧∃ q:Nat,e.m=(q:Int)∧1≤q∧q≤4:=by
 simp only [okEn,isP,Bool.and_eq_true,decide_eq_true_eq] at h
 exact ⟨h.2.2.1.1,h.2.2.2.2,e.m.toNat,by omega,by omega,by omega⟩
theorem chkT_all {l:List En} (h:chkT l=0):l.length≤1024∧∀ e∈l,okEn e=true:=by
 obtain ⟨h1,h2⟩:=chkT_ok.1 h
 refine ⟨h1,fun e he=>?_⟩
 obtain ⟨k,hk,rfl⟩:=List.mem_iff_getElem.mp he
 have:=(badT_ok (h2 k hk)).1
 rwa [getD_en hk] at this
theorem bodyT_ok {l:List En} (h:chkT l=0):bodyT l=encT l:=if_pos h
theorem TrTab.word {w:World} (h:TrTab w) {q:Nat} (h1:1≤q) (h2:q≤4):w.cell? ⟨3,q,none⟩=some (.string (str (wordM q))):=by
 have:q=1∨q=2∨q=3∨q=4:=by omega
 rcases this with rfl|rfl|rfl|rfl
 ·exact h.c1
 ·exact h.c2
 ·exact h.c3
 ·exact h.c4
set_option maxHeartbeats 1000000 in
theorem rdigitsT_any (q:Nat) (w:World) (h1:1≤q) (h2:q≤4) :
  Calls Tryz.prog 116 #[.int .i64 (q:Int)] w fun e w'=>e=.returned (.string (str (wordM q)))∧w'=w:=by
 have:q=1∨q=2∨q=3∨q=4:=by omega
 rcases this with rfl|rfl|rfl|rfl
 all_goals go_enter Tryz.func116,Tryz.ntmps116
 all_goals go_wp2
 all_goals go_ret
 all_goals exact ⟨rfl,rfl⟩
theorem pre_lenT {s p:List UInt8} (h:Lib.hasPrefix s p=true):p.length≤s.length:=by
 rw [←Lib.hasPrefix_of_take] at h
 simp only [Bool.and_eq_true,decide_eq_true_eq] at h
 exact h.1
theorem pre_takeT (s p:ByteArray) (h:p.size≤s.size):((s.extract 0 p.size).toList==p.toList)=Lib.hasPrefix s.data.toList p.data.toList:=by
 rw [←Lib.hasPrefix_of_take,Lib.extract_toList,Lib.toList_data,list_len,list_len]
 simp [h]
set_option maxHeartbeats 1000000 in
theorem beginsT_any (s p:ByteArray) (b:Bool) (w:World) (hs:s.size≤140737488355328) (hp:p.size≤140737488355328) (h:Lib.hasPrefix s.data.toList p.data.toList=b) :
  Calls Tryz.prog 136 #[.string s,.string p] w fun e w'=>e=.returned (.bool b)∧w'=w:=by
 by_cases hlt:p.size≤s.size
 ·have he:=pre_takeT s p hlt
  rw [h] at he
  have HE:Hid (((s.extract 0 p.size).toList==p.toList)=b):=he
  clear h he
  go_enter Tryz.func136,Tryz.ntmps136
  go_wp2
  go_ret
  exact ⟨ret_bool HE.out,rfl⟩
 ·have HB:Hid (b=false):=by
   show _=_
   cases b
   ·rfl
   ·have:=pre_lenT h;rw [list_len,list_len] at this;omega
  clear h
  go_enter Tryz.func136,Tryz.ntmps136
  go_wp2
  go_ret
  exact ⟨ret_bool HB.out.symm,rfl⟩
theorem errTo_hit {l:List UInt8} {q:Nat} (h1:1≤q) (h:Lib.hasPrefix (wordM q) l=true):∀ j,q<j→errTo l j=3
 | 0,hj=>absurd hj (Nat.not_lt_zero _)
 | j+1,hj=>by
  rw [errTo]
  rcases Nat.lt_or_ge q j with hl|hl
  ·split
   ·rfl
   ·exact errTo_hit h1 h j hl
  ·obtain rfl:j=q:=by omega
   rw [if_pos ⟨h1,h⟩]
def rmodeT (l:List UInt8):Int:=if (modeT l).1≠0 then (modeT l).1 else if (modeT l).2=3 then -1 else 0
theorem rmodeT_hit {l:List UInt8} {q:Nat} (h:modeT l=(q,0)) (hq:1≤q):rmodeT l=q:=by
 unfold rmodeT
 rw [h,if_pos (by show q≠0;omega)]
theorem rmodeT_miss {l:List UInt8} {c:Nat} (h:modeT l=(0,c)):rmodeT l=if c=3 then -1 else 0:=by
 unfold rmodeT
 rw [h,if_neg (by show ¬ ((0:Nat)≠0);decide)]
set_option maxHeartbeats 2000000 in
set_option maxRecDepth 4000 in
theorem rmode_any (s:ByteArray) (w:World) (hs:s.size≤140737488355328) :
  Calls Tryz.prog 115 #[.string s] w fun e w'=>e=.returned (.int .i64 (rmodeT s.data.toList))∧w'=w:=by
 obtain ⟨R,hR⟩:∃ R,R=rmodeT s.data.toList:=⟨_,rfl⟩
 rw [←hR]
 have HR:=Lib.hid hR
 obtain ⟨l,hl⟩:∃ l,l=s.data.toList:=⟨_,rfl⟩
 rw [←hl] at HR
 have HL:=Lib.hid hl
 clear hR hl
 have HD:Hid (∀ q:Nat,∀ w,1≤q→q≤4→Calls Tryz.prog 116 #[.int .i64 (q:Int)] w fun e w'=>e=.returned (.string (str (wordM q)))∧w'=w):=fun q w h1 h2=>rdigitsT_any q w h1 h2
 go_enter Tryz.func115,Tryz.ntmps115
 go_wp2_with fail
 go_loop [3] (fun iv=>∃ q:Nat,1≤q∧q≤5∧iv=.int .i64 (q:Int)∧Hid (∀ j:Nat,1≤j→j<q→Lib.hasPrefix l (wordM j)=false)) (fun iv=>5-(intOf iv).toNat)
 case atStart=>exact ⟨1,by omega,by omega,rfl,fun j h1 h2=>by omega⟩
 case round =>
  obtain ⟨q,hq1,hq5,rfl,HNO⟩:=hrel
  by_cases hlt:q<5
  ·obtain ⟨P,hP⟩:∃ P,P=Lib.hasPrefix l (wordM q):=⟨_,rfl⟩
   obtain ⟨W,hW⟩:∃ W,W=str (wordM q):=⟨_,rfl⟩
   have HD2:Hid (∀ w,Calls Tryz.prog 116 #[.int .i64 (q:Int)] w fun e w'=>e=.returned (.string W)∧w'=w):=fun w=>by rw [hW];exact HD.out q w hq1 (by omega)
   have HBG:Hid (∀ w,Calls Tryz.prog 136 #[.string s,.string W] w fun e w'=>e=.returned (.bool P)∧w'=w):=fun w =>
    beginsT_any s W P w hs (by rw [hW,str_size];have:=wordM_le q;omega) (by rw [←HL.out,hW,str_list,hP])
   have HP:=Lib.hid hP
   clear hP hW
   rcases P with _|_
   ·have HNX:Hid (∀ j:Nat,1≤j→j<q+1→Lib.hasPrefix l (wordM j)=false):=fun j h1 h2=>by
     rcases Nat.lt_or_ge j q with h3|h3
     ·exact HNO.out j h1 h3
     ·obtain rfl:j=q:=by omega
      exact HP.out.symm
    clear HNO HP
    go_wp2_with (first
     | (go_at_call 116;((with_reducible refine (HD2.out _).mono ?_);rintro x w3 ⟨rfl,rfl⟩))
     | (go_at_call 136;((with_reducible refine (HBG.out _).mono ?_);rintro x w4 ⟨rfl,rfl⟩)))
    go_round
    case rel=>exact ⟨q+1,by omega,by omega,by go_num,HNX.out⟩
    case measure=>simp [intOf];omega
   ·have HX:Hid (R=q):=by show _=_;rw [HR.out,rmodeT_hit (modeT_hit hq1 (by omega) HP.out.symm HNO.out) hq1]
    clear HNO HP HR
    go_wp2_with (first
     | (go_at_call 116;((with_reducible refine (HD2.out _).mono ?_);rintro x w3 ⟨rfl,rfl⟩))
     | (go_at_call 136;((with_reducible refine (HBG.out _).mono ?_);rintro x w4 ⟨rfl,rfl⟩)))
    go_ret
    exact ⟨ret_int HX.out.symm,rfl⟩
  ·obtain rfl:q=5:=by omega
   have HM:Hid (R=if errTo l 5=3 then -1 else 0):=by show _=_;rw [HR.out,rmodeT_miss (modeT_miss HNO.out)]
   clear HNO HR
   go_wp2_with fail
   go_loop [4] (fun iv=>∃ q:Nat,1≤q∧q≤5∧iv=.int .i64 (q:Int)∧Hid (errTo l q=2)) (fun iv=>5-(intOf iv).toNat)
   case atStart=>exact ⟨1,by omega,by omega,rfl,rfl⟩
   case round =>
    obtain ⟨q,hq1,hq5,rfl,HE⟩:=hrel
    by_cases hlt:q<5
    ·obtain ⟨P,hP⟩:∃ P,P=Lib.hasPrefix (wordM q) l:=⟨_,rfl⟩
     obtain ⟨W,hW⟩:∃ W,W=str (wordM q):=⟨_,rfl⟩
     have HD2:Hid (∀ w,Calls Tryz.prog 116 #[.int .i64 (q:Int)] w fun e w'=>e=.returned (.string W)∧w'=w):=fun w=>by rw [hW];exact HD.out q w hq1 (by omega)
     have HBG:Hid (∀ w,Calls Tryz.prog 136 #[.string W,.string s] w fun e w'=>e=.returned (.bool P)∧w'=w):=fun w =>
      beginsT_any W s P w (by rw [hW,str_size];have:=wordM_le q;omega) hs (by rw [←HL.out,hW,str_list,hP])
     have HP:=Lib.hid hP
     clear hP hW
     rcases P with _|_
     ·have HEX:Hid (errTo l (q+1)=2):=by show _=_;rw [errTo,if_neg (by rw [←HP.out];intro h;cases h.2)];exact HE.out
      clear HE HP
      go_wp2_with (first
       | (go_at_call 116;((with_reducible refine (HD2.out _).mono ?_);rintro x w3 ⟨rfl,rfl⟩))
       | (go_at_call 136;((with_reducible refine (HBG.out _).mono ?_);rintro x w4 ⟨rfl,rfl⟩)))
      go_round
      case rel=>exact ⟨q+1,by omega,by omega,by go_num,HEX.out⟩
      case measure=>simp [intOf];omega
     ·have HX:Hid (R=-1):=by show _=_;rw [HM.out,if_pos (errTo_hit hq1 HP.out.symm 5 hlt)]
      clear HE HP HM
      go_wp2_with (first
       | (go_at_call 116;((with_reducible refine (HD2.out _).mono ?_);rintro x w3 ⟨rfl,rfl⟩))
       | (go_at_call 136;((with_reducible refine (HBG.out _).mono ?_);rintro x w4 ⟨rfl,rfl⟩)))
      go_ret
      exact ⟨ret_int HX.out.symm,rfl⟩
    ·obtain rfl:q=5:=by omega
     have HX:Hid (R=0):=by show _=_;rw [HM.out,if_neg (by rw [HE.out];decide)]
     clear HE HM
     go_wp2_with fail
     go_ret
     exact ⟨ret_int HX.out.symm,rfl⟩
end Go.Proofs.YtnoopcenogbjiaaGreatDoor
