/-
 The walks of the reference's Digit, digits and Is.
-/
import Derived.Test.YtnoopcenogbjiaaGreatDoorIdDigitPk
import Derived.IntWalk
set_option linter.unusedVariables false
set_option linter.unusedSimpArgs false
namespace Go.Proofs.YtnoopcenogbjiaaGreatDoor
open Go.RowKit
def rdig (b:UInt8):Int:=match halfOf b with
 | some x=>(x:Int)
 | none=>-1
theorem rdig_some {b:UInt8} {x:Nat} (h:halfOf b=some x):rdig b=(x:Int):=by rw [rdig,h]
theorem rdig_none {b:UInt8} (h:halfOf b=none):rdig b=-1:=by rw [rdig,h]
set_option maxHeartbeats 1000000 in
theorem rdigit_any (b:UInt8) (w:World) :
  Calls Tryz.prog 139 #[.int .u8 b.toNat] w fun e w'=>e=.returned (.int .i64 (rdig b))∧w=w':=by
 have hb:=UInt8.toNat_lt b
 obtain ⟨c,hc⟩:∃ c,c=b.toNat:=⟨_,rfl⟩
 have HC:Hid (c=b.toNat):=hc
 rw [←hc] at hb ⊢
 clear hc
 go_enter Tryz.func139,Tryz.ntmps139
 by_cases h1:48≤c∧c≤57
 ·have HO:Hid (halfOf b=some (c-48)):=by show _=_;rw [halfOf,←HC.out,if_pos h1]
  obtain ⟨h1,h2⟩:=h1
  obtain ⟨y,hy⟩:∃ y,y=c-48:=⟨_,rfl⟩
  rw [←hy] at HO
  have e1:IntKind.u8.wrap ((c:Int)-48)=(y:Int):=by rw [IntKind.wrap_u8];omega
  have e2:IntKind.i64.wrap (y:Int)=(y:Int):=IntWalk.i64_in _ (by omega)
  clear hy
  go_wp2
  go_ret
  exact ⟨ret_int (rdig_some HO.out).symm,rfl⟩
 ·by_cases h2:97≤c∧c≤102
  ·have HO:Hid (halfOf b=some (c-87)):=by show _=_;rw [halfOf,←HC.out,if_neg h1,if_pos h2]
   obtain ⟨h3,h4⟩:=h2
   obtain ⟨y,hy⟩:∃ y,y=c-97:=⟨_,rfl⟩
   have e1:IntKind.u8.wrap ((c:Int)-97)=(y:Int):=by rw [IntKind.wrap_u8];omega
   have e2:IntKind.i64.wrap (y:Int)=(y:Int):=IntWalk.i64_in _ (by omega)
   have e3:57<c:=by omega
   have e4:48≤c:=by omega
   have HY:Hid (c-87=y+10):=by show _=_;omega
   have hy6:y<6:=by omega
   clear hy h1
   go_wp2
   go_ret
   exact ⟨ret_int (by rw [rdig_some HO.out,HY.out];rfl),rfl⟩
  ·have HO:Hid (halfOf b=none):=by show _=_;rw [halfOf,←HC.out,if_neg h1,if_neg h2]
   have hcs:c<48∨(57<c∧c<97)∨102<c:=by omega
   clear h1 h2
   rcases hcs with h|⟨h,h'⟩|h
   ·have e4:c<97:=by omega
    go_wp2
    go_ret
    exact ⟨ret_int (rdig_none HO.out).symm,rfl⟩
   ·have e4:48≤c:=by omega
    go_wp2
    go_ret
    exact ⟨ret_int (rdig_none HO.out).symm,rfl⟩
   ·have e4:97≤c:=by omega
    have e5:57<c:=by omega
    have e6:48≤c:=by omega
    go_wp2
    go_ret
    exact ⟨ret_int (rdig_none HO.out).symm,rfl⟩
set_option maxHeartbeats 1000000 in
theorem rdigits_any (s:ByteArray) (w:World) (hs:s.size≤140737488355328) :
  Calls Tryz.prog 121 #[.string s] w fun e w'=>e=.returned (.bool (allDig s.data.toList))∧w=w':=by
 go_enter Tryz.func121,Tryz.ntmps121
 go_wp2
 go_loopw [3] (fun i wr=>∃ k:Nat,k≤s.size∧i=.int .i64 k∧allDig (s.data.toList.take k)=true∧wr=w) (fun i _=>s.size-(intOf i).toNat)
 case atStart=>exact ⟨0,by omega,rfl,rfl,rfl⟩
 case round =>
  obtain ⟨k,hk,rfl,ha,rfl⟩:=hrel
  have HA:Hid (allDig (s.data.toList.take k)=true):=ha
  clear ha
  by_cases hlt:k<s.size
  ·have hh:=rdigit_any s[k] wr
   cases ho:halfOf s[k] with
   | none =>
    have HO:Hid (halfOf s[k]=none):=ho
    rw [rdig_none ho] at hh
    have HH:Hid (Calls Tryz.prog 139 #[.int .u8 s[k].toNat] wr fun e w'=>e=.returned (.int .i64 (-1))∧wr=w'):=hh
    clear ho hh
    go_wp2_with (go_at_call 139;refine HH.out.mono ?_;rintro e w' ⟨rfl,rfl⟩)
    go_ret
    refine ⟨ret_bool ?_,rfl⟩
    rw [allDig_not (b:=s[k]) (by rw [←Array.mem_def];exact Array.getElem_mem _) (by rw [HO.out];rfl)]
   | some x =>
    have HO:Hid (halfOf s[k]=some x):=ho
    rw [rdig_some ho] at hh
    have HH:Hid (Calls Tryz.prog 139 #[.int .u8 s[k].toNat] wr fun e w'=>e=.returned (.int .i64 (x:Int))∧wr=w'):=hh
    clear ho hh
    go_wp2_with (go_at_call 139;refine HH.out.mono ?_;rintro e w' ⟨rfl,rfl⟩)
    go_roundw
    case rel=>exact ⟨k+1,by omega,by go_num,by rw [take_snoc s k hlt,allDig_snoc,HA.out,HO.out];rfl,by trivial⟩
    case measure=>simp [intOf];omega
  ·obtain rfl:k=s.size:=by omega
   go_wp2
   go_ret
   exact ⟨ret_bool (by rw [←take_all s,HA.out]),rfl⟩
set_option maxHeartbeats 1000000 in
theorem ris_any (s:ByteArray) (w:World) (hs:s.size≤140737488355328) :
  Calls Tryz.prog 87 #[.string s] w fun e w'=>e=.returned (.bool (isId s))∧w=w':=by
 have hd:=rdigits_any s w hs
 go_enter Tryz.func87,Tryz.ntmps87
 by_cases h:s.size=40
 ·have h1:((s.size:Int)==40)=true:=by rw [h];rfl
  have HS:Hid (s.size=40):=h
  clear h
  go_wp2_with (go_at_call 121;refine hd.mono ?_;rintro e w' ⟨rfl,rfl⟩)
  go_ret
  exact ⟨ret_bool (by rw [isId,HS.out];simp),rfl⟩
 ·have h1:((s.size:Int)==40)=false:=by simp;omega
  have HS:Hid (isId s=false):=by show _=_;simp [isId,h]
  clear h
  go_wp2
  go_ret
  exact ⟨ret_bool HS.out.symm,rfl⟩
end Go.Proofs.YtnoopcenogbjiaaGreatDoor
