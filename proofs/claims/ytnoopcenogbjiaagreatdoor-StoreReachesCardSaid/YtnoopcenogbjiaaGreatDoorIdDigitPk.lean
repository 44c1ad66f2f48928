/-
 The walks of half, allDigits and Is.
-/
import Derived.Test.YtnoopcenogbjiaaGreatDoorLawPostPk
set_option linter.unusedVariables false
set_option linter.unusedSimpArgs false
namespace Go.Proofs.YtnoopcenogbjiaaGreatDoor
open Go.RowKit
def halfOf (b:UInt8):Option Nat:=if 48≤b.toNat∧b.toNat≤57 then some (b.toNat-48) else if 97≤b.toNat∧b.toNat≤102 then some (b.toNat-87) else none
set_option maxHeartbeats 1000000 in
theorem half_any (b:UInt8) (w:World) :
  Calls Tryz.prog 216 #[.int .u8 b.toNat] w fun e w'=>e=.returned (.tuple #[.int .u8 ((halfOf b).getD 0:Nat),.bool (halfOf b).isSome])∧w=w':=by
 have hb:=UInt8.toNat_lt b
 obtain ⟨c,hc⟩:∃ c,c=b.toNat:=⟨_,rfl⟩
 have HC:Hid (c=b.toNat):=hc
 rw [←hc] at hb ⊢
 clear hc
 go_enter Tryz.func216,Tryz.ntmps216
 have r {x y:Nat} {p q:Bool} (h:x=y) (h2:p=q):Ending.returned (.tuple #[.int .u8 (x:Int),.bool p])=.returned (.tuple #[.int .u8 (y:Int),.bool q]):=by rw [h,h2]
 by_cases h1:48≤c∧c≤57
 ·have HO:Hid (halfOf b=some (c-48)):=by show _=_;rw [halfOf,←HC.out,if_pos h1]
  obtain ⟨h1,h2⟩:=h1
  obtain ⟨y,hy⟩:∃ y,y=c-48:=⟨_,rfl⟩
  rw [←hy] at HO
  have e1:IntKind.u8.wrap ((c:Int)-48)=(y:Int):=by rw [IntKind.wrap_u8];omega
  clear hy
  go_wp2
  go_ret2
  exact ⟨r (by rw [HO.out];rfl) (by rw [HO.out];rfl),rfl⟩
 ·by_cases h2:97≤c∧c≤102
  ·have HO:Hid (halfOf b=some (c-87)):=by show _=_;rw [halfOf,←HC.out,if_neg h1,if_pos h2]
   obtain ⟨h3,h4⟩:=h2
   obtain ⟨y,hy⟩:∃ y,y=c-87:=⟨_,rfl⟩
   rw [←hy] at HO
   have e1:IntKind.u8.wrap ((c:Int)-97)=(c:Int)-97:=by rw [IntKind.wrap_u8];omega
   have e2:IntKind.u8.wrap ((c:Int)-97+10)=(y:Int):=by rw [IntKind.wrap_u8];omega
   have e3:57<c:=by omega
   have e4:48≤c:=by omega
   clear hy h1
   go_wp2
   go_ret2
   exact ⟨r (by rw [HO.out];rfl) (by rw [HO.out];rfl),rfl⟩
  ·have HO:Hid (halfOf b=none):=by show _=_;rw [halfOf,←HC.out,if_neg h1,if_neg h2]
   have hcs:c<48∨(57<c∧c<97)∨102<c:=by omega
   clear h1 h2
   rcases hcs with h|⟨h,h'⟩|h
   ·have e4:c<97:=by omega
    go_wp2
    go_ret2
    exact ⟨r (x:=0) (by rw [HO.out];rfl) (by rw [HO.out];rfl),rfl⟩
   ·have e4:48≤c:=by omega
    go_wp2
    go_ret2
    exact ⟨r (x:=0) (by rw [HO.out];rfl) (by rw [HO.out];rfl),rfl⟩
   ·have e4:97≤c:=by omega
    have e5:57<c:=by omega
    have e6:48≤c:=by omega
    go_wp2
    go_ret2
    exact ⟨r (x:=0) (by rw [HO.out];rfl) (by rw [HO.out];rfl),rfl⟩
def allDig (l:List UInt8):Bool:=l.all fun b=>(halfOf b).isSome
theorem allDig_snoc (l:List UInt8) (b:UInt8):allDig (l++[b])=(allDig l&&(halfOf b).isSome):=by simp [allDig]
theorem allDig_not {l:List UInt8} {b:UInt8} (hb:b∈l) (h:(halfOf b).isSome=false):allDig l=false:=by
 rw [allDig,List.all_eq_false]
 exact ⟨b,hb,by rw [h];decide⟩
set_option maxHeartbeats 1000000 in
theorem allDigits_any (s:ByteArray) (w:World) (hs:s.size≤140737488355328) :
  Calls Tryz.prog 195 #[.string s] w fun e w'=>e=.returned (.bool (allDig s.data.toList))∧w=w':=by
 go_enter Tryz.func195,Tryz.ntmps195
 go_wp2
 go_loopw [8] (fun i wr=>∃ k:Nat,k≤s.size∧i=.int .i64 k∧allDig (s.data.toList.take k)=true∧wr=w) (fun i _=>s.size-(intOf i).toNat)
 case atStart=>exact ⟨0,by omega,rfl,rfl,rfl⟩
 case round =>
  obtain ⟨k,hk,rfl,ha,rfl⟩:=hrel
  have HA:Hid (allDig (s.data.toList.take k)=true):=ha
  clear ha
  by_cases hlt:k<s.size
  ·have hh:=half_any s[k] wr
   obtain ⟨o,ho⟩:∃ o,o=halfOf s[k]:=⟨_,rfl⟩
   rw [←ho] at hh
   have HO:Hid (o=halfOf s[k]):=ho
   have HH:Hid (Calls Tryz.prog 216 #[.int .u8 s[k].toNat] wr fun e w'=>e=.returned (.tuple #[.int .u8 (o.getD 0:Nat),.bool o.isSome])∧wr=w'):=hh
   clear ho hh
   cases o with
   | none =>
    go_wp2_with (go_at_call 216;refine HH.out.mono ?_;rintro e w' ⟨rfl,rfl⟩)
    go_ret
    refine ⟨ret_bool ?_,rfl⟩
    rw [allDig_not (b:=s[k]) (by rw [←Array.mem_def];exact Array.getElem_mem _) (by rw [←HO.out];rfl)]
   | some x =>
    go_wp2_with (go_at_call 216;refine HH.out.mono ?_;rintro e w' ⟨rfl,rfl⟩)
    go_roundw
    case rel=>exact ⟨k+1,by omega,by go_num,by rw [take_snoc s k hlt,allDig_snoc,HA.out,←HO.out];rfl,by trivial⟩
    case measure=>simp [intOf];omega
  ·obtain rfl:k=s.size:=by omega
   go_wp2
   go_ret
   exact ⟨ret_bool (by rw [←take_all s,HA.out]),rfl⟩
def isId (s:ByteArray):Bool:=decide (s.size=40)&&allDig s.data.toList
set_option maxHeartbeats 1000000 in
theorem is_any (s:ByteArray) (w:World) (hs:s.size≤140737488355328) :
  Calls Tryz.prog 170 #[.string s] w fun e w'=>e=.returned (.bool (isId s))∧w=w':=by
 have hd:=allDigits_any s w hs
 go_enter Tryz.func170,Tryz.ntmps170
 by_cases h:s.size=40
 ·have h1:((s.size:Int)==40)=true:=by rw [h];rfl
  have HS:Hid (s.size=40):=h
  clear h
  go_wp2_with (go_at_call 195;refine hd.mono ?_;rintro e w' ⟨rfl,rfl⟩)
  go_ret
  exact ⟨ret_bool (by rw [isId,HS.out];simp),rfl⟩
 ·have h1:((s.size:Int)==40)=false:=by simp;omega
  have HS:Hid (isId s=false):=by show _=_;simp [isId,h]
  clear h
  go_wp2
  go_ret
  exact ⟨ret_bool HS.out.symm,rfl⟩
end Go.Proofs.YtnoopcenogbjiaaGreatDoor
