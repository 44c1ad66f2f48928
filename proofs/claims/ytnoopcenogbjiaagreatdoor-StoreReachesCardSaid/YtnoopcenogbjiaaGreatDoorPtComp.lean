/-
 The walk of isComponent.
-/
import Derived.Test.YtnoopcenogbjiaaGreatDoorPtBasicPk
import Derived.BigQuiet
import Derived.Deep.QuietTactic
set_option linter.unusedVariables false
set_option linter.unusedSimpArgs false
namespace Go.Proofs.YtnoopcenogbjiaaGreatDoor
open Go.RowKit
def named (s:ByteArray):Bool:=s.toList.isEmpty||s.toList==[46]||s.toList==[46,46]||s.toList==[46,103,114,97,102,116]
def highs (l:List UInt8):Bool:=l.all fun c=>decide (32≤c.toNat)
def okc (s:ByteArray):Bool:=!named s&&highs s.data.toList&&decide (s.size≤64)
theorem highs_drop (s:ByteArray) (k:Nat) (h:k<s.size):highs (s.data.toList.drop k)=(decide (32≤s[k].toNat)&&highs (s.data.toList.drop (k+1))):=by
 unfold highs
 rw [List.drop_eq_getElem_cons (by rw [list_len];exact h),List.all_cons]
 rfl
theorem highs_end (s:ByteArray) (k:Nat) (h:s.size≤k):highs (s.data.toList.drop k)=true:=by
 rw [List.drop_eq_nil_of_le (by rw [list_len];exact h)]
 rfl
set_option maxHeartbeats 1000000 in
set_option maxRecDepth 4000 in
theorem comp_any (s:ByteArray) (w:World) (hs:s.size≤1048576) :
  Calls Tryz.prog 223 #[.string s] w fun e w'=>e=.returned (.bool (okc s))∧w=w':=by
 cases he:s.toList.isEmpty with
 | true =>
  have hk:okc s=false:=by unfold okc named;rw [he];simp
  rw [hk]
  clear hk
  go_enter Tryz.func223,Tryz.ntmps223
  go_wp2
  go_ret
  exact ⟨rfl,rfl⟩
 | false =>
  cases h1:s.toList==[46] with
  | true =>
   have hk:okc s=false:=by unfold okc named;rw [he,h1];simp
   rw [hk]
   clear hk
   go_enter Tryz.func223,Tryz.ntmps223
   go_wp2
   go_ret
   exact ⟨rfl,rfl⟩
  | false =>
   cases h2:s.toList==[46,46] with
   | true =>
    have hk:okc s=false:=by unfold okc named;rw [he,h1,h2];simp
    rw [hk]
    clear hk
    go_enter Tryz.func223,Tryz.ntmps223
    go_wp2
    go_ret
    exact ⟨rfl,rfl⟩
   | false =>
    cases h3:s.toList==[46,103,114,97,102,116] with
    | true =>
     have hk:okc s=false:=by unfold okc named;rw [he,h1,h2,h3];simp
     rw [hk]
     clear hk
     go_enter Tryz.func223,Tryz.ntmps223
     go_wp2
     go_ret
     exact ⟨rfl,rfl⟩
    | false =>
     obtain ⟨R,hR⟩:∃ R,R=okc s:=⟨_,rfl⟩
     have HR:Hid (R=(highs (s.data.toList.drop 0)&&decide (s.size≤64))):=by show _=_;rw [hR];unfold okc named;rw [he,h1,h2,h3];rfl
     rw [←hR]
     clear hR
     go_enter Tryz.func223,Tryz.ntmps223
     go_wp2
     go_loopw [12] (fun i wr=>∃ k:Nat,k≤s.size∧i=.int .i64 k∧wr=w∧Hid (R=(highs (s.data.toList.drop k)&&decide (s.size≤64)))) (fun i _=>s.size-(intOf i).toNat)
     case atStart=>exact ⟨0,by omega,rfl,rfl,HR⟩
     case round =>
      clear HR
      obtain ⟨k,hk,rfl,rfl,HR⟩:=hrel
      by_cases hlt:k<s.size
      ·have hd:=highs_drop s k hlt
       by_cases hc:32≤s[k].toNat
       ·have hc1:decide ((s[k].toNat:Int)<32)=false:=decide_eq_false (by omega)
        have hc2:¬ s[k].toNat<32:=by omega
        have HX:Hid (R=(highs (s.data.toList.drop (k+1))&&decide (s.size≤64))):=by
         show _=_
         rw [HR.out,hd,decide_eq_true hc,Bool.true_and]
        clear hd hc HR
        go_wp2
        go_roundw
        case rel=>exact ⟨k+1,by omega,by go_num,trivial,HX⟩
        case measure=>simp [intOf];omega
       ·have hc1:decide ((s[k].toNat:Int)<32)=true:=decide_eq_true (by omega)
        have hc2:s[k].toNat<32:=by omega
        have HX:Hid (R=false):=by
         show _=_
         rw [HR.out,hd,decide_eq_false hc]
         rfl
        clear hd hc HR
        go_wp2
        go_ret
        exact ⟨by rw [HX.out];rfl,rfl⟩
      ·have HX:Hid (R=decide ((s.size:Int)≤64)):=by
        show _=_
        rw [HR.out,highs_end s k (by omega),Bool.true_and]
        exact decide_eq_decide.mpr (by omega)
       go_wp2
       go_ret
       exact ⟨by rw [HX.out];rfl,rfl⟩
end Go.Proofs.YtnoopcenogbjiaaGreatDoor
