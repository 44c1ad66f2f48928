/-
 The walk of the reference's part.
-/
import Derived.Test.YtnoopcenogbjiaaGreatDoorPtComp
set_option linter.unusedVariables false
set_option linter.unusedSimpArgs false
namespace Go.Proofs.YtnoopcenogbjiaaGreatDoor
open Go.RowKit
def fine (l:List UInt8):Bool:=l.all fun c=>decide (32≤c.toNat)&&!(c==47)
def rokc (s:ByteArray):Bool:=!named s&&decide (s.size≤64)&&fine s.data.toList
theorem fine_drop (s:ByteArray) (k:Nat) (h:k<s.size):fine (s.data.toList.drop k)=((decide (32≤s[k].toNat)&&!(s[k]==47))&&fine (s.data.toList.drop (k+1))):=by
 unfold fine
 rw [List.drop_eq_getElem_cons (by rw [list_len];exact h),List.all_cons]
 rfl
theorem fine_end (s:ByteArray) (k:Nat) (h:s.size≤k):fine (s.data.toList.drop k)=true:=by
 rw [List.drop_eq_nil_of_le (by rw [list_len];exact h)]
 rfl
theorem rokc_is {s:ByteArray} (h:∀ c∈s.data.toList,c≠47):rokc s=okc s:=by
 have e:fine s.data.toList=highs s.data.toList:=by
  unfold fine highs
  apply Bool.eq_iff_iff.mpr
  simp only [List.all_eq_true,Bool.and_eq_true,decide_eq_true_eq,Bool.not_eq_true',beq_eq_false_iff_ne]
  exact ⟨fun g c hc=>(g c hc).1,fun g c hc=>⟨g c hc,h c hc⟩⟩
 unfold rokc okc
 rw [e,Bool.and_assoc,Bool.and_assoc,Bool.and_comm (decide _)]
set_option maxHeartbeats 1000000 in
set_option maxRecDepth 4000 in
theorem rpart_any (s:ByteArray) (w:World) (hs:s.size≤1048576) :
  Calls Tryz.prog 168 #[.string s] w fun e w'=>e=.returned (.bool (rokc s))∧w=w':=by
 by_cases h0:s.size<1
 ·have hk:rokc s=false:=by unfold rokc named;rw [none_true (by omega)];simp
  have d0:decide (s.size<1)=true:=decide_eq_true h0
  rw [hk]
  clear hk
  go_enter Tryz.func168,Tryz.ntmps168
  go_wp2
  go_ret
  exact ⟨rfl,rfl⟩
 ·have he:=none_false (s:=s) (by omega)
  by_cases h64:64<s.size
  ·have hk:rokc s=false:=by unfold rokc;rw [decide_eq_false (by omega),Bool.and_false];rfl
   rw [hk]
   clear hk
   go_enter Tryz.func168,Tryz.ntmps168
   go_wp2
   go_ret
   exact ⟨rfl,rfl⟩
  ·cases h1:s.toList==[46] with
   | true =>
    have hk:rokc s=false:=by unfold rokc named;rw [he,h1];simp
    rw [hk]
    clear hk
    go_enter Tryz.func168,Tryz.ntmps168
    go_wp2
    go_ret
    exact ⟨rfl,rfl⟩
   | false =>
    cases h2:s.toList==[46,46] with
    | true =>
     have hk:rokc s=false:=by unfold rokc named;rw [he,h1,h2];simp
     rw [hk]
     clear hk
     go_enter Tryz.func168,Tryz.ntmps168
     go_wp2
     go_ret
     exact ⟨rfl,rfl⟩
    | false =>
     cases h3:s.toList==[46,103,114,97,102,116] with
     | true =>
      have hk:rokc s=false:=by unfold rokc named;rw [he,h1,h2,h3];simp
      rw [hk]
      clear hk
      go_enter Tryz.func168,Tryz.ntmps168
      go_wp2
      go_ret
      exact ⟨rfl,rfl⟩
     | false =>
      obtain ⟨R,hR⟩:∃ R,R=rokc s:=⟨_,rfl⟩
      have HR:Hid (R=fine (s.data.toList.drop 0)):=by show _=_;rw [hR];unfold rokc named;rw [he,h1,h2,h3,decide_eq_true (by omega)];rfl
      rw [←hR]
      clear hR
      go_enter Tryz.func168,Tryz.ntmps168
      go_wp2
      go_loopw [3] (fun i wr=>∃ k:Nat,k≤s.size∧i=.int .i64 k∧wr=w∧Hid (R=fine (s.data.toList.drop k))) (fun i _=>s.size-(intOf i).toNat)
      case atStart=>exact ⟨0,by omega,rfl,rfl,HR⟩
      case round =>
       clear HR
       obtain ⟨k,hk,rfl,rfl,HR⟩:=hrel
       by_cases hlt:k<s.size
       ·have hd:=fine_drop s k hlt
        by_cases hc:32≤s[k].toNat
        ·have hc1:decide ((s[k].toNat:Int)<32)=false:=decide_eq_false (by omega)
         have hc2:¬ s[k].toNat<32:=by omega
         have h47:=pt47 s[k]
         cases h48:(s[k]==47) with
         | true =>
          rw [h48] at h47
          have HX:Hid (R=false):=by
           show _=_
           rw [HR.out,hd,h48]
           simp
          clear hd hc HR
          go_wp2
          go_ret
          exact ⟨by rw [HX.out];rfl,rfl⟩
         | false =>
          rw [h48] at h47
          have HX:Hid (R=fine (s.data.toList.drop (k+1))):=by
           show _=_
           rw [HR.out,hd,decide_eq_true hc,h48]
           rfl
          clear hd hc HR
          go_wp2
          go_roundw
          case rel=>exact ⟨k+1,by omega,by go_num,trivial,HX⟩
          case measure=>simp [intOf];omega
        ·have hc1:decide ((s[k].toNat:Int)<32)=true:=decide_eq_true (by omega)
         have hc2:s[k].toNat<32:=by omega
         have HX:Hid (R=false):=by
          show _=_
          rw [HR.out,hd,decide_eq_false hc]
          rfl
         clear hd hc HR
         go_wp2
         go_ret
         exact ⟨by rw [HX.out];rfl,rfl⟩
       ·have HX:Hid (R=true):=by
         show _=_
         rw [HR.out,fine_end s k (by omega)]
        go_wp2
        go_ret
        exact ⟨by rw [HX.out];rfl,rfl⟩
end Go.Proofs.YtnoopcenogbjiaaGreatDoor
