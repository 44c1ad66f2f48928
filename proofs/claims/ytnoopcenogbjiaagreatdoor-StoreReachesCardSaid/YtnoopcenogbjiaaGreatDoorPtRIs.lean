/-
 The walks of the reference's Is and Same.
-/
import Derived.Test.YtnoopcenogbjiaaGreatDoorPtIs
import Derived.Test.YtnoopcenogbjiaaGreatDoorPtRPart
set_option linter.unusedVariables false
set_option linter.unusedSimpArgs false
namespace Go.Proofs.YtnoopcenogbjiaaGreatDoor
open Go.RowKit
theorem prts_rokc {s:ByteArray} {t:List UInt8} (h:t∈prts s):rokc (str t)=okc (str t):=rokc_is (by
 rw [str_list]
 unfold prts at h
 split at h
 ·simp at h
 ·exact cut_free _ [] (by simp) t h)
set_option maxHeartbeats 1000000 in
set_option maxRecDepth 4000 in
theorem pris_any (s:ByteArray) (w:World) (hs:s.size≤1048576) :
  Calls Tryz.prog 137 #[.string s] w fun e w'=>e=.returned (.bool (isP s))∧Below w.heap.size w w':=by
 have HP:Hid (Calls Tryz.prog 167 #[.string s] w fun e w'=>(∃ p cap,e=.returned (.slice p (prts s).length cap)∧SRw w' p (prts s))∧Below w.heap.size w w'):=rparts_any s w hs
 have HC:Hid (∀ t∈prts s,∀ w,Calls Tryz.prog 168 #[.string (str t)] w fun e w'=>e=.returned (.bool (okc (str t)))∧w=w'):=fun t ht w=>by
  have h:=rpart_any (str t) w (by have:=prts_len ht;rw [str_size];omega)
  rw [prts_rokc ht] at h
  exact h
 obtain ⟨R,hR⟩:∃ R,R=isP s:=⟨_,rfl⟩
 rw [←hR]
 have hR2:R=(decide (s.size≤255)&&(comps ((prts s).drop 0)&&(decide (1≤(prts s).length)&&decide ((prts s).length≤16)))):=hR
 have hnl:=prts_count s
 obtain ⟨ls,hls⟩:∃ ls,ls=prts s:=⟨_,rfl⟩
 rw [←hls] at HP HC hR2 hnl
 obtain ⟨n,hn⟩:∃ n,n=ls.length:=⟨_,rfl⟩
 rw [←hn] at HP hR2 hnl
 have HN:=Lib.hid hn
 clear hR hls hn
 by_cases h1:n<1
 ·have HX:Hid (R=false):=by show _=_;rw [hR2,decide_eq_false (show ¬ 1≤n by omega)];simp
  have d1:decide (n<1)=true:=decide_eq_true h1
  clear hR2
  go_enter Tryz.func137,Tryz.ntmps137
  go_wp2_with (go_at_call 167;refine HP.out.mono ?_;rintro e w1 ⟨⟨p,cap,rfl,hsr⟩,hb⟩)
  go_ret
  exact ⟨by rw [HX.out];rfl,hb⟩
 ·by_cases h16:16<n
  ·have HX:Hid (R=false):=by show _=_;rw [hR2,decide_eq_false (show ¬ n≤16 by omega)];simp
   clear hR2
   go_enter Tryz.func137,Tryz.ntmps137
   go_wp2_with (go_at_call 167;refine HP.out.mono ?_;rintro e w1 ⟨⟨p,cap,rfl,hsr⟩,hb⟩)
   go_ret
   exact ⟨by rw [HX.out];rfl,hb⟩
  ·by_cases h255:255<s.size
   ·have HX:Hid (R=false):=by show _=_;rw [hR2,decide_eq_false (show ¬ s.size≤255 by omega)];simp
    clear hR2
    go_enter Tryz.func137,Tryz.ntmps137
    go_wp2_with (go_at_call 167;refine HP.out.mono ?_;rintro e w1 ⟨⟨p,cap,rfl,hsr⟩,hb⟩)
    go_ret
    exact ⟨by rw [HX.out];rfl,hb⟩
   ·have HR:Hid (R=comps (ls.drop 0)):=by show _=_;rw [hR2,decide_eq_true (show s.size≤255 by omega),decide_eq_true (show 1≤n by omega),decide_eq_true (show n≤16 by omega)];simp
    clear hR2
    go_enter Tryz.func137,Tryz.ntmps137
    go_wp2_with (go_at_call 167;refine HP.out.mono ?_;rintro e w1 ⟨⟨p,cap,rfl,hsr⟩,hb⟩)
    go_loopw [4] (fun i wr=>∃ k:Nat,k≤n∧i=.int .i64 k∧wr=w1∧Hid (R=comps (ls.drop k))) (fun i _=>n-(intOf i).toNat)
    case atStart=>exact ⟨0,by omega,rfl,rfl,HR⟩
    case round =>
     clear HR
     obtain ⟨k,hk,rfl,rfl,HR⟩:=hrel
     by_cases hlt:k<n
     ·have hkl:k<ls.length:=by rw [←HN.out];exact hlt
      obtain ⟨g,o,rfl,hg,hc⟩:=hsr k hkl
      have hcall:=HC.out ls[k] (List.getElem_mem hkl)
      have hd:=comps_drop ls k hkl
      obtain ⟨t,ht⟩:∃ t,t=str (ls[k]'hkl):=⟨_,rfl⟩
      rw [←ht] at hcall hd hc
      cases hok:okc t with
      | true =>
       rw [hok] at hcall hd
       have HX:Hid (R=comps (ls.drop (k+1))):=by show _=_;rw [HR.out,hd,Bool.true_and]
       have HCC:=Lib.hid hcall
       clear hcall hd ht hok HR hkl
       go_wp2_with (go_at_call 168;refine (HCC.out _).mono ?_;rintro e w2 ⟨rfl,rfl⟩)
       go_roundw
       case rel=>exact ⟨k+1,by omega,by go_num,trivial,HX⟩
       case measure=>simp [intOf];omega
      | false =>
       rw [hok] at hcall hd
       have HX:Hid (R=false):=by show _=_;rw [HR.out,hd];rfl
       have HCC:=Lib.hid hcall
       clear hcall hd ht hok HR hkl
       go_wp2_with (go_at_call 168;refine (HCC.out _).mono ?_;rintro e w2 ⟨rfl,rfl⟩)
       go_ret
       exact ⟨by rw [HX.out];rfl,hb⟩
     ·have HX:Hid (R=true):=by
       show _=_
       rw [HR.out,List.drop_eq_nil_of_le (by have:=HN.out;omega)]
       rfl
      go_wp2
      go_ret
      exact ⟨by rw [HX.out];rfl,hb⟩
end Go.Proofs.YtnoopcenogbjiaaGreatDoor
