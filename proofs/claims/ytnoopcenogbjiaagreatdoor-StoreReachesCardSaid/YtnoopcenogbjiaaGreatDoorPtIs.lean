/-
 The walk of Is.
-/
import Derived.Test.YtnoopcenogbjiaaGreatDoorPtSplit
import Derived.Test.YtnoopcenogbjiaaGreatDoorPtComp
set_option linter.unusedVariables false
set_option linter.unusedSimpArgs false
namespace Go.Proofs.YtnoopcenogbjiaaGreatDoor
open Go.RowKit
def comps (ls:List (List UInt8)):Bool:=ls.all fun l=>okc (str l)
def isP (s:ByteArray):Bool:=decide (s.size≤255)&&(comps (prts s)&&(decide (1≤(prts s).length)&&decide ((prts s).length≤16)))
theorem comps_drop (ls:List (List UInt8)) (k:Nat) (h:k<ls.length):comps (ls.drop k)=(okc (str ls[k])&&comps (ls.drop (k+1))):=by
 unfold comps
 rw [List.drop_eq_getElem_cons h,List.all_cons]
theorem cut_len:∀ (l cur:List UInt8),∀ p∈cut cur l,p.length≤cur.length+l.length
 | [],cur,p,hp=>by
  simp only [cut,List.mem_singleton] at hp
  subst hp
  simp
 | c::r,cur,p,hp=>by
  rw [cut] at hp
  split at hp
  ·rcases List.mem_cons.mp hp with rfl|hp
   ·omega
   ·have:=cut_len r [] p hp
    simp at this ⊢
    omega
  ·have:=cut_len r (cur++[c]) p hp
   simp at this ⊢
   omega
theorem prts_len {s:ByteArray} {p:List UInt8} (h:p∈prts s):p.length≤s.size:=by
 unfold prts at h
 split at h
 ·simp at h
 ·have:=cut_len _ _ p h
  rw [list_len] at this
  simpa using this
theorem cut_count:∀ (l cur:List UInt8),(cut cur l).length≤l.length+1
 | [],cur=>by simp [cut]
 | c::r,cur=>by
  rw [cut]
  split
  ·have:=cut_count r []
   simp
   omega
  ·have:=cut_count r (cur++[c])
   simp
   omega
theorem prts_count (s:ByteArray):(prts s).length≤s.size+1:=by
 unfold prts
 split
 ·simp
 ·have:=cut_count s.data.toList []
  rw [list_len] at this
  exact this
set_option maxHeartbeats 1000000 in
set_option maxRecDepth 4000 in
theorem pis_any (s:ByteArray) (m:Int) (w:World) (hs:s.size≤1048576) (hm:w.cell? ⟨0,0,none⟩=some (.int .i64 m)) :
  Calls Tryz.prog 209 #[.string s] w fun e w'=>e=.returned (.bool (isP s))∧Below w.heap.size w w':=by
 by_cases h1:255<s.size
 ·have hk:isP s=false:=by unfold isP;rw [decide_eq_false (by omega)];rfl
  rw [hk]
  clear hk
  go_enter Tryz.func209,Tryz.ntmps209
  go_wp2
  go_ret
  exact ⟨rfl,Below.refl _ _⟩
 ·have HP:Hid (Calls Tryz.prog 222 #[.string s] w fun e w'=>(∃ p cap,e=.returned (.slice p (prts s).length cap)∧SRw w' p (prts s))∧Below w.heap.size w w'):=parts_any s m w hs hm
  have HC:Hid (∀ t∈prts s,∀ w,Calls Tryz.prog 223 #[.string (str t)] w fun e w'=>e=.returned (.bool (okc (str t)))∧w=w'):=fun t ht w=>comp_any (str t) w (by have:=prts_len ht;rw [str_size];omega)
  obtain ⟨R,hR⟩:∃ R,R=isP s:=⟨_,rfl⟩
  rw [←hR]
  have hR2:R=(comps ((prts s).drop 0)&&(decide (1≤(prts s).length)&&decide ((prts s).length≤16))):=by rw [hR];unfold isP;rw [decide_eq_true (by omega)];rfl
  have hnl:=prts_count s
  obtain ⟨ls,hls⟩:∃ ls,ls=prts s:=⟨_,rfl⟩
  rw [←hls] at HP HC hR2 hnl
  obtain ⟨n,hn⟩:∃ n,n=ls.length:=⟨_,rfl⟩
  rw [←hn] at HP hR2 hnl
  have HR:Hid (R=(comps (ls.drop 0)&&(decide (1≤n)&&decide (n≤16)))):=hR2
  have HN:=Lib.hid hn
  clear hR hR2 hls hn
  go_enter Tryz.func209,Tryz.ntmps209
  go_wp2_with (go_at_call 222;refine HP.out.mono ?_;rintro e w1 ⟨⟨p,cap,rfl,hsr⟩,hb⟩)
  go_loopw [13] (fun i wr=>∃ k:Nat,k≤n∧i=.int .i64 k∧wr=w1∧Hid (R=(comps (ls.drop k)&&(decide (1≤n)&&decide (n≤16))))) (fun i _=>n-(intOf i).toNat)
  case atStart=>exact ⟨0,by omega,rfl,rfl,HR⟩
  case round =>
   clear HR
   obtain ⟨k,hk,rfl,rfl,HR⟩:=hrel
   by_cases hlt:k<n
   ·have hkl:k<ls.length:=by rw [←HN.out];exact hlt
    obtain ⟨g,o,rfl,hg,hc⟩:=hsr k hkl
    have hcall:=HC.out ls[k] (List.getElem_mem hkl)
    have hd:=comps_drop ls k hkl
    obtain ⟨t,ht⟩:∃ t,t=str (ls[k]'hkl):=⟨_,rfl⟩
    rw [←ht] at hcall hd hc
    cases hok:okc t with
    | true =>
     rw [hok] at hcall hd
     have HX:Hid (R=(comps (ls.drop (k+1))&&(decide (1≤n)&&decide (n≤16)))):=by show _=_;rw [HR.out,hd,Bool.true_and]
     have HCC:=Lib.hid hcall
     clear hcall hd ht hok HR hkl
     go_wp2_with (go_at_call 223;refine (HCC.out _).mono ?_;rintro e w2 ⟨rfl,rfl⟩)
     go_roundw
     case rel=>exact ⟨k+1,by omega,by go_num,trivial,HX⟩
     case measure=>simp [intOf];omega
    | false =>
     rw [hok] at hcall hd
     have HX:Hid (R=false):=by show _=_;rw [HR.out,hd];rfl
     have HCC:=Lib.hid hcall
     clear hcall hd ht hok HR hkl
     go_wp2_with (go_at_call 223;refine (HCC.out _).mono ?_;rintro e w2 ⟨rfl,rfl⟩)
     go_ret
     exact ⟨by rw [HX.out];rfl,hb⟩
   ·have HX:Hid (R=(decide (1≤n)&&decide (n≤16))):=by
     show _=_
     rw [HR.out,List.drop_eq_nil_of_le (by have:=HN.out;omega)]
     rfl
    by_cases h16:1≤n
    ·have HY:Hid (R=decide ((n:Int)≤16)):=by show _=_;rw [HX.out,decide_eq_true h16,Bool.true_and];exact decide_eq_decide.mpr (by omega)
     go_wp2
     go_ret
     exact ⟨by rw [HY.out];rfl,hb⟩
    ·have HY:Hid (R=false):=by show _=_;rw [HX.out,decide_eq_false h16];rfl
     go_wp2
     go_ret
     exact ⟨by rw [HY.out];rfl,hb⟩
end Go.Proofs.YtnoopcenogbjiaaGreatDoor
