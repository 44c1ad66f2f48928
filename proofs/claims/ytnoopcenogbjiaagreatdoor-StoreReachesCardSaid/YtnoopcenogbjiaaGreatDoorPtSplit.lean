/-
 The walk of Parts.
-/
import Derived.Test.YtnoopcenogbjiaaGreatDoorPtBasicPk
import Derived.Test.YtnoopcenogbjiaaGreatDoorShelf
set_option linter.unusedVariables false
set_option linter.unusedSimpArgs false
namespace Go.Proofs.YtnoopcenogbjiaaGreatDoor
open Go.RowKit
theorem srw_new (w:World) (L:List ByteArray) (t:TypeId):SRw (w.alloc (.cells (L.map Value.string).toArray t)) (some ⟨w.heap.size,0,none⟩) (L.map fun x=>x.data.toList):=fun k hk=>by
 refine ⟨w.heap.size,0,rfl,by simp,?_⟩
 have h:=World.cell?_alloc_mark w (L.map Value.string).toArray t (0,0) k
 rw [Nat.zero_add]
 refine h.trans ?_
 have hk':k<L.length:=by simpa using hk
 simp [List.getElem?_eq_getElem hk',pt_self]
set_option maxHeartbeats 1000000 in
set_option maxRecDepth 4000 in
theorem parts_cap (s:ByteArray) (m:Int) (w:World) (hs:s.size≤1048576) (hm:w.cell? ⟨0,0,none⟩=some (.int .i64 m)) :
  Calls Tryz.prog 222 #[.string s] w fun e w'=>(∃ p cap,e=.returned (.slice p (prts s).length cap)∧(prts s).length≤cap∧SRw w' p (prts s))∧Below w.heap.size w w':=by
 by_cases h0:s.size=0
 ·have he:=none_true h0
  rw [show prts s=[] from if_pos h0]
  clear h0
  go_enter Tryz.func222,Tryz.ntmps222
  go_wp2
  go_ret
  exact ⟨⟨none,0,rfl,Nat.le_refl _,SRw.none _ _⟩,Below.refl _ _⟩
 ·have he:=none_false (s:=s) (by omega)
  have hp:prts s=(Lib.splitB slash 0 (Lib.countB s slash) s).map fun x=>x.data.toList:=by rw [cut_split s.size s (Nat.le_refl _)];exact if_neg h0
  have hl:(prts s).length=Lib.countB s slash+1:=by
   rw [hp,List.length_map]
   exact Lib.splitB_all slash (by decide) 0 _ s rfl
  have HS:Hid (Calls Tryz.prog 237 #[.string s,.string ⟨#[47]⟩] w fun e w'=>(∃ p cap,e=.returned (.slice p (prts s).length cap)∧(prts s).length≤cap∧SRw w' p (prts s))∧Below w.heap.size w w'):=by
   refine (Tryz.strings_Split s slash m w (by omega) hm (by decide)).mono fun e w' ⟨h1,h2⟩=>⟨⟨some ⟨w.heap.size,0,none⟩,Lib.countB s slash+1,by rw [hl];exact h1,by rw [hl];exact Nat.le_refl _,?_⟩,?_⟩
   ·rw [h2,hp]
    exact srw_new w _ _
   ·rw [h2]
    exact (Below.refl _ _).alloc (Nat.le_refl _) _
  obtain ⟨R,hR⟩:∃ R,R=prts s:=⟨_,rfl⟩
  rw [←hR] at HS ⊢
  clear hp hl hR h0
  go_enter Tryz.func222,Tryz.ntmps222
  go_wp2_with (go_at_call 237;refine HS.out.mono ?_;rintro e w1 ⟨⟨p,cap,rfl,hcap,hsr⟩,hb⟩)
  go_ret
  exact ⟨⟨p,cap,rfl,hcap,hsr⟩,hb⟩
theorem parts_any (s:ByteArray) (m:Int) (w:World) (hs:s.size≤1048576) (hm:w.cell? ⟨0,0,none⟩=some (.int .i64 m)) :
  Calls Tryz.prog 222 #[.string s] w fun e w'=>(∃ p cap,e=.returned (.slice p (prts s).length cap)∧SRw w' p (prts s))∧Below w.heap.size w w' :=
 (parts_cap s m w hs hm).mono fun _ _ ⟨⟨p,cap,h1,_,h2⟩,h3⟩=>⟨⟨p,cap,h1,h2⟩,h3⟩
end Go.Proofs.YtnoopcenogbjiaaGreatDoor
