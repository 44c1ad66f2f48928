/-
 The walk of the reference's Hex.
-/
import Derived.Test.YtnoopcenogbjiaaGreatDoorLawPostPk
set_option linter.unusedVariables false
set_option linter.unusedSimpArgs false
namespace Go.Proofs.YtnoopcenogbjiaaGreatDoor
open Go.RowKit
set_option maxHeartbeats 1000000 in
set_option maxRecDepth 4000 in
theorem rhex_any (s:ByteArray) (w:World) (hs:s.size≤70368744177664) :
  Calls Tryz.prog 82 #[.string s] w fun e w'=>e=.returned (.string (str (hexL s.data.toList)))∧Below w.heap.size w w':=by
 obtain ⟨i0,hi,hz0,hz1,hz2⟩:=info_parts Tryz.info5
 go_enter Tryz.func82,Tryz.ntmps82
 have hown1:(w.alloc (.cells #[] 5)).ownsRow w.heap.size 5 1 (.slice (some ⟨w.heap.size,0,none⟩) 0 0) 0 (bcells (hexL (s.data.toList.take 0))):=World.ownsRow_lit w #[] 0 (Nat.le_refl _) (by decide) rfl
 have hb1:Below w.heap.size w (w.alloc (.cells #[] 5)):=(Below.refl _ _).alloc (Nat.le_refl _) _
 go_wp2
 go_loopw [4,5] (fun v i wr=>∃ k:Nat,k≤s.size∧i=.int .i64 k∧wr.ownsRow w.heap.size 5 1 v (2*k) (bcells (hexL (s.data.toList.take k)))∧Below w.heap.size w wr)
  (fun _ i _=>s.size-(intOf i).toNat)
 case atStart=>exact ⟨0,by omega,rfl,hown1,hb1⟩
 case round =>
  clear hown1 hb1
  obtain ⟨k,hk,rfl,hown,hbel⟩:=hrel
  by_cases hlt:k<s.size
  ·have hc:=UInt8.toNat_lt s[k]
   have x1:=hex_index (s[k].toNat / 16) (by omega)
   have x2:=hex_index (s[k].toNat%16) (by omega)
   have HT:Hid (hexL (s.data.toList.take (k+1))=hexL (s.data.toList.take k)++[dig16 (s[k].toNat / 16),dig16 (s[k].toNat%16)]):=by
    show _=_
    rw [take_snoc s k hlt,hexL_append];rfl
   obtain ⟨x,hx⟩:∃ x,x=s[k].toNat / 16:=⟨_,rfl⟩
   obtain ⟨y,hy⟩:∃ y,y=s[k].toNat%16:=⟨_,rfl⟩
   have e1:(s[k].toNat:Int) / 16=(x:Int):=by rw [hx];rfl
   have e2:(s[k].toNat:Int).tmod 16=(y:Int):=by rw [hy];rfl
   rw [←hy] at x2 HT
   rw [←hx] at x1 HT
   obtain ⟨X,hX⟩:∃ X,X=dig16 x:=⟨_,rfl⟩
   obtain ⟨Y,hY⟩:∃ Y,Y=dig16 y:=⟨_,rfl⟩
   rw [←hX] at x1 HT
   rw [←hY] at x2 HT
   have v1:IntKind.u8.wrap (x:Int)=(x:Int):=IntWalk.u8_in _ (by omega)
   have v2:IntKind.u8.wrap (y:Int)=(y:Int):=IntWalk.u8_in _ (by omega)
   clear hx hy hX hY hc
   go_upto_region 6 with fail
   go_region_law (refine step_append_lies _ rfl (.tmp 13) (.tmp 26) 131 rfl w.heap.size 5 i0 (.int .u8 0) 1 1 Tryz.underlying131 hi hz0 hz1 hz2 rfl (by decide) _ _ _ rfl (World.ownsRow.alloc (w:=wr.drew) hown _) ⟨wr.heap.size,0,none⟩ 2 2 (bcells [X,Y]) rfl rfl (fun j u hj=>four_cells' wr.drew _ _ j u rfl hj) (bcells_one _) (by decide) (by unfold maxLen;omega) (by omega) (by have:=hbel.size;simp;omega) _ rfl ?_;intro g cap w3 ho3 hg3 _ _)
   all_goals
    have hb3:Below w.heap.size w w3:=app_step hbel hown (grown_drew hg3) (Nat.le_refl _) hbel.size
    clear hown hg3 hbel x1 x2 e1 e2 v1 v2
    go_wp2
    go_roundw
    case rel=>exact ⟨k+1,by omega,by go_num,owns_eq ho3 (by rw [HT.out,bcells_append]),hb3⟩
    case measure=>simp [intOf];omega
  ·obtain rfl:k=s.size:=by omega
   have hcl:=conv_owned (P:=Tryz.prog) 131 9 5 Tryz.underlying131 Tryz.underlying5 Tryz.underlying9 hown
   rw [take_all] at hcl
   clear hown
   go_wp2
   go_ret
   exact ⟨rfl,hbel⟩
end Go.Proofs.YtnoopcenogbjiaaGreatDoor
