/-
  The walk of Hex.
-/
import Derived.Test.YtjholoajgnpodaaDoorAid
import Derived.Deep.AppendLies
import Derived.Deep.RegionLaw
import Derived.IntWalk
import Derived.Deep.DeepCutAuto
namespace Go.Proofs.YtjholoajgnpodaaDoor
open Go.RowKit

/-- The digit of a half byte. -/
def dig16 (n : Nat) : UInt8 := if n < 10 then UInt8.ofNat (48 + n) else UInt8.ofNat (87 + n)
def hexL : List UInt8 → List UInt8
  | [] => []
  | b :: l => dig16 (b.toNat / 16) :: dig16 (b.toNat % 16) :: hexL l
theorem hexL_len (l : List UInt8) : (hexL l).length = 2 * l.length := by
  induction l with
  | nil => rfl
  | cons b l ih => simp [hexL, ih]; omega
theorem hexL_append (l m : List UInt8) : hexL (l ++ m) = hexL l ++ hexL m := by
  induction l with
  | nil => rfl
  | cons b l ih => simp [hexL, ih]
def hexTab : ByteArray := { data := #[48, 49, 50, 51, 52, 53, 54, 55, 56, 57, 97, 98, 99, 100, 101, 102] }
theorem hexTab_get : ∀ n : Fin 16, hexTab.data[n.val]? = some (dig16 n.val) := by decide

theorem hex_index (n : Nat) (hn : n < 16) (w : World) : (Instr.index 9 (.string { data := #[48, 49, 50, 51, 52, 53, 54, 55, 56, 57, 97, 98, 99, 100, 101, 102] }) (.int .u8 (n : Int))).run Tryd.prog w = .ok (.int .u8 ((dig16 n).toNat : Int)) w := by
  rcases (by omega : n = 0 ∨ n = 1 ∨ n = 2 ∨ n = 3 ∨ n = 4 ∨ n = 5 ∨ n = 6 ∨ n = 7 ∨ n = 8 ∨ n = 9 ∨ n = 10 ∨ n = 11 ∨ n = 12 ∨ n = 13 ∨ n = 14 ∨ n = 15) with rfl | rfl | rfl | rfl | rfl | rfl | rfl | rfl | rfl | rfl | rfl | rfl | rfl | rfl | rfl | rfl <;> kernel_rfl
theorem and15 (c : Nat) (hc : c < 256) : bits .and .u8 (c : Int) 15 = ((c % 16 : Nat) : Int) := by
  have h := u8_and_nat c 15 hc (by omega)
  rw [show (15 : Int) = ((15 : Nat) : Int) from rfl, h, show (15 : Nat) = 2 ^ 4 - 1 from rfl, Nat.and_two_pow_sub_one_eq_mod]

theorem four_cells' (wr : World) (C : Array Value) (l : List UInt8) (j : Nat) (u : Value) {t : TypeId} (hC : C = (bcells l).toArray) (hj : (bcells l)[j]? = some u) : (wr.alloc (.cells C t)).cell? ((⟨wr.heap.size, 0, none⟩ : Addr).add j) = some u := by
  subst hC
  rw [Addr.add_lit, Nat.zero_add, World.cell?_alloc_mark]
  simpa using hj

theorem grown_drew {w w' : World} {r : Option Nat} (h : w.drew.grownBy w' r) : w.grownBy w' r := ⟨h.os, h.tape, h.output, h.size, h.block⟩

set_option maxHeartbeats 1000000 in
set_option maxRecDepth 4000 in
theorem hex_any (s : ByteArray) (w : World) (hs : s.size ≤ 70368744177664) :
    Calls Tryd.prog 53 #[.string s] w fun e w' => e = .returned (.string (str (hexL s.data.toList))) ∧ Below w.heap.size w w' := by
  obtain ⟨i0, hi, hz0, hz1, hz2⟩ := info_parts Tryd.info5
  go_enter Tryd.func53, Tryd.ntmps53
  have i1 : IntKind.i64.wrap (2 * (s.size : Int)) = 2 * (s.size : Int) := IntWalk.i64_in _ (by omega)
  go_wp2_with (at_make; refine wpList_make_own _ rfl _ _ 44 rfl w.heap.size 5 i0 (.int .u8 0) 1 Tryd.underlying44 hi hz0 hz1 _ _ _ (2 * s.size) rfl rfl (by omega) ?b1 ?b2 ?b3 ?_)
  case b1 => rw [hz2]; omega
  case b2 => unfold maxLen; omega
  case b3 => exact Nat.le_refl _
  intro w1 hown1 hgrow1
  have hb1 : Below w.heap.size w w1 := (Below.refl _ _).grown hgrow1 (Nat.le_refl _) (by simp)
  clear i1
  go_wp2
  go_loopw [3, 11] (fun v i wr => ∃ k : Nat, k ≤ s.size ∧ i = .int .i64 k ∧ wr.ownsRow w.heap.size 5 1 v (2 * k) (bcells (hexL (s.data.toList.take k))) ∧ Below w.heap.size w wr)
    (fun _ i _ => s.size - (intOf i).toNat)
  case atStart => exact ⟨0, by omega, rfl, hown1, hb1⟩
  case round =>
    clear hown1 hb1 hgrow1
    obtain ⟨k, hk, rfl, hown, hbel⟩ := hrel
    by_cases hlt : k < s.size
    · have hc := UInt8.toNat_lt s[k]
      have e2 := and15 _ hc
      have x1 := hex_index (s[k].toNat / 16) (by omega)
      have x2 := hex_index (s[k].toNat % 16) (by omega)
      have HT : Hid (hexL (s.data.toList.take (k + 1)) = hexL (s.data.toList.take k) ++ [dig16 (s[k].toNat / 16), dig16 (s[k].toNat % 16)]) := by
        show _ = _
        rw [take_snoc s k hlt, hexL_append]; rfl
      obtain ⟨x, hx⟩ : ∃ x, x = s[k].toNat / 16 := ⟨_, rfl⟩
      obtain ⟨y, hy⟩ : ∃ y, y = s[k].toNat % 16 := ⟨_, rfl⟩
      have e1 : (s[k].toNat : Int) / 16 = (x : Int) := by rw [hx]; rfl
      rw [← hy] at e2 x2 HT
      rw [← hx] at x1 HT
      obtain ⟨X, hX⟩ : ∃ X, X = dig16 x := ⟨_, rfl⟩
      obtain ⟨Y, hY⟩ : ∃ Y, Y = dig16 y := ⟨_, rfl⟩
      rw [← hX] at x1 HT
      rw [← hY] at x2 HT
      clear hx hy hX hY hc
      go_upto_region 5 with fail
      go_region_law (refine step_append_lies _ rfl (.tmp 14) (.tmp 25) 44 rfl w.heap.size 5 i0 (.int .u8 0) 1 1 Tryd.underlying44 hi hz0 hz1 hz2 rfl (by decide) _ _ _ rfl (World.ownsRow.alloc (w := wr.drew) hown _) ⟨wr.heap.size, 0, none⟩ 2 2 (bcells [X, Y]) rfl rfl (fun j u hj => four_cells' wr.drew _ _ j u rfl hj) (bcells_one _) (by decide) (by unfold maxLen; omega) (by omega) (by have := hbel.size; simp; omega) _ rfl ?_; intro g cap w3 ho3 hg3 _ _)
      all_goals
        have hb3 : Below w.heap.size w w3 := app_step hbel hown (grown_drew hg3) (Nat.le_refl _) hbel.size
        clear hown hg3 hbel x1 x2 e1 e2
        go_wp2
        go_roundw
        case rel => exact ⟨k + 1, by omega, by go_num, owns_eq ho3 (by rw [HT.out, bcells_append]), hb3⟩
        case measure => simp [intOf]; omega
    · obtain rfl : k = s.size := by omega
      have hcl := conv_owned (P := Tryd.prog) 44 9 5 Tryd.underlying44 Tryd.underlying5 Tryd.underlying9 hown
      rw [take_all] at hcl
      clear hown
      go_wp2
      go_ret
      exact ⟨rfl, hbel⟩
end Go.Proofs.YtjholoajgnpodaaDoor
