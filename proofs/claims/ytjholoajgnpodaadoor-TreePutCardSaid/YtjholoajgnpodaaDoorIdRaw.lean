/-
  The walk of Raw.
-/
import Derived.Test.YtjholoajgnpodaaDoorIdDigitPk
import Derived.RegionTactic
import Derived.Deep.MidRow
import Derived.WalkSmall
import Derived.BigQuiet
import Derived.Deep.QuietTactic
import Derived.IntWalk
namespace Go.Proofs.YtjholoajgnpodaaDoor
open Go.RowKit

def hv (b : UInt8) : Nat := (halfOf b).getD 0
theorem hv_lt (b : UInt8) : hv b < 16 := by
  unfold hv halfOf
  split
  · simp; omega
  · split
    · simp; omega
    · simp
/-- n bytes, from two digits each. -/
def rawL (l : List UInt8) (n : Nat) : List UInt8 := (List.range n).map fun i => UInt8.ofNat (hv (l.getD (2 * i) 0) * 16 + hv (l.getD (2 * i + 1) 0))
theorem rawL_next (l : List UInt8) (n : Nat) : rawL l (n + 1) = rawL l n ++ [UInt8.ofNat (hv (l.getD (2 * n) 0) * 16 + hv (l.getD (2 * n + 1) 0))] := by
  simp [rawL, List.range_succ]
theorem or_half (x y : Nat) (hx : x < 16) (hy : y < 16) : bits .or .u8 ((x : Int) * 16) (y : Int) = (((UInt8.ofNat (x * 16 + y)).toNat : Nat) : Int) := by
  rw [show ((x : Int) * 16) = ((x * 16 : Nat) : Int) by omega, u8_or_nat _ _ (by omega) (by omega), nat_join 4 (x * 16) y (by omega) (by omega), u8nat (by omega)]
theorem half_id (b : UInt8) (w : World) : ∃ p, Calls Tryd.prog 47 #[.int .u8 b.toNat] w fun e w' => e = .returned (.tuple #[.int .u8 (hv b : Nat), .bool p]) ∧ w = w' := ⟨_, half_any b w⟩

set_option maxHeartbeats 1000000 in
set_option maxRecDepth 10000 in
theorem raw_any (s : ByteArray) (w : World) (hs : s.size ≤ 140737488355328) :
    Calls Tryd.prog 28 #[.string s] w fun e w' => e = .returned (.tuple #[.string (if isId s then str (rawL s.data.toList 20) else ⟨#[]⟩), .bool (isId s)]) ∧ Below w.heap.size w w' := by
  obtain ⟨i0, hi, hz0, hz1, hz2⟩ := info_parts Tryd.info5
  have hc := is_any s w hs
  obtain ⟨p, hp⟩ : ∃ p, p = isId s := ⟨_, rfl⟩
  rw [← hp] at hc ⊢
  have HC : Hid (Calls Tryd.prog 46 #[.string s] w fun e w' => e = .returned (.bool p) ∧ w = w') := hc
  have HP : Hid (p = isId s) := hp
  clear hc hp
  go_enter Tryd.func28, Tryd.ntmps28
  cases p with
  | false =>
    go_wp2_with (go_at_call 46; refine HC.out.mono ?_; rintro e w' ⟨rfl, rfl⟩)
    go_ret2
    exact ⟨rfl, Below.refl _ _⟩
  | true =>
    have hl : s.size = 40 := by have hp := HP.out; simp [isId] at hp; exact hp.1
    have HL : Hid (s.size = 40) := hl
    have hl1 : 40 ≤ s.size := by omega
    clear hl HP
    go_wp2_with (first
      | (go_at_call 46; refine HC.out.mono ?_; rintro e w' ⟨rfl, rfl⟩)
      | (at_make; refine wpList_make_own _ rfl _ _ 44 rfl w.heap.size 5 i0 (.int .u8 0) 1 Tryd.underlying44 hi hz0 hz1 _ _ _ 20 rfl rfl (by omega) (by omega) (by decide) (Nat.le_refl _) ?_))
    intro w1 hown1 hgrow1
    have hb1 : Below w.heap.size w w1 := (Below.refl _ _).grown hgrow1 (Nat.le_refl _) (by simp)
    clear hgrow1
    go_wp2
    go_loopw [4, 14] (fun v i wr => ∃ k : Nat, k ≤ 20 ∧ i = .int .i64 k ∧ wr.ownsRow w.heap.size 5 1 v k (bcells (rawL s.data.toList k)) ∧ Below w.heap.size w wr)
      (fun _ i _ => 20 - (intOf i).toNat)
    case atStart => exact ⟨0, by omega, rfl, hown1, hb1⟩
    case round =>
      clear hown1 hb1
      obtain ⟨k, hk, rfl, hown, hbel⟩ := hrel
      by_cases hlt : k < 20
      · obtain ⟨p1, h1⟩ := half_id s[2 * k] wr
        obtain ⟨p2, h2⟩ := half_id s[2 * k + 1] wr
        have x16 := hv_lt s[2 * k]
        have y16 := hv_lt s[2 * k + 1]
        have hor := or_half _ _ x16 y16
        have HT : Hid (rawL s.data.toList (k + 1) = rawL s.data.toList k ++ [UInt8.ofNat (hv s[2 * k] * 16 + hv s[2 * k + 1])]) := by
          show _ = _
          rw [rawL_next, getD_byte s _ (by omega), getD_byte s _ (by omega)]
        obtain ⟨x, hx⟩ : ∃ x, x = hv s[2 * k] := ⟨_, rfl⟩
        obtain ⟨y, hy⟩ : ∃ y, y = hv s[2 * k + 1] := ⟨_, rfl⟩
        rw [← hx] at h1 x16 hor HT
        rw [← hy] at h2 y16 hor HT
        obtain ⟨c, hcc⟩ : ∃ c, c = UInt8.ofNat (x * 16 + y) := ⟨_, rfl⟩
        rw [← hcc] at hor HT
        have HH1 : Hid (Calls Tryd.prog 47 #[.int .u8 s[2 * k].toNat] wr fun e w' => e = .returned (.tuple #[.int .u8 (x : Int), .bool p1]) ∧ wr = w') := h1
        have HH2 : Hid (Calls Tryd.prog 47 #[.int .u8 s[2 * k + 1].toNat] wr fun e w' => e = .returned (.tuple #[.int .u8 (y : Int), .bool p2]) ∧ wr = w') := h2
        have e1 : IntKind.u8.wrap ((x : Int) * 16) = (x : Int) * 16 := IntWalk.u8_in _ (by omega)
        clear h1 h2 hx hy hcc
        go_wp2_with (first
          | (go_at_call 47; first | ((with_reducible refine HH1.out.mono ?_); rintro e w' ⟨rfl, rfl⟩) | ((with_reducible refine HH2.out.mono ?_); rintro e w' ⟨rfl, rfl⟩))
          | (at_builtin; refine wpList_append_own _ rfl _ _ 44 rfl w.heap.size 5 i0 (.int .u8 0) 1 1 Tryd.underlying44 hi hz0 hz1 hz2 rfl (by decide) _ _ _ rfl (hown.alloc _) ⟨wr.heap.size, 0, none⟩ 1 1 (bcells [c]) rfl rfl (new_cell _ _ _) (bcells_one _) (by unfold maxLen; omega) (by omega) (by have := hbel.size; simp; omega) ?_))
        intro v3 w3 ho3 hg3 _
        have hb3 := app_step hbel hown hg3 (Nat.le_refl _) hbel.size
        clear hown hg3 hbel hor e1
        go_wp2
        go_roundw
        case rel => exact ⟨k + 1, by omega, by go_num, owns_eq ho3 (by rw [HT.out, bcells_append]), hb3⟩
        case measure => simp [intOf]; omega
      · obtain rfl : k = 20 := by omega
        rw [show ((20 : Nat) : Int) = 20 from rfl]
        have hcv := conv_owned (P := Tryd.prog) 44 9 5 Tryd.underlying44 Tryd.underlying5 Tryd.underlying9 hown
        clear hown
        go_wp2
        go_ret2
        exact ⟨rfl, hbel⟩
end Go.Proofs.YtjholoajgnpodaaDoor
