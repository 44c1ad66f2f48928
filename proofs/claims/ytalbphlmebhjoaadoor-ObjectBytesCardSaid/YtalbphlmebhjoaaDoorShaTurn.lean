/-
  The walks of the rotations.
-/
import Derived.Test.YtalbphlmebhjoaaDoorAid
import Derived.Test.YtalbphlmebhjoaaDoorShaPlain
import Derived.BigQuiet
import Derived.Deep.QuietTactic
namespace Go.Proofs.YtalbphlmebhjoaaDoor
open Go.RowKit

def Turns (n : Nat) : Prop := n = 2 ∨ n = 6 ∨ n = 7 ∨ n = 11 ∨ n = 13 ∨ n = 17 ∨ n = 18 ∨ n = 19 ∨ n = 22 ∨ n = 25

theorem rot_left {x n : Nat} (_hx : x < 4294967296) (_h1 : 1 ≤ n) (_h2 : n ≤ 31) (X Y : Int) (hX : X = ((x * 2 ^ (32 - n) % 4294967296 : Nat) : Int)) (hY : Y = ((x / 2 ^ n : Nat) : Int)) : bits .or .u32 X Y = (rotr x n : Nat) := by
  subst hX hY
  rw [u32_or_nat _ _ (Nat.mod_lt _ (by decide)) (Nat.lt_of_le_of_lt (Nat.div_le_self _ _) _hx), Nat.or_comm]
  rfl
theorem rot_right {x n : Nat} (_hx : x < 4294967296) (X Y : Int) (hX : X = ((x / 2 ^ n : Nat) : Int)) (hY : Y = ((x * 2 ^ (32 - n) % 4294967296 : Nat) : Int)) : bits .or .u32 X Y = (rotr x n : Nat) := by
  subst hX hY
  rw [u32_or_nat _ _ (Nat.lt_of_le_of_lt (Nat.div_le_self _ _) _hx) (Nat.mod_lt _ (by decide))]
  rfl

set_option maxRecDepth 4000 in
theorem turned_2 (x : Nat) (w : World) (hx : x < 4294967296) :
    Calls Tryd.prog 65 #[.int .u32 x, .int .i64 2] w fun e w' => e = .returned (.int .u32 (rotr x 2 : Nat)) ∧ w = w' := by
  have h1 : bits .and .u64 (IntKind.u64.wrap (-2)) 31 = 30 := by decide
  go_enter Tryd.func65, Tryd.ntmps65
  go_wp2
  go_ret
  exact ⟨ret_int (rot_left hx (by decide) (by decide) _ _ (by simp) (by simp)), rfl⟩
set_option maxRecDepth 4000 in
theorem turn_2 (x : Nat) (w : World) (hx : x < 4294967296) :
    Calls Tryd.prog 50 #[.int .u32 x, .int .i64 2] w fun e w' => e = .returned (.int .u32 (rotr x 2 : Nat)) ∧ ∃ n, w' = w.drewN n := by
  go_enter Tryd.func50, Tryd.ntmps50
  go_wp2
  go_quiet (fail)
  go_wp2
  go_ret
  exact ⟨ret_int (rot_right hx _ _ (by simp) (by simp)), _, rfl⟩
set_option maxRecDepth 4000 in
theorem turned_6 (x : Nat) (w : World) (hx : x < 4294967296) :
    Calls Tryd.prog 65 #[.int .u32 x, .int .i64 6] w fun e w' => e = .returned (.int .u32 (rotr x 6 : Nat)) ∧ w = w' := by
  have h1 : bits .and .u64 (IntKind.u64.wrap (-6)) 31 = 26 := by decide
  go_enter Tryd.func65, Tryd.ntmps65
  go_wp2
  go_ret
  exact ⟨ret_int (rot_left hx (by decide) (by decide) _ _ (by simp) (by simp)), rfl⟩
set_option maxRecDepth 4000 in
theorem turn_6 (x : Nat) (w : World) (hx : x < 4294967296) :
    Calls Tryd.prog 50 #[.int .u32 x, .int .i64 6] w fun e w' => e = .returned (.int .u32 (rotr x 6 : Nat)) ∧ ∃ n, w' = w.drewN n := by
  go_enter Tryd.func50, Tryd.ntmps50
  go_wp2
  go_quiet (fail)
  go_wp2
  go_ret
  exact ⟨ret_int (rot_right hx _ _ (by simp) (by simp)), _, rfl⟩
set_option maxRecDepth 4000 in
theorem turned_7 (x : Nat) (w : World) (hx : x < 4294967296) :
    Calls Tryd.prog 65 #[.int .u32 x, .int .i64 7] w fun e w' => e = .returned (.int .u32 (rotr x 7 : Nat)) ∧ w = w' := by
  have h1 : bits .and .u64 (IntKind.u64.wrap (-7)) 31 = 25 := by decide
  go_enter Tryd.func65, Tryd.ntmps65
  go_wp2
  go_ret
  exact ⟨ret_int (rot_left hx (by decide) (by decide) _ _ (by simp) (by simp)), rfl⟩
set_option maxRecDepth 4000 in
theorem turn_7 (x : Nat) (w : World) (hx : x < 4294967296) :
    Calls Tryd.prog 50 #[.int .u32 x, .int .i64 7] w fun e w' => e = .returned (.int .u32 (rotr x 7 : Nat)) ∧ ∃ n, w' = w.drewN n := by
  go_enter Tryd.func50, Tryd.ntmps50
  go_wp2
  go_quiet (fail)
  go_wp2
  go_ret
  exact ⟨ret_int (rot_right hx _ _ (by simp) (by simp)), _, rfl⟩
set_option maxRecDepth 4000 in
theorem turned_11 (x : Nat) (w : World) (hx : x < 4294967296) :
    Calls Tryd.prog 65 #[.int .u32 x, .int .i64 11] w fun e w' => e = .returned (.int .u32 (rotr x 11 : Nat)) ∧ w = w' := by
  have h1 : bits .and .u64 (IntKind.u64.wrap (-11)) 31 = 21 := by decide
  go_enter Tryd.func65, Tryd.ntmps65
  go_wp2
  go_ret
  exact ⟨ret_int (rot_left hx (by decide) (by decide) _ _ (by simp) (by simp)), rfl⟩
set_option maxRecDepth 4000 in
theorem turn_11 (x : Nat) (w : World) (hx : x < 4294967296) :
    Calls Tryd.prog 50 #[.int .u32 x, .int .i64 11] w fun e w' => e = .returned (.int .u32 (rotr x 11 : Nat)) ∧ ∃ n, w' = w.drewN n := by
  go_enter Tryd.func50, Tryd.ntmps50
  go_wp2
  go_quiet (fail)
  go_wp2
  go_ret
  exact ⟨ret_int (rot_right hx _ _ (by simp) (by simp)), _, rfl⟩
set_option maxRecDepth 4000 in
theorem turned_13 (x : Nat) (w : World) (hx : x < 4294967296) :
    Calls Tryd.prog 65 #[.int .u32 x, .int .i64 13] w fun e w' => e = .returned (.int .u32 (rotr x 13 : Nat)) ∧ w = w' := by
  have h1 : bits .and .u64 (IntKind.u64.wrap (-13)) 31 = 19 := by decide
  go_enter Tryd.func65, Tryd.ntmps65
  go_wp2
  go_ret
  exact ⟨ret_int (rot_left hx (by decide) (by decide) _ _ (by simp) (by simp)), rfl⟩
set_option maxRecDepth 4000 in
theorem turn_13 (x : Nat) (w : World) (hx : x < 4294967296) :
    Calls Tryd.prog 50 #[.int .u32 x, .int .i64 13] w fun e w' => e = .returned (.int .u32 (rotr x 13 : Nat)) ∧ ∃ n, w' = w.drewN n := by
  go_enter Tryd.func50, Tryd.ntmps50
  go_wp2
  go_quiet (fail)
  go_wp2
  go_ret
  exact ⟨ret_int (rot_right hx _ _ (by simp) (by simp)), _, rfl⟩
set_option maxRecDepth 4000 in
theorem turned_17 (x : Nat) (w : World) (hx : x < 4294967296) :
    Calls Tryd.prog 65 #[.int .u32 x, .int .i64 17] w fun e w' => e = .returned (.int .u32 (rotr x 17 : Nat)) ∧ w = w' := by
  have h1 : bits .and .u64 (IntKind.u64.wrap (-17)) 31 = 15 := by decide
  go_enter Tryd.func65, Tryd.ntmps65
  go_wp2
  go_ret
  exact ⟨ret_int (rot_left hx (by decide) (by decide) _ _ (by simp) (by simp)), rfl⟩
set_option maxRecDepth 4000 in
theorem turn_17 (x : Nat) (w : World) (hx : x < 4294967296) :
    Calls Tryd.prog 50 #[.int .u32 x, .int .i64 17] w fun e w' => e = .returned (.int .u32 (rotr x 17 : Nat)) ∧ ∃ n, w' = w.drewN n := by
  go_enter Tryd.func50, Tryd.ntmps50
  go_wp2
  go_quiet (fail)
  go_wp2
  go_ret
  exact ⟨ret_int (rot_right hx _ _ (by simp) (by simp)), _, rfl⟩
set_option maxRecDepth 4000 in
theorem turned_18 (x : Nat) (w : World) (hx : x < 4294967296) :
    Calls Tryd.prog 65 #[.int .u32 x, .int .i64 18] w fun e w' => e = .returned (.int .u32 (rotr x 18 : Nat)) ∧ w = w' := by
  have h1 : bits .and .u64 (IntKind.u64.wrap (-18)) 31 = 14 := by decide
  go_enter Tryd.func65, Tryd.ntmps65
  go_wp2
  go_ret
  exact ⟨ret_int (rot_left hx (by decide) (by decide) _ _ (by simp) (by simp)), rfl⟩
set_option maxRecDepth 4000 in
theorem turn_18 (x : Nat) (w : World) (hx : x < 4294967296) :
    Calls Tryd.prog 50 #[.int .u32 x, .int .i64 18] w fun e w' => e = .returned (.int .u32 (rotr x 18 : Nat)) ∧ ∃ n, w' = w.drewN n := by
  go_enter Tryd.func50, Tryd.ntmps50
  go_wp2
  go_quiet (fail)
  go_wp2
  go_ret
  exact ⟨ret_int (rot_right hx _ _ (by simp) (by simp)), _, rfl⟩
set_option maxRecDepth 4000 in
theorem turned_19 (x : Nat) (w : World) (hx : x < 4294967296) :
    Calls Tryd.prog 65 #[.int .u32 x, .int .i64 19] w fun e w' => e = .returned (.int .u32 (rotr x 19 : Nat)) ∧ w = w' := by
  have h1 : bits .and .u64 (IntKind.u64.wrap (-19)) 31 = 13 := by decide
  go_enter Tryd.func65, Tryd.ntmps65
  go_wp2
  go_ret
  exact ⟨ret_int (rot_left hx (by decide) (by decide) _ _ (by simp) (by simp)), rfl⟩
set_option maxRecDepth 4000 in
theorem turn_19 (x : Nat) (w : World) (hx : x < 4294967296) :
    Calls Tryd.prog 50 #[.int .u32 x, .int .i64 19] w fun e w' => e = .returned (.int .u32 (rotr x 19 : Nat)) ∧ ∃ n, w' = w.drewN n := by
  go_enter Tryd.func50, Tryd.ntmps50
  go_wp2
  go_quiet (fail)
  go_wp2
  go_ret
  exact ⟨ret_int (rot_right hx _ _ (by simp) (by simp)), _, rfl⟩
set_option maxRecDepth 4000 in
theorem turned_22 (x : Nat) (w : World) (hx : x < 4294967296) :
    Calls Tryd.prog 65 #[.int .u32 x, .int .i64 22] w fun e w' => e = .returned (.int .u32 (rotr x 22 : Nat)) ∧ w = w' := by
  have h1 : bits .and .u64 (IntKind.u64.wrap (-22)) 31 = 10 := by decide
  go_enter Tryd.func65, Tryd.ntmps65
  go_wp2
  go_ret
  exact ⟨ret_int (rot_left hx (by decide) (by decide) _ _ (by simp) (by simp)), rfl⟩
set_option maxRecDepth 4000 in
theorem turn_22 (x : Nat) (w : World) (hx : x < 4294967296) :
    Calls Tryd.prog 50 #[.int .u32 x, .int .i64 22] w fun e w' => e = .returned (.int .u32 (rotr x 22 : Nat)) ∧ ∃ n, w' = w.drewN n := by
  go_enter Tryd.func50, Tryd.ntmps50
  go_wp2
  go_quiet (fail)
  go_wp2
  go_ret
  exact ⟨ret_int (rot_right hx _ _ (by simp) (by simp)), _, rfl⟩
set_option maxRecDepth 4000 in
theorem turned_25 (x : Nat) (w : World) (hx : x < 4294967296) :
    Calls Tryd.prog 65 #[.int .u32 x, .int .i64 25] w fun e w' => e = .returned (.int .u32 (rotr x 25 : Nat)) ∧ w = w' := by
  have h1 : bits .and .u64 (IntKind.u64.wrap (-25)) 31 = 7 := by decide
  go_enter Tryd.func65, Tryd.ntmps65
  go_wp2
  go_ret
  exact ⟨ret_int (rot_left hx (by decide) (by decide) _ _ (by simp) (by simp)), rfl⟩
set_option maxRecDepth 4000 in
theorem turn_25 (x : Nat) (w : World) (hx : x < 4294967296) :
    Calls Tryd.prog 50 #[.int .u32 x, .int .i64 25] w fun e w' => e = .returned (.int .u32 (rotr x 25 : Nat)) ∧ ∃ n, w' = w.drewN n := by
  go_enter Tryd.func50, Tryd.ntmps50
  go_wp2
  go_quiet (fail)
  go_wp2
  go_ret
  exact ⟨ret_int (rot_right hx _ _ (by simp) (by simp)), _, rfl⟩
end Go.Proofs.YtalbphlmebhjoaaDoor
