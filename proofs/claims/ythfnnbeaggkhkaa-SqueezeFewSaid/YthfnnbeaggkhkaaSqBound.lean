/-
  The walks of Bound, the program's and the reference's.
-/
import Derived.Test.YthfnnbeaggkhkaaSqDec
namespace Go.Proofs.Ythfnnbeaggkhkaa
open Go.RowKit

/-- The bound of a length. -/
def bnd (n : Nat) : Nat := n + n / 64 + 16
theorem bnd_cast (n : Nat) : ((bnd n : Nat) : Int) = (n : Int) + (n : Int) / 64 + 16 := by simp [bnd]

set_option maxHeartbeats 1000000 in
set_option maxRecDepth 4000 in
theorem bound_nat (n : Nat) (w : World) (hn : n ≤ 1125899906842624) : Calls Try.prog 17 #[.int .i64 n] w fun e w' => e = .returned (.int .i64 (bnd n)) ∧ w = w' := by
  have HB := bnd_cast n
  obtain ⟨B, hB⟩ : ∃ B, B = bnd n := ⟨_, rfl⟩
  rw [← hB] at HB ⊢
  have HBB : Hid ((B : Int) = (n : Int) + (n : Int) / 64 + 16) := HB
  clear HB hB
  go_enter Try.func17, Try.ntmps17
  go_wp2

  go_ret
  exact ⟨by rw [HBB.out]; rfl, rfl⟩

set_option maxHeartbeats 1000000 in
set_option maxRecDepth 4000 in
theorem bound_neg (n : Int) (w : World) (hn : n < 0) : Calls Try.prog 17 #[.int .i64 n] w fun e w' => e = .returned (.int .i64 16) ∧ w = w' := by
  go_enter Try.func17, Try.ntmps17
  go_wp2

  go_ret
  exact ⟨rfl, rfl⟩

set_option maxHeartbeats 1000000 in
set_option maxRecDepth 4000 in
theorem rbound_nat (n : Nat) (w : World) (hn : n ≤ 1125899906842624) : Calls Try.prog 20 #[.int .i64 n] w fun e w' => e = .returned (.int .i64 (bnd n)) ∧ w = w' := by
  have HB := bnd_cast n
  obtain ⟨B, hB⟩ : ∃ B, B = bnd n := ⟨_, rfl⟩
  rw [← hB] at HB ⊢
  have HBB : Hid ((B : Int) = (n : Int) + (n : Int) / 64 + 16) := HB
  clear HB hB
  go_enter Try.func20, Try.ntmps20
  go_wp2

  go_ret
  exact ⟨by rw [HBB.out]; rfl, rfl⟩

set_option maxHeartbeats 1000000 in
set_option maxRecDepth 4000 in
theorem rbound_neg (n : Int) (w : World) (hn : n < 0) : Calls Try.prog 20 #[.int .i64 n] w fun e w' => e = .returned (.int .i64 16) ∧ w = w' := by
  go_enter Try.func20, Try.ntmps20
  go_wp2

  go_ret
  exact ⟨rfl, rfl⟩
end Go.Proofs.Ythfnnbeaggkhkaa
