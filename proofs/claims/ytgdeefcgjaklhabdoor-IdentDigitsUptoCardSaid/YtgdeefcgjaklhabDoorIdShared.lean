/-
  The walk of shared.
-/
import Derived.Test.YtgdeefcgjaklhabDoorAid
import Derived.IntWalk
import Derived.RegionTactic
import Derived.Deep.QuietTactic
namespace Go.Proofs.YtgdeefcgjaklhabDoor
open Go.RowKit

theorem drewN_two (w : World) (m q : Nat) : (w.drewN m).drewN q = w.drewN (m + q) := by simp [World.drewN, Nat.add_assoc]

set_option maxHeartbeats 1000000 in
set_option maxRecDepth 4000 in
theorem shared_any (a b : ByteArray) (n : Nat) (w : World) (ha : n < a.size) (hb : n < b.size) (hs : a.size ≤ 140737488355328) (hj : ∀ j (h : j < n), a[j]'(Nat.lt_trans h ha) = b[j]'(Nat.lt_trans h hb)) (hn : a[n] ≠ b[n]) :
    Calls Tryd.prog 39 #[.string a, .string b] w fun e w' => e = .returned (.int .i64 n) ∧ ∃ m, w' = w.drewN m := by
  have HJ : Hid (∀ j (h : j < n), a[j]'(Nat.lt_trans h ha) = b[j]'(Nat.lt_trans h hb)) := hj
  have HN : Hid (a[n] ≠ b[n]) := hn
  clear hj hn
  go_enter Tryd.func39, Tryd.ntmps39
  go_wp2
  go_loopw [5] (fun i wr => ∃ k m : Nat, k ≤ n ∧ i = .int .i64 k ∧ wr = w.drewN m) (fun i _ => n - (intOf i).toNat)
  case atStart => exact ⟨0, 0, by omega, rfl, rfl⟩
  case round =>
    obtain ⟨k, m, hk, rfl, rfl⟩ := hrel
    have ka : k < a.size := by omega
    have kb : k < b.size := by omega
    by_cases hlt : k < n
    · have e : a[k] = b[k] := HJ.out k hlt
      obtain ⟨x, hx⟩ : ∃ x, x = a[k].toNat := ⟨_, rfl⟩
      have h1 : a[k].toNat = x := hx.symm
      have h2 : b[k].toNat = x := by rw [← e, h1]
      clear e hx
      go_wp2
      go_quiet (fail)
      go_wp2
      go_roundw
      case rel => exact ⟨k + 1, _, by omega, by go_num, rfl⟩
      case measure => simp [intOf]; omega
    · obtain rfl : k = n := by omega
      have h1 : ((a[k].toNat : Int) == (b[k].toNat : Int)) = false := by
        have h := HN.out
        simp only [beq_eq_false_iff_ne, ne_eq]
        intro h'
        exact h (UInt8.toNat_inj.1 (by omega))
      go_wp2
      go_quiet (fail)
      go_wp2
      go_ret
      exact ⟨rfl, _, drewN_two _ _ _⟩
end Go.Proofs.YtgdeefcgjaklhabDoor
