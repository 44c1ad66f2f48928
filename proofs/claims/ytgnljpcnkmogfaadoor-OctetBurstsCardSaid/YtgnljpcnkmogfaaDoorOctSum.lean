/-
  The walks of Sum and of the reference's Sum.
-/
import Derived.Test.YtgnljpcnkmogfaaDoorAid
import Derived.Test.YtgnljpcnkmogfaaDoorCrcPlain
namespace Go.Proofs.YtgnljpcnkmogfaaDoor
open Go.RowKit

/-- The table of half bytes. -/
def tab (i : Nat) : Nat := stps 4 i

theorem half_step (r : Nat) : r / 16 ^^^ tab (r % 16) = stps 4 r := by
  have e : r = (r / 16 * 2 ^ 4) ^^^ (r % 16) := by
    rw [Nat.xor_comm]
    apply Nat.eq_of_testBit_eq
    intro j
    rw [Nat.testBit_xor, show (16 : Nat) = 2 ^ 4 from rfl, Nat.testBit_mod_two_pow, Nat.testBit_mul_two_pow, Nat.testBit_div_two_pow]
    by_cases h : j < 4
    · simp [h, show ¬ 4 ≤ j by omega]
    · simp [h, show 4 ≤ j by omega]
  conv => rhs; rw [e]
  rw [stps_xor, stps_shift]
  rfl

set_option maxHeartbeats 400000 in
set_option maxRecDepth 4000 in
theorem sum_any (s : ByteArray) (w : World) (hs : s.size ≤ 4611686018427387904) (ht : ∀ i, i < 16 → w.cell? ⟨0, i, none⟩ = some (.int .u32 (tab i : Nat))) :
    Calls Tryd.prog 27 #[.string s] w fun e w' => e = .returned (.int .u32 (crc s.data.toList)) ∧ w = w' := by
  go_enter Tryd.func27, Tryd.ntmps27
  go_wp2
  go_loop [3, 7] (fun n i => ∃ k : Nat, k ≤ s.size ∧ i = .int .i64 k ∧ n = .int .u32 (run 4294967295 (s.data.toList.take k) : Nat)) (fun _ i => s.size - (intOf i).toNat)
  case atStart => exact ⟨0, by omega, rfl, rfl⟩
  case round =>
    obtain ⟨k, hk, rfl, rfl⟩ := hrel
    obtain ⟨r, hr⟩ : ∃ r, r = run 4294967295 (s.data.toList.take k) := ⟨_, rfl⟩
    rw [← hr]
    have HR : Hid (r = run 4294967295 (s.data.toList.take k)) := hr
    clear hr
    by_cases hlt : k < s.size
    · have hb := UInt8.toNat_lt s[k]
      have hrl : r < 4294967296 := by rw [HR.out]; exact run_lt (by decide) _
      obtain ⟨x1, e1⟩ : ∃ x, x = r ^^^ s[k].toNat := ⟨_, rfl⟩
      have l1 : x1 < 4294967296 := by rw [e1]; exact Nat.xor_lt_two_pow (n := 32) hrl (by omega)
      have f1 : bits .xor .u32 (r : Int) (s[k].toNat : Int) = (x1 : Int) := by rw [e1]; exact u32_xor_nat _ _ hrl (by omega)
      obtain ⟨i1, j1⟩ : ∃ x, x = x1 % 16 := ⟨_, rfl⟩
      have f2 : bits .and .u32 (x1 : Int) 15 = (i1 : Int) := by rw [j1, ← nat_mask4]; exact u32_and_nat x1 15 l1 (by decide)
      have b1 : i1 < 16 := by omega
      obtain ⟨t1, k1⟩ : ∃ x, x = tab i1 := ⟨_, rfl⟩
      have c1 := ht i1 b1
      rw [← k1] at c1
      obtain ⟨x2, e2⟩ : ∃ x, x = stps 4 x1 := ⟨_, rfl⟩
      have l2 : x2 < 4294967296 := by rw [e2]; exact stps_lt l1
      have f3 : bits .xor .u32 ((x1 : Int) / 16) (t1 : Int) = (x2 : Int) := by
        have h := u32_xor_nat (x1 / 16) t1 (by omega) (by rw [k1]; exact stps_lt (by omega))
        rw [k1, j1, half_step, ← e2, ← j1, ← k1] at h
        rw [← h]; rfl
      obtain ⟨i2, j2⟩ : ∃ x, x = x2 % 16 := ⟨_, rfl⟩
      have f4 : bits .and .u32 (x2 : Int) 15 = (i2 : Int) := by rw [j2, ← nat_mask4]; exact u32_and_nat x2 15 l2 (by decide)
      have b2 : i2 < 16 := by omega
      obtain ⟨t2, k2⟩ : ∃ x, x = tab i2 := ⟨_, rfl⟩
      have c2 := ht i2 b2
      rw [← k2] at c2
      obtain ⟨x3, e3⟩ : ∃ x, x = stps 4 x2 := ⟨_, rfl⟩
      have f5 : bits .xor .u32 ((x2 : Int) / 16) (t2 : Int) = (x3 : Int) := by
        have h := u32_xor_nat (x2 / 16) t2 (by omega) (by rw [k2]; exact stps_lt (by omega))
        rw [k2, j2, half_step, ← e3, ← j2, ← k2] at h
        rw [← h]; rfl
      have E : Hid (x3 = feed r s[k]) := by
        show _ = _
        rw [e3, e2, e1, ← stps_add]; rfl
      clear e1 e2 e3 j1 j2 k1 k2 ht l1 l2 hrl
      go_wp2
      go_round
      case rel => exact ⟨k + 1, by omega, by go_num, by rw [E.out, HR.out, take_snoc s k hlt, run_snoc]⟩
      case measure => simp [intOf]; omega
    · obtain rfl : k = s.size := by omega
      have hrl : r < 4294967296 := by rw [HR.out]; exact run_lt (by decide) _
      clear ht
      go_wp2
      go_ret
      exact ⟨ret_int (by
        have h := u32_xor_nat 4294967295 r (by decide) hrl
        have e : (IntKind.u32.max : Int) = ((4294967295 : Nat) : Int) := rfl
        rw [e, h, Nat.xor_comm, crc, HR.out, take_all]), rfl⟩

set_option maxHeartbeats 400000 in
set_option maxRecDepth 4000 in
theorem rsum_any (s : ByteArray) (w : World) (hs : s.size ≤ 4611686018427387904) :
    Calls Tryd.prog 28 #[.string s] w fun e w' => e = .returned (.int .u32 (crc s.data.toList)) ∧ w = w' := by
  go_enter Tryd.func28, Tryd.ntmps28
  go_wp2
  go_loop [3, 4] (fun n i => ∃ k : Nat, k ≤ s.size ∧ i = .int .i64 k ∧ n = .int .u32 (run 4294967295 (s.data.toList.take k) : Nat)) (fun _ i => s.size - (intOf i).toNat)
  case atStart => exact ⟨0, by omega, rfl, rfl⟩
  case round =>
    obtain ⟨k, hk, rfl, rfl⟩ := hrel
    obtain ⟨r, hr⟩ : ∃ r, r = run 4294967295 (s.data.toList.take k) := ⟨_, rfl⟩
    rw [← hr]
    have HR : Hid (r = run 4294967295 (s.data.toList.take k)) := hr
    clear hr
    by_cases hlt : k < s.size
    · have hb := UInt8.toNat_lt s[k]
      have hrl : r < 4294967296 := by rw [HR.out]; exact run_lt (by decide) _
      obtain ⟨x1, e1⟩ : ∃ x, x = r ^^^ s[k].toNat := ⟨_, rfl⟩
      have l1 : x1 < 4294967296 := by rw [e1]; exact Nat.xor_lt_two_pow (n := 32) hrl (by omega)
      have f1 : bits .xor .u32 (r : Int) (s[k].toNat : Int) = (x1 : Int) := by rw [e1]; exact u32_xor_nat _ _ hrl (by omega)
      have E1 : Hid (x1 = r ^^^ s[k].toNat) := e1
      clear e1
      go_wp2
      go_loop [3, 5] (fun n i => ∃ j : Nat, j ≤ 8 ∧ i = .int .i64 j ∧ n = .int .u32 (stps j x1 : Nat)) (fun _ i => 8 - (intOf i).toNat)
      case atStart => exact ⟨0, by omega, rfl, rfl⟩
      case round =>
        obtain ⟨j, hj, rfl, rfl⟩ := hrel
        obtain ⟨y, hy⟩ : ∃ y, y = stps j x1 := ⟨_, rfl⟩
        rw [← hy]
        have HY : Hid (y = stps j x1) := hy
        clear hy
        have hyl : y < 4294967296 := by rw [HY.out]; exact stps_lt l1
        by_cases hj8 : j < 8
        · rcases Nat.mod_two_eq_zero_or_one y with h2 | h2
          · have g1 : ((y : Int) % 2 == 1) = false := by simp; omega
            have HS : Hid (y / 2 = stps (j + 1) x1) := by
              show _ = _
              rw [stps_succ, ← HY.out, stp, if_neg (by omega), Nat.xor_zero]
            clear h2
            go_wp2
            go_round
            case rel => exact ⟨j + 1, by omega, by go_num, val_int (by rw [← HS.out]; omega)⟩
            case measure => simp [intOf]; omega
          · have g1 : ((y : Int) % 2 == 1) = true := by simp; omega
            obtain ⟨z, hz⟩ : ∃ z, z = stps (j + 1) x1 := ⟨_, rfl⟩
            have g2 : bits .xor .u32 ((y : Int) / 2) 3988292384 = (z : Int) := by
              rw [hz, stps_succ, ← HY.out, stp, if_pos h2]
              have h := u32_xor_nat (y / 2) poly (by omega) (by decide)
              rw [← h]; rfl
            have HZ : Hid (z = stps (j + 1) x1) := hz
            clear h2 hz
            go_wp2
            go_round
            case rel => exact ⟨j + 1, by omega, by go_num, by rw [HZ.out]⟩
            case measure => simp [intOf]; omega
        · obtain rfl : j = 8 := by omega
          go_wp2
          go_round
          case rel => exact ⟨k + 1, by omega, by go_num, val_int (by rw [HY.out, E1.out, HR.out, take_snoc s k hlt, run_snoc]; rfl)⟩
          case measure => simp [intOf]; omega
    · obtain rfl : k = s.size := by omega
      have hrl : r < 4294967296 := by rw [HR.out]; exact run_lt (by decide) _
      go_wp2
      go_ret
      exact ⟨ret_int (by
        have h := u32_xor_nat r 4294967295 hrl (by decide)
        have e : ((4294967295 : Nat) : Int) = 4294967295 := rfl
        rw [e] at h
        rw [h, crc, HR.out, take_all]), rfl⟩
end Go.Proofs.YtgnljpcnkmogfaaDoor
