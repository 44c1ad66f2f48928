/-
  The walk of the reference's Take.
-/
import Derived.Test.YthfnnbeaggkhkaaOctTake
namespace Go.Proofs.Ythfnnbeaggkhkaa
open Go.RowKit

theorem rtake_acc {c k a : Nat} (_hc : c < 256) (hk : k ≤ 9) (ha : a < 128 ^ k) (h : ¬ (k = 9 ∧ 1 < c)) :
    IntKind.u64.wrap ((a : Int) + IntKind.u64.wrap ((c : Int) % 128 * 2 ^ (7 * k))) = ((a + c % 128 * 128 ^ k : Nat) : Int) := by
  have hm := shl_lt hk h
  have hlt := acc_lt (c := c) ha
  have e2 : (c : Int) % 128 * 2 ^ (7 * k) = ((c % 128 * 128 ^ k : Nat) : Int) := by rw [pow_128]; simp
  rw [IntKind.wrap_u64, IntKind.wrap_u64, e2, show ((c % 128 * 128 ^ k : Nat) : Int) % 18446744073709551616 = ((c % 128 * 128 ^ k : Nat) : Int) by omega]
  have h64 : a + c % 128 * 128 ^ k < 18446744073709551616 := by
    by_cases h8 : k ≤ 8
    · have : 128 ^ (k + 1) ≤ 128 ^ 9 := Nat.pow_le_pow_right (by decide) (by omega)
      omega
    · obtain rfl : k = 9 := by omega
      have hc1 : c ≤ 1 := by omega
      have : c % 128 * 128 ^ 9 ≤ 1 * 128 ^ 9 := Nat.mul_le_mul_right _ (by omega)
      omega
  omega

set_option maxHeartbeats 1000000 in
set_option maxRecDepth 4000 in
theorem rtake_in (s : ByteArray) (p : Nat) (w : World) (hs : s.size ≤ 4611686018427387904) (hp : p ≤ s.size) :
    Calls Try.prog 43 #[.string s, .int .i64 p] w fun e w' => e = .returned (.tuple #[.int .u64 (takeAt s.data.toList p).1, .int .i64 (takeAt s.data.toList p).2.1, .int .i64 (takeAt s.data.toList p).2.2]) ∧ w = w' := by
  have hpn : decide ((p : Int) < 0) = false := by simp
  have hpn2 : decide (s.size < p) = false := by simp; omega
  go_enter Try.func43, Try.ntmps43
  go_wp2
  clear hpn hpn2
  go_loop [7, 8] (fun n i => ∃ k a : Nat, k ≤ 9 ∧ k ≤ s.size - p ∧ i = .int .i64 k ∧ n = .int .u64 a ∧ a < 128 ^ k ∧ tk (s.data.toList.drop p) 0 0 = tk (s.data.toList.drop (p + k)) k a) (fun _ i => 10 - (intOf i).toNat)
  case atStart => exact ⟨0, 0, by omega, by omega, rfl, rfl, by omega, rfl⟩
  case round =>
    obtain ⟨k, a, hk9, hks, rfl, rfl, ha, ht⟩ := hrel
    have HT : Hid (tk (s.data.toList.drop p) 0 0 = tk (s.data.toList.drop (p + k)) k a) := ht
    have HA : Hid (a < 128 ^ k) := ha
    clear ht ha
    by_cases hlt : p + k < s.size
    · have hb := UInt8.toNat_lt s[p + k]
      by_cases h1 : k = 9 ∧ 1 < s[p + k].toNat ∨ 0 < k ∧ s[p + k].toNat = 0
      · have hr : takeAt s.data.toList p = (0, 0, 2) := takeAt_of (by rw [list_len]; exact hp) (by rw [HT.out, drop_byte s _ hlt, tk_mis h1])
        have HR : Hid (takeAt s.data.toList p = (0, 0, 2)) := hr
        clear hr HT HA
        by_cases h9 : k = 9
        · subst h9
          by_cases h10 : 1 < s[p + 9].toNat
          · clear h1
            go_wp2
            go_ret3
            exact ⟨by rw [HR.out]; rfl, rfl⟩
          · have h0 : ((s[p + 9].toNat : Int) == 0) = true := by simp; omega
            clear h1
            go_wp2
            go_ret3
            exact ⟨by rw [HR.out]; rfl, rfl⟩
        · have h0 : ((s[p + k].toNat : Int) == 0) = true := by simp; omega
          have h9' : ((k : Int) == 9) = false := by simp; omega
          have hk0 : 0 < k := by omega
          clear h1 h9
          go_wp2
          go_ret3
          exact ⟨by rw [HR.out]; rfl, rfl⟩
      · have H1 : Hid (¬ (k = 9 ∧ 1 < s[p + k].toNat ∨ 0 < k ∧ s[p + k].toNat = 0)) := h1
        clear h1
        by_cases h2 : s[p + k].toNat < 128
        · have hr : takeAt s.data.toList p = (a + s[p + k].toNat % 128 * 128 ^ k, (p : Int) + (k + 1 : Nat), 0) :=
            takeAt_of (by rw [list_len]; exact hp) (by rw [HT.out, drop_byte s _ hlt, tk_end H1.out h2])
          have HR : Hid (takeAt s.data.toList p = (a + s[p + k].toNat % 128 * 128 ^ k, (p : Int) + (k + 1 : Nat), 0)) := hr
          clear hr HT
          rcases (by have := H1.out; omega : k = 9 ∧ s[p + k].toNat = 1 ∨ k ≠ 9 ∧ 0 < k ∧ s[p + k].toNat ≠ 0 ∨ k = 0) with ⟨h9, h0⟩ | ⟨h9, hk0, h0⟩ | h9
          · have g1 : ((k : Int) == 9) = true := by simp; omega
            have g2 : s[p + k].toNat ≤ 1 := by omega
            have g3 : ((s[p + k].toNat : Int) == 0) = false := by simp; omega
            have g4 : 0 < k := by omega
            clear h9 h0
            go_wp2
            go_ret3
            exact ⟨ret_iii (by rw [HR.out]; exact rtake_acc hb hk9 HA.out (fun h => H1.out (.inl h))) (by rw [HR.out]; show (_ : Int) = (p : Int) + ((k + 1 : Nat) : Int); omega) (by rw [HR.out]; rfl), rfl⟩
          · have g1 : ((k : Int) == 9) = false := by simp; omega
            have g3 : ((s[p + k].toNat : Int) == 0) = false := by simp; omega
            clear h9 h0
            go_wp2
            go_ret3
            exact ⟨ret_iii (by rw [HR.out]; exact rtake_acc hb hk9 HA.out (fun h => H1.out (.inl h))) (by rw [HR.out]; show (_ : Int) = (p : Int) + ((k + 1 : Nat) : Int); omega) (by rw [HR.out]; rfl), rfl⟩
          · have g1 : ((k : Int) == 9) = false := by simp; omega
            have g3 : decide (0 < k) = false := by simp; omega
            have g4 : k ≤ 0 := by omega
            clear h9
            go_wp2
            go_ret3
            exact ⟨ret_iii (by rw [HR.out]; exact rtake_acc hb hk9 HA.out (fun h => H1.out (.inl h))) (by rw [HR.out]; show (_ : Int) = (p : Int) + ((k + 1 : Nat) : Int); omega) (by rw [HR.out]; rfl), rfl⟩
        · have HT2 : Hid (tk (s.data.toList.drop p) 0 0 = tk (s.data.toList.drop (p + (k + 1))) (k + 1) (a + s[p + k].toNat % 128 * 128 ^ k)) := by
            show _ = _
            rw [HT.out, drop_byte s _ hlt, tk_on H1.out h2]; rfl
          have hk8 : k + 1 ≤ 9 := by
            have := H1.out; omega
          clear HT
          rcases (by omega : 0 < k ∨ k = 0) with hk0 | h9
          · have g1 : ((k : Int) == 9) = false := by simp; omega
            have g3 : ((s[p + k].toNat : Int) == 0) = false := by simp; omega
            go_wp2
            go_round
            case rel => exact ⟨k + 1, a + s[p + k].toNat % 128 * 128 ^ k, hk8, by omega, by go_num, val_int (rtake_acc hb hk9 HA.out (fun h => H1.out (.inl h))), acc_lt HA.out, HT2.out⟩
            case measure => simp [intOf]; omega
          · have g1 : ((k : Int) == 9) = false := by simp; omega
            have g3 : decide (0 < k) = false := by simp; omega
            have g4 : k ≤ 0 := by omega
            clear h9
            go_wp2
            go_round
            case rel => exact ⟨k + 1, a + s[p + k].toNat % 128 * 128 ^ k, hk8, by omega, by go_num, val_int (rtake_acc hb hk9 HA.out (fun h => H1.out (.inl h))), acc_lt HA.out, HT2.out⟩
            case measure => simp [intOf]; omega
    · have hr : takeAt s.data.toList p = (0, 0, 3) := takeAt_of (by rw [list_len]; exact hp) (by rw [HT.out, drop_none s _ (by omega), tk_nil])
      have HR : Hid (takeAt s.data.toList p = (0, 0, 3)) := hr
      clear hr HT HA
      go_wp2
      all_goals go_ret3
      all_goals exact ⟨by rw [HR.out]; rfl, rfl⟩

theorem rtake_any (s : ByteArray) (p : Int) (w : World) (hs : s.size ≤ 4611686018427387904) :
    Calls Try.prog 43 #[.string s, .int .i64 p] w fun e w' => e = .returned (.tuple #[.int .u64 (takeAt s.data.toList p).1, .int .i64 (takeAt s.data.toList p).2.1, .int .i64 (takeAt s.data.toList p).2.2]) ∧ w = w' := by
  by_cases h1 : p < 0
  · rw [takeAt_neg h1]
    go_enter Try.func43, Try.ntmps43
    go_wp2
    go_ret3
    exact ⟨rfl, rfl⟩
  · by_cases h2 : (s.size : Int) < p
    · rw [takeAt_past (by rw [list_len]; exact h2)]
      go_enter Try.func43, Try.ntmps43
      go_wp2
      go_ret3
      exact ⟨rfl, rfl⟩
    · obtain ⟨q, rfl⟩ := Int.eq_ofNat_of_zero_le (by omega : 0 ≤ p)
      exact rtake_in s q w hs (by omega)
end Go.Proofs.Ythfnnbeaggkhkaa
