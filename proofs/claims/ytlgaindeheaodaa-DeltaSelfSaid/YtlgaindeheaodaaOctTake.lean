/-
  The walks of Take and of misplaced.
-/
import Derived.Test.YtlgaindeheaodaaAid
import Derived.Test.YtlgaindeheaodaaOctTakePlain
namespace Go.Proofs.Ytlgaindeheaodaa
open Go.RowKit

theorem mis_yes (d k : Nat) (w : World) (h : k = 9 ∧ 1 < d ∨ 0 < k ∧ d = 0) :
    Calls Try.prog 28 #[.int .u8 d, .int .i64 k] w fun e w' => e = .returned (.bool true) ∧ w = w' := by
  by_cases h9 : k = 9
  · subst h9
    by_cases h1 : 1 < d
    · clear h
      go_enter Try.func28, Try.ntmps28
      go_wp2
      go_ret
      exact ⟨rfl, rfl⟩
    · obtain rfl : d = 0 := by omega
      go_enter Try.func28, Try.ntmps28
      go_wp2
      go_ret
      exact ⟨rfl, rfl⟩
  · obtain rfl : d = 0 := by omega
    have hk : 0 < k := by omega
    clear h
    go_enter Try.func28, Try.ntmps28
    go_wp2
    go_ret
    exact ⟨rfl, rfl⟩

theorem mis_no (d k : Nat) (w : World) (h : ¬ (k = 9 ∧ 1 < d ∨ 0 < k ∧ d = 0)) :
    Calls Try.prog 28 #[.int .u8 d, .int .i64 k] w fun e w' => e = .returned (.bool false) ∧ w = w' := by
  by_cases h9 : k = 9
  · subst h9
    obtain rfl : d = 1 := by omega
    go_enter Try.func28, Try.ntmps28
    go_wp2
    go_ret
    exact ⟨rfl, rfl⟩
  · by_cases hk : k = 0
    · subst hk
      go_enter Try.func28, Try.ntmps28
      go_wp2
      go_ret
      exact ⟨rfl, rfl⟩
    · have hk2 : 0 < k := by omega
      have hd : ((d : Int) == 0) = false := by simp; omega
      have hk9 : ((k : Int) == 9) = false := by simp; omega
      clear h hk h9
      go_enter Try.func28, Try.ntmps28
      go_wp2
      go_ret
      exact ⟨rfl, rfl⟩

theorem low7 {c : Nat} (hc : c < 256) : bits .andNot .u8 (c : Int) 128 = ((c % 128 : Nat) : Int) := by
  have h := u8_andNot_nat c 128 hc (by decide)
  rw [show ((128 : Nat) : Int) = 128 from rfl] at h
  rw [h, show 255 - 128 = 127 from rfl, nat_mask7]
theorem take_acc {c k a : Nat} (hc : c < 256) (hk : k ≤ 9) (ha : a < 128 ^ k) (h : ¬ (k = 9 ∧ 1 < c)) :
    bits .or .u64 (a : Int) (IntKind.u64.wrap (IntKind.u64.wrap (bits .andNot .u8 (c : Int) 128) * 2 ^ (7 * k))) = ((a + c % 128 * 128 ^ k : Nat) : Int) := by
  have hm := shl_lt hk h
  have hlt := acc_lt (c := c) ha
  rw [low7 hc, IntKind.wrap_u64, IntKind.wrap_u64, show ((c % 128 : Nat) : Int) % 18446744073709551616 = ((c % 128 : Nat) : Int) by omega]
  have e2 : ((c % 128 : Nat) : Int) * 2 ^ (7 * k) = ((c % 128 * 128 ^ k : Nat) : Int) := by rw [pow_128]; simp
  rw [e2, show ((c % 128 * 128 ^ k : Nat) : Int) % 18446744073709551616 = ((c % 128 * 128 ^ k : Nat) : Int) by omega]
  have ha64 : a < 18446744073709551616 := by
    have h9 : 128 ^ k ≤ 128 ^ 9 := Nat.pow_le_pow_right (by decide) hk
    omega
  rw [u64_or_nat a _ ha64 hm, Nat.or_comm, nat_join (7 * k) _ _ (by rw [pow_128]; exact Nat.mul_mod_left _ _) (by rw [← pow_128]; exact ha)]
  omega

set_option maxHeartbeats 400000 in
set_option maxRecDepth 4000 in
theorem take_in (s : ByteArray) (p : Nat) (w : World) (hs : s.size ≤ 4611686018427387904) (hp : p ≤ s.size) :
    Calls Try.prog 23 #[.string s, .int .i64 p] w fun e w' => e = .returned (.tuple #[.int .u64 (takeAt s.data.toList p).1, .int .i64 (takeAt s.data.toList p).2.1, .int .i64 (takeAt s.data.toList p).2.2]) ∧ w = w' := by
  have hpn : decide ((p : Int) < 0) = false := by simp
  have hpn2 : decide (s.size < p) = false := by simp; omega
  by_cases hmn : 10 ≤ s.size - p
  all_goals
    go_enter Try.func23, Try.ntmps23
    go_wp2
    clear hpn hpn2
    go_loop [7, 23] (fun n i => ∃ k a : Nat, k ≤ 9 ∧ k ≤ s.size - p ∧ i = .int .i64 k ∧ n = .int .u64 a ∧ a < 128 ^ k ∧ tk (s.data.toList.drop p) 0 0 = tk (s.data.toList.drop (p + k)) k a) (fun _ i => 10 - (intOf i).toNat)
    case atStart => exact ⟨0, 0, by omega, by omega, rfl, rfl, by omega, rfl⟩
    case round =>
      obtain ⟨k, a, hk9, hks, rfl, rfl, ha, ht⟩ := hrel
      have HT : Hid (tk (s.data.toList.drop p) 0 0 = tk (s.data.toList.drop (p + k)) k a) := ht
      have HA : Hid (a < 128 ^ k) := ha
      clear ht ha
      by_cases hlt : p + k < s.size
      · have hb := UInt8.toNat_lt s[p + k]
        by_cases h1 : k = 9 ∧ 1 < s[p + k].toNat ∨ 0 < k ∧ s[p + k].toNat = 0
        · have hr : takeAt s.data.toList p = (0, 0, 2) := takeAt_of (by rw [list_len]; exact hp) (by rw [HT.out, drop_byte s _ hlt, tk_mis h1])
          have HR : Hid (takeAt s.data.toList p = (0, 0, 2)) := hr
          have H1 : Hid (k = 9 ∧ 1 < s[p + k].toNat ∨ 0 < k ∧ s[p + k].toNat = 0) := h1
          clear hr h1 HT HA
          go_wp2_with (go_at_call 28; refine (mis_yes _ _ _ H1.out).mono ?_; rintro e w' ⟨rfl, rfl⟩)
          go_ret3
          exact ⟨by rw [HR.out]; rfl, rfl⟩
        · have H1 : Hid (¬ (k = 9 ∧ 1 < s[p + k].toNat ∨ 0 < k ∧ s[p + k].toNat = 0)) := h1
          clear h1
          by_cases h2 : s[p + k].toNat < 128
          · have hr : takeAt s.data.toList p = (a + s[p + k].toNat % 128 * 128 ^ k, (p : Int) + (k + 1 : Nat), 0) :=
              takeAt_of (by rw [list_len]; exact hp) (by rw [HT.out, drop_byte s _ hlt, tk_end H1.out h2])
            have HR : Hid (takeAt s.data.toList p = (a + s[p + k].toNat % 128 * 128 ^ k, (p : Int) + (k + 1 : Nat), 0)) := hr
            clear hr HT
            go_wp2_with (go_at_call 28; refine (mis_no _ _ _ H1.out).mono ?_; rintro e w' ⟨rfl, rfl⟩)
            go_ret3
            exact ⟨ret_iii (by rw [HR.out]; exact take_acc hb hk9 HA.out (fun h => H1.out (.inl h))) (by rw [HR.out]; show (_ : Int) = (p : Int) + ((k + 1 : Nat) : Int); omega) (by rw [HR.out]; rfl), rfl⟩
          · have HT2 : Hid (tk (s.data.toList.drop p) 0 0 = tk (s.data.toList.drop (p + (k + 1))) (k + 1) (a + s[p + k].toNat % 128 * 128 ^ k)) := by
              show _ = _
              rw [HT.out, drop_byte s _ hlt, tk_on H1.out h2]; rfl
            have hk8 : k + 1 ≤ 9 := by
              have := H1.out; omega
            clear HT
            go_wp2_with (go_at_call 28; refine (mis_no _ _ _ H1.out).mono ?_; rintro e w' ⟨rfl, rfl⟩)
            go_round
            case rel => exact ⟨k + 1, a + s[p + k].toNat % 128 * 128 ^ k, hk8, by omega, by go_num, val_int (take_acc hb hk9 HA.out (fun h => H1.out (.inl h))), acc_lt HA.out, HT2.out⟩
            case measure => simp [intOf]; omega
      · have hr : takeAt s.data.toList p = (0, 0, 3) := takeAt_of (by rw [list_len]; exact hp) (by rw [HT.out, drop_none s _ (by omega), tk_nil])
        have HR : Hid (takeAt s.data.toList p = (0, 0, 3)) := hr
        clear hr HT HA
        go_wp2
        all_goals go_ret3
        all_goals exact ⟨by rw [HR.out]; rfl, rfl⟩

theorem takeAt_neg {l : List UInt8} {p : Int} (h : p < 0) : takeAt l p = (0, 0, 1) := by unfold takeAt; rw [if_pos (.inl h)]
theorem takeAt_past {l : List UInt8} {p : Int} (h : (l.length : Int) < p) : takeAt l p = (0, 0, 1) := by unfold takeAt; rw [if_pos (.inr h)]

theorem take_any (s : ByteArray) (p : Int) (w : World) (hs : s.size ≤ 4611686018427387904) :
    Calls Try.prog 23 #[.string s, .int .i64 p] w fun e w' => e = .returned (.tuple #[.int .u64 (takeAt s.data.toList p).1, .int .i64 (takeAt s.data.toList p).2.1, .int .i64 (takeAt s.data.toList p).2.2]) ∧ w = w' := by
  by_cases h1 : p < 0
  · rw [takeAt_neg h1]
    go_enter Try.func23, Try.ntmps23
    go_wp2
    go_ret3
    exact ⟨rfl, rfl⟩
  · by_cases h2 : (s.size : Int) < p
    · rw [takeAt_past (by rw [list_len]; exact h2)]
      go_enter Try.func23, Try.ntmps23
      go_wp2
      go_ret3
      exact ⟨rfl, rfl⟩
    · obtain ⟨q, rfl⟩ := Int.eq_ofNat_of_zero_le (by omega : 0 ≤ p)
      exact take_in s q w hs (by omega)
end Go.Proofs.Ytlgaindeheaodaa
