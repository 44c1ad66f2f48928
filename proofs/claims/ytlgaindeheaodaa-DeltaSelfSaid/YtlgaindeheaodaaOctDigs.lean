/-
  Plain mathematics: a varint read behind the bytes that Put has made of it, and the other way round.
-/
import Derived.Test.YtlgaindeheaodaaOctTakePlain
namespace Go.Proofs.Ytlgaindeheaodaa

theorem pow128_pos (k : Nat) : 0 < 128 ^ k := Nat.pow_pos (by decide)

/-- Taking what Put has appended. -/
theorem tk_digs (m : Nat) : ∀ (k a : Nat) (rest : List UInt8), m * 128 ^ k < 18446744073709551616 → (k = 0 ∨ 0 < m) → tk (digs m ++ rest) k a = (a + m * 128 ^ k, k + (digs m).length, 0) := by
  induction m using Nat.strongRecOn with
  | _ m ih =>
    intro k a rest hlt hk
    have hp := pow128_pos k
    by_cases hm : m < 128
    · rw [digs_small hm]
      have hc : (UInt8.ofNat m).toNat = m := by simp; omega
      have hmis : ¬ (k = 9 ∧ 1 < (UInt8.ofNat m).toNat ∨ 0 < k ∧ (UInt8.ofNat m).toNat = 0) := by
        rw [hc]
        rintro (⟨rfl, h⟩ | ⟨h1, h2⟩)
        · have : 2 * 128 ^ 9 ≤ m * 128 ^ 9 := Nat.mul_le_mul_right _ h
          omega
        · omega
      show tk (UInt8.ofNat m :: ([] ++ rest)) k a = _
      rw [tk_end hmis (by rw [hc]; exact hm), hc, Nat.mod_eq_of_lt hm]
      rfl
    · have hm' : 128 ≤ m := by omega
      rw [digs_big hm']
      have hc : (UInt8.ofNat (m % 128 + 128)).toNat = m % 128 + 128 := by simp; omega
      have hmis : ¬ (k = 9 ∧ 1 < (UInt8.ofNat (m % 128 + 128)).toNat ∨ 0 < k ∧ (UInt8.ofNat (m % 128 + 128)).toNat = 0) := by
        rw [hc]
        rintro (⟨rfl, h⟩ | ⟨h1, h2⟩)
        · have : 128 * 128 ^ 9 ≤ m * 128 ^ 9 := Nat.mul_le_mul_right _ hm'
          omega
        · omega
      have hr : m / 128 * 128 ^ (k + 1) ≤ m * 128 ^ k := by
        rw [Nat.pow_succ, Nat.mul_comm (128 ^ k) 128, ← Nat.mul_assoc]
        exact Nat.mul_le_mul_right _ (Nat.div_mul_le_self m 128)
      show tk (UInt8.ofNat (m % 128 + 128) :: (digs (m / 128) ++ rest)) k a = _
      rw [tk_on hmis (by rw [hc]; omega), ih (m / 128) (by omega) (k + 1) _ rest (by omega) (.inr (by omega)), hc]
      have e1 : (m % 128 + 128) % 128 = m % 128 := by omega
      have e2 : m % 128 * 128 ^ k + m / 128 * 128 ^ (k + 1) = m * 128 ^ k := by
        rw [Nat.pow_succ, Nat.mul_comm (128 ^ k) 128, ← Nat.mul_assoc, ← Nat.add_mul]
        congr 1
        omega
      rw [e1, Nat.add_assoc, e2]
      simp only [List.length_cons]
      refine Prod.ext rfl (Prod.ext ?_ rfl)
      show k + 1 + (digs (m / 128)).length = k + ((digs (m / 128)).length + 1)
      omega

/-- Encoding what Take has decoded. -/
theorem digs_tk : ∀ (l : List UInt8) (k a v j : Nat), tk l k a = (v, j, 0) → ∃ m, v = a + m * 128 ^ k ∧ digs m = l.take (j - k) ∧ k < j ∧ (0 < k → 0 < m)
  | [], k, a, v, j, h => by simp [tk] at h
  | c :: l, k, a, v, j, h => by
    have hcl := UInt8.toNat_lt c
    by_cases h1 : k = 9 ∧ 1 < c.toNat ∨ 0 < k ∧ c.toNat = 0
    · rw [tk_mis h1] at h; simp at h
    · by_cases h2 : c.toNat < 128
      · rw [tk_end h1 h2] at h
        simp only [Prod.mk.injEq, and_true] at h
        obtain ⟨rfl, rfl⟩ := h
        refine ⟨c.toNat, by rw [Nat.mod_eq_of_lt h2], ?_, Nat.lt_succ_self _, fun hk => by omega⟩
        rw [digs_small h2, Nat.add_sub_cancel_left]
        simp
      · rw [tk_on h1 h2] at h
        obtain ⟨m, hv, hd, hj, hm⟩ := digs_tk l (k + 1) _ v j h
        have hm0 := hm (by omega)
        refine ⟨c.toNat % 128 + 128 * m, ?_, ?_, by omega, fun _ => by omega⟩
        · rw [hv, Nat.pow_succ, Nat.add_mul, Nat.add_assoc]
          congr 2
          rw [Nat.mul_comm (128 ^ k) 128, ← Nat.mul_assoc, Nat.mul_comm m 128]
        · rw [digs_big (by omega)]
          have e1 : (c.toNat % 128 + 128 * m) % 128 + 128 = c.toNat := by omega
          have e2 : (c.toNat % 128 + 128 * m) / 128 = m := by omega
          rw [e1, e2, hd, show j - k = j - (k + 1) + 1 by omega, List.take_succ_cons]
          congr 1
          simp

theorem takeAt_put (a b : List UInt8) (n : Nat) (hn : n < 18446744073709551616) : takeAt (a ++ (digs n ++ b)) (a.length : Nat) = (n, ((a.length + (digs n).length : Nat) : Int), 0) := by
  have h := takeAt_of (l := a ++ (digs n ++ b)) (p := a.length) (v := (n, (digs n).length, 0)) (by simp) (by
    rw [List.drop_left, tk_digs n 0 0 b (by omega) (.inl rfl)]
    simp)
  rw [h]
  simp

end Go.Proofs.Ytlgaindeheaodaa
