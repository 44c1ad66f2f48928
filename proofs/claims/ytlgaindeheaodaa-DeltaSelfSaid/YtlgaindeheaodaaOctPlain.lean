/-
  Plain mathematics of the varints: nothing of the program is named here.
-/

namespace Go.Proofs.Ytlgaindeheaodaa

/-- The digits of a varint, least significant first. -/
def digs (n : Nat) : List UInt8 :=
  if h : n < 128 then [UInt8.ofNat n] else UInt8.ofNat (n % 128 + 128) :: digs (n / 128)
termination_by n
decreasing_by omega

theorem digs_small {n : Nat} (h : n < 128) : digs n = [UInt8.ofNat n] := by rw [digs, dif_pos h]
theorem digs_big {n : Nat} (h : 128 ≤ n) : digs n = UInt8.ofNat (n % 128 + 128) :: digs (n / 128) := by rw [digs, dif_neg (by omega)]

theorem digs_len : ∀ (k n : Nat), n < 128 ^ (k + 1) → (digs n).length ≤ k + 1
  | 0, n, h => by rw [digs_small (by omega)]; simp
  | k + 1, n, h => by
    by_cases hn : n < 128
    · rw [digs_small hn]; simp
    · rw [digs_big (by omega)]
      have : n / 128 < 128 ^ (k + 1) := by
        rw [Nat.div_lt_iff_lt_mul (by decide)]; rw [Nat.pow_succ] at h; exact h
      have := digs_len k (n / 128) this
      simp; omega

theorem digs_len64 {n : Nat} (h : n < 18446744073709551616) : (digs n).length ≤ 10 := digs_len 9 n (by omega)
theorem digs_pos (n : Nat) : 1 ≤ (digs n).length := by
  by_cases hn : n < 128
  · rw [digs_small hn]; simp
  · rw [digs_big (by omega)]; simp
end Go.Proofs.Ytlgaindeheaodaa
