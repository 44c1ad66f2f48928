/-
  Plain mathematics of the bursts: a string as a number, the register behind it, one burst.
-/
import Derived.Test.YtgnljpcnkmogfaaDoorCrcPlain
namespace Go.Proofs.YtgnljpcnkmogfaaDoor

/-- A string as a number, its first byte least. -/
def val : List UInt8 → Nat
  | [] => 0
  | c :: l => c.toNat ^^^ (val l * 2 ^ 8)

theorem xor_mul_pow (x y k : Nat) : (x ^^^ y) * 2 ^ k = x * 2 ^ k ^^^ y * 2 ^ k := by
  rw [← Nat.shiftLeft_eq, ← Nat.shiftLeft_eq, ← Nat.shiftLeft_eq, Nat.shiftLeft_xor_distrib]

/-- The register behind the bytes, at one stroke. -/
theorem run_val (l : List UInt8) : ∀ d : Nat, run d l = stps (8 * l.length) (d ^^^ val l) := by
  induction l with
  | nil => intro d; simp [run, val, stps]
  | cons c l ih =>
    intro d
    show run (feed d c) l = _
    rw [ih, feed, List.length_cons, show 8 * (l.length + 1) = 8 + 8 * l.length by omega, stps_add, val, ← Nat.xor_assoc, stps_xor 8 (d ^^^ c.toNat), stps_shift]

theorem xor_cancel (a x y : Nat) : (a ^^^ x) ^^^ (a ^^^ y) = x ^^^ y := by
  rw [xor_four, Nat.xor_self, Nat.zero_xor]

/-- Two strings of one length whose numbers differ by a burst have different checksums. -/
theorem crc_burst {a b : List UInt8} {m at' : Nat} (hl : a.length = b.length) (hv : val a = val b ^^^ (m * 2 ^ at')) (hm : m < 4294967296) (h0 : m ≠ 0) (hat : at' ≤ 8 * b.length) : crc a ≠ crc b := by
  intro h
  have h1 : crc a ^^^ crc b = 0 := by rw [h, Nat.xor_self]
  have h2 : crc a ^^^ crc b = stps (8 * b.length) (m * 2 ^ at') := by
    rw [crc, crc, run_val, run_val, hl, xor_four, Nat.xor_self, Nat.xor_zero, ← stps_xor, xor_cancel, hv, Nat.xor_comm (val b), Nat.xor_assoc, Nat.xor_self, Nat.xor_zero]
  rw [h1, show 8 * b.length = at' + (8 * b.length - at') by omega, stps_add, stps_shift] at h2
  exact stps_ne hm h0 h2.symm

/-- One bit of a byte is turned. -/
theorem val_set : ∀ (l : List UInt8) (i : Nat) (b x : UInt8), l[i]? = some x → val (l.set i (x ^^^ b)) = val l ^^^ (b.toNat * 2 ^ (8 * i))
  | [], i, b, x, h => by simp at h
  | c :: l, 0, b, x, h => by
    simp only [List.getElem?_cons_zero, Option.some.injEq] at h
    subst h
    simp only [List.set_cons_zero, val, UInt8.toNat_xor, Nat.mul_zero, Nat.pow_zero, Nat.mul_one]
    rw [Nat.xor_assoc, Nat.xor_assoc, Nat.xor_comm b.toNat]
  | c :: l, i + 1, b, x, h => by
    simp only [List.getElem?_cons_succ] at h
    simp only [List.set_cons_succ, val]
    rw [val_set l i b x h, xor_mul_pow, Nat.xor_assoc, Nat.mul_assoc, ← Nat.pow_add, show 8 * (i + 1) = 8 * i + 8 by omega]

/-- A further bit of a burst. -/
theorem burst_next {m k at' v : Nat} (hm : m < 2 ^ k) : (v ^^^ (m * 2 ^ at')) ^^^ (2 ^ (at' + k)) = v ^^^ ((m + 2 ^ k) * 2 ^ at') := by
  have e : m ^^^ 2 ^ k = m + 2 ^ k := by
    have h1 : 2 ^ k ||| m = 2 ^ k + m := by
      have := Nat.two_pow_add_eq_or_of_lt hm 1
      simpa using this.symm
    have h2 : m ^^^ 2 ^ k = 2 ^ k ||| m := by
      apply Nat.eq_of_testBit_eq
      intro j
      rw [Nat.testBit_xor, Nat.testBit_or, Nat.testBit_two_pow]
      by_cases hj : k = j
      · subst hj
        simp [Nat.testBit_lt_two_pow hm]
      · simp [hj]
    rw [h2, h1]; omega
  rw [Nat.xor_assoc, ← e, xor_mul_pow, ← Nat.pow_add, Nat.add_comm k at']
end Go.Proofs.YtgnljpcnkmogfaaDoor
