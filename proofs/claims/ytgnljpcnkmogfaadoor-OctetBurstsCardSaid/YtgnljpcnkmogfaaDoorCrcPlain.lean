/-
  Plain mathematics of the checksum: the register's step is linear and loses nothing.
-/
namespace Go.Proofs.YtgnljpcnkmogfaaDoor

def poly : Nat := 3988292384
/-- One step of the register. -/
def stp (r : Nat) : Nat := r / 2 ^^^ (if r % 2 = 1 then poly else 0)
def stps : Nat → Nat → Nat
  | 0, r => r
  | n + 1, r => stps n (stp r)
/-- A byte is fed. -/
def feed (r : Nat) (c : UInt8) : Nat := stps 8 (r ^^^ c.toNat)
/-- The register behind the bytes, from r on. -/
def run (r : Nat) (l : List UInt8) : Nat := l.foldl feed r
def crc (l : List UInt8) : Nat := run 4294967295 l ^^^ 4294967295

theorem stps_succ (n r : Nat) : stps (n + 1) r = stp (stps n r) := by
  induction n generalizing r with
  | zero => rfl
  | succ n ih => rw [stps, ih]; rfl
theorem stps_add (m n r : Nat) : stps (m + n) r = stps n (stps m r) := by
  induction n with
  | zero => rfl
  | succ n ih => rw [← Nat.add_assoc, stps_succ, ih, stps_succ]

theorem xor_div2 (a b : Nat) : (a ^^^ b) / 2 = a / 2 ^^^ b / 2 := by
  have := Nat.shiftRight_xor_distrib (a := a) (b := b) (i := 1)
  simpa [Nat.shiftRight_eq_div_pow] using this
theorem xor_mod2 (a b : Nat) : (a ^^^ b) % 2 = (a % 2 + b % 2) % 2 := by
  have h := Nat.testBit_xor a b 0
  simp only [Nat.testBit_zero] at h
  have ha := Nat.mod_two_eq_zero_or_one a
  have hb := Nat.mod_two_eq_zero_or_one b
  have hc := Nat.mod_two_eq_zero_or_one (a ^^^ b)
  rcases ha with ha | ha <;> rcases hb with hb | hb <;> rcases hc with hc | hc <;> simp [ha, hb, hc] at h ⊢

theorem xor_four (a b c d : Nat) : (a ^^^ b) ^^^ (c ^^^ d) = (a ^^^ c) ^^^ (b ^^^ d) := by
  rw [Nat.xor_assoc, Nat.xor_assoc]; congr 1
  rw [← Nat.xor_assoc, Nat.xor_comm b c, Nat.xor_assoc]

theorem stp_xor (a b : Nat) : stp (a ^^^ b) = stp a ^^^ stp b := by
  unfold stp
  rw [xor_div2, xor_four]
  congr 1
  rw [xor_mod2]
  rcases Nat.mod_two_eq_zero_or_one a with ha | ha <;> rcases Nat.mod_two_eq_zero_or_one b with hb | hb <;> simp [ha, hb]
theorem stps_xor (n a b : Nat) : stps n (a ^^^ b) = stps n a ^^^ stps n b := by
  induction n generalizing a b with
  | zero => rfl
  | succ n ih => rw [stps, stp_xor, ih]; rfl
theorem stp_zero : stp 0 = 0 := rfl
theorem stps_zero (n : Nat) : stps n 0 = 0 := by
  induction n with
  | zero => rfl
  | succ n ih => rw [stps_succ, ih]; rfl
theorem stp_lt {r : Nat} (h : r < 4294967296) : stp r < 4294967296 := by
  have h1 : r / 2 < 2 ^ 32 := by omega
  have h2 : (if r % 2 = 1 then poly else 0) < 2 ^ 32 := by split <;> decide
  exact Nat.xor_lt_two_pow h1 h2
theorem stps_lt {n r : Nat} (h : r < 4294967296) : stps n r < 4294967296 := by
  induction n generalizing r with
  | zero => exact h
  | succ n ih => exact ih (stp_lt h)
theorem xor_eq {a b : Nat} (h : a ^^^ b = 0) : a = b := by
  have h2 : (a ^^^ b) ^^^ b = 0 ^^^ b := by rw [h]
  rwa [Nat.xor_assoc, Nat.xor_self, Nat.xor_zero, Nat.zero_xor] at h2
theorem stp_ne {r : Nat} (h : r < 4294967296) (h0 : r ≠ 0) : stp r ≠ 0 := by
  unfold stp
  split
  · intro e
    have := xor_eq e
    unfold poly at this
    omega
  · rw [Nat.xor_zero]; omega
theorem stps_ne {n r : Nat} (h : r < 4294967296) (h0 : r ≠ 0) : stps n r ≠ 0 := by
  induction n generalizing r with
  | zero => exact h0
  | succ n ih => exact ih (stp_lt h) (stp_ne h h0)

/-- Bits above the steps only move down. -/
theorem stps_shift (n q : Nat) : stps n (q * 2 ^ n) = q := by
  induction n generalizing q with
  | zero => simp [stps]
  | succ n ih =>
    rw [stps]
    have : stp (q * 2 ^ (n + 1)) = q * 2 ^ n := by
      unfold stp
      have e : q * 2 ^ (n + 1) = 2 * (q * 2 ^ n) := by rw [Nat.pow_succ]; rw [← Nat.mul_assoc, Nat.mul_comm]
      rw [e, if_neg (by omega), Nat.xor_zero]
      omega
    rw [this, ih]

theorem feed_lt {r : Nat} (h : r < 4294967296) (c : UInt8) : feed r c < 4294967296 := by
  have hc := UInt8.toNat_lt c
  exact stps_lt (Nat.xor_lt_two_pow (n := 32) h (by omega))
theorem run_lt {r : Nat} (h : r < 4294967296) (l : List UInt8) : run r l < 4294967296 := by
  induction l generalizing r with
  | nil => exact h
  | cons c l ih => exact ih (feed_lt h c)
theorem crc_lt (l : List UInt8) : crc l < 4294967296 := Nat.xor_lt_two_pow (n := 32) (run_lt (by decide) l) (by decide)
theorem run_snoc (r : Nat) (l : List UInt8) (c : UInt8) : run r (l ++ [c]) = feed (run r l) c := by simp [run]
end Go.Proofs.YtgnljpcnkmogfaaDoor
