/-
  Plain mathematics of Take: what it answers, as a function on the bytes that are left.
-/
import Derived.Test.YtlgaindeheaodaaOctPlain
namespace Go.Proofs.Ytlgaindeheaodaa

/-- From the k-th byte of a varint on, a being the value so far: the value, the number of bytes, the error. -/
def tk : List UInt8 → Nat → Nat → Nat × Nat × Nat
  | [], _, _ => (0, 0, 3)
  | c :: l, k, a => if k = 9 ∧ 1 < c.toNat ∨ 0 < k ∧ c.toNat = 0 then (0, 0, 2) else if c.toNat < 128 then (a + c.toNat % 128 * 128 ^ k, k + 1, 0) else tk l (k + 1) (a + c.toNat % 128 * 128 ^ k)

theorem tk_nil (k a : Nat) : tk [] k a = (0, 0, 3) := rfl
theorem tk_mis {c : UInt8} {l : List UInt8} {k a : Nat} (h : k = 9 ∧ 1 < c.toNat ∨ 0 < k ∧ c.toNat = 0) : tk (c :: l) k a = (0, 0, 2) := by rw [tk, if_pos h]
theorem tk_end {c : UInt8} {l : List UInt8} {k a : Nat} (h : ¬ (k = 9 ∧ 1 < c.toNat ∨ 0 < k ∧ c.toNat = 0)) (h2 : c.toNat < 128) : tk (c :: l) k a = (a + c.toNat % 128 * 128 ^ k, k + 1, 0) := by rw [tk, if_neg h, if_pos h2]
theorem tk_on {c : UInt8} {l : List UInt8} {k a : Nat} (h : ¬ (k = 9 ∧ 1 < c.toNat ∨ 0 < k ∧ c.toNat = 0)) (h2 : ¬ c.toNat < 128) : tk (c :: l) k a = tk l (k + 1) (a + c.toNat % 128 * 128 ^ k) := by rw [tk, if_neg h, if_neg h2]

/-- What Take answers at an offset: the value, the offset behind it, the error. -/
def takeAt (l : List UInt8) (at' : Int) : Nat × Int × Nat :=
  if at' < 0 ∨ (l.length : Int) < at' then (0, 0, 1) else
  let r := tk (l.drop at'.toNat) 0 0
  (r.1, if r.2.2 = 0 then at' + r.2.1 else 0, r.2.2)

theorem takeAt_of {l : List UInt8} {p : Nat} {v : Nat × Nat × Nat} (hp : p ≤ l.length) (h : tk (l.drop p) 0 0 = v) : takeAt l p = (v.1, if v.2.2 = 0 then (p : Int) + v.2.1 else 0, v.2.2) := by
  unfold takeAt
  rw [if_neg (by omega)]
  simp only [Int.toNat_natCast, h]

theorem pow_128 (k : Nat) : 128 ^ k = 2 ^ (7 * k) := by rw [Nat.pow_mul]

theorem acc_lt {c k a : Nat} (ha : a < 128 ^ k) : a + c % 128 * 128 ^ k < 128 ^ (k + 1) := by
  have h : c % 128 < 128 := Nat.mod_lt _ (by decide)
  rw [Nat.pow_succ]
  have : c % 128 * 128 ^ k ≤ 127 * 128 ^ k := Nat.mul_le_mul_right _ (by omega)
  omega

theorem shl_lt {c k : Nat} (hk : k ≤ 9) (h : ¬ (k = 9 ∧ 1 < c)) : c % 128 * 128 ^ k < 18446744073709551616 := by
  have hc : c % 128 < 128 := Nat.mod_lt _ (by decide)
  rcases (by omega : k = 0 ∨ k = 1 ∨ k = 2 ∨ k = 3 ∨ k = 4 ∨ k = 5 ∨ k = 6 ∨ k = 7 ∨ k = 8 ∨ k = 9) with rfl | rfl | rfl | rfl | rfl | rfl | rfl | rfl | rfl | rfl <;> simp <;> omega

theorem tk_ok : ∀ (l : List UInt8) (k a : Nat), k ≤ 9 → a < 128 ^ k → (tk l k a).2.2 = 0 → k + 1 ≤ (tk l k a).2.1 ∧ (tk l k a).2.1 ≤ k + l.length ∧ (tk l k a).1 < 18446744073709551616
  | [], k, a, _, _, h => by simp [tk] at h
  | c :: l, k, a, hk, ha, h => by
    by_cases h1 : k = 9 ∧ 1 < c.toNat ∨ 0 < k ∧ c.toNat = 0
    · rw [tk_mis h1] at h; simp at h
    · have hs := shl_lt (c := c.toNat) hk (fun x => h1 (.inl x))
      have hl := acc_lt (c := c.toNat) ha
      by_cases h2 : c.toNat < 128
      · rw [tk_end h1 h2]
        refine ⟨Nat.le_refl _, by simp, ?_⟩
        show a + c.toNat % 128 * 128 ^ k < 18446744073709551616
        by_cases h8 : k ≤ 8
        · have : 128 ^ (k + 1) ≤ 128 ^ 9 := Nat.pow_le_pow_right (by decide) (by omega)
          omega
        · obtain rfl : k = 9 := by omega
          have hc1 : c.toNat ≤ 1 := by omega
          have : c.toNat % 128 * 128 ^ 9 ≤ 1 * 128 ^ 9 := Nat.mul_le_mul_right _ (by omega)
          omega
      · rw [tk_on h1 h2] at h ⊢
        have hk8 : k + 1 ≤ 9 := by omega
        have := tk_ok l (k + 1) _ hk8 hl h
        simp only [List.length_cons]
        omega

theorem tk_err : ∀ (l : List UInt8) (k a : Nat), (tk l k a).2.2 ≤ 3 ∧ ((tk l k a).2.2 ≠ 0 → tk l k a = (0, 0, (tk l k a).2.2))
  | [], k, a => by simp [tk]
  | c :: l, k, a => by
    by_cases h1 : k = 9 ∧ 1 < c.toNat ∨ 0 < k ∧ c.toNat = 0
    · rw [tk_mis h1]; simp
    · by_cases h2 : c.toNat < 128
      · rw [tk_end h1 h2]; simp
      · rw [tk_on h1 h2]; exact tk_err l _ _

/-- Take's answers: an error, or a value and an offset within the string. -/
theorem takeAt_cases (l : List UInt8) (p : Int) :
    (∃ e : Nat, 1 ≤ e ∧ e ≤ 3 ∧ takeAt l p = (0, 0, e)) ∨
    (∃ v q a : Nat, p = (a : Int) ∧ a < q ∧ q ≤ l.length ∧ v < 18446744073709551616 ∧ takeAt l p = (v, (q : Int), 0) ∧ tk (l.drop a) 0 0 = (v, q - a, 0)) := by
  by_cases h : p < 0 ∨ (l.length : Int) < p
  · exact .inl ⟨1, by decide, by decide, by unfold takeAt; rw [if_pos h]⟩
  · obtain ⟨a, rfl⟩ := Int.eq_ofNat_of_zero_le (by omega : 0 ≤ p)
    have hx : takeAt l a = _ := takeAt_of (l := l) (p := a) (by omega) rfl
    have he := tk_err (l.drop a) 0 0
    by_cases h0 : (tk (l.drop a) 0 0).2.2 = 0
    · have ho := tk_ok (l.drop a) 0 0 (by decide) (by decide) h0
      rw [List.length_drop] at ho
      refine .inr ⟨(tk (l.drop a) 0 0).1, a + (tk (l.drop a) 0 0).2.1, a, rfl, by omega, by omega, ho.2.2, ?_, ?_⟩
      · rw [hx, if_pos h0, h0]; simp
      · rw [Nat.add_sub_cancel_left]
        exact Prod.ext rfl (Prod.ext rfl h0)
    · refine .inl ⟨(tk (l.drop a) 0 0).2.2, by omega, he.1, ?_⟩
      rw [hx, if_neg h0, he.2 h0]
end Go.Proofs.Ytlgaindeheaodaa
