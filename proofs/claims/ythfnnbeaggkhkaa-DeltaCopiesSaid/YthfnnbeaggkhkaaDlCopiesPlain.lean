/-
  Plain mathematics: what Copies tells of a delta that Apply takes.
-/
import Derived.Test.YthfnnbeaggkhkaaDlPlain
namespace Go.Proofs.Ythfnnbeaggkhkaa

/-- Runs that are equal in base and target, one behind the other in the target. -/
def okR (b : ByteArray) (T : List UInt8) : Nat → List Rn → Prop
  | _, [] => True
  | x, r :: l => x ≤ r.b ∧ 0 < r.n ∧ r.b + r.n ≤ T.length ∧ r.a + r.n ≤ b.size ∧ (b.data.toList.drop r.a).take r.n = (T.drop r.b).take r.n ∧ okR b T (r.b + r.n) l
theorem okR_of {b s : ByteArray} {size : Nat} : ∀ (ps : List St) (k : Nat) (pre : List UInt8) (x : Nat), okSts s b.size size k ps → pre.length = k → x ≤ k → okR b (pre ++ laid b s ps) x (runs k ps)
  | [], k, pre, x, _, _, _ => by simp [runs, okR]
  | t :: l, k, pre, x, h, hp, hx => by
    obtain ⟨h0, h1, h2, h3⟩ := h
    have hl := of_len h0
    have he : pre ++ laid b s (t :: l) = (pre ++ t.of b s) ++ laid b s l := by simp [laid, List.append_assoc]
    rw [he, runs]
    have hpl : (pre ++ t.of b s).length = k + t.n := by rw [List.length_append, hl, hp]
    by_cases hc : t.c = true
    · rw [if_pos hc]
      have hf : t.f + t.n ≤ b.size := by
        unfold St.fits at h0
        rw [if_pos hc] at h0
        exact h0
      have ho : t.of b s = (b.data.toList.drop t.f).take t.n := by
        unfold St.of
        rw [if_pos hc, ext_bytes, Nat.add_sub_cancel_left]
      refine ⟨hx, h1, by show k + t.n ≤ _; rw [List.length_append, hpl]; omega, hf, ?_, okR_of l (k + t.n) (pre ++ t.of b s) (k + t.n) h3 hpl (Nat.le_refl _)⟩
      simp only
      rw [List.append_assoc, ← hp, List.drop_left, List.take_left' hl, ho]
    · rw [if_neg hc]
      exact okR_of l (k + t.n) (pre ++ t.of b s) x h3 hpl (by omega)
theorem copies_told {b s : ByteArray} {T : List UInt8} (hb : b.size ≤ 1048576) (h : dap b s = (T, 0)) : ∃ rs, dcp s = (rs, 0) ∧ okR b T 0 rs ∧ T.length ≤ 1048576 := by
  rcases tz_cases s with ⟨e, h1, h3, ht⟩ | ⟨v, v2, q2, hv, hv2, hq, ht⟩
  · rw [dap_err ht (by omega)] at h
    simp only [Prod.mk.injEq] at h
    omega
  · by_cases hvb : v = b.size
    · by_cases h2 : 1048576 < v2
      · rw [dap_large ht hvb h2] at h
        simp at h
      · by_cases hk : (sts s b.size v2 q2 0).2 = 0
        · rw [dap_ok ht hvb h2 hk] at h
          simp only [Prod.mk.injEq, and_true] at h
          have hd := dsz_ok ht (by omega)
          subst hvb
          have hok := sts_fit s b.size v2 v2 q2 0 (by omega) (by omega)
          have hle := laid_len _ _ hok
          exact ⟨_, dcp_ok hd hk, by rw [← h]; exact okR_of _ 0 [] 0 hok rfl (Nat.le_refl _), by rw [← h]; omega⟩
        · rw [dap_bad ht hvb h2 rfl hk] at h
          simp only [Prod.mk.injEq] at h
          exact absurd h.2 hk
    · rw [dap_other ht hvb] at h
      simp at h
end Go.Proofs.Ythfnnbeaggkhkaa
