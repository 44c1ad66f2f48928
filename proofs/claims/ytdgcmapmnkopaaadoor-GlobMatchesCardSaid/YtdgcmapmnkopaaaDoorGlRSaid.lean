/-
  The reference's said: the items of a class, over its inside (plain).
-/
import Derived.Test.YtdgcmapmnkopaaaDoorGlRClass
namespace Go.Proofs.YtdgcmapmnkopaaaDoor
open Go.RowKit

/-- What is left of a class at place i of its inside: its items. -/
def InC (p : ByteArray) (T : List UInt8) (i : Nat) (js : List (UInt8 × UInt8)) : Prop :=
  i ≤ p.size ∧ cl (decide (i = 0)) (p.data.toList.drop i ++ 93 :: T) = some (js, p.size - i + 1)
theorem inC_end {p : ByteArray} {T : List UInt8} {i : Nat} {js : List (UInt8 × UInt8)} (h : InC p T i js) (hi : i = p.size) (h0 : 0 < i) : js = [] := by
  obtain ⟨_, h2⟩ := h
  rw [hi, List.drop_of_length_le (by rw [list_len]; exact Nat.le_refl _), List.nil_append, decide_eq_false (by omega), cl_end] at h2
  simp only [Option.some.injEq, Prod.mk.injEq] at h2
  exact h2.1.symm
theorem tail_drop (p : ByteArray) (T : List UInt8) {i k : Nat} (h : i + k ≤ p.size) : (p.data.toList.drop i ++ 93 :: T).drop k = p.data.toList.drop (i + k) ++ 93 :: T := by
  rw [List.drop_append_of_le_length (by rw [List.length_drop, list_len]; omega), List.drop_drop]
theorem tail_at (p : ByteArray) (T : List UInt8) {i : Nat} (h : i < p.size) : p.data.toList.drop i ++ 93 :: T = p[i] :: (p.data.toList.drop (i + 1) ++ 93 :: T) := by
  rw [pt_drop p i h]
  rfl
theorem inC_on {p : ByteArray} {T : List UInt8} {i : Nat} {js : List (UInt8 × UInt8)} (h : InC p T i js) (hi : i < p.size) :
    ∃ lo hi' k js', it (p.data.toList.drop i ++ 93 :: T) = (lo, hi', k) ∧ js = (lo, hi') :: js' ∧ 1 ≤ k ∧ i + k ≤ p.size ∧ InC p T (i + k) js' := by
  obtain ⟨_, h2⟩ := h
  have hY := tail_at p T hi
  have hc : ¬ (p[i] = 93 ∧ decide (i = 0) = false) := fun e => by
    rw [hY, e.1, e.2, cl_end] at h2
    simp only [Option.some.injEq, Prod.mk.injEq] at h2
    omega
  rw [hY, cl_on hc, ← hY] at h2
  have hk := it_pos (p.data.toList.drop i ++ 93 :: T)
  obtain ⟨lo, hi', k, hI⟩ : ∃ lo hi' k, it (p.data.toList.drop i ++ 93 :: T) = (lo, hi', k) := ⟨_, _, _, rfl⟩
  rw [hI] at h2 hk
  simp only at h2 hk
  obtain ⟨x, h3, h4⟩ := Option.map_eq_some_iff.mp h2
  simp only [Prod.mk.injEq] at h4
  have hm := cl_le _ _ _ _ h3
  have hle : i + k ≤ p.size := by omega
  rw [tail_drop p T hle] at h3
  have h0 : decide (i + k = 0) = false := decide_eq_false (by omega)
  refine ⟨lo, hi', k, x.1, hI, h4.1.symm, hk, hle, hle, ?_⟩
  rw [h0, h3]
  congr 1
  exact Prod.ext rfl (by show x.2 = _; omega)
theorem ck_at {c : UInt8} (h : c = 92) : ck c = 2 := by rw [ck, if_pos h]
theorem ck_no {c : UInt8} (h : c ≠ 92) : ck c = 1 := by rw [ck, if_neg h]
/-- A byte that stands for itself, at a place of the inside: the byte and how many it takes. -/
theorem cv_tail {p : ByteArray} {T : List UInt8} {i : Nat} (h : i < p.size) (h2 : i + ck p[i] ≤ p.size) :
    (p[i] = 92 ∧ ck p[i] = 2 ∧ ∃ h3 : i + 1 < p.size, cv (p.data.toList.drop i ++ 93 :: T) = p[i + 1]) ∨ (p[i] ≠ 92 ∧ ck p[i] = 1 ∧ cv (p.data.toList.drop i ++ 93 :: T) = p[i]) := by
  by_cases hc : p[i] = 92
  · left
    have h4 := ck_at hc
    rw [h4] at h2
    refine ⟨hc, h4, by omega, ?_⟩
    rw [tail_at p T h, cv, if_pos hc, tail_at p T (by omega)]
    rfl
  · right
    refine ⟨hc, ck_no hc, ?_⟩
    rw [tail_at p T h, cv, if_neg hc]
/-- An item of the inside, as the reference tells it: one byte, or a range where a hyphen and one byte more follow. -/
theorem it_in {p : ByteArray} {T : List UInt8} {i : Nat} {js' : List (UInt8 × UInt8)} {lo hi : UInt8} {k q : Nat} (h : i < p.size) (hI : it (p.data.toList.drop i ++ 93 :: T) = (lo, hi, k)) (hk : i + k ≤ p.size) (hq : q = i + ck p[i]) (hn : InC p T (i + k) js') :
    q ≤ p.size ∧ lo = cv (p.data.toList.drop i ++ 93 :: T) ∧
    ((∃ (h1 : q + 1 < p.size), p[q] = 45 ∧ hi = cv (p.data.toList.drop (q + 1) ++ 93 :: T) ∧ i + k = q + 1 + ck p[q + 1]) ∨
     ((∀ h1 : q + 1 < p.size, p[q] ≠ 45) ∧ hi = lo ∧ i + k = q)) := by
  have hck := ck_pos p[i]
  have hY := tail_at p T h
  have hq2 : ck p[i] ≤ k := by
    rw [hY, it] at hI
    split at hI
    · split at hI
      · simp only [Prod.mk.injEq] at hI; omega
      · simp only [Prod.mk.injEq] at hI; omega
    · simp only [Prod.mk.injEq] at hI; omega
  have hqs : q ≤ p.size := by omega
  have hD : (p[i] :: (p.data.toList.drop (i + 1) ++ 93 :: T)).drop (ck p[i]) = p.data.toList.drop q ++ 93 :: T := by
    rw [← hY, tail_drop p T (by omega), hq]
  refine ⟨hqs, ?_⟩
  rw [hY, it, hD, ← hY] at hI
  by_cases h1 : q + 1 < p.size
  · rw [tail_at p T (show q < p.size by omega), tail_at p T h1] at hI
    simp only at hI
    by_cases h45 : p[q] = 45
    · by_cases h93 : p[q + 1] = 93
      · rw [if_neg (fun e => e.2 h93)] at hI
        simp only [Prod.mk.injEq] at hI
        exfalso
        have e : i + k = q := by omega
        rw [e] at hn
        obtain ⟨_, h5⟩ := hn
        rw [decide_eq_false (show ¬ q = 0 by omega), tail_at p T (show q < p.size by omega), cl_on (by rw [h45]; decide)] at h5
        have h6 : it (p[q] :: (p.data.toList.drop (q + 1) ++ 93 :: T)) = (cv (p[q] :: (p.data.toList.drop (q + 1) ++ 93 :: T)), cv (p[q] :: (p.data.toList.drop (q + 1) ++ 93 :: T)), 1) := by
          rw [it, ck_no (by rw [h45]; decide), List.drop_succ_cons, List.drop_zero, tail_at p T h1, h93]
          split
          · rename_i heq
            rw [List.cons.injEq] at heq
            rw [if_neg (fun e => absurd (heq.1.trans e.1) (by decide))]
          · rfl
        rw [h6] at h5
        simp only [List.drop_succ_cons, List.drop_zero] at h5
        rw [tail_at p T h1, h93, cl_end] at h5
        simp only [Option.map_some, Option.some.injEq, Prod.mk.injEq] at h5
        omega
      · rw [if_pos ⟨h45, h93⟩, ← tail_at p T h1] at hI
        simp only [Prod.mk.injEq] at hI
        exact ⟨hI.1.symm, .inl ⟨h1, h45, hI.2.1.symm, by omega⟩⟩
    · rw [if_neg (fun e => h45 e.1)] at hI
      simp only [Prod.mk.injEq] at hI
      exact ⟨hI.1.symm, .inr ⟨fun _ => h45, hI.2.1.symm.trans hI.1, by omega⟩⟩
  · have hs : it (p.data.toList.drop i ++ 93 :: T) = (cv (p.data.toList.drop i ++ 93 :: T), cv (p.data.toList.drop i ++ 93 :: T), ck p[i]) := by
      rw [hY, it, hD]
      by_cases h2 : q < p.size
      · rw [tail_at p T h2, List.drop_of_length_le (by rw [list_len]; omega), List.nil_append]
        simp
      · rw [List.drop_of_length_le (by rw [list_len]; omega), List.nil_append]
        cases T <;> simp
    rw [hY, it, hD, ← hY] at hs
    rw [hs] at hI
    simp only [Prod.mk.injEq] at hI
    exact ⟨hI.1.symm, .inr ⟨fun h3 => absurd h3 h1, hI.2.1.symm.trans hI.1, by omega⟩⟩
end Go.Proofs.YtdgcmapmnkopaaaDoor
