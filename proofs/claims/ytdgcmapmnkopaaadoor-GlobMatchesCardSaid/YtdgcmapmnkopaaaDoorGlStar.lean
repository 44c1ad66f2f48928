/-
  Plain mathematics: patterns with stars; going back to the last star alone is enough.
-/
namespace Go.Proofs.YtdgcmapmnkopaaaDoor

section
variable {τ α : Type} (μ : τ → α → Bool)
/-- Whether a pattern matches the whole of a text; a star is none. -/
def wm : List (Option τ) → List α → Bool
  | [], t => t.isEmpty
  | none :: p, [] => wm p []
  | none :: p, c :: t => wm p (c :: t) || wm (none :: p) t
  | some _ :: _, [] => false
  | some f :: p, c :: t => μ f c && wm p t
termination_by p t => p.length + t.length
theorem wm_nil (t : List α) : wm μ [] t = t.isEmpty := by rw [wm]
theorem wm_star_nil (p : List (Option τ)) : wm μ (none :: p) [] = wm μ p [] := by rw [wm]
theorem wm_star (p : List (Option τ)) (c : α) (t : List α) : wm μ (none :: p) (c :: t) = (wm μ p (c :: t) || wm μ (none :: p) t) := by rw [wm]
theorem wm_some_nil (f : τ) (p : List (Option τ)) : wm μ (some f :: p) [] = false := by rw [wm]
theorem wm_some (f : τ) (p : List (Option τ)) (c : α) (t : List α) : wm μ (some f :: p) (c :: t) = (μ f c && wm μ p t) := by rw [wm]
theorem wm_star_iff (p : List (Option τ)) : ∀ t : List α, wm μ (none :: p) t = true ↔ ∃ d, d ≤ t.length ∧ wm μ p (t.drop d) = true
  | [] => by
    rw [wm_star_nil]
    constructor
    · exact fun h => ⟨0, Nat.le_refl _, h⟩
    · rintro ⟨d, _, h⟩
      simpa using h
  | c :: t => by
    rw [wm_star, Bool.or_eq_true, wm_star_iff p t]
    constructor
    · rintro (h | ⟨d, h1, h2⟩)
      · exact ⟨0, Nat.zero_le _, h⟩
      · exact ⟨d + 1, by simpa using h1, by simpa using h2⟩
    · rintro ⟨d, h1, h2⟩
      cases d with
      | zero => exact .inl h2
      | succ d => exact .inr ⟨d, by simpa using h1, by simpa using h2⟩
/-- Elements that match a text's first places. -/
def qm : List τ → List α → Bool
  | [], _ => true
  | _ :: _, [] => false
  | q :: l, c :: t => μ q c && qm l t
theorem qm_len : ∀ (l : List τ) (t : List α), qm μ l t = true → l.length ≤ t.length
  | [], _, _ => Nat.zero_le _
  | _ :: _, [], h => by cases h
  | q :: l, c :: t, h => by
    rw [qm, Bool.and_eq_true] at h
    have := qm_len l t h.2
    simpa using this
theorem wm_q (p : List (Option τ)) : ∀ (l : List τ) (t : List α), wm μ (l.map some ++ p) t = (qm μ l t && wm μ p (t.drop l.length))
  | [], t => by simp [qm]
  | q :: l, [] => by
    rw [List.map_cons, List.cons_append, wm_some_nil]
    rfl
  | q :: l, c :: t => by
    rw [List.map_cons, List.cons_append, wm_some, wm_q p l t, qm, List.length_cons, List.drop_succ_cons, Bool.and_assoc]
theorem qm_snoc (f : τ) (c : α) (r : List α) : ∀ (l : List τ) (t : List α), qm μ l t = true → t.drop l.length = c :: r → μ f c = true → qm μ (l ++ [f]) t = true
  | [], t, _, h, hf => by
    simp only [List.length_nil, List.drop_zero] at h
    subst h
    simp [qm, hf]
  | _ :: _, [], h, _, _ => by cases h
  | q :: l, x :: t, h, hd, hf => by
    rw [qm, Bool.and_eq_true] at h
    rw [List.cons_append, qm, h.1, Bool.true_and]
    exact qm_snoc f c r l t h.2 (by simpa using hd) hf

/-- What is known behind a star: what came after it has matched so far. -/
def Behind (R : Bool) (S L : List (Option τ)) (T : List α) (from_ j : Nat) : Prop :=
  ∃ Q : List τ, S = Q.map some ++ L ∧ j = from_ + Q.length ∧ j ≤ T.length ∧ R = wm μ (none :: S) (T.drop from_) ∧ qm μ Q (T.drop from_) = true
theorem Behind.start {R : Bool} {L : List (Option τ)} {T : List α} {j : Nat} (hj : j ≤ T.length) (h : R = wm μ (none :: L) (T.drop j)) : Behind μ R L L T j j := ⟨[], rfl, rfl, hj, h, rfl⟩
theorem Behind.star {R : Bool} {S L : List (Option τ)} {T : List α} {from_ j : Nat} (h : Behind μ R S (none :: L) T from_ j) : Behind μ R L L T j j := by
  obtain ⟨Q, rfl, rfl, hj, hR, hq⟩ := h
  refine Behind.start μ hj ?_
  rw [hR, Bool.eq_iff_iff, wm_star_iff, wm_star_iff]
  constructor
  · rintro ⟨d, h1, h2⟩
    rw [wm_q, Bool.and_eq_true, wm_star_iff] at h2
    obtain ⟨e, h3, h4⟩ := h2.2
    have hl := qm_len μ _ _ h2.1
    simp only [List.length_drop, List.drop_drop] at h1 h3 h4 hl ⊢
    refine ⟨d + e, by omega, ?_⟩
    rw [show from_ + Q.length + (d + e) = from_ + d + Q.length + e by omega]
    exact h4
  · rintro ⟨d, h1, h2⟩
    refine ⟨0, Nat.zero_le _, ?_⟩
    rw [List.drop_zero, wm_q, hq, Bool.true_and, wm_star_iff]
    simp only [List.length_drop, List.drop_drop] at h1 h2 ⊢
    exact ⟨d, by omega, h2⟩
theorem Behind.step {R : Bool} {S L : List (Option τ)} {T : List α} {from_ j : Nat} {f : τ} {c : α} (h : Behind μ R S (some f :: L) T from_ j) (hj : j < T.length) (hc : c = T[j]) (hf : μ f c = true) : Behind μ R S L T from_ (j + 1) := by
  obtain ⟨Q, rfl, rfl, hj2, hR, hq⟩ := h
  refine ⟨Q ++ [f], by simp, by rw [List.length_append, List.length_singleton]; omega, hj, hR, ?_⟩
  refine qm_snoc μ f c (T.drop (from_ + Q.length + 1)) Q _ hq ?_ hf
  rw [List.drop_drop, List.drop_eq_getElem_cons hj, hc]
theorem Behind.back {R : Bool} {S L : List (Option τ)} {T : List α} {from_ j : Nat} (h : Behind μ R S L T from_ j) (hj : j < T.length) (hL : wm μ L (T.drop j) = false) : Behind μ R S S T (from_ + 1) (from_ + 1) := by
  obtain ⟨Q, rfl, rfl, hj2, hR, hq⟩ := h
  refine Behind.start μ (by omega) ?_
  rw [hR, List.drop_eq_getElem_cons (show from_ < T.length by omega), wm_star, ← List.drop_eq_getElem_cons (show from_ < T.length by omega), wm_q, hq, List.drop_drop, hL]
  rfl
theorem Behind.done {R : Bool} {S L : List (Option τ)} {T : List α} {from_ : Nat} (h : Behind μ R S L T from_ T.length) : R = wm μ L [] := by
  obtain ⟨Q, rfl, hj, hj2, hR, hq⟩ := h
  rw [hR, Bool.eq_iff_iff, wm_star_iff]
  constructor
  · rintro ⟨d, h1, h2⟩
    rw [wm_q, Bool.and_eq_true] at h2
    have hl := qm_len μ _ _ h2.1
    simp only [List.length_drop, List.drop_drop] at h1 hl
    have h3 := h2.2
    rw [List.drop_drop, List.drop_of_length_le (by simp only [List.length_drop]; omega)] at h3
    exact h3
  · intro h2
    refine ⟨0, Nat.zero_le _, ?_⟩
    rw [List.drop_zero, wm_q, hq, Bool.true_and, List.drop_drop, ← hj, List.drop_length]
    exact h2
/-- What is known at a place of the pattern and of the text. -/
def Now (At : Nat → List (Option τ) → Prop) (R : Bool) (T : List α) (aS : Int) (i from_ j : Nat) : Prop :=
  ∃ L, At i L ∧ j ≤ T.length ∧ from_ ≤ j ∧ ((aS = -1 ∧ from_ = 0 ∧ R = wm μ L (T.drop j)) ∨ ∃ (k : Nat) (S : List (Option τ)), aS = k ∧ At k S ∧ Behind μ R S L T from_ j)
end
end Go.Proofs.YtdgcmapmnkopaaaDoor
