/-
  Elements of a part pattern as strings of their own (plain).
-/
import Derived.Test.YtdgcmapmnkopaaaDoorGlRSaid
import Derived.Test.YtdgcmapmnkopaaaDoorGlRSigns
namespace Go.Proofs.YtdgcmapmnkopaaaDoor
open Go.RowKit

theorem cl_cut : ∀ (l : List UInt8) (first : Bool) (is : List (UInt8 × UInt8)) (m : Nat), cl first l = some (is, m) → ∃ T, l.drop (m - 1) = 93 :: T
  | [], first, is, m, h => by rw [cl_nil] at h; cases h
  | c :: r, first, is, m, h => by
    by_cases hc : c = 93 ∧ first = false
    · rw [cl, if_pos hc] at h
      simp only [Option.some.injEq, Prod.mk.injEq] at h
      refine ⟨r, ?_⟩
      rw [← h.2, hc.1]
      rfl
    · rw [cl_on hc] at h
      have h0 := it_pos (c :: r)
      obtain ⟨⟨is', m'⟩, h1, h2⟩ := Option.map_eq_some_iff.mp h
      simp only [Prod.mk.injEq] at h2
      have h3 := cl_le _ false is' m' h1
      obtain ⟨T, hT⟩ := cl_cut _ false is' m' h1
      refine ⟨T, ?_⟩
      rw [List.drop_drop] at hT
      rw [← hT]
      congr 1
      omega
termination_by l => l.length
decreasing_by
  have := it_pos (c :: r)
  simp only [List.length_drop, List.length_cons]
  omega
theorem cl_two {l : List UInt8} {is : List (UInt8 × UInt8)} {m : Nat} (h : cl true l = some (is, m)) : 2 ≤ m := by
  cases l with
  | nil => rw [cl_nil] at h; cases h
  | cons c r =>
    rw [cl_on (fun e => by cases e.2)] at h
    have h0 := it_pos (c :: r)
    obtain ⟨⟨is', m'⟩, h1, h2⟩ := Option.map_eq_some_iff.mp h
    simp only [Prod.mk.injEq] at h2
    have h3 := cl_le _ false is' m' h1
    omega
theorem str_len (l : List UInt8) : (str l).size = l.length := rfl
/-- A class that stands by itself: its inside. -/
theorem tok_cls {r Y : List UInt8} {t : Tok} (h : tk (91 :: (r ++ Y)) = some (t, r.length + 1)) :
    ∃ T is, ng r + 2 ≤ r.length ∧ t = .cls (decide (ng r = 1)) is ∧ InC (str ((r.drop (ng r)).take (r.length - 1 - ng r))) T 0 is := by
  rw [tk, if_neg (by decide), if_pos rfl] at h
  obtain ⟨⟨is, m⟩, h1, h2⟩ := Option.map_eq_some_iff.mp h
  simp only [Prod.mk.injEq] at h2
  have h3 := cl_two h1
  have hr : r ≠ [] := fun e => by rw [e, List.length_nil] at h2; omega
  have hg : ng (r ++ Y) = ng r := by
    cases r with
    | nil => exact absurd rfl hr
    | cons c r => rfl
  rw [hg] at h1 h2
  obtain ⟨T, hT⟩ := cl_cut _ _ _ _ h1
  have hm : m - 1 = r.length - 1 - ng r := by omega
  refine ⟨T, is, by omega, h2.1.symm, Nat.zero_le _, ?_⟩
  have h4 : (r ++ Y).drop (ng r) = (r.drop (ng r)).take (r.length - 1 - ng r) ++ 93 :: T := by
    have h5 := List.take_append_drop (m - 1) ((r ++ Y).drop (ng r))
    rw [hT, List.drop_append_of_le_length (by omega), List.take_append_of_le_length (by rw [List.length_drop]; omega), hm] at h5
    rw [List.drop_append_of_le_length (by omega)]
    exact h5.symm
  rw [h4] at h1
  rw [str_len, List.length_take, List.length_drop, List.drop_zero]
  show cl true _ = _
  rw [show (str ((r.drop (ng r)).take (r.length - 1 - ng r))).data.toList = (r.drop (ng r)).take (r.length - 1 - ng r) from rfl, h1]
  congr 2
  omega

/-- A token and its element. -/
def TokR (x : List UInt8) (o : Option Tok) : Prop := ∃ c r Y t, x = c :: r ∧ tk (c :: (r ++ Y)) = some (t, r.length + 1) ∧ o = if c = 42 then none else some t
/-- Two lists of the same length, related place by place. -/
inductive All2 : List (List UInt8) → List (Option Tok) → Prop where
  | nil : All2 [] []
  | cons {x o L K} (h : TokR x o) (t : All2 L K) : All2 (x :: L) (o :: K)
theorem rt_all : ∀ (X : List UInt8) (L : List (List UInt8)), rt X = some L → ∃ K, tks X = some K ∧ All2 L K
  | [], L, h => by
    rw [rt_nil, Option.some.injEq] at h
    subst h
    exact ⟨[], tks_nil, .nil⟩
  | c :: r, L, h => by
    cases ht : tk (c :: r) with
    | none => rw [rt_bad ht] at h; cases h
    | some x =>
      obtain ⟨t, k⟩ := x
      have hk := tk_le ht
      rw [rt_on ht] at h
      obtain ⟨L', h1, h2⟩ := Option.map_eq_some_iff.mp h
      obtain ⟨K', h3, h4⟩ := rt_all _ _ h1
      refine ⟨_, by rw [tks_on ht, h3]; rfl, ?_⟩
      rw [← h2]
      rw [List.length_cons] at hk
      refine .cons ⟨c, r.take (k - 1), r.drop (k - 1), t, ?_, ?_, rfl⟩ h4
      · obtain ⟨j, rfl⟩ : ∃ j, k = j + 1 := ⟨k - 1, by omega⟩
        rfl
      · rw [List.take_append_drop, ht, List.length_take]
        congr 2
        omega
termination_by X => X.length
decreasing_by
  have := tk_le ht
  simp only [List.length_drop, List.length_cons]
  omega
theorem tk42 (r : List UInt8) : tk (42 :: r) = some (.chr 42, 1) := by simp [tk, ck, cv]
theorem tokR_star {x : List UInt8} (h : TokR x none) : x = [42] := by
  obtain ⟨c, r, Y, t, rfl, h1, h2⟩ := h
  by_cases hc : c = 42
  · subst hc
    rw [tk42, Option.some.injEq, Prod.mk.injEq] at h1
    cases r with
    | nil => rfl
    | cons a r => rw [List.length_cons] at h1; omega
  · rw [if_neg hc] at h2; cases h2
theorem tokR_no {x : List UInt8} {t : Tok} (h : TokR x (some t)) : x ≠ [42] := by
  obtain ⟨c, r, Y, t', rfl, h1, h2⟩ := h
  intro e
  rw [List.cons.injEq] at e
  rw [if_pos e.1] at h2
  cases h2
/-- What a token's bytes are. -/
theorem tokR_some {x : List UInt8} {t : Tok} (h : TokR x (some t)) :
    (x = [63] ∧ t = .any) ∨ (∃ v, x = [92, v] ∧ t = .chr v) ∨ (∃ c, x = [c] ∧ c ≠ 63 ∧ c ≠ 92 ∧ t = .chr c) ∨
    (∃ r T is, x = 91 :: r ∧ ng r + 2 ≤ r.length ∧ t = .cls (decide (ng r = 1)) is ∧ InC (str ((r.drop (ng r)).take (r.length - 1 - ng r))) T 0 is) := by
  obtain ⟨c, r, Y, t', rfl, h1, h2⟩ := h
  have h42 : c ≠ 42 := fun e => by rw [if_pos e] at h2; cases h2
  rw [if_neg h42, Option.some.injEq] at h2
  subst h2
  by_cases h63 : c = 63
  · subst h63
    rw [tk, if_pos rfl, Option.some.injEq, Prod.mk.injEq] at h1
    cases r with
    | nil => exact .inl ⟨rfl, h1.1.symm⟩
    | cons a r => rw [List.length_cons] at h1; omega
  by_cases h91 : c = 91
  · subst h91
    obtain ⟨T, is, g1, g2, g3⟩ := tok_cls h1
    exact .inr (.inr (.inr ⟨r, T, is, rfl, g1, g2, g3⟩))
  rw [tk, if_neg h63, if_neg h91] at h1
  by_cases h92 : c = 92
  · subst h92
    split at h1
    · cases h1
    · rw [Option.some.injEq, Prod.mk.injEq, ck_at rfl] at h1
      cases r with
      | nil => simp at h1
      | cons a r =>
        rw [List.length_cons] at h1
        cases r with
        | nil => exact .inr (.inl ⟨a, rfl, h1.1.symm⟩)
        | cons b r => rw [List.length_cons] at h1; omega
  · rw [if_neg (fun e => h92 e.1), Option.some.injEq, Prod.mk.injEq, ck_no h92] at h1
    cases r with
    | nil => 
      refine .inr (.inr (.inl ⟨c, rfl, h63, h92, ?_⟩))
      rw [← h1.1, cv, if_neg h92]
    | cons a r => rw [List.length_cons] at h1; omega
end Go.Proofs.YtdgcmapmnkopaaaDoor
