/-
  Patterns put together; the walk of the law GlobStars.
-/
import Derived.Test.YtdgcmapmnkopaaaDoorGlLawA
namespace Go.Proofs.YtdgcmapmnkopaaaDoor
open Go.RowKit

theorem cl_some {first : Bool} {l : List UInt8} {x : List (UInt8 × UInt8) × Nat} (h : cl first l = some x) : l ≠ [] := fun e => by rw [e, cl_nil] at h; cases h
theorem it_one (c : UInt8) : (it [c]).2.2 ≥ 1 := it_pos [c]
theorem cv_app (c d : UInt8) (r X : List UInt8) : cv (c :: d :: r ++ X) = cv (c :: d :: r) := by
  simp only [List.cons_append, cv]
  split <;> rfl
theorem it_app (c : UInt8) (r X : List UInt8) (x : List (UInt8 × UInt8) × Nat) (h : cl false ((c :: r).drop (it (c :: r)).2.2) = some x) : it (c :: r ++ X) = it (c :: r) := by
  have hck := ck_pos c
  have hne := cl_some h
  rcases hd : (c :: r).drop (ck c) with _ | ⟨y, _ | ⟨z, t⟩⟩
  · have h1 : it (c :: r) = (cv (c :: r), cv (c :: r), ck c) := by rw [it, hd]
    rw [h1] at hne
    exact absurd hd hne
  · have h1 : it (c :: r) = (cv (c :: r), cv (c :: r), ck c) := by rw [it, hd]
    rw [h1] at h
    simp only [hd] at h
    have hy : y = 93 := Decidable.byContradiction fun hy => by
      rw [cl_on (by simp [hy])] at h
      have h2 := it_pos [y]
      rw [List.drop_of_length_le (by simpa using h2), cl_nil] at h
      cases h
    have hl : ck c < (c :: r).length := by
      have := congrArg List.length hd
      rw [List.length_drop] at this
      simp only [List.length_cons, List.length_nil] at this ⊢
      omega
    obtain ⟨d, r', rfl⟩ : ∃ d r', r = d :: r' := by
      cases r with
      | nil => simp only [List.length_cons, List.length_nil] at hl; omega
      | cons d r' => exact ⟨d, r', rfl⟩
    have hd2 : (c :: d :: r' ++ X).drop (ck c) = y :: X := by
      rw [List.drop_append_of_le_length (by omega), hd]
      rfl
    have e1 : it (c :: d :: r' ++ X) = (cv (c :: d :: r' ++ X), cv (c :: d :: r' ++ X), ck c) := by
      rw [List.cons_append] at hd2 ⊢
      rw [it, hd2]
      subst hy
      cases X <;> simp
    rw [e1, h1, cv_app]
  · have hl : ck c + 2 ≤ (c :: r).length := by
      have := congrArg List.length hd
      rw [List.length_drop] at this
      simp only [List.length_cons] at this ⊢
      omega
    obtain ⟨d, r', rfl⟩ : ∃ d r', r = d :: r' := by
      cases r with
      | nil => simp only [List.length_cons, List.length_nil] at hl; omega
      | cons d r' => exact ⟨d, r', rfl⟩
    have hd2 : (c :: (d :: r' ++ X)).drop (ck c) = y :: z :: (t ++ X) := by
      rw [← List.cons_append, List.drop_append_of_le_length (by omega), hd]
      rfl
    by_cases hq : y = 45 ∧ z ≠ 93
    · have h1 : it (c :: d :: r') = (cv (c :: d :: r'), cv (z :: t), ck c + 1 + ck z) := by rw [it, hd]; simp only; rw [if_pos hq]
      have h2 : it (c :: (d :: r' ++ X)) = (cv (c :: (d :: r' ++ X)), cv (z :: (t ++ X)), ck c + 1 + ck z) := by rw [it, hd2]; simp only; rw [if_pos hq]
      rw [h1] at hne
      simp only at hne
      rw [show ck c + 1 + ck z = ck c + (1 + ck z) by omega, ← List.drop_drop, hd, show 1 + ck z = ck z + 1 by omega, List.drop_succ_cons] at hne
      have h3 : cv (z :: (t ++ X)) = cv (z :: t) := by
        cases t with
        | nil => 
          have := ck_pos z
          rw [List.drop_of_length_le (by simp only [List.length_cons, List.length_nil]; omega)] at hne
          exact absurd rfl hne
        | cons u t' => exact cv_app z u t' X
      rw [List.cons_append, h2, h1, h3]
      congr 1
    · have h1 : it (c :: d :: r') = (cv (c :: d :: r'), cv (c :: d :: r'), ck c) := by rw [it, hd]; simp only; rw [if_neg hq]
      have h2 : it (c :: (d :: r' ++ X)) = (cv (c :: (d :: r' ++ X)), cv (c :: (d :: r' ++ X)), ck c) := by rw [it, hd2]; simp only; rw [if_neg hq]
      have h3 := cv_app c d r' X
      rw [List.cons_append] at h3
      rw [List.cons_append, h2, h1, h3]
theorem cl_app (X : List UInt8) : ∀ (l : List UInt8) (first : Bool) (x : List (UInt8 × UInt8) × Nat), cl first l = some x → cl first (l ++ X) = some x
  | [], first, x, h => by rw [cl_nil] at h; cases h
  | c :: r, first, x, h => by
    by_cases hc : c = 93 ∧ first = false
    · rw [cl, if_pos hc] at h
      rw [List.cons_append, cl, if_pos hc, h]
    · rw [cl_on hc] at h
      obtain ⟨x', h1, h2⟩ := Option.map_eq_some_iff.mp h
      have h0 := it_pos (c :: r)
      have ha := it_app c r X x' h1
      have hl : (it (c :: r)).2.2 ≤ (c :: r).length := by
        rcases Nat.lt_or_ge (c :: r).length (it (c :: r)).2.2 with hh | hh
        · rw [List.drop_of_length_le (by omega), cl_nil] at h1; cases h1
        · exact hh
      have h3 := cl_app X _ false x' h1
      rw [← List.drop_append_of_le_length hl] at h3
      rw [List.cons_append] at ha h3 ⊢
      rw [cl_on hc, ha, h3, Option.map_some, h2]
termination_by l => l.length
decreasing_by
  have := it_pos (c :: r)
  simp only [List.length_drop, List.length_cons]
  omega
theorem tk_app {l : List UInt8} {t : Tok} {k : Nat} (X : List UInt8) (h : tk l = some (t, k)) : tk (l ++ X) = some (t, k) := by
  cases l with
  | nil => cases h
  | cons c r =>
    rw [tk] at h
    rw [List.cons_append, tk]
    split
    · rename_i h1
      rw [if_pos h1] at h
      exact h
    · rename_i h1
      rw [if_neg h1] at h
      split
      · rename_i h2
        rw [if_pos h2] at h
        obtain ⟨x, h3, h4⟩ := Option.map_eq_some_iff.mp h
        have hn : ng (r ++ X) = ng r := by
          cases r with
          | nil => rw [ng, List.drop_nil, cl_nil] at h3; cases h3
          | cons d r' => rfl
        have hl := ng_le r
        have h5 := cl_app X _ true x h3
        rw [← List.drop_append_of_le_length hl.2] at h5
        rw [hn, h5, Option.map_some, h4]
      · rename_i h2
        rw [if_neg h2] at h
        split at h
        · cases h
        · rename_i h3
          have h4 : ¬ (c = 92 ∧ r ++ X = []) := fun e => h3 ⟨e.1, (List.append_eq_nil_iff.mp e.2).1⟩
          rw [if_neg h4, ← h]
          cases r with
          | nil =>
            have h5 : c ≠ 92 := fun e => h3 ⟨e, rfl⟩
            rw [List.nil_append, cv, cv, if_neg h5, if_neg h5]
          | cons d r' => rw [← List.cons_append, cv_app]
theorem tks_app (X : List UInt8) : ∀ (l : List UInt8) (L : List (Option Tok)), tks l = some L → tks (l ++ X) = (tks X).map (L ++ ·)
  | [], L, h => by
    rw [tks_nil, Option.some.injEq] at h
    subst h
    rw [List.nil_append]
    cases tks X <;> rfl
  | c :: r, L, h => by
    cases ht : tk (c :: r) with
    | none => rw [tks_bad ht] at h; cases h
    | some x =>
      obtain ⟨t, k⟩ := x
      have hk := tk_le ht
      rw [tks_on ht] at h
      obtain ⟨L', h1, h2⟩ := Option.map_eq_some_iff.mp h
      have ih := tks_app X _ L' h1
      have h3 := tk_app X ht
      rw [List.cons_append] at h3
      rw [List.cons_append, tks_on h3, ← List.cons_append, List.drop_append_of_le_length hk.2, ih, ← h2]
      cases tks X <;> rfl
termination_by l => l.length
decreasing_by
  have := tk_le ht
  simp only [List.length_drop, List.length_cons]
  omega
theorem tks_any (X : List UInt8) : tks (63 :: X) = (tks X).map (some .any :: ·) := by
  rw [tks_on (t := .any) (k := 1) (by rw [tk, if_pos rfl])]
  rfl
theorem tks_star (X : List UInt8) : tks (42 :: X) = (tks X).map (none :: ·) := by
  rw [tks_on (t := .chr 42) (k := 1) (by rw [tk, if_neg (by decide), if_neg (by decide), if_neg (by simp)]; rfl)]
  rfl
section
variable {τ α : Type} (μ : τ → α → Bool)
theorem wm_mono {P Q : List (Option τ)} (h : ∀ t : List α, wm μ P t = true → wm μ Q t = true) : ∀ (L : List (Option τ)) (t : List α), wm μ (L ++ P) t = true → wm μ (L ++ Q) t = true
  | [], t, ht => h t ht
  | none :: L, t, ht => by
    rw [List.cons_append, wm_star_iff] at ht ⊢
    obtain ⟨d, h1, h2⟩ := ht
    exact ⟨d, h1, wm_mono h L _ h2⟩
  | some f :: L, [], ht => by rw [List.cons_append, wm_some_nil] at ht; cases ht
  | some f :: L, c :: t, ht => by
    rw [List.cons_append, wm_some, Bool.and_eq_true] at ht ⊢
    exact ⟨ht.1, wm_mono h L _ ht.2⟩
theorem wm_q_star (f : τ) (L R : List (Option τ)) (t : List α) (h : wm μ (L ++ some f :: R) t = true) : wm μ (L ++ none :: R) t = true :=
  wm_mono μ (fun t h => by
    cases t with
    | nil => rw [wm_some_nil] at h; cases h
    | cons c t =>
      rw [wm_some, Bool.and_eq_true] at h
      rw [wm_star_iff]
      exact ⟨1, by simp, h.2⟩) L t h
theorem wm_n_star (L R : List (Option τ)) (t : List α) (h : wm μ (L ++ R) t = true) : wm μ (L ++ none :: R) t = true :=
  wm_mono μ (fun t h => by
    rw [wm_star_iff]
    exact ⟨0, Nat.zero_le _, h⟩) L t h
end

theorem noSl_app (a b : List UInt8) : noSl (a ++ b) = (noSl a && noSl b) := by unfold noSl; rw [List.all_append]
/-- Nothing, or a part pattern: its elements. -/
theorem side_tks {a : ByteArray} (h : a.size = 0 ∨ gIs a = true) (hn : noSl a.data.toList = true) : ∃ L, tks a.data.toList = some L := by
  by_cases h0 : a.size = 0
  · rw [List.eq_nil_of_length_eq_zero (l := a.data.toList) (by rw [list_len]; exact h0)]
    exact ⟨[], tks_nil⟩
  · obtain ⟨_, _, h2⟩ := gIs_parts (h.resolve_left h0)
    rw [prts_one hn (by omega)] at h2
    exact h2 _ (List.mem_singleton_self _)
theorem gPart_one {p s : ByteArray} (h : gPart p s = true) : noSl p.data.toList = true ∧ noSl s.data.toList = true ∧ gIs p = true ∧ partM p.data.toList s.data.toList = true := by
  unfold gPart at h
  simp only [Bool.and_eq_true] at h
  exact h
theorem gIs_one {p : ByteArray} {L : List (Option Tok)} (hn : noSl p.data.toList = true) (h0 : 0 < p.size) (h2 : p.size ≤ 255) (h : tks p.data.toList = some L) : gIs p = true := by
  unfold gIs isPt
  rw [prts_one hn h0, decide_eq_true h0, decide_eq_true h2, List.all_cons, h]
  have : p.data.toList.isEmpty = false := by
    cases hh : p.data.toList with
    | nil => have := list_len p; rw [hh] at this; simp only [List.length_nil] at this; omega
    | cons _ _ => rfl
  rw [this]
  rfl
theorem gPart_of {p s : ByteArray} {L : List (Option Tok)} (hn : noSl p.data.toList = true) (hs : noSl s.data.toList = true) (h0 : 0 < p.size) (h2 : p.size ≤ 255) (h : tks p.data.toList = some L) (hw : wm tm L s.data.toList = true) : gPart p s = true := by
  unfold gPart
  rw [hn, hs, gIs_one hn h0 h2 h, partM_some h, hw]
  rfl
theorem mid_list (a b : ByteArray) (c : UInt8) : (a ++ ⟨#[c]⟩ ++ b).data.toList = a.data.toList ++ c :: b.data.toList := by
  rw [app_list, app_list]
  show a.data.toList ++ [c] ++ b.data.toList = _
  simp
theorem mid_size (a b : ByteArray) (c : UInt8) : (a ++ ⟨#[c]⟩ ++ b).size = a.size + 1 + b.size := by
  rw [ByteArray.size_append, ByteArray.size_append]
  rfl
theorem noSl_cons {c : UInt8} (h : (c != 47) = true) (r : List UInt8) : noSl (c :: r) = noSl r := by unfold noSl; rw [List.all_cons, h, Bool.true_and]
section
variable {a b s : ByteArray} (ha : a.size = 0 ∨ gIs a = true) (hb : b.size = 0 ∨ gIs b = true) (h1 : a.size ≤ 100) (h2 : b.size ≤ 100)
include ha hb h1 h2
theorem stars_any (h : gPart (a ++ ⟨#[63]⟩ ++ b) s = true) : gPart (a ++ ⟨#[42]⟩ ++ b) s = true := by
  obtain ⟨hn, hs, _, hm⟩ := gPart_one h
  rw [mid_list, noSl_app, noSl_cons rfl, Bool.and_eq_true] at hn
  obtain ⟨L, hL⟩ := side_tks ha hn.1
  obtain ⟨R, hR⟩ := side_tks hb hn.2
  have hq : tks (a ++ ⟨#[63]⟩ ++ b).data.toList = some (L ++ some .any :: R) := by rw [mid_list, tks_app _ _ _ hL, tks_any, hR]; rfl
  have ht : tks (a ++ ⟨#[42]⟩ ++ b).data.toList = some (L ++ none :: R) := by rw [mid_list, tks_app _ _ _ hL, tks_star, hR]; rfl
  rw [partM_some hq] at hm
  exact gPart_of (by rw [mid_list, noSl_app, noSl_cons rfl, hn.1, hn.2]; rfl) hs (by rw [mid_size]; omega) (by rw [mid_size]; omega) ht (wm_q_star tm _ _ _ _ hm)
theorem stars_none (h : gPart (a ++ b) s = true) : gPart (a ++ ⟨#[42]⟩ ++ b) s = true := by
  obtain ⟨hn, hs, _, hm⟩ := gPart_one h
  rw [app_list, noSl_app, Bool.and_eq_true] at hn
  obtain ⟨L, hL⟩ := side_tks ha hn.1
  obtain ⟨R, hR⟩ := side_tks hb hn.2
  have hq : tks (a ++ b).data.toList = some (L ++ R) := by rw [app_list, tks_app _ _ _ hL, hR]; rfl
  have ht : tks (a ++ ⟨#[42]⟩ ++ b).data.toList = some (L ++ none :: R) := by rw [mid_list, tks_app _ _ _ hL, tks_star, hR]; rfl
  rw [partM_some hq] at hm
  exact gPart_of (by rw [mid_list, noSl_app, noSl_cons rfl, hn.1, hn.2]; rfl) hs (by rw [mid_size]; omega) (by rw [mid_size]; omega) ht (wm_n_star tm _ _ _ hm)
end
end Go.Proofs.YtdgcmapmnkopaaaDoor
