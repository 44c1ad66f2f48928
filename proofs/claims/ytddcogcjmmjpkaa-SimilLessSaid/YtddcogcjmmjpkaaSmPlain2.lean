/-
  Plain mathematics of simil: what one more line adds; lines taken out, lines in another order; the best of several.
-/
import Derived.Test.YtddcogcjmmjpkaaSmPlain
namespace Go.Proofs.Ytddcogcjmmjpkaa

/-- One line more in the second list. -/
theorem shr_snoc (x y : List (List UInt8)) (l : List UInt8) : shr x (y ++ [l]) = shr x y + if y.count l < x.count l then l.length else 0 := by
  have hin : ∀ z ∈ x, z ∈ y ++ [l] → z ∈ dd [] (x ++ (y ++ [l])) := fun z hz _ => (dd_mem _ [] z).2 ⟨by simp [hz], by simp⟩
  have hin2 : ∀ z ∈ x, z ∈ y → z ∈ dd [] (x ++ (y ++ [l])) := fun z hz _ => (dd_mem _ [] z).2 ⟨by simp [hz], by simp⟩
  rw [shr_sum (y ++ [l]) x _ (dd_nodup (x ++ (y ++ [l])) []) hin, shr_sum y x _ (dd_nodup (x ++ (y ++ [l])) []) hin2]
  have hc : ∀ z, (y ++ [l]).count z = y.count z + if z = l then 1 else 0 := fun z => by
    rw [List.count_append, List.count_singleton]
    congr 1
    by_cases e : z = l
    · simp [e]
    · rw [if_neg e, if_neg (by simpa using Ne.symm e)]
  by_cases h : y.count l < x.count l
  · rw [if_pos h]
    refine sumF_one (dd_nodup _ []) ((dd_mem _ [] l).2 ⟨by simp, by simp⟩) _ ?_ ?_
    · unfold part
      rw [hc, if_pos rfl, Nat.min_eq_right (by omega), Nat.min_eq_right (by omega), Nat.mul_add, Nat.mul_one]
    · intro z _ hz
      unfold part
      rw [hc, if_neg hz, Nat.add_zero]
  · rw [if_neg h, Nat.add_zero]
    refine sumF_congr fun z _ => ?_
    unfold part
    rw [hc]
    by_cases e : z = l
    · subst e
      rw [if_pos rfl, Nat.min_eq_left (by omega), Nat.min_eq_left (by omega)]
    · rw [if_neg e, Nat.add_zero]
/-- What has been counted of the second list. -/
def Cut (x y m : List (List UInt8)) : Prop := ∀ q, m.count q = min (x.count q) (y.count q)
theorem cut_nil (x : List (List UInt8)) : Cut x [] [] := fun q => by simp
theorem cut_snoc {x y m : List (List UInt8)} (h : Cut x y m) (l : List UInt8) (hlt : y.count l < x.count l) : Cut x (y ++ [l]) (m ++ [l]) := fun q => by
  rw [List.count_append, List.count_append, h q]
  by_cases e : q = l
  · subst e
    simp
    omega
  · rw [List.count_singleton, if_neg (by simpa using Ne.symm e)]
    omega
theorem cut_stay {x y m : List (List UInt8)} (h : Cut x y m) (l : List UInt8) (hge : ¬ y.count l < x.count l) : Cut x (y ++ [l]) m := fun q => by
  rw [List.count_append, h q]
  by_cases e : q = l
  · subst e
    simp
    omega
  · rw [List.count_singleton, if_neg (by simpa using Ne.symm e)]
    omega
theorem cut_lt {x y m : List (List UInt8)} (h : Cut x y m) (l : List UInt8) : m.count l < x.count l ↔ y.count l < x.count l := by
  rw [h l]
  omega

theorem line_of : ∀ {ls : List (List UInt8)}, okLines ls = true → ∀ x ∈ ls, isLine x = true
  | [], _, x, hx => absurd hx (by simp)
  | [y], h, x, hx => by simp at hx; subst hx; exact h
  | y :: z :: r, h, x, hx => by
    rw [okLines, Bool.and_eq_true, Bool.and_eq_true] at h
    rcases List.mem_cons.1 hx with rfl | hx
    · exact h.1.1
    · exact line_of h.2 x hx
theorem lines_of : ∀ {ls : List (List UInt8)}, (∀ x ∈ ls, isLine x = true ∧ x.getLast? = some 10) → okLines ls = true
  | [], _ => rfl
  | [y], h => (h y (by simp)).1
  | y :: z :: r, h => by
    have h1 := h y (by simp)
    rw [okLines, h1.1, h1.2, lines_of fun x hx => h x (List.mem_cons_of_mem _ hx)]
    rfl
/-- All lines but the last end in a line feed. -/
theorem feed_of : ∀ {ls : List (List UInt8)} {x : List UInt8}, okLines (ls ++ [x]) = true → ∀ z ∈ ls, z.getLast? = some 10
  | [], _, _, z, hz => absurd hz (by simp)
  | [y], x, h, z, hz => by
    simp at hz; subst hz
    simp only [List.cons_append, List.nil_append, okLines, Bool.and_eq_true, beq_iff_eq] at h
    exact h.1.2
  | y :: w :: r, x, h, z, hz => by
    have h' : okLines (y :: w :: (r ++ [x])) = true := h
    rw [okLines, Bool.and_eq_true, Bool.and_eq_true, beq_iff_eq] at h'
    rcases List.mem_cons.1 hz with rfl | hz
    · exact h'.1.2
    · exact feed_of (ls := w :: r) h'.2 z hz
theorem ok_snoc {ls : List (List UInt8)} {x : List UInt8} (h : ∀ z ∈ ls, isLine z = true ∧ z.getLast? = some 10) (hx : isLine x = true) : okLines (ls ++ [x]) = true := by
  induction ls with
  | nil => exact hx
  | cons y r ih =>
    have h1 := h y (by simp)
    have h2 := ih fun z hz => h z (List.mem_cons_of_mem _ hz)
    cases r with
    | nil => simp only [List.cons_append, List.nil_append, okLines, h1.1, h1.2, hx]; rfl
    | cons w r =>
      rw [List.cons_append, List.cons_append, okLines, h1.1, h1.2]
      exact h2
/-- Lines without one of them are lines. -/
theorem ok_erase {ls : List (List UInt8)} (h : okLines ls = true) (i : Nat) (hi : i < ls.length) : okLines (ls.take i ++ ls.drop (i + 1)) = true := by
  have hne : ls ≠ [] := fun e => by rw [e] at hi; simp at hi
  obtain ⟨a, x, rfl⟩ : ∃ a x, ls = a ++ [x] := ⟨ls.dropLast, ls.getLast hne, (List.dropLast_concat_getLast hne).symm⟩
  have hall := line_of h
  have hf := feed_of h
  have hA : ∀ z ∈ a, isLine z = true ∧ z.getLast? = some 10 := fun z hz => ⟨hall z (by simp [hz]), hf z hz⟩
  simp only [List.length_append, List.length_cons, List.length_nil] at hi
  rcases Nat.lt_or_ge i a.length with hlt | hge
  · rw [List.take_append_of_le_length (by omega), List.drop_append_of_le_length (by omega), ← List.append_assoc]
    refine ok_snoc (fun z hz => ?_) (hall x (by simp))
    rcases List.mem_append.1 hz with hz | hz
    · exact hA z (List.mem_of_mem_take hz)
    · exact hA z (List.mem_of_mem_drop hz)
  · have e : i = a.length := by omega
    subst e
    rw [List.take_left, List.drop_of_length_le (by simp), List.append_nil]
    exact lines_of hA
theorem split_erase (l : List UInt8) (i : Nat) (hi : i < (split l).length) : split (join ((split l).take i) ++ join ((split l).drop (i + 1))) = (split l).take i ++ (split l).drop (i + 1) := by
  have e : join ((split l).take i) ++ join ((split l).drop (i + 1)) = join ((split l).take i ++ (split l).drop (i + 1)) := by simp [join]
  rw [e, join_split (ok_erase (split_ok l) i hi)]
theorem shr_erase (x y : List (List UInt8)) (i : Nat) (hi : i < x.length) : shr (x.take i ++ x.drop (i + 1)) y ≤ shr x y ∧ shr x y ≤ shr (x.take i ++ x.drop (i + 1)) y + x[i].length := by
  have hp : x.Perm (x[i] :: (x.take i ++ x.drop (i + 1))) := by
    have e : x = x.take i ++ x[i] :: x.drop (i + 1) := by rw [← List.drop_eq_getElem_cons hi, List.take_append_drop]
    have h2 : (x.take i ++ x[i] :: x.drop (i + 1)).Perm (x[i] :: (x.take i ++ x.drop (i + 1))) := List.perm_middle
    rw [← e] at h2
    exact h2
  rw [shr_perm hp y]
  exact shr_more _ _ _
/-- Lines in the reverse order, if each ends in a line feed. -/
theorem split_back (l : List UInt8) (h : l ≠ [] → l.getLast? = some 10) : split (join (split l).reverse) = (split l).reverse := by
  refine join_split (lines_of fun x hx => ?_)
  rw [List.mem_reverse] at hx
  have hall := line_of (split_ok l)
  refine ⟨hall x hx, ?_⟩
  by_cases hne : split l = []
  · rw [hne] at hx; cases hx
  · obtain ⟨a, z, e⟩ : ∃ a z, split l = a ++ [z] := ⟨(split l).dropLast, (split l).getLast hne, (List.dropLast_concat_getLast hne).symm⟩
    have hok := split_ok l
    rw [e] at hok hx hall
    rcases List.mem_append.1 hx with hx | hx
    · exact feed_of hok x hx
    · have hz : x = z := by simpa using hx
      subst hz
      have hzl := hall x (by simp)
      have hz0 : x ≠ [] := fun e => by rw [e] at hzl; cases hzl
      have hj := split_join l
      rw [e] at hj
      simp only [join, List.flatten_append, List.flatten_cons, List.flatten_nil, List.append_nil] at hj
      have hl : l ≠ [] := by rw [← hj]; simp [hz0]
      have h2 := h hl
      rw [← hj, List.getLast?_append, List.getLast?_eq_some_getLast hz0] at h2
      rw [List.getLast?_eq_some_getLast hz0]
      simpa using h2

/-- The first of the best scores, and its index. -/
def bst (i : Int) (best : Nat) (k : Nat) : List Nat → Int × Nat
  | [] => (i, best)
  | s :: r => if i < 0 ∨ best < s then bst k s (k + 1) r else bst i best (k + 1) r
theorem bst_drop (i : Int) (best k : Nat) (l : List Nat) (h : k < l.length) : bst i best k (l.drop k) = if i < 0 ∨ best < l[k] then bst k l[k] (k + 1) (l.drop (k + 1)) else bst i best (k + 1) (l.drop (k + 1)) := by
  rw [List.drop_eq_getElem_cons h, bst]
end Go.Proofs.Ytddcogcjmmjpkaa
