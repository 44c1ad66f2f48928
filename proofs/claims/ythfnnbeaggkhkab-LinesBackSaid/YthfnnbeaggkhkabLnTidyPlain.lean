/-
  Plain mathematics of Clean: the lines that it writes; written once more they are the same.
-/
import Derived.Test.YthfnnbeaggkhkabLnPlain
namespace Go.Proofs.Ythfnnbeaggkhkab

/-- The lines that are written: each a text, a blank line ahead of it or not. -/
def flat (it : List (Bool × List UInt8)) : List (List UInt8) := it.flatMap fun p => (if p.1 = true then [[10]] else []) ++ [p.2 ++ [10]]
theorem flat_cons (b : Bool) (t : List UInt8) (r : List (Bool × List UInt8)) : flat ((b, t) :: r) = (if b = true then [[10]] else []) ++ (t ++ [10]) :: flat r := by simp [flat]
theorem flat_snoc (it : List (Bool × List UInt8)) (b : Bool) (t : List UInt8) : flat (it ++ [(b, t)]) = flat it ++ ((if b = true then [[10]] else []) ++ [t ++ [10]]) := by simp [flat]
def istep (st : List (Bool × List UInt8) × Bool) (x : List UInt8) : List (Bool × List UInt8) × Bool :=
  if x.head? = some 35 then st else if trim x = [] then (st.1, true) else (st.1 ++ [(st.2 && !st.1.isEmpty, trim x)], false)
def ifold (ls : List (List UInt8)) : List (Bool × List UInt8) × Bool := ls.foldl istep ([], false)
theorem ifold_snoc (ls : List (List UInt8)) (x : List UInt8) : ifold (ls ++ [x]) = istep (ifold ls) x := by simp [ifold]
theorem flat_empty (it : List (Bool × List UInt8)) : (join (flat it)).isEmpty = it.isEmpty := by
  cases it with
  | nil => rfl
  | cons p r =>
    obtain ⟨b, t⟩ := p
    rw [flat_cons]
    cases b <;> simp [join]
theorem cstep_istep (st : List (Bool × List UInt8) × Bool) (x : List UInt8) : cstep (join (flat st.1), st.2 && !st.1.isEmpty) x = (join (flat (istep st x).1), (istep st x).2 && !(istep st x).1.isEmpty) := by
  unfold cstep istep
  by_cases h : x.head? = some 35
  · rw [if_pos h, if_pos h]
  · rw [if_neg h, if_neg h]
    by_cases h2 : trim x = []
    · rw [if_pos h2, if_pos h2]
      simp only [Bool.true_and]
      rw [flat_empty]
    · rw [if_neg h2, if_neg h2]
      simp only [flat_snoc, join, List.flatten_append, List.flatten_cons, List.flatten_nil, List.append_nil, Bool.false_and, List.append_assoc]
      congr 2
      split <;> simp
theorem foldl_istep (ls : List (List UInt8)) (st : List (Bool × List UInt8) × Bool) : ls.foldl cstep (join (flat st.1), st.2 && !st.1.isEmpty) = (join (flat (ls.foldl istep st).1), (ls.foldl istep st).2 && !(ls.foldl istep st).1.isEmpty) := by
  induction ls generalizing st with
  | nil => rfl
  | cons x r ih => rw [List.foldl_cons, cstep_istep, ih, List.foldl_cons]
theorem cfold_ifold (ls : List (List UInt8)) : cfold ls = (join (flat (ifold ls).1), (ifold ls).2 && !(ifold ls).1.isEmpty) := foldl_istep ls ([], false)
theorem clean_flat (l : List UInt8) : clean l = join (flat (ifold (split l)).1) := by rw [clean, cfold_ifold]

/-- A text that is written. -/
def good (t : List UInt8) : Prop := t ≠ [] ∧ t.head? ≠ some 35 ∧ t.all (· != 10) = true ∧ trimR t = t
theorem dropWhile_idem {α : Type} (p : α → Bool) (l : List α) : (l.dropWhile p).dropWhile p = l.dropWhile p := by
  induction l with
  | nil => rfl
  | cons a l ih =>
    rw [List.dropWhile_cons]
    split
    · exact ih
    · rename_i h; rw [List.dropWhile_cons, if_neg h]
theorem trimR_idem (l : List UInt8) : trimR (trimR l) = trimR l := by
  unfold trimR
  rw [List.reverse_reverse, dropWhile_idem]
theorem trimR_pre (l : List UInt8) : trimR l <+: l := by
  unfold trimR
  have := List.dropWhile_suffix (p := sp) (l := l.reverse)
  have h2 := List.reverse_prefix.2 this
  rwa [List.reverse_reverse] at h2
theorem pre_head {a b : List UInt8} (h : a <+: b) (hne : a ≠ []) : a.head? = b.head? := by
  obtain ⟨c, rfl⟩ := h
  cases a with
  | nil => exact absurd rfl hne
  | cons x y => rfl
theorem cont_pre (l : List UInt8) : cont l <+: l := by
  unfold cont
  split
  · exact List.dropLast_prefix l
  · exact List.prefix_refl l
theorem line_cont {x : List UInt8} (h : isLine x = true) : (cont x).all (· != 10) = true := by
  simp only [isLine, Bool.and_eq_true, Bool.not_eq_true', List.isEmpty_eq_false_iff] at h
  unfold cont
  split
  · exact h.2
  · rename_i hl
    obtain ⟨h1, h2⟩ := h
    have e := List.dropLast_concat_getLast h1
    rw [← e, List.all_append, h2]
    rw [List.getLast?_eq_some_getLast h1] at hl
    simpa using hl
theorem all_pre {a b : List UInt8} {p : UInt8 → Bool} (h : a <+: b) (hb : b.all p = true) : a.all p = true := by
  obtain ⟨c, rfl⟩ := h
  rw [List.all_append, Bool.and_eq_true] at hb
  exact hb.1
theorem good_trim {x : List UInt8} (h : isLine x = true) (h35 : x.head? ≠ some 35) (ht : trim x ≠ []) : good (trim x) := by
  refine ⟨ht, ?_, all_pre (trimR_pre _) (line_cont h), trimR_idem _⟩
  have hp : trim x <+: x := (trimR_pre _).trans (cont_pre _)
  rw [pre_head hp ht]
  exact h35
/-- What is written: texts, no blank line ahead of the first. -/
def okItems (it : List (Bool × List UInt8)) : Prop := (∀ p ∈ it, good p.2) ∧ ∀ p r, it = p :: r → p.1 = false
theorem istep_ok {st : List (Bool × List UInt8) × Bool} {x : List UInt8} (h : okItems st.1) (hx : isLine x = true) : okItems (istep st x).1 := by
  unfold istep
  split
  · exact h
  · split
    · exact h
    · rename_i h1 h2
      refine ⟨?_, ?_⟩
      · intro p hp
        rcases List.mem_append.1 hp with hp | hp
        · exact h.1 p hp
        · simp at hp; subst hp; exact good_trim hx h1 h2
      · intro p r hpr
        cases hs : st.1 with
        | nil => rw [hs] at hpr; simp at hpr; rw [← hpr.1]
        | cons q s => rw [hs] at hpr; simp at hpr; rw [← hpr.1]; exact h.2 q s hs
theorem ifold_ok (ls : List (List UInt8)) (h : ∀ x ∈ ls, isLine x = true) : okItems (ifold ls).1 := by
  have key : ∀ (ls : List (List UInt8)) (st : List (Bool × List UInt8) × Bool), (∀ x ∈ ls, isLine x = true) → okItems st.1 → okItems (ls.foldl istep st).1 := by
    intro ls
    induction ls with
    | nil => intro st _ h; exact h
    | cons x r ih => intro st hx h; exact ih _ (fun y hy => hx y (by simp [hy])) (istep_ok h (hx x (by simp)))
  exact key ls ([], false) h ⟨fun p hp => absurd hp (by simp), fun p r hpr => by cases hpr⟩
theorem ok_all : ∀ {ls : List (List UInt8)}, okLines ls = true → ∀ x ∈ ls, isLine x = true
  | [], _, x, hx => absurd hx (by simp)
  | [y], h, x, hx => by simp at hx; subst hx; exact h
  | y :: z :: r, h, x, hx => by
    rw [okLines, Bool.and_eq_true, Bool.and_eq_true] at h
    rcases List.mem_cons.1 hx with rfl | hx
    · exact h.1.1
    · exact ok_all h.2 x hx
theorem split_items (l : List UInt8) : okItems (ifold (split l)).1 := ifold_ok _ (ok_all (split_ok l))
theorem text_line {t : List UInt8} (h : good t) : isLine (t ++ [10]) = true ∧ (t ++ [10]).getLast? = some 10 := by
  refine ⟨?_, by simp⟩
  simp only [isLine, List.dropLast_concat, h.2.2.1, Bool.and_true, Bool.not_eq_true', List.isEmpty_eq_false_iff]
  simp
theorem okLines_of : ∀ {ls : List (List UInt8)}, (∀ x ∈ ls, isLine x = true ∧ x.getLast? = some 10) → okLines ls = true
  | [], _ => rfl
  | [y], h => (h y (by simp)).1
  | y :: z :: r, h => by
    have h1 := h y (by simp)
    rw [okLines, h1.1, h1.2, okLines_of fun x hx => h x (List.mem_cons_of_mem _ hx)]
    rfl
theorem flat_lines {it : List (Bool × List UInt8)} (h : okItems it) : ∀ x ∈ flat it, isLine x = true ∧ x.getLast? = some 10 := by
  intro x hx
  simp only [flat, List.mem_flatMap] at hx
  obtain ⟨p, hp, hx⟩ := hx
  rcases List.mem_append.1 hx with hx | hx
  · split at hx
    · simp at hx; subst hx; exact ⟨rfl, rfl⟩
    · simp at hx
  · simp at hx; subst hx; exact text_line (h.1 p hp)
theorem split_flat {it : List (Bool × List UInt8)} (h : okItems it) : split (join (flat it)) = flat it := join_split (okLines_of (flat_lines h))
theorem trim_text {t : List UInt8} (h : good t) : trim (t ++ [10]) = t := by
  unfold trim cont
  rw [if_pos (by simp), List.dropLast_concat, h.2.2.2]
theorem head_text {t : List UInt8} (h : good t) : (t ++ [10]).head? ≠ some 35 := by
  cases ht : t with
  | nil => exact absurd ht h.1
  | cons a b => rw [ht] at h; exact h.2.1
theorem fold_flat (it : List (Bool × List UInt8)) (done : List (Bool × List UInt8)) (hg : ∀ p ∈ it, good p.2) (hd : done ≠ [] ∨ ∀ p r, it = p :: r → p.1 = false) : (flat it).foldl istep (done, false) = (done ++ it, false) := by
  induction it generalizing done with
  | nil => simp [flat]
  | cons p r ih =>
    obtain ⟨b, t⟩ := p
    have ht := hg (b, t) (by simp)
    have hs : istep (done, b) (t ++ [10]) = (done ++ [(b, t)], false) := by
      unfold istep
      rw [if_neg (head_text ht), trim_text ht, if_neg ht.1]
      have : (b && !done.isEmpty) = b := by
        cases b with
        | false => rfl
        | true =>
          rcases hd with hd | hd
          · cases done with
            | nil => exact absurd rfl hd
            | cons a c => rfl
          · have := hd (true, t) r rfl; simp at this
      rw [this]
    have hb : (if b = true then [[10]] else []).foldl istep (done, false) = (done, b) := by
      cases b with
      | false => rfl
      | true => simp [istep, trim, cont, trimR]
    rw [flat_cons, List.foldl_append, hb, List.foldl_cons, hs, ih _ (fun p hp => hg p (by simp [hp])) (.inl (by simp))]
    simp
theorem ifold_flat {it : List (Bool × List UInt8)} (h : okItems it) : ifold (flat it) = (it, false) := by
  have := fold_flat it [] h.1 (.inr h.2)
  simpa [ifold] using this
theorem clean_twice (l : List UInt8) : clean (clean l) = clean l := by
  have h := split_items l
  rw [clean_flat l, clean_flat, split_flat h, ifold_flat h]
/-- Every line that is written, what is ahead of it and behind it. -/
theorem flat_tidy (it : List (Bool × List UInt8)) (hg : ∀ p ∈ it, good p.2) : ∀ (A : List (List UInt8)) (x : List UInt8) (B : List (List UInt8)), flat it = A ++ x :: B →
    x.head? ≠ some 35 ∧ x.getLast? = some 10 ∧ (x = [10] → B ≠ [] ∧ (A = [] → ∃ t r, it = (true, t) :: r) ∧ A.getLast? ≠ some [10]) := by
  induction it with
  | nil => intro A x B h; simp [flat] at h
  | cons p r ih =>
    obtain ⟨b, t⟩ := p
    have ht := hg (b, t) (by simp)
    have ih := ih (fun p hp => hg p (by simp [hp]))
    have htl := (text_line ht).2
    have hne : t ++ [10] ≠ [10] := fun e => ht.1 (by simpa using e)
    have one : ∀ (A : List (List UInt8)) (x : List UInt8) (B : List (List UInt8)), (t ++ [10]) :: flat r = A ++ x :: B →
        x.head? ≠ some 35 ∧ x.getLast? = some 10 ∧ (x = [10] → B ≠ [] ∧ A ≠ [] ∧ A.getLast? ≠ some [10]) := by
      intro A x B h
      cases A with
      | nil =>
        simp only [List.nil_append, List.cons.injEq] at h
        obtain ⟨rfl, rfl⟩ := h
        exact ⟨head_text ht, htl, fun e => absurd e hne⟩
      | cons a A =>
        simp only [List.cons_append, List.cons.injEq] at h
        obtain ⟨rfl, h⟩ := h
        obtain ⟨h1, h2, h3⟩ := ih A x B h
        refine ⟨h1, h2, fun e => ⟨(h3 e).1, by simp, ?_⟩⟩
        rw [List.getLast?_cons]
        cases hA : A.getLast? with
        | none => simpa using hne
        | some z => have := (h3 e).2.2; rw [hA] at this; simpa using this
    intro A x B h
    rw [flat_cons] at h
    cases b with
    | false =>
      rw [if_neg (by decide), List.nil_append] at h
      obtain ⟨h1, h2, h3⟩ := one A x B h
      exact ⟨h1, h2, fun e => ⟨(h3 e).1, fun e2 => absurd e2 (h3 e).2.1, (h3 e).2.2⟩⟩
    | true =>
      rw [if_pos rfl] at h
      cases A with
      | nil =>
        simp only [List.nil_append, List.cons_append, List.cons.injEq] at h
        obtain ⟨rfl, h⟩ := h
        exact ⟨by decide, by decide, fun _ => ⟨by rw [← h]; simp, fun _ => ⟨t, r, rfl⟩, by simp⟩⟩
      | cons a A =>
        simp only [List.cons_append, List.nil_append, List.cons.injEq] at h
        obtain ⟨rfl, h⟩ := h
        obtain ⟨h1, h2, h3⟩ := one A x B h
        refine ⟨h1, h2, fun e => ⟨(h3 e).1, (fun e2 => by cases e2), ?_⟩⟩
        rw [List.getLast?_cons]
        cases hA : A.getLast? with
        | none => exact absurd (List.getLast?_eq_none_iff.1 hA) (h3 e).2.1
        | some z => have := (h3 e).2.2; rw [hA] at this; simpa using this
/-- The first line that is written is the first that is not blank. -/
theorem flat_first {it : List (Bool × List UInt8)} (h : okItems it) : (flat it = [] ∧ first (flat it) = []) ∨ ∃ x r, flat it = x :: r ∧ first (flat it) ++ [10] = x := by
  cases it with
  | nil => exact .inl ⟨rfl, rfl⟩
  | cons p r =>
    obtain ⟨b, t⟩ := p
    have hb : b = false := h.2 (b, t) r rfl
    subst hb
    have ht := h.1 (false, t) (by simp)
    refine .inr ⟨t ++ [10], flat r, by rw [flat_cons]; rfl, ?_⟩
    rw [flat_cons]
    show first ((t ++ [10]) :: flat r) ++ [10] = _
    have hc : cont (t ++ [10]) = t := by unfold cont; rw [if_pos (by simp), List.dropLast_concat]
    rw [first, hc, if_neg ht.1]
end Go.Proofs.Ythfnnbeaggkhkab
