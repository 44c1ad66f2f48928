/-
  Plain mathematics of lines: nothing of the program is named here.
-/

namespace Go.Proofs.Ytidghjalfbklnaa

/-- The lines, cur being the bytes of the line that has begun. -/
def spl (cur : List UInt8) : List UInt8 → List (List UInt8)
  | [] => if cur.isEmpty then [] else [cur]
  | c :: l => if c = 10 then (cur ++ [c]) :: spl [] l else spl (cur ++ [c]) l
def split (l : List UInt8) : List (List UInt8) := spl [] l
def join (ls : List (List UInt8)) : List UInt8 := ls.flatten
theorem spl_join (l cur : List UInt8) : join (spl cur l) = cur ++ l := by
  induction l generalizing cur with
  | nil =>
    unfold spl
    cases cur with
    | nil => rfl
    | cons a c => simp [join]
  | cons c l ih =>
    unfold spl
    split
    · have := ih []
      simp only [join, List.flatten_cons] at this ⊢
      rw [this]; simp
    · rw [ih]; simp
theorem split_join (l : List UInt8) : join (split l) = l := by rw [split, spl_join]; rfl
/-- A line: it is not empty, and has no line feed but at its end. -/
def isLine (l : List UInt8) : Bool := !l.isEmpty && (l.dropLast.all (· != 10))
/-- Lines: all are, all but the last end in a line feed. -/
def okLines : List (List UInt8) → Bool
  | [] => true
  | [x] => isLine x
  | x :: y :: r => isLine x && (x.getLast? == some 10) && okLines (y :: r)
theorem spl_line (l cur : List UInt8) (h : cur.all (· != 10) = true) : okLines (spl cur l) = true := by
  induction l generalizing cur with
  | nil =>
    unfold spl
    cases cur with
    | nil => rfl
    | cons a c =>
      simp only [List.isEmpty_cons, Bool.false_eq_true, if_false, okLines, isLine, Bool.not_false, Bool.true_and, List.all_eq_true] at h ⊢
      intro x hx
      exact h x (List.dropLast_subset _ hx)
  | cons c l ih =>
    unfold spl
    split
    · rename_i hc
      have h1 : isLine (cur ++ [c]) = true := by simp [isLine, h]
      have h2 := ih [] rfl
      cases hr : spl [] l with
      | nil => simpa [okLines] using h1
      | cons y r =>
        rw [hr] at h2
        subst hc
        simp [okLines, h1, h2]
    · rename_i hc
      exact ih _ (by simp [h, hc])
theorem split_ok (l : List UInt8) : okLines (split l) = true := spl_line l [] rfl
theorem spl_app (x cur l : List UInt8) (h : x.all (· != 10) = true) : spl cur (x ++ l) = spl (cur ++ x) l := by
  induction x generalizing cur with
  | nil => simp
  | cons c x ih =>
    simp only [List.all_cons, Bool.and_eq_true, bne_iff_ne, ne_eq] at h
    rw [List.cons_append, spl, if_neg h.1, ih _ h.2]
    simp
theorem line_split {x : List UInt8} (h : isLine x = true) (h2 : x.getLast? = some 10) (l : List UInt8) : split (x ++ l) = x :: split l := by
  simp only [isLine, Bool.and_eq_true, Bool.not_eq_true', List.isEmpty_eq_false_iff] at h
  have e : x = x.dropLast ++ [10] := by
    have := List.dropLast_concat_getLast h.1
    rw [List.getLast?_eq_some_getLast h.1, Option.some.injEq] at h2
    rw [h2] at this
    exact this.symm
  rw [split, e, List.append_assoc, spl_app _ _ _ h.2]
  rfl
theorem last_split {x : List UInt8} (h : isLine x = true) : split x = [x] := by
  simp only [isLine, Bool.and_eq_true, Bool.not_eq_true', List.isEmpty_eq_false_iff] at h
  have e := List.dropLast_concat_getLast h.1
  rw [split, ← e, spl_app _ _ _ h.2]
  simp only [List.nil_append, spl]
  split
  · rfl
  · simp
theorem join_split : ∀ {ls : List (List UInt8)}, okLines ls = true → split (join ls) = ls
  | [], _ => rfl
  | [x], h => by rw [okLines] at h; simp only [join, List.flatten_cons, List.flatten_nil, List.append_nil]; exact last_split h
  | x :: y :: r, h => by
    rw [okLines, Bool.and_eq_true, Bool.and_eq_true, beq_iff_eq] at h
    have ih := join_split h.2
    simp only [join, List.flatten_cons] at ih ⊢
    rw [line_split h.1.1 h.1.2, ih]

/-- Line feeds alone. -/
def lf : List UInt8 → List UInt8
  | [] => []
  | c :: l => if c = 13 ∧ l.head? = some 10 then lf l else c :: lf l
/-- A carriage return ahead of each line feed; p: the byte ahead. -/
def crlf (p : UInt8) : List UInt8 → List UInt8
  | [] => []
  | c :: l => (if c = 10 ∧ p ≠ 13 then [13, c] else [c]) ++ crlf c l
/-- No carriage return stands ahead of a line feed. -/
def rt : List UInt8 → Bool
  | [] => true
  | c :: l => if c = 13 ∧ l.head? = some 10 then false else rt l
theorem lf_len (l : List UInt8) : (lf l).length ≤ l.length := by
  induction l with
  | nil => simp [lf]
  | cons c l ih => unfold lf; split <;> simp <;> omega
theorem crlf_len (l : List UInt8) (p : UInt8) : (crlf p l).length ≤ 2 * l.length := by
  induction l generalizing p with
  | nil => simp [crlf]
  | cons c l ih => have := ih c; unfold crlf; split <;> simp <;> omega
theorem crlf_head (l : List UInt8) : (crlf 13 l).head? = l.head? := by
  cases l with
  | nil => rfl
  | cons c l => simp [crlf]
theorem lf_crlf (l : List UInt8) (p : UInt8) : lf (crlf p l) = lf l := by
  induction l generalizing p with
  | nil => rfl
  | cons c l ih =>
    rw [crlf]
    by_cases h : c = 10 ∧ p ≠ 13
    · rw [if_pos h]
      obtain ⟨rfl, _⟩ := h
      show lf (13 :: 10 :: crlf 10 l) = lf (10 :: l)
      rw [lf, if_pos ⟨rfl, rfl⟩, lf, if_neg (by simp), lf, if_neg (by simp), ih]
    · rw [if_neg h]
      show lf (c :: crlf c l) = lf (c :: l)
      rw [lf, lf]
      by_cases hc : c = 13
      · subst hc
        rw [crlf_head, ih]
      · rw [if_neg (fun x => hc x.1), if_neg (fun x => hc x.1), ih]
theorem lf_rt (l : List UInt8) (h : rt l = true) : lf l = l := by
  induction l with
  | nil => rfl
  | cons c l ih =>
    rw [rt] at h
    split at h
    · cases h
    · rename_i hc; rw [lf, if_neg hc, ih h]
theorem lf_nrt (l : List UInt8) (h : rt l = false) : (lf l).length < l.length := by
  induction l with
  | nil => cases h
  | cons c l ih =>
    rw [rt] at h
    split at h
    · rename_i hc; rw [lf, if_pos hc]; have := lf_len l; simp; omega
    · rename_i hc; rw [lf, if_neg hc]; have := ih h; simp; omega
theorem back_iff (l : List UInt8) : lf (crlf 0 l) = l ↔ rt l = true := by
  rw [lf_crlf]
  constructor
  · intro h
    cases hr : rt l with
    | true => rfl
    | false => have := lf_nrt l hr; rw [h] at this; omega
  · exact lf_rt l
theorem crlf_twice (l : List UInt8) (p : UInt8) : crlf p (crlf p l) = crlf p l := by
  induction l generalizing p with
  | nil => rfl
  | cons c l ih =>
    rw [crlf]
    by_cases h : c = 10 ∧ p ≠ 13
    · rw [if_pos h]
      obtain ⟨rfl, hp⟩ := h
      show crlf p (13 :: 10 :: crlf 10 l) = 13 :: 10 :: crlf 10 l
      rw [crlf, if_neg (by simp), crlf, if_neg (by simp), ih]
      rfl
    · rw [if_neg h]
      show crlf p (c :: crlf c l) = c :: crlf c l
      rw [crlf, if_neg h, ih]
      rfl
theorem rt_none (l : List UInt8) (h : ∀ c ∈ l, c ≠ 13) : rt l = true := by
  induction l with
  | nil => rfl
  | cons c l ih =>
    rw [rt, if_neg (fun x => h c (by simp) x.1)]
    exact ih (fun x hx => h x (by simp [hx]))
/-- One of the first n bytes is 0. -/
def bin : Nat → List UInt8 → Bool
  | 0, _ => false
  | _ + 1, [] => false
  | n + 1, c :: l => if c = 0 then true else bin n l

/-- A line without its line feed. -/
def cont (l : List UInt8) : List UInt8 := if l.getLast? = some 10 then l.dropLast else l
def spB (c : UInt8) : Bool := c == 32 || c == 9 || c == 13
/-- Without white space at its end. -/
def trimR (l : List UInt8) : List UInt8 := (l.reverse.dropWhile spB).reverse
def trim (l : List UInt8) : List UInt8 := trimR (cont l)
theorem trimR_nil : trimR [] = [] := rfl
theorem trimR_sp (l : List UInt8) (c : UInt8) (h : spB c = true) : trimR (l ++ [c]) = trimR l := by simp [trimR, List.dropWhile_cons, h]
theorem trimR_not (l : List UInt8) (c : UInt8) (h : spB c = false) : trimR (l ++ [c]) = l ++ [c] := by simp [trimR, List.dropWhile_cons, h]
/-- The lines up to the first for which f is false, that one too. -/
def upto (f : List UInt8 → Bool) : List (List UInt8) → List (List UInt8)
  | [] => []
  | x :: r => if f x = true then x :: upto f r else [x]
theorem upto_all (ls : List (List UInt8)) : upto (fun _ => true) ls = ls := by
  induction ls with
  | nil => rfl
  | cons x r ih => rw [upto, if_pos rfl, ih]
/-- The first line that is not blank, without its line feed. -/
def first : List (List UInt8) → List UInt8
  | [] => []
  | x :: r => if cont x = [] then first r else cont x
/-- What the last of the lines visited leaves. -/
def lastC (ls : List (List UInt8)) : List UInt8 := match ls.getLast? with | some x => cont x | none => []
theorem lastC_snoc (ls : List (List UInt8)) (x : List UInt8) : lastC (ls ++ [x]) = cont x := by simp [lastC]
theorem lastC_cons {x : List UInt8} {r : List (List UInt8)} (h : r ≠ []) : lastC (x :: r) = lastC r := by
  unfold lastC
  rw [List.getLast?_cons]
  cases hr : r.getLast? with
  | none => exact absurd (List.getLast?_eq_none_iff.1 hr) h
  | some y => rfl
theorem first_upto (ls : List (List UInt8)) : lastC (upto (fun x => (cont x).isEmpty) ls) = first ls := by
  induction ls with
  | nil => rfl
  | cons x r ih =>
    rw [upto, first]
    by_cases h : cont x = []
    · rw [if_pos (by simp [h]), if_pos h]
      by_cases hr : upto (fun x => (cont x).isEmpty) r = []
      · rw [hr] at ih ⊢
        rw [← ih]
        show cont x = _
        rw [h]; rfl
      · rw [lastC_cons hr, ih]
    · rw [if_neg (by simp [h]), if_neg h]
      rfl

/-- Clean's step: what is written, whether a blank line is pending. -/
def cstep (st : List UInt8 × Bool) (x : List UInt8) : List UInt8 × Bool :=
  if x.head? = some 35 then st else if trim x = [] then (st.1, !st.1.isEmpty) else (st.1 ++ (if st.2 = true then [10] else []) ++ trim x ++ [10], false)
def cfold (ls : List (List UInt8)) : List UInt8 × Bool := ls.foldl cstep ([], false)
def clean (l : List UInt8) : List UInt8 := (cfold (split l)).1
theorem cfold_snoc (ls : List (List UInt8)) (x : List UInt8) : cfold (ls ++ [x]) = cstep (cfold ls) x := by simp [cfold]
end Go.Proofs.Ytidghjalfbklnaa
