/-
  Plain mathematics: common prefixes, longest common subsequences, the script that the rule determines.
-/

namespace Go.Proofs.Ytidghjalfbklnaa

section
variable {α : Type} [DecidableEq α]
/-- How many elements two lists have in common at their start. -/
def cpre : List α → List α → Nat
  | x :: a, y :: b => if x = y then cpre a b + 1 else 0
  | _, _ => 0
theorem cpre_le : ∀ a b : List α, cpre a b ≤ a.length ∧ cpre a b ≤ b.length
  | [], _ => by simp [cpre]
  | _ :: _, [] => by simp [cpre]
  | x :: a, y :: b => by
    rw [cpre]
    have := cpre_le a b
    split <;> simp <;> omega
theorem cpre_take : ∀ a b : List α, a.take (cpre a b) = b.take (cpre a b)
  | [], _ => by simp [cpre]
  | _ :: _, [] => by simp [cpre]
  | x :: a, y :: b => by
    rw [cpre]
    split
    · rename_i h
      rw [List.take_succ_cons, List.take_succ_cons, cpre_take a b, h]
    · rfl
theorem cpre_ge : ∀ (k : Nat) (a b : List α), k ≤ a.length → k ≤ b.length → a.take k = b.take k → k ≤ cpre a b
  | 0, _, _, _, _, _ => Nat.zero_le _
  | k + 1, [], _, h, _, _ => by simp at h
  | k + 1, _ :: _, [], _, h, _ => by simp at h
  | k + 1, x :: a, y :: b, ha, hb, h => by
    rw [List.take_succ_cons, List.take_succ_cons, List.cons.injEq] at h
    rw [cpre, if_pos h.1]
    have := cpre_ge k a b (by simpa using ha) (by simpa using hb) h.2
    omega
omit [DecidableEq α] in
theorem take_more {a b : List α} {k : Nat} (ha : k < a.length) (hb : k < b.length) (h : a.take k = b.take k) (he : a[k] = b[k]) : a.take (k + 1) = b.take (k + 1) := by
  rw [List.take_succ_eq_append_getElem ha, List.take_succ_eq_append_getElem hb, h, he]
theorem cpre_stop {a b : List α} {k : Nat} (ha : k < a.length) (hb : k < b.length) (h : a.take k = b.take k) (he : a[k] ≠ b[k]) : cpre a b = k := by
  have h1 := cpre_ge k a b (by omega) (by omega) h
  rcases Nat.lt_or_ge k (cpre a b) with hl | hl
  · have h2 := congrArg (fun l => l[k]?) (cpre_take a b)
    simp only [List.getElem?_take_of_lt hl, List.getElem?_eq_getElem ha, List.getElem?_eq_getElem hb, Option.some.injEq] at h2
    exact absurd h2 he
  · omega
theorem cpre_end {a b : List α} {k : Nat} (hk : k = min a.length b.length) (h : a.take k = b.take k) : cpre a b = k := by
  have h1 := cpre_ge k a b (by omega) (by omega) h
  have h2 := cpre_le a b
  omega
theorem cpre_same (a b : List α) : (a.length = b.length ∧ cpre a b = a.length) ↔ a = b := by
  constructor
  · rintro ⟨h1, h2⟩
    have h := cpre_take a b
    rw [h2] at h
    rw [List.take_of_length_le (Nat.le_refl _), List.take_of_length_le (by omega)] at h
    exact h
  · rintro rfl
    refine ⟨rfl, ?_⟩
    have h1 := cpre_ge a.length a a (Nat.le_refl _) (Nat.le_refl _) rfl
    have h2 := (cpre_le a a).1
    omega

/-- The length of the longest common subsequence. -/
def lcs : List α → List α → Nat
  | [], _ => 0
  | _ :: _, [] => 0
  | x :: a, y :: b => if x = y then lcs a b + 1 else max (lcs a (y :: b)) (lcs (x :: a) b)
termination_by a b => a.length + b.length
theorem lcs_nil (a : List α) : lcs a [] = 0 := by
  cases a <;> rw [lcs]
theorem lcs_nil' (b : List α) : lcs [] b = 0 := by rw [lcs]
theorem lcs_same (x : α) (a b : List α) : lcs (x :: a) (x :: b) = lcs a b + 1 := by rw [lcs, if_pos rfl]
theorem lcs_other {x y : α} (h : x ≠ y) (a b : List α) : lcs (x :: a) (y :: b) = max (lcs a (y :: b)) (lcs (x :: a) b) := by rw [lcs, if_neg h]
theorem lcs_le : ∀ a b : List α, lcs a b ≤ b.length
  | [], b => by rw [lcs]; omega
  | x :: a, [] => by rw [lcs]; omega
  | x :: a, y :: b => by
    rw [lcs]
    have h1 := lcs_le a b
    have h2 := lcs_le a (y :: b)
    have h3 := lcs_le (x :: a) b
    simp only [List.length_cons] at h2 h3 ⊢
    split <;> omega
termination_by a b => a.length + b.length
end

/-- An edit. -/
structure Ed where
  f : Int
  d : Int
  t : Int
  i : Int
deriving DecidableEq
/-- A script with one more edit, as a part of the last one where nothing stands between. -/
def ext (acc : List Ed) (e : Ed) : List Ed :=
  match acc.getLast? with
  | none => [e]
  | some l => if l.f + l.d = e.f then acc.dropLast ++ [⟨l.f, l.d + e.d, l.t, l.i + e.i⟩] else acc ++ [e]
theorem ext_nil (e : Ed) : ext [] e = [e] := rfl
theorem ext_join (r : List Ed) (l e : Ed) (h : l.f + l.d = e.f) : ext (r ++ [l]) e = r ++ [⟨l.f, l.d + e.d, l.t, l.i + e.i⟩] := by
  unfold ext
  rw [List.getLast?_concat, List.dropLast_concat]
  exact if_pos h
theorem ext_new (r : List Ed) (l e : Ed) (h : l.f + l.d ≠ e.f) : ext (r ++ [l]) e = r ++ [l] ++ [e] := by
  unfold ext
  rw [List.getLast?_concat]
  exact if_neg h
theorem ext_twice (acc : List Ed) (f d t i d' i' : Int) : ext (ext acc ⟨f, d, t, i⟩) ⟨f + d, d', t + i, i'⟩ = ext acc ⟨f, d + d', t, i + i'⟩ := by
  rcases List.eq_nil_or_concat acc with rfl | ⟨r, l, rfl⟩
  · rw [ext_nil, ext_nil]
    exact ext_join [] ⟨f, d, t, i⟩ ⟨f + d, d', t + i, i'⟩ rfl
  · rw [List.concat_eq_append]
    by_cases h : l.f + l.d = f
    · rw [ext_join r l ⟨f, d, t, i⟩ h, ext_join r l ⟨f, d + d', t, i + i'⟩ h, ext_join r _ _ (by simp only; omega)]
      simp only [Int.add_assoc]
    · rw [ext_new r l ⟨f, d, t, i⟩ h, ext_new r l ⟨f, d + d', t, i + i'⟩ h, ext_join (r ++ [l]) _ _ rfl]

section
variable {α : Type} [DecidableEq α]
/-- The script that the rule determines for what is left of two lists, behind a script. -/
def lst : List α → List α → Int → Int → List Ed → List Ed
  | [], [], _, _, acc => acc
  | x :: a, [], i, j, acc => ext acc ⟨i, (a.length : Int) + 1, j, 0⟩
  | [], y :: b, i, j, acc => ext acc ⟨i, 0, j, (b.length : Int) + 1⟩
  | x :: a, y :: b, i, j, acc => if x = y then lst a b (i + 1) (j + 1) acc
    else if lcs (x :: a) b ≤ lcs a (y :: b) then lst a (y :: b) (i + 1) j (ext acc ⟨i, 1, j, 0⟩)
    else lst (x :: a) b i (j + 1) (ext acc ⟨i, 0, j, 1⟩)
termination_by a b => a.length + b.length
theorem lst_same (x : α) (a b : List α) (i j : Int) (acc : List Ed) : lst (x :: a) (x :: b) i j acc = lst a b (i + 1) (j + 1) acc := by rw [lst, if_pos rfl]
theorem lst_del {x y : α} (h : x ≠ y) {a b : List α} (hl : lcs (x :: a) b ≤ lcs a (y :: b)) (i j : Int) (acc : List Ed) : lst (x :: a) (y :: b) i j acc = lst a (y :: b) (i + 1) j (ext acc ⟨i, 1, j, 0⟩) := by rw [lst, if_neg h, if_pos hl]
theorem lst_ins {x y : α} (h : x ≠ y) {a b : List α} (hl : ¬ lcs (x :: a) b ≤ lcs a (y :: b)) (i j : Int) (acc : List Ed) : lst (x :: a) (y :: b) i j acc = lst (x :: a) b i (j + 1) (ext acc ⟨i, 0, j, 1⟩) := by rw [lst, if_neg h, if_neg hl]
theorem lst_none (i j : Int) (acc : List Ed) : lst ([] : List α) [] i j acc = acc := by rw [lst]
theorem lst_left (a : List α) (h : a ≠ []) (i j : Int) (acc : List Ed) : lst a [] i j acc = ext acc ⟨i, (a.length : Int), j, 0⟩ := by
  cases a with
  | nil => exact absurd rfl h
  | cons x a => rw [lst, List.length_cons]; rfl
theorem lst_right (b : List α) (h : b ≠ []) (i j : Int) (acc : List Ed) : lst [] b i j acc = ext acc ⟨i, 0, j, (b.length : Int)⟩ := by
  cases b with
  | nil => exact absurd rfl h
  | cons x a => rw [lst, List.length_cons]; rfl
/-- One element at a time does as well. -/
theorem lst_left1 (x : α) (a : List α) (i j : Int) (acc : List Ed) : lst (x :: a) [] i j acc = lst a [] (i + 1) j (ext acc ⟨i, 1, j, 0⟩) := by
  cases a with
  | nil => rw [lst_none, lst]; rfl
  | cons y a =>
    rw [lst_left (y :: a) (by simp), lst_left (x :: y :: a) (by simp)]
    have h := ext_twice acc i 1 j 0 ((y :: a).length : Int) 0
    rw [Int.add_zero, Int.add_zero] at h
    rw [h]
    congr 2
    simp only [List.length_cons]
    omega
theorem lst_right1 (y : α) (b : List α) (i j : Int) (acc : List Ed) : lst [] (y :: b) i j acc = lst [] b i (j + 1) (ext acc ⟨i, 0, j, 1⟩) := by
  cases b with
  | nil => rw [lst_none, lst]; rfl
  | cons x b =>
    rw [lst_right (x :: b) (by simp), lst_right (y :: x :: b) (by simp)]
    have h := ext_twice acc i 0 j 1 0 ((x :: b).length : Int)
    rw [Int.add_zero, Int.add_zero] at h
    rw [h]
    congr 2
    simp only [List.length_cons]
    omega
/-- A common prefix adds nothing. -/
theorem lst_skip : ∀ (k : Nat) (a b : List α) (i j : Int) (acc : List Ed), k ≤ a.length → k ≤ b.length → a.take k = b.take k → lst a b i j acc = lst (a.drop k) (b.drop k) (i + k) (j + k) acc
  | 0, a, b, i, j, acc, _, _, _ => by simp
  | k + 1, [], _, _, _, _, h, _, _ => by simp at h
  | k + 1, _ :: _, [], _, _, _, _, h, _ => by simp at h
  | k + 1, x :: a, y :: b, i, j, acc, ha, hb, h => by
    rw [List.take_succ_cons, List.take_succ_cons, List.cons.injEq] at h
    obtain ⟨rfl, h2⟩ := h
    rw [lst_same, lst_skip k a b (i + 1) (j + 1) acc (by simpa using ha) (by simpa using hb) h2, List.drop_succ_cons, List.drop_succ_cons]
    congr 1 <;> omega

variable {β : Type} [DecidableEq β]
/-- Elements that stand for one another. -/
theorem lcs_map (f : α → β) : ∀ (a b : List α), (∀ x ∈ a, ∀ y ∈ b, f x = f y → x = y) → lcs (a.map f) (b.map f) = lcs a b
  | [], b, _ => by rw [List.map_nil, lcs_nil', lcs_nil']
  | x :: a, [], _ => by rw [List.map_nil, lcs_nil, lcs_nil]
  | x :: a, y :: b, h => by
    rw [List.map_cons, List.map_cons]
    by_cases e : x = y
    · subst e
      rw [lcs_same, lcs_same, lcs_map f a b (fun u hu v hv => h u (by simp [hu]) v (by simp [hv]))]
    · have h1 := lcs_map f a (y :: b) (fun u hu v hv => h u (by simp [hu]) v hv)
      have h2 := lcs_map f (x :: a) b (fun u hu v hv => h u hu v (by simp [hv]))
      rw [List.map_cons] at h1 h2
      rw [lcs_other e, lcs_other (fun e2 => e (h x (by simp) y (by simp) e2)), h1, h2]
termination_by a b => a.length + b.length
theorem lst_map (f : α → β) : ∀ (a b : List α) (i j : Int) (acc : List Ed), (∀ x ∈ a, ∀ y ∈ b, f x = f y → x = y) → lst (a.map f) (b.map f) i j acc = lst a b i j acc
  | [], [], i, j, acc, _ => by simp only [List.map_nil, lst_none]
  | x :: a, [], i, j, acc, _ => by rw [List.map_cons, List.map_nil, lst, lst, List.length_map]
  | [], y :: b, i, j, acc, _ => by rw [List.map_cons, List.map_nil, lst, lst, List.length_map]
  | x :: a, y :: b, i, j, acc, h => by
    have ha : ∀ u ∈ a, ∀ v ∈ b, f u = f v → u = v := fun u hu v hv => h u (by simp [hu]) v (by simp [hv])
    have h1 : ∀ u ∈ a, ∀ v ∈ y :: b, f u = f v → u = v := fun u hu v hv => h u (by simp [hu]) v hv
    have h2 : ∀ u ∈ x :: a, ∀ v ∈ b, f u = f v → u = v := fun u hu v hv => h u hu v (by simp [hv])
    rw [List.map_cons, List.map_cons]
    by_cases e : x = y
    · subst e
      rw [lst_same, lst_same, lst_map f a b _ _ _ ha]
    · have e2 : f x ≠ f y := fun e2 => e (h x (by simp) y (by simp) e2)
      have l1 := lcs_map f a (y :: b) h1
      have l2 := lcs_map f (x :: a) b h2
      have m1 := fun i j acc => lst_map f a (y :: b) i j acc h1
      have m2 := fun i j acc => lst_map f (x :: a) b i j acc h2
      rw [List.map_cons] at l1 l2 m1 m2
      by_cases hl : lcs (x :: a) b ≤ lcs a (y :: b)
      · rw [lst_del e hl, lst_del e2 (by rw [l1, l2]; exact hl), m1]
      · rw [lst_ins e hl, lst_ins e2 (by rw [l1, l2]; exact hl), m2]
termination_by a b => a.length + b.length
end
end Go.Proofs.Ytidghjalfbklnaa
