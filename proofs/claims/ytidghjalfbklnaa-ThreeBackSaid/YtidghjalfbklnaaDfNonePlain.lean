/-
  Plain mathematics: the script that the rule determines is right, and no right script costs less.
-/
import Derived.Test.YtidghjalfbklnaaDfMore
namespace Go.Proofs.Ytidghjalfbklnaa
open List

section
variable {α : Type} [DecidableEq α]
theorem lcs_ub : ∀ (a b l : List α), l <+ a → l <+ b → l.length ≤ lcs a b
  | [], b, l, h, _ => by rw [List.sublist_nil.mp h]; simp
  | x :: a, [], l, _, h => by rw [List.sublist_nil.mp h]; simp
  | x :: a, y :: b, l, h1, h2 => by
    by_cases e : x = y
    · subst e
      rw [lcs_same]
      have h := lcs_ub a b l.tail h1.tail h2.tail
      rw [List.length_tail] at h
      omega
    · rw [lcs_other e]
      rcases h1 with _ | ⟨_, h1⟩ | ⟨_, h1⟩
      · have := lcs_ub a (y :: b) l h1 h2
        omega
      · rcases h2 with _ | ⟨_, h2⟩ | ⟨_, h2⟩
        · have := lcs_ub (x :: a) b _ (h1.cons_cons x) h2
          omega
        · exact absurd rfl e
termination_by a b => a.length + b.length

/-- What a right script leaves is a common part. -/
theorem val_common (a b : List α) : ∀ (l : List Ed) (first : Bool) (i j : Nat), valL a b l first i j = true → i ≤ a.length → j ≤ b.length →
    ∃ c : List α, c <+ a.drop i ∧ c <+ b.drop j ∧ 2 * (c.length : Int) = (a.length - i : Int) + (b.length - j : Int) - csum l
  | [], _, i, j, h, hi, hj => by
    have h := of_decide_eq_true h
    refine ⟨a.drop i, Sublist.refl _, by rw [h]; exact Sublist.refl _, ?_⟩
    have h2 := congrArg List.length h
    simp only [List.length_drop] at h2 ⊢
    rw [csum]
    omega
  | e :: l, first, i, j, h, hi, hj => by
    by_cases hv : okV a b e first i j
    · rw [valL_go hv] at h
      have hs := okV_same hv
      obtain ⟨k1, _, _, k4⟩ := hv
      have he := okE_ends k1
      obtain ⟨c, c1, c2, c3⟩ := val_common a b l false _ _ h he.1 he.2.1
      unfold okE at k1
      have part (x : List α) (s k r : Nat) (hk : s + k ≤ r) (c : List α) (hc : c <+ x.drop r) : (x.drop s).take k ++ c <+ x.drop s := by
        have h1 : x.drop s = (x.drop s).take k ++ (x.drop s).drop k := (List.take_append_drop _ _).symm
        have h2 : x.drop r <+ (x.drop s).drop k := by
          rw [List.drop_drop]
          have : x.drop r = (x.drop (s + k)).drop (r - (s + k)) := by rw [List.drop_drop]; congr 1; omega
          rw [this]
          exact List.drop_sublist _ _
        have h3 : (x.drop s).take k ++ c <+ (x.drop s).take k ++ (x.drop s).drop k := (Sublist.refl _).append (hc.trans h2)
        rwa [← h1] at h3
      refine ⟨(a.drop i).take (e.f.toNat - i) ++ c, part a i _ e.ef (by omega) c c1, ?_, ?_⟩
      · rw [k4]
        exact part b j _ e.et (by omega) c c2
      · rw [csum, List.length_append, List.length_take, List.length_drop]
        omega
    · rw [valL_not hv] at h
      cases h
theorem val_cost {a b : List α} {l : List Ed} (h : valL a b l true 0 0 = true) : (a.length : Int) + b.length - 2 * (lcs a b : Nat) ≤ csum l ∧ csum l ≤ (a.length : Int) + b.length ∧ 0 ≤ csum l := by
  obtain ⟨c, c1, c2, c3⟩ := val_common a b l true 0 0 h (Nat.zero_le _) (Nat.zero_le _)
  have h2 := lcs_ub a b c c1 c2
  have h3 := c1.length_le
  have h4 := c2.length_le
  rw [List.length_drop] at h3 h4
  omega

theorem csum_app : ∀ (x y : List Ed), csum (x ++ y) = csum x + csum y
  | [], y => by simp [csum]
  | e :: x, y => by
    have := csum_app x y
    rw [List.cons_append, csum, csum, this]
    omega
theorem csum_one (e : Ed) : csum [e] = e.d + e.i := by rw [csum, csum]; omega
theorem csum_ext (acc : List Ed) (e : Ed) : csum (ext acc e) = csum acc + e.d + e.i := by
  rcases List.eq_nil_or_concat acc with rfl | ⟨r, l, rfl⟩
  · rw [ext_nil, csum_one, csum]
    omega
  · rw [List.concat_eq_append]
    by_cases h : l.f + l.d = e.f
    · rw [ext_join r l e h, csum_app, csum_app, csum_one, csum_one]
      simp only
      omega
    · rw [ext_new r l e h, csum_app, csum_app, csum_one, csum_one]
      omega
theorem lst_cost : ∀ (a b : List α) (i j : Int) (acc : List Ed), csum (lst a b i j acc) + 2 * (lcs a b : Nat) = csum acc + a.length + b.length
  | [], [], i, j, acc => by rw [lst_none, lcs_nil']; simp
  | x :: a, [], i, j, acc => by
    rw [lst_left _ (by simp), lcs_nil, csum_ext]
    simp
  | [], y :: b, i, j, acc => by
    rw [lst_right _ (by simp), lcs_nil', csum_ext]
    simp
  | x :: a, y :: b, i, j, acc => by
    by_cases e : x = y
    · subst e
      have := lst_cost a b (i + 1) (j + 1) acc
      rw [lst_same, lcs_same]
      simp only [List.length_cons]
      omega
    · by_cases hl : lcs (x :: a) b ≤ lcs a (y :: b)
      · have := lst_cost a (y :: b) (i + 1) j (ext acc ⟨i, 1, j, 0⟩)
        rw [csum_ext] at this
        rw [lst_del e hl, lcs_other e]
        simp only [List.length_cons] at this ⊢
        omega
      · have := lst_cost (x :: a) b i (j + 1) (ext acc ⟨i, 0, j, 1⟩)
        rw [csum_ext] at this
        rw [lst_ins e hl, lcs_other e]
        simp only [List.length_cons] at this ⊢
        omega
termination_by a b => a.length + b.length

omit [DecidableEq α] in
theorem take_more' {a b : List α} {k k' : Nat} (ha : k < a.length) (hb : k' < b.length) (hk : k = k') (h : a.take k = b.take k') (he : a[k] = b[k']) : a.take (k + 1) = b.take (k' + 1) := by
  subst hk
  exact take_more ha hb h he
/-- A script that is right so far, and where it has come to. -/
inductive OkA (A B : List α) : List Ed → Bool → Nat → Nat → Prop
  | nil : OkA A B [] true 0 0
  | more {acc : List Ed} {first : Bool} {i j : Nat} {e : Ed} : OkA A B acc first i j → okV A B e first i j → OkA A B (acc ++ [e]) false e.ef e.et
theorem OkA.val {A B : List α} {acc : List Ed} {first : Bool} {i j : Nat} (h : OkA A B acc first i j) : ∀ l, valL A B (acc ++ l) true 0 0 = valL A B l first i j := by
  induction h with
  | nil => exact fun l => rfl
  | more _ hv ih =>
    intro l
    rw [List.append_assoc, ih, List.singleton_append, valL_go hv]
/-- The invariant. -/
def Ahead (A B : List α) (acc : List Ed) (i j : Nat) : Prop :=
  ∃ first i' j', OkA A B acc first i' j' ∧ i' ≤ i ∧ j' ≤ j ∧ i ≤ A.length ∧ j ≤ B.length ∧ i - i' = j - j' ∧ (A.drop i').take (i - i') = (B.drop j').take (j - j')
omit [DecidableEq α] in
theorem okA_shape {A B : List α} {acc : List Ed} {first : Bool} {i j : Nat} (h : OkA A B acc first i j) : (first = true ∧ acc = [] ∧ i = 0 ∧ j = 0) ∨ ∃ r e f' i' j', first = false ∧ acc = r ++ [e] ∧ i = e.ef ∧ j = e.et ∧ OkA A B r f' i' j' ∧ okV A B e f' i' j' := by
  cases h with
  | nil => exact .inl ⟨rfl, rfl, rfl, rfl⟩
  | more h hv => exact .inr ⟨_, _, _, _, _, rfl, rfl, rfl, rfl, h, hv⟩
omit [DecidableEq α] in
theorem Ahead.ext {A B : List α} {acc : List Ed} {i j d n : Nat} (h : Ahead A B acc i j) (h1 : 1 ≤ d + n) (hd : i + d ≤ A.length) (hn : j + n ≤ B.length) : Ahead A B (ext acc ⟨i, d, j, n⟩) (i + d) (j + n) := by
  obtain ⟨first, i', j', hA, hi, hj, hia, hjb, he, ht⟩ := h
  have fin (acc2 : List Ed) (h2 : OkA A B acc2 false (i + d) (j + n)) : Ahead A B acc2 (i + d) (j + n) := ⟨false, _, _, h2, Nat.le_refl _, Nat.le_refl _, hd, hn, by omega, by simp⟩
  have ef : (⟨(i : Int), (d : Int), (j : Int), (n : Int)⟩ : Ed).ef = i + d := by unfold Ed.ef; simp only; omega
  have et : (⟨(i : Int), (d : Int), (j : Int), (n : Int)⟩ : Ed).et = j + n := by unfold Ed.et; simp only; omega
  have new (hf : first = false → (i : Int) ≠ i') : Ahead A B (acc ++ [⟨i, d, j, n⟩]) (i + d) (j + n) := by
    refine fin _ ?_
    rw [← ef, ← et]
    refine OkA.more hA ⟨?_, ?_, hf, by simpa using ht⟩
    · unfold okE
      simp only
      omega
    · simp only
      omega
  rcases okA_shape hA with ⟨rfl, rfl, rfl, rfl⟩ | ⟨r, l, f', i0, j0, rfl, rfl, rfl, rfl, hr, hv⟩
  · rw [ext_nil]
    exact new (fun h => by cases h)
  · have hl := okE_ends hv.1
    by_cases hf : l.f + l.d = (i : Int)
    · rw [ext_join r l ⟨i, d, j, n⟩ hf]
      refine fin _ ?_
      obtain ⟨k1, k2, k3, k4⟩ := hv
      have e1 : (⟨l.f, l.d + (d : Int), l.t, l.i + (n : Int)⟩ : Ed).ef = i + d := by unfold Ed.ef; simp only; omega
      have e2 : (⟨l.f, l.d + (d : Int), l.t, l.i + (n : Int)⟩ : Ed).et = j + n := by unfold Ed.et; simp only; omega
      rw [← e1, ← e2]
      unfold okE at k1
      refine OkA.more hr ⟨?_, ?_, k3, k4⟩
      · unfold okE
        simp only
        omega
      · simp only
        omega
    · rw [ext_new r l ⟨i, d, j, n⟩ hf]
      exact new (fun _ => by omega)
omit [DecidableEq α] in
theorem Ahead.same {A B : List α} {acc : List Ed} {i j : Nat} (h : Ahead A B acc i j) (hi : i < A.length) (hj : j < B.length) (he : A[i] = B[j]) : Ahead A B acc (i + 1) (j + 1) := by
  obtain ⟨first, i', j', hA, h1, h2, h3, h4, h5, h6⟩ := h
  refine ⟨first, i', j', hA, by omega, by omega, hi, hj, by omega, ?_⟩
  have e1 : i + 1 - i' = (i - i') + 1 := by omega
  have e2 : j + 1 - j' = (j - j') + 1 := by omega
  rw [e1, e2]
  refine take_more' ?_ ?_ h5 h6 ?_
  · rw [List.length_drop]; omega
  · rw [List.length_drop]; omega
  · simp only [List.getElem_drop]
    have q1 : i' + (i - i') = i := by omega
    have q2 : j' + (j - j') = j := by omega
    simp only [q1, q2]
    exact he
omit [DecidableEq α] in
theorem Ahead.nil (A B : List α) : Ahead A B [] 0 0 := ⟨true, 0, 0, OkA.nil, Nat.le_refl _, Nat.le_refl _, Nat.zero_le _, Nat.zero_le _, rfl, by simp⟩
theorem Ahead.done {A B : List α} {acc : List Ed} (h : Ahead A B acc A.length B.length) : valL A B acc true 0 0 = true := by
  obtain ⟨first, i', j', hA, h1, h2, _, _, _, h6⟩ := h
  have hv := hA.val []
  rw [List.append_nil] at hv
  rw [hv, valL]
  refine decide_eq_true ?_
  rw [List.take_of_length_le (by rw [List.length_drop]; exact Nat.le_refl _), List.take_of_length_le (by rw [List.length_drop]; exact Nat.le_refl _)] at h6
  exact h6
theorem lst_val (A B : List α) : ∀ (a b : List α) (i j : Nat) (acc : List Ed), Ahead A B acc i j → a = A.drop i → b = B.drop j → valL A B (lst a b (i : Int) (j : Int) acc) true 0 0 = true
  | [], [], i, j, acc, h, ha, hb => by
    have la := congrArg List.length ha
    have lb := congrArg List.length hb
    rw [List.length_drop, List.length_nil] at la lb
    have h' := h
    obtain ⟨_, _, _, _, _, _, h3, h4, _⟩ := h'
    rw [lst_none]
    have e1 : i = A.length := by omega
    have e2 : j = B.length := by omega
    rw [e1, e2] at h
    exact h.done
  | x :: a, [], i, j, acc, h, ha, hb => by
    have la := congrArg List.length ha
    have lb := congrArg List.length hb
    rw [List.length_drop, List.length_cons] at la
    rw [List.length_drop, List.length_nil] at lb
    have h' := h
    obtain ⟨_, _, _, _, _, _, h3, h4, _⟩ := h'
    have h2 := h.ext (d := a.length + 1) (n := 0) (by omega) (by omega) (by omega)
    have e1 : i + (a.length + 1) = A.length := by omega
    have e2 : j + 0 = B.length := by omega
    rw [e1, e2] at h2
    rw [lst]
    exact h2.done
  | [], y :: b, i, j, acc, h, ha, hb => by
    have la := congrArg List.length ha
    have lb := congrArg List.length hb
    rw [List.length_drop, List.length_nil] at la
    rw [List.length_drop, List.length_cons] at lb
    have h' := h
    obtain ⟨_, _, _, _, _, _, h3, h4, _⟩ := h'
    have h2 := h.ext (d := 0) (n := b.length + 1) (by omega) (by omega) (by omega)
    have e1 : i + 0 = A.length := by omega
    have e2 : j + (b.length + 1) = B.length := by omega
    rw [e1, e2] at h2
    rw [lst]
    exact h2.done
  | x :: a, y :: b, i, j, acc, h, ha, hb => by
    have la := congrArg List.length ha
    have lb := congrArg List.length hb
    rw [List.length_drop, List.length_cons] at la lb
    have hi : i < A.length := by omega
    have hj : j < B.length := by omega
    rw [List.drop_eq_getElem_cons hi, List.cons.injEq] at ha
    rw [List.drop_eq_getElem_cons hj, List.cons.injEq] at hb
    by_cases e : x = y
    · have h2 := h.same hi hj (by rw [← ha.1, ← hb.1, e])
      have ih := lst_val A B a b (i + 1) (j + 1) acc h2 ha.2 hb.2
      subst e
      rw [lst_same]
      exact ih
    · by_cases hl : lcs (x :: a) b ≤ lcs a (y :: b)
      · have h2 := h.ext (d := 1) (n := 0) (by omega) (by omega) (by omega)
        have ih := lst_val A B a (y :: b) (i + 1) (j + 0) _ h2 ha.2 (by rw [Nat.add_zero, List.drop_eq_getElem_cons hj, ← hb.1, ← hb.2])
        rw [lst_del e hl]
        exact ih
      · have h2 := h.ext (d := 0) (n := 1) (by omega) (by omega) (by omega)
        have ih := lst_val A B (x :: a) b (i + 0) (j + 1) _ h2 (by rw [Nat.add_zero, List.drop_eq_getElem_cons hi, ← ha.1, ← ha.2]) hb.2
        rw [lst_ins e hl]
        exact ih
termination_by a b => a.length + b.length

/-- How many lines the runs of a script have. -/
def rsum : List Rn → Int
  | [] => 0
  | r :: l => r.n + rsum l
omit [DecidableEq α] in
theorem rsum_app : ∀ (x y : List Rn), rsum (x ++ y) = rsum x + rsum y
  | [], y => by simp [rsum]
  | e :: x, y => by
    have := rsum_app x y
    rw [List.cons_append, rsum, rsum, this]
    omega
theorem stay_sum (a b : List α) (W : Int → Int) (hW : ∀ x : Int, 0 ≤ x → x ≤ (a.length : Int) + b.length → W x = x) : ∀ (l : List Ed) (first : Bool) (i j : Nat) (acc : List Rn), valL a b l first i j = true → i ≤ a.length → j ≤ b.length →
    2 * rsum (stL W a.length l i j acc) = 2 * rsum acc + (a.length - i : Int) + (b.length - j : Int) - csum l
  | [], first, i, j, acc, h, hi, hj => by
    have h2 := congrArg List.length (of_decide_eq_true h)
    simp only [List.length_drop] at h2
    rw [stL, csum]
    split
    · rw [rsum_app, hW _ (by omega) (by omega), rsum, rsum]
      simp only
      omega
    · omega
  | e :: l, first, i, j, acc, h, hi, hj => by
    by_cases hv : okV a b e first i j
    · rw [valL_go hv] at h
      have hs := okV_same hv
      obtain ⟨k1, _, _, _⟩ := hv
      have he := okE_ends k1
      unfold okE at k1
      rw [stL, csum, hW (e.f + e.d) (by omega) (by omega), hW (e.t + e.i) (by omega) (by omega), ← he.2.2.2.2.1, ← he.2.2.2.2.2.1, stay_sum a b W hW l false _ _ _ h he.1 he.2.1]
      split
      · rw [rsum_app, hW _ (by omega) (by omega), rsum, rsum]
        simp only
        omega
      · omega
    · rw [valL_not hv] at h
      cases h
/-- Each run has a place in the lists. -/
theorem stL_small (a b : List α) (W : Int → Int) (hW : ∀ x : Int, 0 ≤ x → x ≤ (a.length : Int) + b.length → W x = x) : ∀ (l : List Ed) (first : Bool) (i j : Nat) (acc : List Rn), valL a b l first i j = true → i ≤ a.length → j ≤ b.length →
    (∀ r ∈ acc, 0 ≤ r.n) → ∀ r ∈ stL W a.length l i j acc, 0 ≤ r.n
  | [], first, i, j, acc, h, hi, hj, ha => by
    rw [stL]
    split
    · intro r hr
      rcases List.mem_append.mp hr with hr | hr
      · exact ha r hr
      · obtain rfl := List.mem_singleton.mp hr
        simp only
        rw [hW _ (by omega) (by omega)]
        omega
    · exact ha
  | e :: l, first, i, j, acc, h, hi, hj, ha => by
    by_cases hv : okV a b e first i j
    · rw [valL_go hv] at h
      obtain ⟨k1, _, _, _⟩ := hv
      have he := okE_ends k1
      unfold okE at k1
      rw [stL, hW (e.f + e.d) (by omega) (by omega), hW (e.t + e.i) (by omega) (by omega), ← he.2.2.2.2.1, ← he.2.2.2.2.2.1]
      refine stL_small a b W hW l false _ _ _ h he.1 he.2.1 ?_
      split
      · intro r hr
        rcases List.mem_append.mp hr with hr | hr
        · exact ha r hr
        · obtain rfl := List.mem_singleton.mp hr
          simp only
          rw [hW _ (by omega) (by omega)]
          omega
      · exact ha
    · rw [valL_not hv] at h
      cases h
end
end Go.Proofs.Ytidghjalfbklnaa
