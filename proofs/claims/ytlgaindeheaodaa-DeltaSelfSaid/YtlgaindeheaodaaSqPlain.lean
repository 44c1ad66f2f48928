/-
  Plain mathematics of Compress: matches, the chain of earlier offsets, the greedy rule.
-/
import Derived.Test.YtlgaindeheaodaaOctPlain
namespace Go.Proofs.Ytlgaindeheaodaa

/-- How many of m bytes at offset a are the same as those at offset f. -/
def mrun (l : List UInt8) (f a : Nat) : Nat → Nat
  | 0 => 0
  | m + 1 => if l.getD f 0 = l.getD a 0 then mrun l (f + 1) (a + 1) m + 1 else 0
theorem mrun_le (l : List UInt8) (m f a : Nat) : mrun l f a m ≤ m := by
  induction m generalizing f a with
  | zero => exact Nat.le_refl _
  | succ m ih =>
    rw [mrun]
    split
    · have := ih (f + 1) (a + 1); omega
    · omega
theorem mrun_same (l : List UInt8) (m f a i : Nat) (h : i < mrun l f a m) : l.getD (f + i) 0 = l.getD (a + i) 0 := by
  induction m generalizing f a i with
  | zero => simp [mrun] at h
  | succ m ih =>
    rw [mrun] at h
    split at h
    · rename_i he
      cases i with
      | zero => exact he
      | succ i =>
        have := ih (f + 1) (a + 1) i (by omega)
        rw [show f + (i + 1) = f + 1 + i by omega, show a + (i + 1) = a + 1 + i by omega]
        exact this
    · omega
theorem mrun_stop (l : List UInt8) (m f a : Nat) (h : mrun l f a m < m) : l.getD (f + mrun l f a m) 0 ≠ l.getD (a + mrun l f a m) 0 := by
  induction m generalizing f a with
  | zero => omega
  | succ m ih =>
    rw [mrun] at h ⊢
    split at h
    · rename_i he
      rw [if_pos he]
      have := ih (f + 1) (a + 1) (by omega)
      rw [show f + (mrun l (f + 1) (a + 1) m + 1) = f + 1 + mrun l (f + 1) (a + 1) m by omega, show a + (mrun l (f + 1) (a + 1) m + 1) = a + 1 + mrun l (f + 1) (a + 1) m by omega]
      exact this
    · rename_i he
      rw [if_neg he]
      exact he
theorem mrun_ge (l : List UInt8) (m f a n : Nat) (hn : n ≤ m) (h : ∀ i, i < n → l.getD (f + i) 0 = l.getD (a + i) 0) : n ≤ mrun l f a m := by
  rcases Nat.lt_or_ge (mrun l f a m) n with hlt | hge
  · exact absurd (h _ hlt) (mrun_stop l m f a (by omega))
  · exact hge
/-- A byte that differs bounds the match. -/
theorem mrun_differ (l : List UInt8) (m f a k : Nat) (h : l.getD (f + k) 0 ≠ l.getD (a + k) 0) : mrun l f a m ≤ k := by
  rcases Nat.lt_or_ge k (mrun l f a m) with hlt | hge
  · exact absurd (mrun_same l m f a k hlt) h
  · exact hge
theorem mrun_step (l : List UInt8) (m f a : Nat) (h : l.getD f 0 = l.getD a 0) : mrun l f a (m + 1) = mrun l (f + 1) (a + 1) m + 1 := by rw [mrun, if_pos h]
theorem mrun_none (l : List UInt8) (m f a : Nat) (h : l.getD f 0 ≠ l.getD a 0) : mrun l f a (m + 1) = 0 := by rw [mrun, if_neg h]

/-- The best match for the m bytes at offset a, at the distances up to d: the longest, the nearest of the longest. -/
def best (l : List UInt8) (a m : Nat) : Nat → Nat × Nat
  | 0 => (0, 0)
  | d + 1 => if 4 ≤ mrun l (a - (d + 1)) a m ∧ (best l a m d).1 < mrun l (a - (d + 1)) a m then (mrun l (a - (d + 1)) a m, d + 1) else best l a m d
def most (l : List UInt8) (a : Nat) : Nat := min 258 (l.length - a)
def again (l : List UInt8) (a : Nat) : Nat × Nat := best l a (most l a) (min 4096 a)
theorem best_le (l : List UInt8) (a m d : Nat) : (best l a m d).1 ≤ m := by
  induction d with
  | zero => exact Nat.zero_le _
  | succ d ih =>
    rw [best]
    split
    · exact mrun_le _ _ _ _
    · exact ih
theorem best_keep {l : List UInt8} {a m d : Nat} (h : mrun l (a - (d + 1)) a m < 4 ∨ mrun l (a - (d + 1)) a m ≤ (best l a m d).1) : best l a m (d + 1) = best l a m d := by
  rw [best, if_neg (by omega)]
theorem best_take {l : List UInt8} {a m d : Nat} (h : 4 ≤ mrun l (a - (d + 1)) a m) (h2 : (best l a m d).1 < mrun l (a - (d + 1)) a m) : best l a m (d + 1) = (mrun l (a - (d + 1)) a m, d + 1) := by
  rw [best, if_pos ⟨h, h2⟩]
theorem best_skip {l : List UInt8} {a m d e : Nat} (hde : d ≤ e) (h : ∀ x, d < x → x ≤ e → mrun l (a - x) a m < 4) : best l a m e = best l a m d := by
  obtain ⟨k, rfl⟩ := Nat.exists_eq_add_of_le hde
  induction k with
  | zero => rfl
  | succ k ih =>
    rw [show d + (k + 1) = (d + k) + 1 by omega, best_keep (.inl (h _ (by omega) (by omega)))]
    exact ih (by omega) (fun x h1 h2 => h x h1 (by omega))
theorem best_full {l : List UInt8} {a m d e : Nat} (hde : d ≤ e) (h : m ≤ (best l a m d).1) : best l a m e = best l a m d := by
  obtain ⟨k, rfl⟩ := Nat.exists_eq_add_of_le hde
  induction k with
  | zero => rfl
  | succ k ih =>
    have hk := ih (by omega)
    rw [show d + (k + 1) = (d + k) + 1 by omega, best_keep (.inr (by rw [hk]; have := mrun_le l m (a - (d + k + 1)) a; omega))]
    exact hk
/-- A best match: its size, its distance, and that it is one. -/
theorem best_cases (l : List UInt8) (a m d : Nat) : best l a m d = (0, 0) ∨ ∃ n b, best l a m d = (n, b) ∧ 4 ≤ n ∧ n ≤ m ∧ 1 ≤ b ∧ b ≤ d ∧ n = mrun l (a - b) a m := by
  induction d with
  | zero => exact .inl rfl
  | succ d ih =>
    rw [best]
    split
    · rename_i h
      exact .inr ⟨_, _, rfl, h.1, mrun_le _ _ _ _, by omega, Nat.le_refl _, rfl⟩
    · rcases ih with h | ⟨n, b, h, h1, h2, h3, h4, h5⟩
      · exact .inl h
      · exact .inr ⟨n, b, h, h1, h2, h3, by omega, h5⟩
theorem again_short {l : List UInt8} {a : Nat} (h : l.length < a + 4) : again l a = (0, 0) := by
  rcases best_cases l a (most l a) (min 4096 a) with h1 | ⟨n, b, _, h1, h2, _⟩
  · exact h1
  · unfold most at h2; omega

/-- The four bytes at an offset are those at another. -/
def same4 (l : List UInt8) (i j : Nat) : Bool := decide ((l.drop i).take 4 = (l.drop j).take 4)
theorem same4_iff {l : List UInt8} {i j : Nat} (hi : i + 4 ≤ l.length) (hj : j + 4 ≤ l.length) : same4 l i j = true ↔ ∀ k, k < 4 → l.getD (i + k) 0 = l.getD (j + k) 0 := by
  unfold same4
  rw [decide_eq_true_eq]
  constructor
  · intro h k hk
    have h2 : ((l.drop i).take 4)[k]? = ((l.drop j).take 4)[k]? := by rw [h]
    rw [List.getElem?_take_of_lt hk, List.getElem?_take_of_lt hk, List.getElem?_drop, List.getElem?_drop] at h2
    rw [List.getD_eq_getElem?_getD, List.getD_eq_getElem?_getD, h2]
  · intro h
    apply List.ext_getElem?
    intro k
    by_cases hk : k < 4
    · rw [List.getElem?_take_of_lt hk, List.getElem?_take_of_lt hk, List.getElem?_drop, List.getElem?_drop]
      have h2 := h k hk
      rw [List.getD_eq_getElem?_getD, List.getD_eq_getElem?_getD, List.getElem?_eq_getElem (by omega), List.getElem?_eq_getElem (by omega)] at h2
      rw [List.getElem?_eq_getElem (by omega), List.getElem?_eq_getElem (by omega)]
      simpa using h2
    · rw [List.getElem?_eq_none (by rw [List.length_take]; omega), List.getElem?_eq_none (by rw [List.length_take]; omega)]
theorem mrun_four {l : List UInt8} {f a m : Nat} (hf : f + 4 ≤ l.length) (ha : a + 4 ≤ l.length) (hm : 4 ≤ m) : 4 ≤ mrun l f a m ↔ same4 l f a = true := by
  rw [same4_iff hf ha]
  constructor
  · intro h k hk
    exact mrun_same l m f a k (by omega)
  · exact mrun_ge l m f a 4 hm

/-- The last offset below i for which p holds, or -1. -/
def down (p : Nat → Bool) : Nat → Int
  | 0 => -1
  | j + 1 => if p j = true then (j : Int) else down p j
theorem down_cases (p : Nat → Bool) (i : Nat) : (down p i = -1 ∧ ∀ j, j < i → p j = false) ∨ ∃ f : Nat, down p i = (f : Int) ∧ f < i ∧ p f = true ∧ ∀ j, f < j → j < i → p j = false := by
  induction i with
  | zero => exact .inl ⟨rfl, fun j hj => absurd hj (Nat.not_lt_zero _)⟩
  | succ i ih =>
    rw [down]
    by_cases hp : p i = true
    · rw [if_pos hp]
      exact .inr ⟨i, rfl, by omega, hp, fun j h1 h2 => by omega⟩
    · rw [if_neg hp]
      have hp' : p i = false := by cases h : p i <;> simp_all
      rcases ih with ⟨h, h2⟩ | ⟨f, h, h1, h2, h3⟩
      · exact .inl ⟨h, fun j hj => by
          rcases (by omega : j < i ∨ j = i) with h | rfl
          · exact h2 j h
          · exact hp'⟩
      · exact .inr ⟨f, h, by omega, h2, fun j hj1 hj2 => by
          rcases (by omega : j < i ∨ j = i) with h | rfl
          · exact h3 j hj1 h
          · exact hp'⟩
/-- The nearest earlier offset with the same four bytes, or -1. -/
def lk (l : List UInt8) (i : Nat) : Int := down (fun j => same4 l j i) i

/-- The state of the search for the best match: what has been found at the distances up to d; the next candidate f is the next offset with the same four bytes. -/
structure Chase (l : List UInt8) (a : Nat) (f : Int) (r : Nat × Nat) : Prop where
  found : ∃ d, d ≤ min 4096 a ∧ r = best l a (most l a) d ∧ ∀ x : Nat, d < x → (x : Int) < (a : Int) - f → x ≤ a → mrun l (a - x) a (most l a) < 4
  next : f = -1 ∨ ∃ g : Nat, f = (g : Int) ∧ g < a ∧ g + 4 ≤ l.length ∧ same4 l g a = true ∧ ∃ d, d ≤ min 4096 a ∧ r = best l a (most l a) d ∧ d < a - g ∧ ∀ x : Nat, d < x → x < a - g → mrun l (a - x) a (most l a) < 4

theorem most_four {l : List UInt8} {a : Nat} (h : a + 4 ≤ l.length) : 4 ≤ most l a := by unfold most; omega
theorem same4_trans {l : List UInt8} {i j k : Nat} (h1 : same4 l i j = true) (h2 : same4 l j k = true) : same4 l i k = true := by
  unfold same4 at *
  rw [decide_eq_true_eq] at *
  rw [h1, h2]
theorem same4_not {l : List UInt8} {i j k : Nat} (h1 : same4 l i j = false) (h2 : same4 l j k = true) : same4 l i k = false := by
  unfold same4 at *
  rw [decide_eq_false_iff_not] at *
  rw [decide_eq_true_eq] at h2
  rw [← h2]
  exact h1
/-- From an offset g with the same four bytes (or a itself), the chain's next one: where the search goes on. -/
theorem chase_next {l : List UInt8} {a g d : Nat} {r : Nat × Nat} (ha : a + 4 ≤ l.length) (hg : g ≤ a) (hs : same4 l g a = true) (hd : d = a - g) (hd4 : d ≤ 4096) (hr : r = best l a (most l a) d) : Chase l a (lk l g) r := by
  have h4 := most_four ha
  have hno : ∀ j, j < g → same4 l j g = false → mrun l j a (most l a) < 4 := fun j hj h => by
    rcases Nat.lt_or_ge (mrun l j a (most l a)) 4 with hlt | hge
    · exact hlt
    · have := (mrun_four (f := j) (by omega) ha h4).1 hge
      rw [same4_not h hs] at this
      cases this
  rcases down_cases (fun j => same4 l j g) g with ⟨h1, h2⟩ | ⟨f, h1, h2, h3, h5⟩
  · have hlk : lk l g = -1 := h1
    rw [hlk]
    refine ⟨⟨d, by omega, hr, fun x hx1 hx2 hx3 => ?_⟩, .inl rfl⟩
    exact hno (a - x) (by omega) (h2 _ (by omega))
  · have hlk : lk l g = (f : Int) := h1
    rw [hlk]
    have key : ∀ x : Nat, d < x → x < a - f → mrun l (a - x) a (most l a) < 4 := fun x hx1 hx2 => hno (a - x) (by omega) (h5 _ (by omega) (by omega))
    refine ⟨⟨d, by omega, hr, fun x hx1 hx2 hx3 => key x hx1 (by omega)⟩, .inr ⟨f, rfl, by omega, by omega, same4_trans h3 hs, d, by omega, hr, by omega, key⟩⟩
theorem chase_start {l : List UInt8} {a : Nat} (ha : a + 4 ≤ l.length) : Chase l a (lk l a) (0, 0) :=
  chase_next ha (Nat.le_refl _) (by unfold same4; simp) (Nat.sub_self a).symm (by omega) rfl
/-- No candidate is left. -/
theorem chase_end {l : List UInt8} {a : Nat} {r : Nat × Nat} (h : Chase l a (-1) r) : again l a = r := by
  obtain ⟨d, hd, rfl, hx⟩ := h.found
  exact best_skip hd fun x h1 h2 => hx x h1 (by omega) (by omega)
/-- The next candidate is too far. -/
theorem chase_far {l : List UInt8} {a g : Nat} {r : Nat × Nat} (h : Chase l a (g : Int) r) (hg : 4096 < a - g) : again l a = r := by
  obtain ⟨d, hd, rfl, hx⟩ := h.found
  exact best_skip hd fun x h1 h2 => hx x h1 (by omega) (by omega)
/-- Nothing longer can be found. -/
theorem chase_full {l : List UInt8} {a : Nat} {f : Int} {r : Nat × Nat} (h : Chase l a f r) (hr : most l a ≤ r.1) : again l a = r := by
  obtain ⟨d, hd, rfl, hx⟩ := h.found
  exact best_full hd hr
/-- A candidate is looked at. -/
theorem chase_step {l : List UInt8} {a g : Nat} {r r' : Nat × Nat} (ha : a + 4 ≤ l.length) (h : Chase l a (g : Int) r) (hg : a - g ≤ 4096) (hr : r' = if r.1 < mrun l g a (most l a) then (mrun l g a (most l a), a - g) else r) :
    g < a ∧ g + 4 ≤ l.length ∧ Chase l a (lk l g) r' := by
  rcases h.next with h0 | ⟨g', hg', hga, hgl, hs, d, hd, hrd, hda, hx⟩
  · omega
  · obtain rfl : g = g' := by omega
    refine ⟨hga, hgl, chase_next ha (by omega) hs rfl hg ?_⟩
    have h4 : 4 ≤ mrun l g a (most l a) := (mrun_four hgl ha (most_four ha)).2 hs
    have hb : best l a (most l a) (a - g - 1) = r := by rw [hrd]; exact best_skip (by omega) fun x h1 h2 => hx x h1 (by omega)
    have e : a - g = (a - g - 1) + 1 := by omega
    have e2 : a - (a - g - 1 + 1) = g := by omega
    rw [hr, e]
    by_cases hlt : r.1 < mrun l g a (most l a)
    · rw [if_pos hlt, best_take (by rw [e2]; exact h4) (by rw [hb, e2]; exact hlt), e2]
    · rw [if_neg hlt, best_keep (.inr (by rw [hb, e2]; omega)), hb]
theorem chase_lt {l : List UInt8} {a g : Nat} {r : Nat × Nat} (h : Chase l a (g : Int) r) : g < a ∧ g + 4 ≤ l.length := by
  rcases h.next with h0 | ⟨g', hg', hga, hgl, _⟩
  · omega
  · omega
end Go.Proofs.Ytlgaindeheaodaa
