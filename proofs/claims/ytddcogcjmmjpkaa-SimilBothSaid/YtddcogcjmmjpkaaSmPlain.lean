/-
  Plain mathematics of simil: what two lists of lines share. Nothing of the program is named here.
-/
import Derived.Test.YtddcogcjmmjpkaaLnPlain
namespace Go.Proofs.Ytddcogcjmmjpkaa

/-- The bytes in the lines that both lists share: each line of the second takes one of the first, while there is one. -/
def shr (x : List (List UInt8)) : List (List UInt8) → Nat
  | [] => 0
  | l :: y => if l ∈ x then l.length + shr (x.erase l) y else shr x y
/-- A sum over the lines of a list. -/
def sumF (D : List (List UInt8)) (f : List UInt8 → Nat) : Nat := (D.map f).sum
theorem sumF_nil (f : List UInt8 → Nat) : sumF [] f = 0 := rfl
theorem sumF_cons (l : List UInt8) (D : List (List UInt8)) (f : List UInt8 → Nat) : sumF (l :: D) f = f l + sumF D f := by simp [sumF]
theorem sumF_snoc (l : List UInt8) (D : List (List UInt8)) (f : List UInt8 → Nat) : sumF (D ++ [l]) f = sumF D f + f l := by simp [sumF]
theorem sumF_congr {D : List (List UInt8)} {f g : List UInt8 → Nat} (h : ∀ l ∈ D, f l = g l) : sumF D f = sumF D g := by
  unfold sumF
  rw [List.map_congr_left h]
theorem sumF_le {D : List (List UInt8)} {f g : List UInt8 → Nat} (h : ∀ l ∈ D, f l ≤ g l) : sumF D f ≤ sumF D g := by
  induction D with
  | nil => exact Nat.le_refl _
  | cons a D ih =>
    rw [sumF_cons, sumF_cons]
    have := h a (by simp)
    have := ih fun l hl => h l (by simp [hl])
    omega
theorem sumF_lt {D : List (List UInt8)} {f g : List UInt8 → Nat} (h : ∀ l ∈ D, f l ≤ g l) {z : List UInt8} (hz : z ∈ D) (hlt : f z < g z) : sumF D f < sumF D g := by
  induction D with
  | nil => cases hz
  | cons a D ih =>
    rw [sumF_cons, sumF_cons]
    have h1 := h a (by simp)
    have h2 := sumF_le (fun l hl => h l (List.mem_cons_of_mem a hl))
    rcases List.mem_cons.1 hz with rfl | hz
    · omega
    · have := ih (fun l hl => h l (by simp [hl])) hz
      omega
/-- One line's part changes. -/
theorem sumF_one {D : List (List UInt8)} (hD : D.Nodup) {f g : List UInt8 → Nat} {z : List UInt8} (hz : z ∈ D) (c : Nat) (h1 : f z = g z + c) (h : ∀ l ∈ D, l ≠ z → f l = g l) : sumF D f = sumF D g + c := by
  induction D with
  | nil => cases hz
  | cons a D ih =>
    rw [sumF_cons, sumF_cons]
    rw [List.nodup_cons] at hD
    rcases List.mem_cons.1 hz with rfl | hz
    · have : sumF D f = sumF D g := sumF_congr fun l hl => h l (by simp [hl]) (fun e => hD.1 (e ▸ hl))
      omega
    · have := ih hD.2 hz (fun l hl hne => h l (by simp [hl]) hne)
      have hne : a ≠ z := fun e => hD.1 (e ▸ hz)
      have := h a (by simp) hne
      omega
/-- A line's part of what two lists share. -/
def part (x y : List (List UInt8)) (l : List UInt8) : Nat := l.length * min (x.count l) (y.count l)
theorem part_symm (x y : List (List UInt8)) (l : List UInt8) : part x y l = part y x l := by unfold part; rw [Nat.min_comm]
/-- What is shared, told line by line. -/
theorem shr_sum (y x D : List (List UInt8)) (hD : D.Nodup) (hin : ∀ l ∈ x, l ∈ y → l ∈ D) : shr x y = sumF D (part x y) := by
  induction y generalizing x with
  | nil =>
    have : ∀ (D : List (List UInt8)), sumF D (part x []) = 0 := fun D => by
      induction D with
      | nil => rfl
      | cons a D ih => rw [sumF_cons, ih]; simp [part]
    rw [this]
    rfl
  | cons l y ih =>
    rw [shr]
    by_cases hl : l ∈ x
    · rw [if_pos hl, ih (x.erase l) (fun z hz hy => hin z (List.mem_of_mem_erase hz) (by simp [hy]))]
      have hpos : 0 < x.count l := List.count_pos_iff.2 hl
      rw [sumF_one hD (hin l hl (by simp)) l.length (f := part x (l :: y)) (g := part (x.erase l) y)]
      · omega
      · unfold part
        rw [List.count_cons_self, List.count_erase_self, show min (x.count l) (y.count l + 1) = min (x.count l - 1) (y.count l) + 1 by omega, Nat.mul_add, Nat.mul_one]
      · intro z _ hz
        unfold part
        rw [List.count_cons_of_ne (Ne.symm hz), List.count_erase_of_ne (Ne.symm hz).symm]
    · rw [if_neg hl, ih x (fun z hz hy => hin z hz (by simp [hy]))]
      refine sumF_congr fun z _ => ?_
      unfold part
      by_cases hz : z = l
      · subst hz
        rw [List.count_eq_zero_of_not_mem hl]
        simp
      · rw [List.count_cons_of_ne (Ne.symm hz)]
/-- The lines that are not among those seen, each once, in the order in which they first come. -/
def dd (seen : List (List UInt8)) : List (List UInt8) → List (List UInt8)
  | [] => []
  | l :: r => if l ∈ seen then dd (seen ++ [l]) r else l :: dd (seen ++ [l]) r
theorem dd_mem (r seen : List (List UInt8)) (z : List UInt8) : z ∈ dd seen r ↔ z ∈ r ∧ z ∉ seen := by
  induction r generalizing seen with
  | nil => simp [dd]
  | cons l r ih =>
    rw [dd]
    split
    · rename_i h
      rw [ih]
      simp only [List.mem_cons, List.mem_append]
      constructor
      · rintro ⟨h1, h2⟩; exact ⟨.inr h1, fun hz => h2 (.inl hz)⟩
      · rintro ⟨h1, h2⟩
        have hne : z ≠ l := fun e => h2 (e ▸ h)
        exact ⟨h1.resolve_left hne, fun hz => hz.elim h2 (fun h => hne (by simpa using h))⟩
    · rename_i h
      rw [List.mem_cons, ih]
      simp only [List.mem_cons, List.mem_append, List.not_mem_nil, or_false]
      constructor
      · rintro (rfl | ⟨h1, h2⟩)
        · exact ⟨.inl rfl, h⟩
        · exact ⟨.inr h1, fun hz => h2 (.inl hz)⟩
      · rintro ⟨h1, h2⟩
        by_cases e : z = l
        · exact .inl e
        · exact .inr ⟨h1.resolve_left e, fun hz => hz.elim h2 e⟩
theorem dd_nodup (r seen : List (List UInt8)) : (dd seen r).Nodup := by
  induction r generalizing seen with
  | nil => simp [dd]
  | cons l r ih =>
    rw [dd]
    split
    · exact ih _
    · rw [List.nodup_cons]
      refine ⟨fun h => ?_, ih _⟩
      rw [dd_mem] at h
      exact h.2 (by simp)
theorem shr_dd (x y : List (List UInt8)) : shr x y = sumF (dd [] x) (part x y) := shr_sum y x _ (dd_nodup x []) fun l hl _ => (dd_mem x [] l).2 ⟨hl, by simp⟩
/-- What the lines yet to come add, told line by line. -/
def rsum (f : List UInt8 → Nat) (seen : List (List UInt8)) : List (List UInt8) → Nat
  | [] => 0
  | l :: r => (if l ∈ seen then 0 else f l) + rsum f (seen ++ [l]) r
theorem rsum_dd (f : List UInt8 → Nat) (r seen : List (List UInt8)) : rsum f seen r = sumF (dd seen r) f := by
  induction r generalizing seen with
  | nil => rfl
  | cons l r ih =>
    rw [rsum, dd, ih]
    split
    · omega
    · rw [sumF_cons]
/-- All that two lists can share, over any list of lines. -/
theorem shr_over (x y : List (List UInt8)) : shr x y = sumF (dd [] (x ++ y)) (part x y) := shr_sum y x _ (dd_nodup _ []) fun l hl _ => (dd_mem _ [] l).2 ⟨by simp [hl], by simp⟩
theorem shr_symm (x y : List (List UInt8)) : shr x y = shr y x := by
  rw [shr_over, shr_sum x y (dd [] (x ++ y)) (dd_nodup _ _) (fun l _ h => (dd_mem _ [] l).2 ⟨by simp [h], by simp⟩)]
  exact sumF_congr fun l _ => part_symm x y l
/-- Lists with the same lines, as often. -/
theorem shr_perm {x x' : List (List UInt8)} (h : x.Perm x') (y : List (List UInt8)) : shr x y = shr x' y := by
  rw [shr_over x y, shr_sum y x' (dd [] (x ++ y)) (dd_nodup _ _) (fun l hl _ => (dd_mem _ [] l).2 ⟨by simp [h.mem_iff.2 hl], by simp⟩)]
  refine sumF_congr fun l _ => ?_
  unfold part
  rw [h.count_eq]
/-- The bytes of all lines. -/
theorem shr_self (x : List (List UInt8)) : shr x x = (join x).length := by
  induction x with
  | nil => rfl
  | cons l x ih => rw [shr, if_pos (by simp), List.erase_cons_head, ih]; simp [join]
theorem join_perm {x x' : List (List UInt8)} (h : x.Perm x') : (join x).length = (join x').length := by
  unfold join
  rw [List.length_flatten, List.length_flatten]
  exact (h.map _).sum_nat
theorem shr_le (x y : List (List UInt8)) : shr x y ≤ (join x).length := by
  rw [← shr_self, shr_over x y, shr_sum x x (dd [] (x ++ y)) (dd_nodup _ _) (fun l hl _ => (dd_mem _ [] l).2 ⟨by simp [hl], by simp⟩)]
  refine sumF_le fun l _ => ?_
  unfold part
  rw [Nat.min_self]
  exact Nat.mul_le_mul_left _ (Nat.min_le_left _ _)
theorem shr_le2 (x y : List (List UInt8)) : shr x y ≤ (join y).length := by rw [shr_symm]; exact shr_le y x
/-- All of a list is shared only if each of its lines comes as often in the other. -/
theorem shr_all {x y : List (List UInt8)} (hx : ∀ l ∈ x, 0 < l.length) (h : shr x y = (join x).length) (l : List UInt8) : x.count l ≤ y.count l := by
  rcases Nat.lt_or_ge (y.count l) (x.count l) with hlt | hge
  · exfalso
    have hl : l ∈ x := List.count_pos_iff.1 (by omega)
    have h1 := sumF_lt (D := dd [] (x ++ y)) (f := part x y) (g := part x x) (fun z _ => by
      unfold part
      rw [Nat.min_self]
      exact Nat.mul_le_mul_left _ (Nat.min_le_left _ _)) (z := l) ((dd_mem _ [] l).2 ⟨by simp [hl], by simp⟩) (by
      unfold part
      rw [Nat.min_self, Nat.min_eq_right (by omega)]
      exact Nat.mul_lt_mul_of_pos_left hlt (hx l hl))
    rw [← shr_over, ← shr_sum x x (dd [] (x ++ y)) (dd_nodup _ _) (fun l hl _ => (dd_mem _ [] l).2 ⟨by simp [hl], by simp⟩), shr_self] at h1
    omega
  · exact hge
/-- Lists of the same length, of which one has each line of the other as often, have the same lines. -/
theorem perm_of {x y : List (List UInt8)} (hl : x.length = y.length) (h : ∀ l ∈ x, x.count l = y.count l) : x.Perm y := by
  have key : ∀ (x y : List (List UInt8)), x.length = y.length → (∀ l, x.count l ≤ y.count l) → x.Perm y := by
    intro x
    induction x with
    | nil => intro y hl _; rw [List.eq_nil_of_length_eq_zero (l := y) (by simpa using hl.symm)]
    | cons a x ih =>
      intro y hl h
      have ha : a ∈ y := List.count_pos_iff.1 (by have := h a; rw [List.count_cons_self] at this; omega)
      have hp := List.perm_cons_erase ha
      refine List.Perm.trans (List.Perm.cons a (ih (y.erase a) (by rw [List.length_erase_of_mem ha, ← hl]; simp) fun l => ?_)) hp.symm
      have := h l
      by_cases e : l = a
      · subst e
        rw [List.count_cons_self] at this
        rw [List.count_erase_self]
        omega
      · rw [List.count_cons_of_ne (Ne.symm e)] at this
        rw [List.count_erase_of_ne e]
        exact this
  refine key x y hl fun l => ?_
  by_cases hm : l ∈ x
  · exact Nat.le_of_eq (h l hm)
  · rw [List.count_eq_zero_of_not_mem hm]; exact Nat.zero_le _
/-- One line more. -/
theorem shr_more (l : List UInt8) (x y : List (List UInt8)) : shr x y ≤ shr (l :: x) y ∧ shr (l :: x) y ≤ shr x y + l.length := by
  rw [shr_symm x y, shr_symm (l :: x) y]
  have e : shr y (l :: x) = if l ∈ y then l.length + shr (y.erase l) x else shr y x := by rw [shr]
  rw [e]
  split
  · rename_i hl
    have h1 : shr (y.erase l) x ≤ shr y x ∧ shr y x ≤ shr (y.erase l) x + l.length := by
      have hz : l ∈ dd [] (y ++ x) := (dd_mem _ [] l).2 ⟨by simp [hl], by simp⟩
      rw [shr_over y x, shr_sum x (y.erase l) (dd [] (y ++ x)) (dd_nodup _ _) (fun z hz _ => (dd_mem _ [] z).2 ⟨by simp [List.mem_of_mem_erase hz], by simp⟩)]
      constructor
      · refine sumF_le fun z _ => ?_
        unfold part
        refine Nat.mul_le_mul_left _ ?_
        have : (y.erase l).count z ≤ y.count z := by rw [List.count_erase]; omega
        omega
      · have h2 := sumF_one (dd_nodup (y ++ x) []) hz l.length (f := fun z => if z = l then part (y.erase l) x z + l.length else part (y.erase l) x z) (g := part (y.erase l) x) (by simp) (fun z _ hne => by simp [hne])
        rw [← h2]
        refine sumF_le fun z _ => ?_
        show part y x z ≤ if z = l then part (y.erase l) x z + l.length else part (y.erase l) x z
        split
        · rename_i e
          subst e
          unfold part
          rw [List.count_erase_self, show z.length * min (y.count z - 1) (x.count z) + z.length = z.length * (min (y.count z - 1) (x.count z) + 1) by rw [Nat.mul_add, Nat.mul_one]]
          exact Nat.mul_le_mul_left _ (by omega)
        · rename_i e
          unfold part
          rw [List.count_erase_of_ne e]
          exact Nat.le_refl _
    omega
  · omega
/-- The score: a percentage. -/
def scr (x y : List (List UInt8)) (n m : Nat) : Nat := if max n m = 0 then 100 else 100 * shr x y / max n m
theorem scr_symm (x y : List (List UInt8)) (n m : Nat) : scr x y n m = scr y x m n := by unfold scr; rw [shr_symm, Nat.max_comm]
theorem scr_le (x y : List (List UInt8)) {n m : Nat} (hn : n = (join x).length) : scr x y n m ≤ 100 := by
  unfold scr
  split
  · exact Nat.le_refl _
  · have h := shr_le x y
    rw [← hn] at h
    exact Nat.div_le_of_le_mul (by
      have : n ≤ max n m := Nat.le_max_left _ _
      have : 100 * shr x y ≤ 100 * max n m := Nat.mul_le_mul_left _ (by omega)
      rw [Nat.mul_comm (max n m)]
      exact this)
theorem scr_self (x : List (List UInt8)) {n : Nat} (hn : n = (join x).length) : scr x x n n = 100 := by
  unfold scr
  rw [Nat.max_self, shr_self, ← hn]
  split
  · rfl
  · rename_i h
    exact Nat.mul_div_cancel _ (by omega)
/-- The score is 100 exactly if the lines are the same, as often. -/
theorem scr_full {x y : List (List UInt8)} {n m : Nat} (hn : n = (join x).length) (hm : m = (join y).length) (hx : ∀ l ∈ x, 0 < l.length) (hy : ∀ l ∈ y, 0 < l.length) : scr x y n m = 100 ↔ x.Perm y := by
  constructor
  · intro h
    have h1 := shr_le x y
    have h2 := shr_le2 x y
    rw [← hn] at h1
    rw [← hm] at h2
    have e : shr x y = max n m := by
      unfold scr at h
      split at h
      · omega
      · rename_i h0
        have := Nat.div_mul_le_self (100 * shr x y) (max n m)
        rw [h] at this
        omega
    have e1 : shr x y = (join x).length := by rw [← hn]; omega
    have e2 : shr y x = (join y).length := by rw [shr_symm, ← hm]; omega
    exact List.perm_iff_count.2 fun l => Nat.le_antisymm (shr_all hx e1 l) (shr_all hy e2 l)
  · intro h
    have e : m = n := by rw [hn, hm]; exact (join_perm h).symm
    have e2 : shr x y = shr y y := shr_perm h y
    have h3 := scr_self y hm
    unfold scr at h3 ⊢
    rw [e2, ← e]
    exact h3
end Go.Proofs.Ytddcogcjmmjpkaa
