/-
  Plain mathematics: the runs that the histogram script keeps; renaming of lines.
-/
import Derived.Test.YtidghjalfbklnaaHsAncP
import Derived.Test.YtidghjalfbklnaaDfMore
namespace Go.Proofs.Ytidghjalfbklnaa

section
variable {α : Type} [DecidableEq α]
/-- How many elements two lists have in common at their end. -/
def csuf (a b : List α) : Nat := cpre a.reverse b.reverse
theorem csuf_le (a b : List α) : csuf a b ≤ a.length ∧ csuf a b ≤ b.length := by
  have := cpre_le a.reverse b.reverse
  simpa [csuf] using this
def kp (i j n : Int) : List Rn := if 0 < n then [⟨i, j, n⟩] else []
/-- The suffix that is kept behind the prefix. -/
def tl (a b : List α) : Nat := csuf (a.drop (cpre a b)) (b.drop (cpre a b))
/-- What lies between the prefix and the suffix. -/
def inr (a b : List α) (x : List α) : List α := (x.drop (cpre a b)).take (x.length - cpre a b - tl a b)
theorem inr_len (a b x : List α) : (inr a b x).length = x.length - cpre a b - tl a b := by
  unfold inr
  rw [List.length_take, List.length_drop]
  omega
section
variable (LS : List α → List α → List Rn)
def mid (go : List α → List α → Int → Int → List Rn) (x y : List α) (i j : Int) : List Rn := match anc x y with
  | none => (LS x y).flatMap fun r => kp (i + r.a) (j + r.b) r.n
  | some r => go (x.take r.a) (y.take r.b) i j ++ (kp (i + r.a) (j + r.b) r.n ++ go (x.drop (r.a + r.n)) (y.drop (r.b + r.n)) (i + (r.a + r.n : Nat)) (j + (r.b + r.n : Nat)))
/-- The runs that are kept; the number bounds the recursion. -/
def sp : Nat → List α → List α → Int → Int → List Rn
  | 0, _, _, _, _ => []
  | k + 1, a, b, i, j => kp i j (cpre a b) ++ ((if (inr a b a).length = 0 ∨ (inr a b b).length = 0 then [] else mid LS (sp k) (inr a b a) (inr a b b) (i + cpre a b) (j + cpre a b)) ++
      kp (i + cpre a b + (inr a b a).length) (j + cpre a b + (inr a b b).length) (tl a b))
end

section
variable {β : Type} [DecidableEq β] {f : α → β}
/-- A renaming that is one to one on the lines of two lists. -/
def Inj (f : α → β) (a b : List α) : Prop := ∀ x ∈ a ++ b, ∀ y ∈ a ++ b, f x = f y → x = y
omit [DecidableEq α] [DecidableEq β] in
theorem inj_at {a b : List α} (h : Inj f a b) {i j : Nat} : (a.map f)[i]? = (b.map f)[j]? ↔ a[i]? = b[j]? := by
  rw [List.getElem?_map, List.getElem?_map]
  cases hx : a[i]? with
  | none =>
    cases hy : b[j]? with
    | none => simp
    | some y => simp
  | some x =>
    cases hy : b[j]? with
    | none => simp
    | some y =>
      simp only [Option.map_some, Option.some.injEq]
      exact ⟨fun e => h x (by simp [List.mem_of_getElem? hx]) y (by simp [List.mem_of_getElem? hy]) e, fun e => by rw [e]⟩
theorem cpre_map : ∀ {a b : List α}, Inj f a b → cpre (a.map f) (b.map f) = cpre a b
  | [], _, _ => by simp [cpre]
  | _ :: _, [], _ => by simp [cpre]
  | x :: a, y :: b, h => by
    have ih := cpre_map (a := a) (b := b) (fun u hu v hv e => h u (by simp only [List.mem_append, List.mem_cons] at hu ⊢; rcases hu with hu | hu <;> simp [hu]) v (by simp only [List.mem_append, List.mem_cons] at hv ⊢; rcases hv with hv | hv <;> simp [hv]) e)
    rw [List.map_cons, List.map_cons, cpre, cpre, ih]
    by_cases e : x = y
    · rw [if_pos e, if_pos (by rw [e])]
    · rw [if_neg e, if_neg (fun e2 => e (h x (by simp) y (by simp) e2))]
omit [DecidableEq α] [DecidableEq β] in
theorem inj_sub {a b a' b' : List α} (h : Inj f a b) (ha : ∀ x ∈ a', x ∈ a) (hb : ∀ x ∈ b', x ∈ b) : Inj f a' b' := fun u hu v hv e =>
  h u (by rcases List.mem_append.mp hu with h | h <;> simp [ha, hb, h]) v (by rcases List.mem_append.mp hv with h | h <;> simp [ha, hb, h]) e
theorem csuf_map {a b : List α} (h : Inj f a b) : csuf (a.map f) (b.map f) = csuf a b := by
  unfold csuf
  rw [← List.map_reverse, ← List.map_reverse, cpre_map (inj_sub h (fun x hx => List.mem_reverse.mp hx) (fun x hx => List.mem_reverse.mp hx))]
theorem count_map {a : List α} {x : α} (h : ∀ y ∈ a, f y = f x → y = x) : (a.map f).count (f x) = a.count x := by
  induction a with
  | nil => rfl
  | cons z a ih =>
    rw [List.map_cons, List.count_cons, List.count_cons, ih (fun y hy => h y (by simp [hy]))]
    congr 1
    by_cases e : z = x
    · subst e; simp
    · have : f z ≠ f x := fun e2 => e (h z (by simp) e2)
      simp [e, this]
theorem rr_map {a b : List α} (h : Inj f a b) (r : Ru) : rr (a.map f) r = rr a r := by
  unfold rr
  rw [← List.map_drop, ← List.map_take, List.length_map]
  have hs : ∀ x ∈ (a.drop r.a).take r.n, x ∈ a := fun x hx => List.mem_of_mem_drop (List.mem_of_mem_take hx)
  generalize (a.drop r.a).take r.n = l at hs
  generalize a.length = m
  induction l generalizing m with
  | nil => rfl
  | cons x l ih =>
    rw [List.map_cons, List.foldl_cons, List.foldl_cons, count_map (fun y hy e => h y (by simp [hy]) x (by simp [hs x (by simp)]) e)]
    exact ih (fun y hy => hs y (by simp [hy])) _
omit [DecidableEq α] [DecidableEq β] in
theorem isRun_map {a b : List α} (h : Inj f a b) {r : Ru} : IsRun (a.map f) (b.map f) r ↔ IsRun a b r := by
  constructor
  · rintro ⟨h1, h2, h3, h4, h5, h6⟩
    rw [List.length_map] at h2 h3 h6
    rw [List.length_map] at h6
    exact ⟨h1, h2, h3, fun k hk => (inj_at h).mp (h4 k hk), h5.imp id (Or.imp id fun e e2 => e ((inj_at h).mpr e2)), h6.imp id (Or.imp id fun e e2 => e ((inj_at h).mpr e2))⟩
  · rintro ⟨h1, h2, h3, h4, h5, h6⟩
    exact ⟨h1, by rw [List.length_map]; exact h2, by rw [List.length_map]; exact h3, fun k hk => (inj_at h).mpr (h4 k hk), h5.imp id (Or.imp id fun e e2 => e ((inj_at h).mp e2)), by rw [List.length_map, List.length_map]; exact h6.imp id (Or.imp id fun e e2 => e ((inj_at h).mp e2))⟩
theorem bt_map {a b : List α} (h : Inj f a b) (r s : Ru) : bt (a.map f) r s = bt a r s := by
  unfold bt
  rw [rr_map h, rr_map h]
theorem anc_map {a b : List α} (h : Inj f a b) : anc (a.map f) (b.map f) = anc a b := by
  refine anc_of ?_
  have h1 := anc_is (a.map f) (b.map f)
  cases ho : anc (a.map f) (b.map f) with
  | none =>
    rw [ho] at h1
    intro r hr
    have := h1 r ((isRun_map h).mpr hr)
    rw [rr_map h] at this
    exact this
  | some s =>
    rw [ho] at h1
    obtain ⟨g1, g2, g3⟩ := h1
    rw [rr_map h] at g2
    refine ⟨(isRun_map h).mp g1, g2, fun r hr => ?_⟩
    have := g3 r ((isRun_map h).mpr hr)
    rw [bt_map h] at this
    exact this
end
/-- Runs that follow one another. -/
def Ch (A B : List α) : List Rn → Nat → Nat → Nat → Nat → Prop
  | [], i, j, i', j' => i ≤ i' ∧ j ≤ j'
  | r :: l, i, j, i', j' => ∃ a b n : Nat, r = ⟨a, b, n⟩ ∧ 1 ≤ n ∧ i ≤ a ∧ j ≤ b ∧ a + n ≤ A.length ∧ b + n ≤ B.length ∧ (A.drop a).take n = (B.drop b).take n ∧ Ch A B l (a + n) (b + n) i' j'
omit [DecidableEq α] in
theorem Ch.all {A B : List α} : ∀ {l : List Rn} {i j i' j' : Nat}, Ch A B l i j i' j' → ∀ r ∈ l, ∃ a b n : Nat, r = ⟨a, b, n⟩ ∧ 1 ≤ n ∧ a + n ≤ A.length ∧ b + n ≤ B.length
  | [], _, _, _, _, _, r, hr => absurd hr (by simp)
  | q :: l, i, j, i', j', h, r, hr => by
    obtain ⟨a, b, n, rfl, h1, h2, h3, h4, h5, h6, h7⟩ := h
    rcases List.mem_cons.mp hr with rfl | hr
    · exact ⟨a, b, n, rfl, h1, h4, h5⟩
    · exact Ch.all h7 r hr
/-- The runs that a right script leaves follow one another. -/
theorem stL_ch (a b : List α) (W : Int → Int) (hW : ∀ x : Int, 0 ≤ x → x ≤ (a.length : Int) + b.length → W x = x) : ∀ (l : List Ed) (first : Bool) (i j : Nat), valL a b l first i j = true → i ≤ a.length → j ≤ b.length →
    Ch a b (stL W a.length l i j []) i j a.length b.length
  | [], first, i, j, h, hi, hj => by
    have h1 := of_decide_eq_true h
    have h2 := congrArg List.length h1
    simp only [List.length_drop] at h2
    rw [stL]
    split
    · rename_i hl
      rw [List.nil_append, hW _ (by omega) (by omega)]
      refine ⟨i, j, a.length - i, by congr 1; omega, by omega, Nat.le_refl _, Nat.le_refl _, by omega, by omega, ?_, by omega, by omega⟩
      rw [List.take_of_length_le (by rw [List.length_drop]; omega), List.take_of_length_le (by rw [List.length_drop]; omega), h1]
    · exact ⟨hi, hj⟩
  | e :: l, first, i, j, h, hi, hj => by
    by_cases hv : okV a b e first i j
    · rw [valL_go hv] at h
      have hs := okV_same hv
      obtain ⟨k1, _, _, k4⟩ := hv
      have he := okE_ends k1
      unfold okE at k1
      rw [stL, hW (e.f + e.d) (by omega) (by omega), hW (e.t + e.i) (by omega) (by omega), ← he.2.2.2.2.1, ← he.2.2.2.2.2.1, stL_acc]
      have ih := stL_ch a b W hW l false _ _ h he.1 he.2.1
      have hwide : ∀ {l : List Rn} {i j i2 j2 : Nat}, Ch a b l i j a.length b.length → i2 ≤ i → j2 ≤ j → Ch a b l i2 j2 a.length b.length := fun {l} {i j i2 j2} h h1 h2 => by
        cases l with
        | nil => exact ⟨Nat.le_trans h1 h.1, Nat.le_trans h2 h.2⟩
        | cons r l =>
          obtain ⟨x, y, n, h3, h4, h5, h6, h7⟩ := h
          exact ⟨x, y, n, h3, h4, by omega, by omega, h7⟩
      split
      · rename_i hlt
        rw [List.nil_append, hW _ (by omega) (by omega)]
        refine ⟨i, j, e.f.toNat - i, by congr 1; omega, by omega, Nat.le_refl _, Nat.le_refl _, by omega, by omega, ?_, hwide ih (by omega) (by omega)⟩
        rw [show e.f.toNat - i = e.f.toNat - i from rfl, k4]
        congr 1
        omega
      · exact hwide ih (by omega) (by omega)
    · rw [valL_not hv] at h
      cases h
end
end Go.Proofs.Ytidghjalfbklnaa
