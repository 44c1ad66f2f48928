/-
  Plain mathematics: common runs of two lists, their frequencies, the anchor.
-/
import Derived.Test.YtidghjalfbklnaaDfPlain
namespace Go.Proofs.Ytidghjalfbklnaa

/-- A run: where it starts in both lists, and how long it is. -/
structure Ru where
  a : Nat
  b : Nat
  n : Nat
section
variable {α : Type} [DecidableEq α]
/-- A maximal common run. -/
structure IsRun (a b : List α) (r : Ru) : Prop where
  pos : 1 ≤ r.n
  la : r.a + r.n ≤ a.length
  lb : r.b + r.n ≤ b.length
  eq : ∀ k, k < r.n → a[r.a + k]? = b[r.b + k]?
  lo : r.a = 0 ∨ r.b = 0 ∨ a[r.a - 1]? ≠ b[r.b - 1]?
  hi : r.a + r.n = a.length ∨ r.b + r.n = b.length ∨ a[r.a + r.n]? ≠ b[r.b + r.n]?
omit [DecidableEq α] in
theorem IsRun.lo_le {a b : List α} {r s : Ru} (h : IsRun a b r) (g : IsRun a b s) (hd : r.a + s.b = s.a + r.b) {i : Nat} (_h1 : r.a ≤ i) (h2 : i < r.a + r.n) (g1 : s.a ≤ i) (_g2 : i < s.a + s.n) : s.a ≤ r.a := by
  rcases Nat.lt_or_ge r.a s.a with hl | hl
  · exfalso
    have e := h.eq (s.a - 1 - r.a) (by omega)
    rw [show r.a + (s.a - 1 - r.a) = s.a - 1 by omega, show r.b + (s.a - 1 - r.a) = s.b - 1 by omega] at e
    rcases g.lo with h | h | h
    · omega
    · omega
    · exact h e
  · exact hl
omit [DecidableEq α] in
theorem IsRun.hi_le {a b : List α} {r s : Ru} (h : IsRun a b r) (g : IsRun a b s) (hd : r.a + s.b = s.a + r.b) {i : Nat} (h1 : r.a ≤ i) (_h2 : i < r.a + r.n) (_g1 : s.a ≤ i) (g2 : i < s.a + s.n) : r.a + r.n ≤ s.a + s.n := by
  rcases Nat.lt_or_ge (s.a + s.n) (r.a + r.n) with hl | hl
  · exfalso
    have e := h.eq (s.a + s.n - r.a) (by omega)
    rw [show r.a + (s.a + s.n - r.a) = s.a + s.n by omega, show r.b + (s.a + s.n - r.a) = s.b + s.n by omega] at e
    have := h.la
    have := h.lb
    rcases g.hi with h | h | h
    · omega
    · omega
    · exact h e
  · exact hl
omit [DecidableEq α] in
/-- Two runs through one pair of places are one. -/
theorem IsRun.one {a b : List α} {r s : Ru} (h : IsRun a b r) (g : IsRun a b s) (hd : r.a + s.b = s.a + r.b) {i : Nat} (h1 : r.a ≤ i) (h2 : i < r.a + r.n) (g1 : s.a ≤ i) (g2 : i < s.a + s.n) : r = s := by
  have a1 := h.lo_le g hd h1 h2 g1 g2
  have a2 := g.lo_le h hd.symm g1 g2 h1 h2
  have b1 := h.hi_le g hd h1 h2 g1 g2
  have b2 := g.hi_le h hd.symm g1 g2 h1 h2
  obtain ⟨ra, rb, rn⟩ := r
  obtain ⟨sa, sb, sn⟩ := s
  simp only at *
  have e1 : ra = sa := by omega
  have e2 : rb = sb := by omega
  have e3 : rn = sn := by omega
  rw [e1, e2, e3]
/-- How far back two lists are alike, ahead of two places. -/
def bk (a b : List α) : Nat → Nat → Nat
  | i + 1, j + 1 => if a[i]? = b[j]? then bk a b i j + 1 else 0
  | _, _ => 0
theorem bk_le (a b : List α) : ∀ i j, bk a b i j ≤ i ∧ bk a b i j ≤ j
  | 0, _ => by simp [bk]
  | _ + 1, 0 => by simp [bk]
  | i + 1, j + 1 => by
    rw [bk]
    have := bk_le a b i j
    split <;> omega
theorem bk_eq (a b : List α) : ∀ i j k, k < bk a b i j → a[i - 1 - k]? = b[j - 1 - k]?
  | 0, _, k, h => by simp [bk] at h
  | _ + 1, 0, k, h => by simp [bk] at h
  | i + 1, j + 1, k, h => by
    rw [bk] at h
    split at h
    · rename_i e
      cases k with
      | zero => simpa using e
      | succ k =>
        have h2 := bk_eq a b i j k (by omega)
        have := bk_le a b i j
        rw [show i + 1 - 1 - (k + 1) = i - 1 - k by omega, show j + 1 - 1 - (k + 1) = j - 1 - k by omega]
        exact h2
    · omega
theorem bk_stop (a b : List α) : ∀ i j, bk a b i j = i ∨ bk a b i j = j ∨ a[i - 1 - bk a b i j]? ≠ b[j - 1 - bk a b i j]?
  | 0, _ => by simp [bk]
  | _ + 1, 0 => by simp [bk]
  | i + 1, j + 1 => by
    rw [bk]
    split
    · rename_i e
      have h2 := bk_stop a b i j
      rw [show i + 1 - 1 - (bk a b i j + 1) = i - 1 - bk a b i j by omega, show j + 1 - 1 - (bk a b i j + 1) = j - 1 - bk a b i j by omega]
      rcases h2 with h | h | h
      · exact .inl (by omega)
      · exact .inr (.inl (by omega))
      · exact .inr (.inr h)
    · rename_i e
      exact .inr (.inr (by simpa using e))
/-- The run through a pair of places. -/
def run (a b : List α) (i j : Nat) : Ru := ⟨i - bk a b i j, j - bk a b i j, bk a b i j + cpre (a.drop i) (b.drop j)⟩
omit [DecidableEq α] in
theorem take_at {a b : List α} {n : Nat} (h : a.take n = b.take n) {k : Nat} (hk : k < n) : a[k]? = b[k]? := by
  have := congrArg (fun l => l[k]?) h
  simpa only [List.getElem?_take_of_lt hk] using this
theorem cpre_max (a b : List α) : cpre a b = a.length ∨ cpre a b = b.length ∨ a[cpre a b]? ≠ b[cpre a b]? := by
  obtain ⟨h1, h2⟩ := cpre_le a b
  rcases Nat.lt_or_ge (cpre a b) a.length with h3 | h3
  · rcases Nat.lt_or_ge (cpre a b) b.length with h4 | h4
    · refine .inr (.inr fun e => ?_)
      rw [List.getElem?_eq_getElem h3, List.getElem?_eq_getElem h4, Option.some.injEq] at e
      have := cpre_ge (cpre a b + 1) a b h3 h4 (take_more h3 h4 (cpre_take a b) e)
      omega
    · exact .inr (.inl (by omega))
  · exact .inl (by omega)
theorem run_is {a b : List α} {i j : Nat} (hi : i < a.length) (hj : j < b.length) (h : a[i]? = b[j]?) : IsRun a b (run a b i j) ∧ 1 ≤ cpre (a.drop i) (b.drop j) := by
  obtain ⟨h1, h2⟩ := bk_le a b i j
  obtain ⟨c1, c2⟩ := cpre_le (a.drop i) (b.drop j)
  rw [List.length_drop] at c1 c2
  have hc : 1 ≤ cpre (a.drop i) (b.drop j) := by
    rw [List.drop_eq_getElem_cons hi, List.drop_eq_getElem_cons hj, cpre]
    rw [List.getElem?_eq_getElem hi, List.getElem?_eq_getElem hj, Option.some.injEq] at h
    rw [if_pos h]
    omega
  refine ⟨⟨?_, ?_, ?_, fun k hk => ?_, ?_, ?_⟩, hc⟩
  · show 1 ≤ bk a b i j + _; omega
  · show i - bk a b i j + (bk a b i j + _) ≤ _; omega
  · show j - bk a b i j + (bk a b i j + _) ≤ _; omega
  · simp only [run] at hk ⊢
    rcases Nat.lt_or_ge k (bk a b i j) with hl | hl
    · have := bk_eq a b i j (bk a b i j - 1 - k) (by omega)
      rw [show i - 1 - (bk a b i j - 1 - k) = i - bk a b i j + k by omega, show j - 1 - (bk a b i j - 1 - k) = j - bk a b i j + k by omega] at this
      exact this
    · have := take_at (cpre_take (a.drop i) (b.drop j)) (k := k - bk a b i j) (by omega)
      rw [List.getElem?_drop, List.getElem?_drop, show i + (k - bk a b i j) = i - bk a b i j + k by omega, show j + (k - bk a b i j) = j - bk a b i j + k by omega] at this
      exact this
  · simp only [run]
    rcases bk_stop a b i j with h | h | h
    · exact .inl (by omega)
    · exact .inr (.inl (by omega))
    · refine .inr (.inr ?_)
      rw [show i - bk a b i j - 1 = i - 1 - bk a b i j by omega, show j - bk a b i j - 1 = j - 1 - bk a b i j by omega]
      exact h
  · simp only [run]
    rcases cpre_max (a.drop i) (b.drop j) with h | h | h
    · rw [List.length_drop] at h; exact .inl (by omega)
    · rw [List.length_drop] at h; exact .inr (.inl (by omega))
    · refine .inr (.inr ?_)
      rw [List.getElem?_drop, List.getElem?_drop] at h
      rw [show i - bk a b i j + (bk a b i j + cpre (a.drop i) (b.drop j)) = i + cpre (a.drop i) (b.drop j) by omega, show j - bk a b i j + (bk a b i j + cpre (a.drop i) (b.drop j)) = j + cpre (a.drop i) (b.drop j) by omega]
      exact h
/-- Every run is the run through each of its pairs. -/
theorem IsRun.through {a b : List α} {r : Ru} (h : IsRun a b r) {k : Nat} (hk : k < r.n) : run a b (r.a + k) (r.b + k) = r := by
  have h1 := h.la
  have h2 := h.lb
  obtain ⟨g, gc⟩ := run_is (a := a) (b := b) (i := r.a + k) (j := r.b + k) (by omega) (by omega) (h.eq k hk)
  have hb := bk_le a b (r.a + k) (r.b + k)
  refine g.one h ?_ (i := r.a + k) ?_ ?_ (by omega) (by omega)
  · simp only [run]; omega
  · simp only [run]; omega
  · simp only [run]; omega

/-- The frequency of a run. -/
def rr (a : List α) (r : Ru) : Nat := ((a.drop r.a).take r.n).foldl (fun m x => min m (a.count x)) a.length
theorem fold_min (a : List α) : ∀ (l : List α) (m : Nat), l.foldl (fun m x => min m (a.count x)) m ≤ m ∧ (∀ x ∈ l, l.foldl (fun m x => min m (a.count x)) m ≤ a.count x) ∧ (l.foldl (fun m x => min m (a.count x)) m = m ∨ ∃ x ∈ l, l.foldl (fun m x => min m (a.count x)) m = a.count x)
  | [], m => ⟨Nat.le_refl _, fun _ h => absurd h (by simp), .inl rfl⟩
  | y :: l, m => by
    obtain ⟨h1, h2, h3⟩ := fold_min a l (min m (a.count y))
    rw [List.foldl_cons]
    refine ⟨by omega, fun x hx => ?_, ?_⟩
    · rcases List.mem_cons.mp hx with rfl | hx
      · omega
      · exact h2 x hx
    · rcases h3 with h | ⟨x, hx, h⟩
      · rcases Nat.le_total m (a.count y) with hm | hm
        · exact .inl (by omega)
        · exact .inr ⟨y, by simp, by omega⟩
      · exact .inr ⟨x, by simp [hx], h⟩
omit [DecidableEq α] in
theorem mem_run {a : List α} {r : Ru} (x : α) : x ∈ (a.drop r.a).take r.n ↔ ∃ k, k < r.n ∧ a[r.a + k]? = some x := by
  rw [List.mem_iff_getElem?]
  constructor
  · rintro ⟨k, hk⟩
    have hl : k < r.n := by
      rcases Nat.lt_or_ge k r.n with h1 | h1
      · exact h1
      · rw [List.getElem?_take_eq_none h1] at hk; cases hk
    rw [List.getElem?_take_of_lt hl, List.getElem?_drop] at hk
    exact ⟨k, hl, hk⟩
  · rintro ⟨k, hl, hk⟩
    exact ⟨k, by rw [List.getElem?_take_of_lt hl, List.getElem?_drop]; exact hk⟩
theorem rr_le {a : List α} {r : Ru} {k : Nat} {x : α} (hk : k < r.n) (hx : a[r.a + k]? = some x) : rr a r ≤ a.count x :=
  (fold_min a _ _).2.1 x ((mem_run x).mpr ⟨k, hk, hx⟩)
theorem rr_in {a b : List α} {r : Ru} (h : IsRun a b r) : ∃ k x, k < r.n ∧ a[r.a + k]? = some x ∧ rr a r = a.count x := by
  obtain ⟨h1, h2, h3⟩ := fold_min a ((a.drop r.a).take r.n) a.length
  rcases h3 with h3 | ⟨x, hx, h3⟩
  · have h4 := h.pos
    have h5 := h.la
    have h6 : a[r.a + 0]? = some a[r.a] := List.getElem?_eq_getElem (by omega)
    refine ⟨0, _, h4, h6, ?_⟩
    have := rr_le (k := 0) h4 h6
    have h7 : a.count a[r.a] ≤ a.length := List.count_le_length
    rw [rr] at *
    omega
  · obtain ⟨k, hk, hx⟩ := (mem_run x).mp hx
    exact ⟨k, x, hk, hx, h3⟩
/-- Whether one run goes before another. -/
def b3 (x y : Ru) : Bool := if x.n ≠ y.n then decide (y.n < x.n) else if x.a ≠ y.a then decide (x.a < y.a) else decide (x.b < y.b)
def bt (a : List α) (x y : Ru) : Bool := if rr a x ≠ rr a y then decide (rr a x < rr a y) else b3 x y
theorem b3_total {x y : Ru} (h : b3 x y = false) (g : b3 y x = false) : x = y := by
  obtain ⟨xa, xb, xn⟩ := x
  obtain ⟨ya, yb, yn⟩ := y
  simp only [b3] at h g
  by_cases h1 : xn = yn
  · by_cases h2 : xa = ya
    · rw [if_neg (by omega), if_neg (by omega), decide_eq_false_iff_not] at h g
      rw [h1, h2, show xb = yb by omega]
    · rw [if_neg (by omega), if_pos (by omega), decide_eq_false_iff_not] at h g
      omega
  · rw [if_pos (by omega), decide_eq_false_iff_not] at h g
    omega
theorem b3_iff (x y : Ru) : b3 x y = true ↔ y.n < x.n ∨ (x.n = y.n ∧ (x.a < y.a ∨ (x.a = y.a ∧ x.b < y.b))) := by
  unfold b3
  split
  · rw [decide_eq_true_iff]; omega
  · split
    · rw [decide_eq_true_iff]; omega
    · rw [decide_eq_true_iff]; omega
theorem bt_iff (a : List α) (x y : Ru) : bt a x y = true ↔ rr a x < rr a y ∨ (rr a x = rr a y ∧ b3 x y = true) := by
  unfold bt
  split
  · rw [decide_eq_true_iff]; omega
  · rename_i h
    have : rr a x = rr a y := by omega
    simp [this]
/-- What is told of an anchor. -/
def AncR (a b : List α) : Option Ru → Prop
  | none => ∀ r, IsRun a b r → 64 < rr a r
  | some s => IsRun a b s ∧ rr a s ≤ 64 ∧ ∀ r, IsRun a b r → bt a r s = false
theorem AncR.unique {a b : List α} {o o' : Option Ru} (h : AncR a b o) (g : AncR a b o') : o = o' := by
  cases o with
  | none =>
    cases o' with
    | none => rfl
    | some s =>
      have := h s g.1
      have := g.2.1
      omega
  | some r =>
    cases o' with
    | none =>
      have := g r h.1
      have := h.2.1
      omega
    | some s =>
      have h1 := h.2.2 s g.1
      have h2 := g.2.2 r h.1
      rw [Bool.eq_false_iff, Ne, bt_iff] at h1 h2
      have e : rr a r = rr a s := Nat.le_antisymm (Nat.le_of_not_lt fun l => h1 (.inl l)) (Nat.le_of_not_lt fun l => h2 (.inl l))
      have h3 : b3 r s = false := by rw [Bool.eq_false_iff]; exact fun x => h2 (.inr ⟨e, x⟩)
      have h4 : b3 s r = false := by rw [Bool.eq_false_iff]; exact fun x => h1 (.inr ⟨e.symm, x⟩)
      rw [b3_total h3 h4]
/-- One more run that may be the anchor. -/
def anS (a : List α) (o : Option Ru) (r : Ru) : Option Ru := if 64 < rr a r then o else match o with
  | none => some r
  | some s => if bt a r s = true then some r else some s
/-- The runs through the pairs of a row. -/
def row (a b : List α) (i m : Nat) : List Ru := (List.range m).flatMap fun j => if a[i]? = b[j]? then [run a b i j] else []
def cand (a b : List α) (n : Nat) : List Ru := (List.range n).flatMap fun i => row a b i b.length
def anc (a b : List α) : Option Ru := (cand a b a.length).foldl (anS a) none
theorem bt_ge {a : List α} {x y z : Ru} (h : bt a x y = false) (g : bt a y z = false) : bt a x z = false := by
  rw [Bool.eq_false_iff, Ne, bt_iff, b3_iff] at h g ⊢
  omega
theorem bt_lt {a : List α} {x y : Ru} (h : bt a x y = true) : bt a y x = false := by
  rw [bt_iff, b3_iff] at h
  rw [Bool.eq_false_iff, Ne, bt_iff, b3_iff]
  omega
theorem bt_self (a : List α) (x : Ru) : bt a x x = false := by
  rw [Bool.eq_false_iff, Ne, bt_iff, b3_iff]
  omega
theorem bt_far {a : List α} {x y : Ru} (h : 64 < rr a x) (g : rr a y ≤ 64) : bt a x y = false := by
  rw [Bool.eq_false_iff, Ne, bt_iff, b3_iff]
  omega
def okO (a : List α) (P : Ru → Prop) : Option Ru → Prop
  | none => True
  | some s => P s ∧ rr a s ≤ 64
def foO (a : List α) (P : Ru → Prop) (C : List Ru) (o : Option Ru) : Option Ru → Prop
  | none => o = none ∧ ∀ r ∈ C, 64 < rr a r
  | some s => P s ∧ rr a s ≤ 64 ∧ (∀ r ∈ C, bt a r s = false) ∧ ∀ q, o = some q → bt a q s = false
theorem fold_an (a : List α) (P : Ru → Prop) : ∀ (C : List Ru) (o : Option Ru), (∀ r ∈ C, P r) → okO a P o → foO a P C o (C.foldl (anS a) o)
  | [], none, _, _ => ⟨rfl, fun _ h => absurd h (by simp)⟩
  | [], some s, _, h => ⟨h.1, h.2, fun _ h => absurd h (by simp), fun q e => by cases e; exact bt_self _ _⟩
  | r :: C, o, hC, ho => by
    have hr := hC r (by simp)
    have hC2 : ∀ r ∈ C, P r := fun x hx => hC x (by simp [hx])
    rw [List.foldl_cons]
    by_cases h64 : 64 < rr a r
    · have e : anS a o r = o := if_pos h64
      have ih := fold_an a P C o hC2 ho
      rw [e]
      cases hF : C.foldl (anS a) o with
      | none =>
        rw [hF] at ih
        refine ⟨ih.1, fun x hx => ?_⟩
        rcases List.mem_cons.mp hx with rfl | hx
        · exact h64
        · exact ih.2 x hx
      | some s =>
        rw [hF] at ih
        refine ⟨ih.1, ih.2.1, fun x hx => ?_, ih.2.2.2⟩
        rcases List.mem_cons.mp hx with rfl | hx
        · exact bt_far h64 ih.2.1
        · exact ih.2.2.1 x hx
    · have key : ∃ t, anS a o r = some t ∧ P t ∧ rr a t ≤ 64 ∧ bt a r t = false ∧ ∀ q, o = some q → bt a q t = false := by
        unfold anS
        rw [if_neg h64]
        cases o with
        | none => exact ⟨r, rfl, hr, by omega, bt_self _ _, fun q e => by cases e⟩
        | some u =>
          simp only
          by_cases hb : bt a r u = true
          · rw [if_pos hb]
            exact ⟨r, rfl, hr, by omega, bt_self _ _, fun q e => by cases e; exact bt_lt hb⟩
          · rw [if_neg hb]
            exact ⟨u, rfl, ho.1, ho.2, by simpa using hb, fun q e => by cases e; exact bt_self _ _⟩
      obtain ⟨t, e, ht, ht2, hrt, hq⟩ := key
      have ih := fold_an a P C (some t) hC2 ⟨ht, ht2⟩
      rw [e]
      cases hF : C.foldl (anS a) (some t) with
      | none =>
        rw [hF] at ih
        cases ih.1
      | some s =>
        rw [hF] at ih
        refine ⟨ih.1, ih.2.1, fun x hx => ?_, fun q hq2 => bt_ge (hq q hq2) (ih.2.2.2 t rfl)⟩
        rcases List.mem_cons.mp hx with rfl | hx
        · exact bt_ge hrt (ih.2.2.2 t rfl)
        · exact ih.2.2.1 x hx
theorem mem_cand {a b : List α} {r : Ru} : r ∈ cand a b a.length ↔ IsRun a b r := by
  unfold cand row
  simp only [List.mem_flatMap, List.mem_range]
  constructor
  · rintro ⟨i, hi, j, hj, h⟩
    split at h
    · rename_i e
      rw [List.mem_singleton] at h
      rw [h]
      exact (run_is hi hj e).1
    · simp at h
  · intro h
    have := h.pos
    have := h.la
    have := h.lb
    refine ⟨r.a + 0, by omega, r.b + 0, by omega, ?_⟩
    rw [if_pos (h.eq 0 (by omega)), List.mem_singleton, h.through (by omega)]
/-- The reference's way finds the anchor. -/
theorem anc_is (a b : List α) : AncR a b (anc a b) := by
  have h := fold_an a (IsRun a b) (cand a b a.length) none (fun r hr => mem_cand.mp hr) trivial
  rw [anc]
  cases hF : (cand a b a.length).foldl (anS a) none with
  | none =>
    rw [hF] at h
    exact fun r hr => h.2 r (mem_cand.mpr hr)
  | some s =>
    rw [hF] at h
    exact ⟨h.1, h.2.1, fun r hr => h.2.2.1 r (mem_cand.mpr hr)⟩
theorem anc_of {a b : List α} {o : Option Ru} (h : AncR a b o) : o = anc a b := h.unique (anc_is a b)
end
end Go.Proofs.Ytidghjalfbklnaa
