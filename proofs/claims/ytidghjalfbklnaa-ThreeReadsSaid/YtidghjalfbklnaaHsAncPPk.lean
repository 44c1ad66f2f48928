/-
  Plain mathematics: the anchor by way of the rarest common line alone.
-/
import Derived.Test.YtidghjalfbklnaaHsPlain
import Derived.Test.YtidghjalfbklnaaDfMore
namespace Go.Proofs.Ytidghjalfbklnaa

section
variable {α : Type} [DecidableEq α]
/-- The places below k where a line stands, the last first. -/
def od (a : List α) (x : α) : Nat → List Nat
  | 0 => []
  | k + 1 => if a[k]? = some x then k :: od a x k else od a x k
theorem od_mem {a : List α} {x : α} : ∀ {k i : Nat}, i ∈ od a x k ↔ i < k ∧ a[i]? = some x
  | 0, i => by simp [od]
  | k + 1, i => by
    rw [od]
    have ih := od_mem (a := a) (x := x) (k := k) (i := i)
    split
    · rename_i h
      rw [List.mem_cons, ih]
      constructor
      · rintro (rfl | h2)
        · exact ⟨by omega, h⟩
        · exact ⟨by omega, h2.2⟩
      · rintro ⟨h1, h2⟩
        rcases Nat.lt_or_ge i k with h3 | h3
        · exact .inr ⟨h3, h2⟩
        · exact .inl (by omega)
    · rename_i h
      rw [ih]
      constructor
      · rintro ⟨h1, h2⟩; exact ⟨by omega, h2⟩
      · rintro ⟨h1, h2⟩
        refine ⟨?_, h2⟩
        rcases Nat.lt_or_ge i k with h3 | h3
        · exact h3
        · rw [show i = k by omega] at h2; exact absurd h2 h
theorem od_cons {a : List α} {x : α} : ∀ {k i : Nat} {t : List Nat}, od a x k = i :: t → i < k ∧ a[i]? = some x ∧ t = od a x i
  | 0, _, _, h => by simp [od] at h
  | k + 1, i, t, h => by
    rw [od] at h
    split at h
    · rename_i e
      rw [List.cons.injEq] at h
      rw [← h.1]
      exact ⟨by omega, e, h.2.symm⟩
    · obtain ⟨h1, h2, h3⟩ := od_cons h
      exact ⟨by omega, h2, h3⟩
/-- The last place below k where a line stands, or -1. -/
def lastP (a : List α) (x : α) (k : Nat) : Int := match od a x k with
  | [] => -1
  | i :: _ => i
/-- The run whose first rare line stands at a pair of places, if there is one. -/
def fr (a b : List α) (L i j : Nat) : Option Ru := if ∀ k, k < bk a b i j → (a[i - 1 - k]?).map (fun x => a.count x) ≠ some L then some (run a b i j) else none
def s3 (o : Option Ru) (r : Ru) : Option Ru := match o with
  | none => some r
  | some s => if b3 r s = true then some r else some s
def vis (a b : List α) (L j : Nat) : List Ru := match b[j]? with
  | none => []
  | some x => if a.count x = L then (od a x a.length).filterMap (fun i => fr a b L i j) else []
/-- The best of the runs, each met at its first rare line. -/
def pa (a b : List α) (L : Nat) : Option Ru := (List.range b.length).foldl (fun o j => (vis a b L j).foldl s3 o) none
theorem pa_flat (a b : List α) (L : Nat) : pa a b L = ((List.range b.length).flatMap (vis a b L)).foldl s3 none := by
  unfold pa
  rw [List.foldl_flatMap]
theorem b3_ge {x y z : Ru} (h : b3 x y = false) (g : b3 y z = false) : b3 x z = false := by
  rw [Bool.eq_false_iff, Ne, b3_iff] at h g ⊢
  omega
theorem b3_self (x : Ru) : b3 x x = false := by
  rw [Bool.eq_false_iff, Ne, b3_iff]
  omega
theorem b3_lt {x y : Ru} (h : b3 x y = true) : b3 y x = false := by
  rw [b3_iff] at h
  rw [Bool.eq_false_iff, Ne, b3_iff]
  omega
theorem fold_s3 : ∀ (C : List Ru) (u : Ru), ∃ s, C.foldl s3 (some u) = some s ∧ (s = u ∨ s ∈ C) ∧ b3 u s = false ∧ ∀ r ∈ C, b3 r s = false
  | [], u => ⟨u, rfl, .inl rfl, b3_self u, fun _ h => absurd h (by simp)⟩
  | r :: C, u => by
    rw [List.foldl_cons]
    by_cases hb : b3 r u = true
    · have e : s3 (some u) r = some r := if_pos hb
      obtain ⟨s, h1, h2, h3, h4⟩ := fold_s3 C r
      rw [e]
      refine ⟨s, h1, .inr ?_, b3_ge (b3_lt hb) h3, fun x hx => ?_⟩
      · rcases h2 with rfl | h2
        · simp
        · simp [h2]
      · rcases List.mem_cons.mp hx with rfl | hx
        · exact h3
        · exact h4 x hx
    · have e : s3 (some u) r = some u := if_neg hb
      obtain ⟨s, h1, h2, h3, h4⟩ := fold_s3 C u
      rw [e]
      refine ⟨s, h1, ?_, h3, fun x hx => ?_⟩
      · rcases h2 with rfl | h2
        · exact .inl rfl
        · exact .inr (by simp [h2])
      · rcases List.mem_cons.mp hx with rfl | hx
        · exact b3_ge (by simpa using hb) h3
        · exact h4 x hx
theorem mem_vis {a b : List α} {L : Nat} {r : Ru} : r ∈ (List.range b.length).flatMap (vis a b L) ↔ ∃ i j x, a[i]? = some x ∧ b[j]? = some x ∧ a.count x = L ∧ fr a b L i j = some r := by
  simp only [List.mem_flatMap, List.mem_range, vis]
  constructor
  · rintro ⟨j, hj, h⟩
    rw [List.getElem?_eq_getElem hj] at h
    simp only at h
    split at h
    · rename_i hc
      obtain ⟨i, hi, hr⟩ := List.mem_filterMap.mp h
      exact ⟨i, j, b[j], (od_mem.mp hi).2, List.getElem?_eq_getElem hj, hc, hr⟩
    · simp at h
  · rintro ⟨i, j, x, h1, h2, h3, h4⟩
    obtain ⟨hj, _⟩ := List.getElem?_eq_some_iff.mp h2
    obtain ⟨hi, _⟩ := List.getElem?_eq_some_iff.mp h1
    refine ⟨j, hj, ?_⟩
    rw [h2]
    simp only
    rw [if_pos h3]
    exact List.mem_filterMap.mpr ⟨i, od_mem.mpr ⟨hi, h1⟩, h4⟩
theorem fr_some {a b : List α} {L i j : Nat} {r : Ru} (h : fr a b L i j = some r) : r = run a b i j := by
  unfold fr at h
  split at h
  · cases h; rfl
  · cases h
/-- What is known of the rarest common line. -/
structure Rarest (a b : List α) (L : Nat) : Prop where
  pos : 1 ≤ L
  le : ∀ x ∈ b, 0 < a.count x → L ≤ a.count x
  is : ∃ x ∈ b, a.count x = L
theorem run_ge {a b : List α} {L : Nat} (h : Rarest a b L) {r : Ru} (hr : IsRun a b r) : L ≤ rr a r := by
  obtain ⟨k, x, hk, hx, e⟩ := rr_in hr
  rw [e]
  refine h.le x ?_ (List.count_pos_iff.mpr (List.mem_of_getElem? hx))
  rw [hr.eq k hk] at hx
  exact List.mem_of_getElem? hx
theorem vis_rr {a b : List α} {L : Nat} (h : Rarest a b L) {r : Ru} (hr : r ∈ (List.range b.length).flatMap (vis a b L)) : IsRun a b r ∧ rr a r = L := by
  obtain ⟨i, j, x, h1, h2, h3, h4⟩ := mem_vis.mp hr
  obtain ⟨hi, _⟩ := List.getElem?_eq_some_iff.mp h1
  obtain ⟨hj, _⟩ := List.getElem?_eq_some_iff.mp h2
  rw [fr_some h4]
  obtain ⟨hR, hc⟩ := run_is hi hj (h1.trans h2.symm)
  refine ⟨hR, Nat.le_antisymm ?_ (run_ge h hR)⟩
  have hb := bk_le a b i j
  have := rr_le (a := a) (r := run a b i j) (k := bk a b i j) (x := x) (by simp only [run]; omega) (by simp only [run]; rw [show i - bk a b i j + bk a b i j = i by omega]; exact h1)
  omega
theorem run_vis {a b : List α} {L : Nat} {r : Ru} (hr : IsRun a b r) (he : rr a r = L) : r ∈ (List.range b.length).flatMap (vis a b L) := by
  have hex : ∃ k, k < r.n ∧ (a[r.a + k]?).map (fun x => a.count x) = some L := by
    obtain ⟨k, x, hk, hx, e⟩ := rr_in hr
    exact ⟨k, hk, by rw [hx, Option.map_some, ← e, he]⟩
  have hmin : ∃ k, (k < r.n ∧ (a[r.a + k]?).map (fun x => a.count x) = some L) ∧ ∀ l, l < k → (a[r.a + l]?).map (fun x => a.count x) ≠ some L := by
    obtain ⟨k, hk, hx⟩ := hex
    induction k using Nat.strongRecOn with
    | ind k ih =>
      by_cases hh : ∃ l, l < k ∧ (a[r.a + l]?).map (fun x => a.count x) = some L
      · obtain ⟨l, hl, hlx⟩ := hh
        exact ih l hl (by omega) hlx
      · exact ⟨k, ⟨hk, hx⟩, fun l hl e => hh ⟨l, hl, e⟩⟩
  obtain ⟨k, ⟨hk, hx⟩, hno⟩ := hmin
  obtain ⟨x, hx1, hx2⟩ := Option.map_eq_some_iff.mp hx
  have ht := hr.through hk
  refine mem_vis.mpr ⟨r.a + k, r.b + k, x, hx1, (hr.eq k hk).symm.trans hx1, hx2, ?_⟩
  have hbk : bk a b (r.a + k) (r.b + k) = k := by
    have h1 := congrArg Ru.a ht
    have h2 := bk_le a b (r.a + k) (r.b + k)
    simp only [run] at h1
    omega
  unfold fr
  rw [if_pos, ht]
  intro l hl
  rw [hbk] at hl
  rw [show r.a + k - 1 - l = r.a + (k - 1 - l) by omega]
  exact hno _ (by omega)
/-- The program's way finds the anchor. -/
theorem pa_is {a b : List α} {L : Nat} (h : Rarest a b L) (hL : L ≤ 64) : ∃ s, pa a b L = some s ∧ AncR a b (some s) := by
  obtain ⟨x, hx, hc⟩ := h.is
  obtain ⟨j, hj, hxj⟩ := List.mem_iff_getElem.mp hx
  have hp := h.pos
  have hxa : x ∈ a := List.count_pos_iff.mp (by omega)
  obtain ⟨i, hi, hxi⟩ := List.mem_iff_getElem.mp hxa
  obtain ⟨hR, hcp⟩ := run_is (a := a) (b := b) hi hj (by rw [List.getElem?_eq_getElem hi, List.getElem?_eq_getElem hj, hxi, hxj])
  have hb := bk_le a b i j
  have hrr : rr a (run a b i j) = L := by
    refine Nat.le_antisymm ?_ (run_ge h hR)
    have := rr_le (a := a) (r := run a b i j) (k := bk a b i j) (x := x) (by simp only [run]; omega) (by simp only [run]; rw [show i - bk a b i j + bk a b i j = i by omega, List.getElem?_eq_getElem hi, hxi])
    omega
  have hV := run_vis hR hrr
  rw [pa_flat]
  cases hl : (List.range b.length).flatMap (vis a b L) with
  | nil => rw [hl] at hV; simp at hV
  | cons u C =>
    obtain ⟨s, h1, h2, h3, h4⟩ := fold_s3 C u
    have hall : ∀ r ∈ u :: C, b3 r s = false := fun r hr => by
      rcases List.mem_cons.mp hr with rfl | hr
      · exact h3
      · exact h4 r hr
    have hs : s ∈ (List.range b.length).flatMap (vis a b L) := by
      rw [hl]
      rcases h2 with rfl | h2
      · simp
      · simp [h2]
    obtain ⟨g1, g2⟩ := vis_rr h hs
    refine ⟨s, h1, g1, by omega, fun r hr => ?_⟩
    rw [Bool.eq_false_iff, Ne, bt_iff]
    rintro (e | ⟨e, e2⟩)
    · have := run_ge h hr; omega
    · have h5 := hall r (by rw [← hl]; exact run_vis hr (by omega))
      rw [h5] at e2
      cases e2
theorem no_anc {a b : List α} (h : ∀ x ∈ b, 0 < a.count x → 64 < a.count x) : AncR a b none := fun r hr => by
  obtain ⟨k, x, hk, hx, e⟩ := rr_in hr
  rw [e]
  refine h x ?_ (List.count_pos_iff.mpr (List.mem_of_getElem? hx))
  rw [hr.eq k hk] at hx
  exact List.mem_of_getElem? hx
end
end Go.Proofs.Ytidghjalfbklnaa
/-
  Plain mathematics: the runs that the histogram script keeps; renaming of lines.
-/
namespace Go.Proofs.Ytidghjalfbklnaa

section
variable {α : Type} [DecidableEq α]
/-- How many elements two lists have in common at their end. -/
def csuf (a b : List α) : Nat := cpre a.reverse b.reverse
theorem csuf_le (a b : List α) : csuf a b ≤ a.length ∧ csuf a b ≤ b.length := by
  have := cpre_le a.reverse b.reverse
  simpa [csuf] using this
def kp (i j n : Int) : List Rn := if 0 < n then [⟨i, j, n⟩] else []
/-- The suffix that is kept behind the prefix. -/
def tl (a b : List α) : Nat := csuf (a.drop (cpre a b)) (b.drop (cpre a b))
/-- What lies between the prefix and the suffix. -/
def inr (a b : List α) (x : List α) : List α := (x.drop (cpre a b)).take (x.length - cpre a b - tl a b)
theorem inr_len (a b x : List α) : (inr a b x).length = x.length - cpre a b - tl a b := by
  unfold inr
  rw [List.length_take, List.length_drop]
  omega
section
variable (LS : List α → List α → List Rn)
def mid (go : List α → List α → Int → Int → List Rn) (x y : List α) (i j : Int) : List Rn := match anc x y with
  | none => (LS x y).flatMap fun r => kp (i + r.a) (j + r.b) r.n
  | some r => go (x.take r.a) (y.take r.b) i j ++ (kp (i + r.a) (j + r.b) r.n ++ go (x.drop (r.a + r.n)) (y.drop (r.b + r.n)) (i + (r.a + r.n : Nat)) (j + (r.b + r.n : Nat)))
/-- The runs that are kept; the number bounds the recursion. -/
def sp : Nat → List α → List α → Int → Int → List Rn
  | 0, _, _, _, _ => []
  | k + 1, a, b, i, j => kp i j (cpre a b) ++ ((if (inr a b a).length = 0 ∨ (inr a b b).length = 0 then [] else mid LS (sp k) (inr a b a) (inr a b b) (i + cpre a b) (j + cpre a b)) ++
      kp (i + cpre a b + (inr a b a).length) (j + cpre a b + (inr a b b).length) (tl a b))
end

section
variable {β : Type} [DecidableEq β] {f : α → β}
/-- A renaming that is one to one on the lines of two lists. -/
def Inj (f : α → β) (a b : List α) : Prop := ∀ x ∈ a ++ b, ∀ y ∈ a ++ b, f x = f y → x = y
omit [DecidableEq α] [DecidableEq β] in
theorem inj_at {a b : List α} (h : Inj f a b) {i j : Nat} : (a.map f)[i]? = (b.map f)[j]? ↔ a[i]? = b[j]? := by
  rw [List.getElem?_map, List.getElem?_map]
  cases hx : a[i]? with
  | none =>
    cases hy : b[j]? with
    | none => simp
    | some y => simp
  | some x =>
    cases hy : b[j]? with
    | none => simp
    | some y =>
      simp only [Option.map_some, Option.some.injEq]
      exact ⟨fun e => h x (by simp [List.mem_of_getElem? hx]) y (by simp [List.mem_of_getElem? hy]) e, fun e => by rw [e]⟩
theorem cpre_map : ∀ {a b : List α}, Inj f a b → cpre (a.map f) (b.map f) = cpre a b
  | [], _, _ => by simp [cpre]
  | _ :: _, [], _ => by simp [cpre]
  | x :: a, y :: b, h => by
    have ih := cpre_map (a := a) (b := b) (fun u hu v hv e => h u (by simp only [List.mem_append, List.mem_cons] at hu ⊢; rcases hu with hu | hu <;> simp [hu]) v (by simp only [List.mem_append, List.mem_cons] at hv ⊢; rcases hv with hv | hv <;> simp [hv]) e)
    rw [List.map_cons, List.map_cons, cpre, cpre, ih]
    by_cases e : x = y
    · rw [if_pos e, if_pos (by rw [e])]
    · rw [if_neg e, if_neg (fun e2 => e (h x (by simp) y (by simp) e2))]
omit [DecidableEq α] [DecidableEq β] in
theorem inj_sub {a b a' b' : List α} (h : Inj f a b) (ha : ∀ x ∈ a', x ∈ a) (hb : ∀ x ∈ b', x ∈ b) : Inj f a' b' := fun u hu v hv e =>
  h u (by rcases List.mem_append.mp hu with h | h <;> simp [ha, hb, h]) v (by rcases List.mem_append.mp hv with h | h <;> simp [ha, hb, h]) e
theorem csuf_map {a b : List α} (h : Inj f a b) : csuf (a.map f) (b.map f) = csuf a b := by
  unfold csuf
  rw [← List.map_reverse, ← List.map_reverse, cpre_map (inj_sub h (fun x hx => List.mem_reverse.mp hx) (fun x hx => List.mem_reverse.mp hx))]
theorem count_map {a : List α} {x : α} (h : ∀ y ∈ a, f y = f x → y = x) : (a.map f).count (f x) = a.count x := by
  induction a with
  | nil => rfl
  | cons z a ih =>
    rw [List.map_cons, List.count_cons, List.count_cons, ih (fun y hy => h y (by simp [hy]))]
    congr 1
    by_cases e : z = x
    · subst e; simp
    · have : f z ≠ f x := fun e2 => e (h z (by simp) e2)
      simp [e, this]
theorem rr_map {a b : List α} (h : Inj f a b) (r : Ru) : rr (a.map f) r = rr a r := by
  unfold rr
  rw [← List.map_drop, ← List.map_take, List.length_map]
  have hs : ∀ x ∈ (a.drop r.a).take r.n, x ∈ a := fun x hx => List.mem_of_mem_drop (List.mem_of_mem_take hx)
  generalize (a.drop r.a).take r.n = l at hs
  generalize a.length = m
  induction l generalizing m with
  | nil => rfl
  | cons x l ih =>
    rw [List.map_cons, List.foldl_cons, List.foldl_cons, count_map (fun y hy e => h y (by simp [hy]) x (by simp [hs x (by simp)]) e)]
    exact ih (fun y hy => hs y (by simp [hy])) _
omit [DecidableEq α] [DecidableEq β] in
theorem isRun_map {a b : List α} (h : Inj f a b) {r : Ru} : IsRun (a.map f) (b.map f) r ↔ IsRun a b r := by
  constructor
  · rintro ⟨h1, h2, h3, h4, h5, h6⟩
    rw [List.length_map] at h2 h3 h6
    rw [List.length_map] at h6
    exact ⟨h1, h2, h3, fun k hk => (inj_at h).mp (h4 k hk), h5.imp id (Or.imp id fun e e2 => e ((inj_at h).mpr e2)), h6.imp id (Or.imp id fun e e2 => e ((inj_at h).mpr e2))⟩
  · rintro ⟨h1, h2, h3, h4, h5, h6⟩
    exact ⟨h1, by rw [List.length_map]; exact h2, by rw [List.length_map]; exact h3, fun k hk => (inj_at h).mpr (h4 k hk), h5.imp id (Or.imp id fun e e2 => e ((inj_at h).mp e2)), by rw [List.length_map, List.length_map]; exact h6.imp id (Or.imp id fun e e2 => e ((inj_at h).mp e2))⟩
theorem bt_map {a b : List α} (h : Inj f a b) (r s : Ru) : bt (a.map f) r s = bt a r s := by
  unfold bt
  rw [rr_map h, rr_map h]
theorem anc_map {a b : List α} (h : Inj f a b) : anc (a.map f) (b.map f) = anc a b := by
  refine anc_of ?_
  have h1 := anc_is (a.map f) (b.map f)
  cases ho : anc (a.map f) (b.map f) with
  | none =>
    rw [ho] at h1
    intro r hr
    have := h1 r ((isRun_map h).mpr hr)
    rw [rr_map h] at this
    exact this
  | some s =>
    rw [ho] at h1
    obtain ⟨g1, g2, g3⟩ := h1
    rw [rr_map h] at g2
    refine ⟨(isRun_map h).mp g1, g2, fun r hr => ?_⟩
    have := g3 r ((isRun_map h).mpr hr)
    rw [bt_map h] at this
    exact this
end
/-- Runs that follow one another. -/
def Ch (A B : List α) : List Rn → Nat → Nat → Nat → Nat → Prop
  | [], i, j, i', j' => i ≤ i' ∧ j ≤ j'
  | r :: l, i, j, i', j' => ∃ a b n : Nat, r = ⟨a, b, n⟩ ∧ 1 ≤ n ∧ i ≤ a ∧ j ≤ b ∧ a + n ≤ A.length ∧ b + n ≤ B.length ∧ (A.drop a).take n = (B.drop b).take n ∧ Ch A B l (a + n) (b + n) i' j'
omit [DecidableEq α] in
theorem Ch.all {A B : List α} : ∀ {l : List Rn} {i j i' j' : Nat}, Ch A B l i j i' j' → ∀ r ∈ l, ∃ a b n : Nat, r = ⟨a, b, n⟩ ∧ 1 ≤ n ∧ a + n ≤ A.length ∧ b + n ≤ B.length
  | [], _, _, _, _, _, r, hr => absurd hr (by simp)
  | q :: l, i, j, i', j', h, r, hr => by
    obtain ⟨a, b, n, rfl, h1, h2, h3, h4, h5, h6, h7⟩ := h
    rcases List.mem_cons.mp hr with rfl | hr
    · exact ⟨a, b, n, rfl, h1, h4, h5⟩
    · exact Ch.all h7 r hr
/-- The runs that a right script leaves follow one another. -/
theorem stL_ch (a b : List α) (W : Int → Int) (hW : ∀ x : Int, 0 ≤ x → x ≤ (a.length : Int) + b.length → W x = x) : ∀ (l : List Ed) (first : Bool) (i j : Nat), valL a b l first i j = true → i ≤ a.length → j ≤ b.length →
    Ch a b (stL W a.length l i j []) i j a.length b.length
  | [], first, i, j, h, hi, hj => by
    have h1 := of_decide_eq_true h
    have h2 := congrArg List.length h1
    simp only [List.length_drop] at h2
    rw [stL]
    split
    · rename_i hl
      rw [List.nil_append, hW _ (by omega) (by omega)]
      refine ⟨i, j, a.length - i, by congr 1; omega, by omega, Nat.le_refl _, Nat.le_refl _, by omega, by omega, ?_, by omega, by omega⟩
      rw [List.take_of_length_le (by rw [List.length_drop]; omega), List.take_of_length_le (by rw [List.length_drop]; omega), h1]
    · exact ⟨hi, hj⟩
  | e :: l, first, i, j, h, hi, hj => by
    by_cases hv : okV a b e first i j
    · rw [valL_go hv] at h
      have hs := okV_same hv
      obtain ⟨k1, _, _, k4⟩ := hv
      have he := okE_ends k1
      unfold okE at k1
      rw [stL, hW (e.f + e.d) (by omega) (by omega), hW (e.t + e.i) (by omega) (by omega), ← he.2.2.2.2.1, ← he.2.2.2.2.2.1, stL_acc]
      have ih := stL_ch a b W hW l false _ _ h he.1 he.2.1
      have hwide : ∀ {l : List Rn} {i j i2 j2 : Nat}, Ch a b l i j a.length b.length → i2 ≤ i → j2 ≤ j → Ch a b l i2 j2 a.length b.length := fun {l} {i j i2 j2} h h1 h2 => by
        cases l with
        | nil => exact ⟨Nat.le_trans h1 h.1, Nat.le_trans h2 h.2⟩
        | cons r l =>
          obtain ⟨x, y, n, h3, h4, h5, h6, h7⟩ := h
          exact ⟨x, y, n, h3, h4, by omega, by omega, h7⟩
      split
      · rename_i hlt
        rw [List.nil_append, hW _ (by omega) (by omega)]
        refine ⟨i, j, e.f.toNat - i, by congr 1; omega, by omega, Nat.le_refl _, Nat.le_refl _, by omega, by omega, ?_, hwide ih (by omega) (by omega)⟩
        rw [show e.f.toNat - i = e.f.toNat - i from rfl, k4]
        congr 1
        omega
      · exact hwide ih (by omega) (by omega)
    · rw [valL_not hv] at h
      cases h
end
end Go.Proofs.Ytidghjalfbklnaa
