/-
  Plain mathematics: the anchor by way of the rarest common line alone.
-/
import Derived.Test.YtidghjalfbklnaaHsPlain
namespace Go.Proofs.Ytidghjalfbklnaa

section
variable {α : Type} [DecidableEq α]
/-- The places below k where a line stands, the last first. -/
def od (a : List α) (x : α) : Nat → List Nat
  | 0 => []
  | k + 1 => if a[k]? = some x then k :: od a x k else od a x k
theorem od_mem {a : List α} {x : α} : ∀ {k i : Nat}, i ∈ od a x k ↔ i < k ∧ a[i]? = some x
  | 0, i => by simp [od]
  | k + 1, i => by
    rw [od]
    have ih := od_mem (a := a) (x := x) (k := k) (i := i)
    split
    · rename_i h
      rw [List.mem_cons, ih]
      constructor
      · rintro (rfl | h2)
        · exact ⟨by omega, h⟩
        · exact ⟨by omega, h2.2⟩
      · rintro ⟨h1, h2⟩
        rcases Nat.lt_or_ge i k with h3 | h3
        · exact .inr ⟨h3, h2⟩
        · exact .inl (by omega)
    · rename_i h
      rw [ih]
      constructor
      · rintro ⟨h1, h2⟩; exact ⟨by omega, h2⟩
      · rintro ⟨h1, h2⟩
        refine ⟨?_, h2⟩
        rcases Nat.lt_or_ge i k with h3 | h3
        · exact h3
        · rw [show i = k by omega] at h2; exact absurd h2 h
theorem od_cons {a : List α} {x : α} : ∀ {k i : Nat} {t : List Nat}, od a x k = i :: t → i < k ∧ a[i]? = some x ∧ t = od a x i
  | 0, _, _, h => by simp [od] at h
  | k + 1, i, t, h => by
    rw [od] at h
    split at h
    · rename_i e
      rw [List.cons.injEq] at h
      rw [← h.1]
      exact ⟨by omega, e, h.2.symm⟩
    · obtain ⟨h1, h2, h3⟩ := od_cons h
      exact ⟨by omega, h2, h3⟩
/-- The last place below k where a line stands, or -1. -/
def lastP (a : List α) (x : α) (k : Nat) : Int := match od a x k with
  | [] => -1
  | i :: _ => i
/-- The run whose first rare line stands at a pair of places, if there is one. -/
def fr (a b : List α) (L i j : Nat) : Option Ru := if ∀ k, k < bk a b i j → (a[i - 1 - k]?).map (fun x => a.count x) ≠ some L then some (run a b i j) else none
def s3 (o : Option Ru) (r : Ru) : Option Ru := match o with
  | none => some r
  | some s => if b3 r s = true then some r else some s
def vis (a b : List α) (L j : Nat) : List Ru := match b[j]? with
  | none => []
  | some x => if a.count x = L then (od a x a.length).filterMap (fun i => fr a b L i j) else []
/-- The best of the runs, each met at its first rare line. -/
def pa (a b : List α) (L : Nat) : Option Ru := (List.range b.length).foldl (fun o j => (vis a b L j).foldl s3 o) none
theorem pa_flat (a b : List α) (L : Nat) : pa a b L = ((List.range b.length).flatMap (vis a b L)).foldl s3 none := by
  unfold pa
  rw [List.foldl_flatMap]
theorem b3_ge {x y z : Ru} (h : b3 x y = false) (g : b3 y z = false) : b3 x z = false := by
  rw [Bool.eq_false_iff, Ne, b3_iff] at h g ⊢
  omega
theorem b3_self (x : Ru) : b3 x x = false := by
  rw [Bool.eq_false_iff, Ne, b3_iff]
  omega
theorem b3_lt {x y : Ru} (h : b3 x y = true) : b3 y x = false := by
  rw [b3_iff] at h
  rw [Bool.eq_false_iff, Ne, b3_iff]
  omega
theorem fold_s3 : ∀ (C : List Ru) (u : Ru), ∃ s, C.foldl s3 (some u) = some s ∧ (s = u ∨ s ∈ C) ∧ b3 u s = false ∧ ∀ r ∈ C, b3 r s = false
  | [], u => ⟨u, rfl, .inl rfl, b3_self u, fun _ h => absurd h (by simp)⟩
  | r :: C, u => by
    rw [List.foldl_cons]
    by_cases hb : b3 r u = true
    · have e : s3 (some u) r = some r := if_pos hb
      obtain ⟨s, h1, h2, h3, h4⟩ := fold_s3 C r
      rw [e]
      refine ⟨s, h1, .inr ?_, b3_ge (b3_lt hb) h3, fun x hx => ?_⟩
      · rcases h2 with rfl | h2
        · simp
        · simp [h2]
      · rcases List.mem_cons.mp hx with rfl | hx
        · exact h3
        · exact h4 x hx
    · have e : s3 (some u) r = some u := if_neg hb
      obtain ⟨s, h1, h2, h3, h4⟩ := fold_s3 C u
      rw [e]
      refine ⟨s, h1, ?_, h3, fun x hx => ?_⟩
      · rcases h2 with rfl | h2
        · exact .inl rfl
        · exact .inr (by simp [h2])
      · rcases List.mem_cons.mp hx with rfl | hx
        · exact b3_ge (by simpa using hb) h3
        · exact h4 x hx
theorem mem_vis {a b : List α} {L : Nat} {r : Ru} : r ∈ (List.range b.length).flatMap (vis a b L) ↔ ∃ i j x, a[i]? = some x ∧ b[j]? = some x ∧ a.count x = L ∧ fr a b L i j = some r := by
  simp only [List.mem_flatMap, List.mem_range, vis]
  constructor
  · rintro ⟨j, hj, h⟩
    rw [List.getElem?_eq_getElem hj] at h
    simp only at h
    split at h
    · rename_i hc
      obtain ⟨i, hi, hr⟩ := List.mem_filterMap.mp h
      exact ⟨i, j, b[j], (od_mem.mp hi).2, List.getElem?_eq_getElem hj, hc, hr⟩
    · simp at h
  · rintro ⟨i, j, x, h1, h2, h3, h4⟩
    obtain ⟨hj, _⟩ := List.getElem?_eq_some_iff.mp h2
    obtain ⟨hi, _⟩ := List.getElem?_eq_some_iff.mp h1
    refine ⟨j, hj, ?_⟩
    rw [h2]
    simp only
    rw [if_pos h3]
    exact List.mem_filterMap.mpr ⟨i, od_mem.mpr ⟨hi, h1⟩, h4⟩
theorem fr_some {a b : List α} {L i j : Nat} {r : Ru} (h : fr a b L i j = some r) : r = run a b i j := by
  unfold fr at h
  split at h
  · cases h; rfl
  · cases h
/-- What is known of the rarest common line. -/
structure Rarest (a b : List α) (L : Nat) : Prop where
  pos : 1 ≤ L
  le : ∀ x ∈ b, 0 < a.count x → L ≤ a.count x
  is : ∃ x ∈ b, a.count x = L
theorem run_ge {a b : List α} {L : Nat} (h : Rarest a b L) {r : Ru} (hr : IsRun a b r) : L ≤ rr a r := by
  obtain ⟨k, x, hk, hx, e⟩ := rr_in hr
  rw [e]
  refine h.le x ?_ (List.count_pos_iff.mpr (List.mem_of_getElem? hx))
  rw [hr.eq k hk] at hx
  exact List.mem_of_getElem? hx
theorem vis_rr {a b : List α} {L : Nat} (h : Rarest a b L) {r : Ru} (hr : r ∈ (List.range b.length).flatMap (vis a b L)) : IsRun a b r ∧ rr a r = L := by
  obtain ⟨i, j, x, h1, h2, h3, h4⟩ := mem_vis.mp hr
  obtain ⟨hi, _⟩ := List.getElem?_eq_some_iff.mp h1
  obtain ⟨hj, _⟩ := List.getElem?_eq_some_iff.mp h2
  rw [fr_some h4]
  obtain ⟨hR, hc⟩ := run_is hi hj (h1.trans h2.symm)
  refine ⟨hR, Nat.le_antisymm ?_ (run_ge h hR)⟩
  have hb := bk_le a b i j
  have := rr_le (a := a) (r := run a b i j) (k := bk a b i j) (x := x) (by simp only [run]; omega) (by simp only [run]; rw [show i - bk a b i j + bk a b i j = i by omega]; exact h1)
  omega
theorem run_vis {a b : List α} {L : Nat} {r : Ru} (hr : IsRun a b r) (he : rr a r = L) : r ∈ (List.range b.length).flatMap (vis a b L) := by
  have hex : ∃ k, k < r.n ∧ (a[r.a + k]?).map (fun x => a.count x) = some L := by
    obtain ⟨k, x, hk, hx, e⟩ := rr_in hr
    exact ⟨k, hk, by rw [hx, Option.map_some, ← e, he]⟩
  have hmin : ∃ k, (k < r.n ∧ (a[r.a + k]?).map (fun x => a.count x) = some L) ∧ ∀ l, l < k → (a[r.a + l]?).map (fun x => a.count x) ≠ some L := by
    obtain ⟨k, hk, hx⟩ := hex
    induction k using Nat.strongRecOn with
    | ind k ih =>
      by_cases hh : ∃ l, l < k ∧ (a[r.a + l]?).map (fun x => a.count x) = some L
      · obtain ⟨l, hl, hlx⟩ := hh
        exact ih l hl (by omega) hlx
      · exact ⟨k, ⟨hk, hx⟩, fun l hl e => hh ⟨l, hl, e⟩⟩
  obtain ⟨k, ⟨hk, hx⟩, hno⟩ := hmin
  obtain ⟨x, hx1, hx2⟩ := Option.map_eq_some_iff.mp hx
  have ht := hr.through hk
  refine mem_vis.mpr ⟨r.a + k, r.b + k, x, hx1, (hr.eq k hk).symm.trans hx1, hx2, ?_⟩
  have hbk : bk a b (r.a + k) (r.b + k) = k := by
    have h1 := congrArg Ru.a ht
    have h2 := bk_le a b (r.a + k) (r.b + k)
    simp only [run] at h1
    omega
  unfold fr
  rw [if_pos, ht]
  intro l hl
  rw [hbk] at hl
  rw [show r.a + k - 1 - l = r.a + (k - 1 - l) by omega]
  exact hno _ (by omega)
/-- The program's way finds the anchor. -/
theorem pa_is {a b : List α} {L : Nat} (h : Rarest a b L) (hL : L ≤ 64) : ∃ s, pa a b L = some s ∧ AncR a b (some s) := by
  obtain ⟨x, hx, hc⟩ := h.is
  obtain ⟨j, hj, hxj⟩ := List.mem_iff_getElem.mp hx
  have hp := h.pos
  have hxa : x ∈ a := List.count_pos_iff.mp (by omega)
  obtain ⟨i, hi, hxi⟩ := List.mem_iff_getElem.mp hxa
  obtain ⟨hR, hcp⟩ := run_is (a := a) (b := b) hi hj (by rw [List.getElem?_eq_getElem hi, List.getElem?_eq_getElem hj, hxi, hxj])
  have hb := bk_le a b i j
  have hrr : rr a (run a b i j) = L := by
    refine Nat.le_antisymm ?_ (run_ge h hR)
    have := rr_le (a := a) (r := run a b i j) (k := bk a b i j) (x := x) (by simp only [run]; omega) (by simp only [run]; rw [show i - bk a b i j + bk a b i j = i by omega, List.getElem?_eq_getElem hi, hxi])
    omega
  have hV := run_vis hR hrr
  rw [pa_flat]
  cases hl : (List.range b.length).flatMap (vis a b L) with
  | nil => rw [hl] at hV; simp at hV
  | cons u C =>
    obtain ⟨s, h1, h2, h3, h4⟩ := fold_s3 C u
    have hall : ∀ r ∈ u :: C, b3 r s = false := fun r hr => by
      rcases List.mem_cons.mp hr with rfl | hr
      · exact h3
      · exact h4 r hr
    have hs : s ∈ (List.range b.length).flatMap (vis a b L) := by
      rw [hl]
      rcases h2 with rfl | h2
      · simp
      · simp [h2]
    obtain ⟨g1, g2⟩ := vis_rr h hs
    refine ⟨s, h1, g1, by omega, fun r hr => ?_⟩
    rw [Bool.eq_false_iff, Ne, bt_iff]
    rintro (e | ⟨e, e2⟩)
    · have := run_ge h hr; omega
    · have h5 := hall r (by rw [← hl]; exact run_vis hr (by omega))
      rw [h5] at e2
      cases e2
theorem no_anc {a b : List α} (h : ∀ x ∈ b, 0 < a.count x → 64 < a.count x) : AncR a b none := fun r hr => by
  obtain ⟨k, x, hk, hx, e⟩ := rr_in hr
  rw [e]
  refine h x ?_ (List.count_pos_iff.mpr (List.mem_of_getElem? hx))
  rw [hr.eq k hk] at hx
  exact List.mem_of_getElem? hx
end
end Go.Proofs.Ytidghjalfbklnaa
