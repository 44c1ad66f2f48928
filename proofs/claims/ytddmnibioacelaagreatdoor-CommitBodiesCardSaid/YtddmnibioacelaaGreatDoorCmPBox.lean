/-
  Parse's pieces: how long they are; the box of a commit.
-/
import Derived.Test.YtddmnibioacelaaGreatDoorCmBody
namespace Go.Proofs.YtddmnibioacelaaGreatDoor
open Go Go.RowKit Go.Maps Go.WideMaps

theorem cm_row {w : World} {E : Nat} {c0 c1 c2 c3 c4 c5 c6 c7 c8 c9 c10 v0 v1 v2 v3 v4 v5 v6 v7 v8 v9 v10 : Value} (h0 : w.heap[E]? = some (.cells #[c0, c1, c2, c3, c4, c5, c6, c7, c8, c9, c10] 26 (0, 0))) :
    (((((((((((w.setCell ⟨E, 0, none⟩ v0).setCell ⟨E, 1, none⟩ v1).setCell ⟨E, 2, none⟩ v2).setCell ⟨E, 3, none⟩ v3).setCell ⟨E, 4, none⟩ v4).setCell ⟨E, 5, none⟩ v5).setCell ⟨E, 6, none⟩ v6).setCell ⟨E, 7, none⟩ v7).setCell ⟨E, 8, none⟩ v8).setCell ⟨E, 9, none⟩ v9).setCell ⟨E, 10, none⟩ v10).heap[E]? = some (.cells #[v0, v1, v2, v3, v4, v5, v6, v7, v8, v9, v10] 26 (0, 0)) := by
  have h1 : (w.setCell ⟨E, 0, none⟩ v0).heap[E]? = some (.cells #[v0, c1, c2, c3, c4, c5, c6, c7, c8, c9, c10] 26 (0, 0)) := by
    have h := heap_setCell_same w E 0 _ 26 v0 h0
    simp only [List.setIfInBounds_toArray, List.set_cons_zero, List.set_cons_succ] at h
    exact h
  have h2 : ((w.setCell ⟨E, 0, none⟩ v0).setCell ⟨E, 1, none⟩ v1).heap[E]? = some (.cells #[v0, v1, c2, c3, c4, c5, c6, c7, c8, c9, c10] 26 (0, 0)) := by
    have h := heap_setCell_same (w.setCell ⟨E, 0, none⟩ v0) E 1 _ 26 v1 h1
    simp only [List.setIfInBounds_toArray, List.set_cons_zero, List.set_cons_succ] at h
    exact h
  have h3 : (((w.setCell ⟨E, 0, none⟩ v0).setCell ⟨E, 1, none⟩ v1).setCell ⟨E, 2, none⟩ v2).heap[E]? = some (.cells #[v0, v1, v2, c3, c4, c5, c6, c7, c8, c9, c10] 26 (0, 0)) := by
    have h := heap_setCell_same ((w.setCell ⟨E, 0, none⟩ v0).setCell ⟨E, 1, none⟩ v1) E 2 _ 26 v2 h2
    simp only [List.setIfInBounds_toArray, List.set_cons_zero, List.set_cons_succ] at h
    exact h
  have h4 : ((((w.setCell ⟨E, 0, none⟩ v0).setCell ⟨E, 1, none⟩ v1).setCell ⟨E, 2, none⟩ v2).setCell ⟨E, 3, none⟩ v3).heap[E]? = some (.cells #[v0, v1, v2, v3, c4, c5, c6, c7, c8, c9, c10] 26 (0, 0)) := by
    have h := heap_setCell_same (((w.setCell ⟨E, 0, none⟩ v0).setCell ⟨E, 1, none⟩ v1).setCell ⟨E, 2, none⟩ v2) E 3 _ 26 v3 h3
    simp only [List.setIfInBounds_toArray, List.set_cons_zero, List.set_cons_succ] at h
    exact h
  have h5 : (((((w.setCell ⟨E, 0, none⟩ v0).setCell ⟨E, 1, none⟩ v1).setCell ⟨E, 2, none⟩ v2).setCell ⟨E, 3, none⟩ v3).setCell ⟨E, 4, none⟩ v4).heap[E]? = some (.cells #[v0, v1, v2, v3, v4, c5, c6, c7, c8, c9, c10] 26 (0, 0)) := by
    have h := heap_setCell_same ((((w.setCell ⟨E, 0, none⟩ v0).setCell ⟨E, 1, none⟩ v1).setCell ⟨E, 2, none⟩ v2).setCell ⟨E, 3, none⟩ v3) E 4 _ 26 v4 h4
    simp only [List.setIfInBounds_toArray, List.set_cons_zero, List.set_cons_succ] at h
    exact h
  have h6 : ((((((w.setCell ⟨E, 0, none⟩ v0).setCell ⟨E, 1, none⟩ v1).setCell ⟨E, 2, none⟩ v2).setCell ⟨E, 3, none⟩ v3).setCell ⟨E, 4, none⟩ v4).setCell ⟨E, 5, none⟩ v5).heap[E]? = some (.cells #[v0, v1, v2, v3, v4, v5, c6, c7, c8, c9, c10] 26 (0, 0)) := by
    have h := heap_setCell_same (((((w.setCell ⟨E, 0, none⟩ v0).setCell ⟨E, 1, none⟩ v1).setCell ⟨E, 2, none⟩ v2).setCell ⟨E, 3, none⟩ v3).setCell ⟨E, 4, none⟩ v4) E 5 _ 26 v5 h5
    simp only [List.setIfInBounds_toArray, List.set_cons_zero, List.set_cons_succ] at h
    exact h
  have h7 : (((((((w.setCell ⟨E, 0, none⟩ v0).setCell ⟨E, 1, none⟩ v1).setCell ⟨E, 2, none⟩ v2).setCell ⟨E, 3, none⟩ v3).setCell ⟨E, 4, none⟩ v4).setCell ⟨E, 5, none⟩ v5).setCell ⟨E, 6, none⟩ v6).heap[E]? = some (.cells #[v0, v1, v2, v3, v4, v5, v6, c7, c8, c9, c10] 26 (0, 0)) := by
    have h := heap_setCell_same ((((((w.setCell ⟨E, 0, none⟩ v0).setCell ⟨E, 1, none⟩ v1).setCell ⟨E, 2, none⟩ v2).setCell ⟨E, 3, none⟩ v3).setCell ⟨E, 4, none⟩ v4).setCell ⟨E, 5, none⟩ v5) E 6 _ 26 v6 h6
    simp only [List.setIfInBounds_toArray, List.set_cons_zero, List.set_cons_succ] at h
    exact h
  have h8 : ((((((((w.setCell ⟨E, 0, none⟩ v0).setCell ⟨E, 1, none⟩ v1).setCell ⟨E, 2, none⟩ v2).setCell ⟨E, 3, none⟩ v3).setCell ⟨E, 4, none⟩ v4).setCell ⟨E, 5, none⟩ v5).setCell ⟨E, 6, none⟩ v6).setCell ⟨E, 7, none⟩ v7).heap[E]? = some (.cells #[v0, v1, v2, v3, v4, v5, v6, v7, c8, c9, c10] 26 (0, 0)) := by
    have h := heap_setCell_same (((((((w.setCell ⟨E, 0, none⟩ v0).setCell ⟨E, 1, none⟩ v1).setCell ⟨E, 2, none⟩ v2).setCell ⟨E, 3, none⟩ v3).setCell ⟨E, 4, none⟩ v4).setCell ⟨E, 5, none⟩ v5).setCell ⟨E, 6, none⟩ v6) E 7 _ 26 v7 h7
    simp only [List.setIfInBounds_toArray, List.set_cons_zero, List.set_cons_succ] at h
    exact h
  have h9 : (((((((((w.setCell ⟨E, 0, none⟩ v0).setCell ⟨E, 1, none⟩ v1).setCell ⟨E, 2, none⟩ v2).setCell ⟨E, 3, none⟩ v3).setCell ⟨E, 4, none⟩ v4).setCell ⟨E, 5, none⟩ v5).setCell ⟨E, 6, none⟩ v6).setCell ⟨E, 7, none⟩ v7).setCell ⟨E, 8, none⟩ v8).heap[E]? = some (.cells #[v0, v1, v2, v3, v4, v5, v6, v7, v8, c9, c10] 26 (0, 0)) := by
    have h := heap_setCell_same ((((((((w.setCell ⟨E, 0, none⟩ v0).setCell ⟨E, 1, none⟩ v1).setCell ⟨E, 2, none⟩ v2).setCell ⟨E, 3, none⟩ v3).setCell ⟨E, 4, none⟩ v4).setCell ⟨E, 5, none⟩ v5).setCell ⟨E, 6, none⟩ v6).setCell ⟨E, 7, none⟩ v7) E 8 _ 26 v8 h8
    simp only [List.setIfInBounds_toArray, List.set_cons_zero, List.set_cons_succ] at h
    exact h
  have h10 : ((((((((((w.setCell ⟨E, 0, none⟩ v0).setCell ⟨E, 1, none⟩ v1).setCell ⟨E, 2, none⟩ v2).setCell ⟨E, 3, none⟩ v3).setCell ⟨E, 4, none⟩ v4).setCell ⟨E, 5, none⟩ v5).setCell ⟨E, 6, none⟩ v6).setCell ⟨E, 7, none⟩ v7).setCell ⟨E, 8, none⟩ v8).setCell ⟨E, 9, none⟩ v9).heap[E]? = some (.cells #[v0, v1, v2, v3, v4, v5, v6, v7, v8, v9, c10] 26 (0, 0)) := by
    have h := heap_setCell_same (((((((((w.setCell ⟨E, 0, none⟩ v0).setCell ⟨E, 1, none⟩ v1).setCell ⟨E, 2, none⟩ v2).setCell ⟨E, 3, none⟩ v3).setCell ⟨E, 4, none⟩ v4).setCell ⟨E, 5, none⟩ v5).setCell ⟨E, 6, none⟩ v6).setCell ⟨E, 7, none⟩ v7).setCell ⟨E, 8, none⟩ v8) E 9 _ 26 v9 h9
    simp only [List.setIfInBounds_toArray, List.set_cons_zero, List.set_cons_succ] at h
    exact h
  have h11 : (((((((((((w.setCell ⟨E, 0, none⟩ v0).setCell ⟨E, 1, none⟩ v1).setCell ⟨E, 2, none⟩ v2).setCell ⟨E, 3, none⟩ v3).setCell ⟨E, 4, none⟩ v4).setCell ⟨E, 5, none⟩ v5).setCell ⟨E, 6, none⟩ v6).setCell ⟨E, 7, none⟩ v7).setCell ⟨E, 8, none⟩ v8).setCell ⟨E, 9, none⟩ v9).setCell ⟨E, 10, none⟩ v10).heap[E]? = some (.cells #[v0, v1, v2, v3, v4, v5, v6, v7, v8, v9, v10] 26 (0, 0)) := by
    have h := heap_setCell_same ((((((((((w.setCell ⟨E, 0, none⟩ v0).setCell ⟨E, 1, none⟩ v1).setCell ⟨E, 2, none⟩ v2).setCell ⟨E, 3, none⟩ v3).setCell ⟨E, 4, none⟩ v4).setCell ⟨E, 5, none⟩ v5).setCell ⟨E, 6, none⟩ v6).setCell ⟨E, 7, none⟩ v7).setCell ⟨E, 8, none⟩ v8).setCell ⟨E, 9, none⟩ v9) E 10 _ 26 v10 h10
    simp only [List.setIfInBounds_toArray, List.set_cons_zero, List.set_cons_succ] at h
    exact h
  exact h11
theorem cm_frz {w : World} {E : Nat} {v0 v1 v2 v3 v4 v5 v6 v7 v8 v9 v10 : Value} (h : w.heap[E]? = some (.cells #[v0, v1, v2, v3, v4, v5, v6, v7, v8, v9, v10] 26 (0, 0))) :
    w.frozen? ⟨E, 0, none⟩ = false ∧ w.frozen? ⟨E, 1, none⟩ = false ∧ w.frozen? ⟨E, 2, none⟩ = false ∧ w.frozen? ⟨E, 3, none⟩ = false ∧ w.frozen? ⟨E, 4, none⟩ = false ∧ w.frozen? ⟨E, 5, none⟩ = false ∧ w.frozen? ⟨E, 6, none⟩ = false ∧ w.frozen? ⟨E, 7, none⟩ = false ∧ w.frozen? ⟨E, 8, none⟩ = false ∧ w.frozen? ⟨E, 9, none⟩ = false ∧ w.frozen? ⟨E, 10, none⟩ = false := ⟨frozen_of_row _ _ 0 _ _ h, frozen_of_row _ _ 1 _ _ h, frozen_of_row _ _ 2 _ _ h, frozen_of_row _ _ 3 _ _ h, frozen_of_row _ _ 4 _ _ h, frozen_of_row _ _ 5 _ _ h, frozen_of_row _ _ 6 _ _ h, frozen_of_row _ _ 7 _ _ h, frozen_of_row _ _ 8 _ _ h, frozen_of_row _ _ 9 _ _ h, frozen_of_row _ _ 10 _ _ h⟩
theorem set11_below {B E : Nat} {w0 w : World} {v0 v1 v2 v3 v4 v5 v6 v7 v8 v9 v10 : Value} (h : Below B w0 w) (hE : B ≤ E) : Below B w0 (((((((((((w.setCell ⟨E, 0, none⟩ v0).setCell ⟨E, 1, none⟩ v1).setCell ⟨E, 2, none⟩ v2).setCell ⟨E, 3, none⟩ v3).setCell ⟨E, 4, none⟩ v4).setCell ⟨E, 5, none⟩ v5).setCell ⟨E, 6, none⟩ v6).setCell ⟨E, 7, none⟩ v7).setCell ⟨E, 8, none⟩ v8).setCell ⟨E, 9, none⟩ v9).setCell ⟨E, 10, none⟩ v10) :=
  (((((((((((h.setCell (p := ⟨E, 0, none⟩) hE _).setCell (p := ⟨E, 1, none⟩) hE _).setCell (p := ⟨E, 2, none⟩) hE _).setCell (p := ⟨E, 3, none⟩) hE _).setCell (p := ⟨E, 4, none⟩) hE _).setCell (p := ⟨E, 5, none⟩) hE _).setCell (p := ⟨E, 6, none⟩) hE _).setCell (p := ⟨E, 7, none⟩) hE _).setCell (p := ⟨E, 8, none⟩) hE _).setCell (p := ⟨E, 9, none⟩) hE _).setCell (p := ⟨E, 10, none⟩) hE _)
theorem whoR_len (l : List UInt8) : (whoR l).2.n.size ≤ l.length ∧ (whoR l).2.m.size ≤ l.length := by
  have h1 := cutLen_le l [32, 60]
  have h2 := cutLen_le (Lib.cut l [32, 60]).2.1 [62, 32]
  rw [whoR]
  unfold codeW
  split
  · exact ⟨Nat.zero_le _, Nat.zero_le _⟩
  · split
    · exact ⟨Nat.zero_le _, Nat.zero_le _⟩
    · simp only [whoP, str_size, whoN, whoM]
      omega
theorem valV_len (l wd : List UInt8) : (valV l wd).length ≤ l.length := (val_len l wd).1
theorem valR_len (l : List UInt8) : (valR l).length ≤ l.length := (val_len l []).2
theorem parsP_sum : ∀ (n : Nat) (l : List UInt8) (B : Bool) (ps : List (List UInt8)), l.length ≤ n → (parsP l B ps).1.length + (parsP l B ps).2.1.length ≤ ps.length + l.length
  | n, l, B, ps, hn => by
    cases h : Lib.hasPrefix l (wPar ++ [32]) with
    | false => rw [parsP_end h]; exact Nat.le_refl _
    | true =>
      have := valR_lt (has_ne (by decide) h)
      rw [parsP_go h]
      cases n with
      | zero => omega
      | succ n =>
        have := parsP_sum n (valR l) ((B || !(valO l wPar)) || !(isId (str (valV l wPar)))) (ps ++ [valV l wPar]) (by omega)
        simp only [List.length_append, List.length_singleton] at this
        omega
theorem parsP_all : ∀ (n : Nat) (l : List UInt8) (B : Bool) (ps : List (List UInt8)) (M : Nat), l.length ≤ n → l.length ≤ M → (∀ y ∈ ps, y.length ≤ M) → ∀ y ∈ (parsP l B ps).1, y.length ≤ M
  | n, l, B, ps, M, hn, hM, hp => by
    cases h : Lib.hasPrefix l (wPar ++ [32]) with
    | false => rw [parsP_end h]; exact hp
    | true =>
      have h1 := valR_lt (has_ne (by decide) h)
      have h2 := valV_len l wPar
      rw [parsP_go h]
      cases n with
      | zero => omega
      | succ n =>
        refine parsP_all n _ _ _ M (by omega) (by omega) fun y hy => ?_
        rw [List.mem_append, List.mem_singleton] at hy
        rcases hy with hy | rfl
        · exact hp y hy
        · omega
/-- What Parse answers. -/
def ParCR (R : Nat × Cm) (w : World) (e : Ending) (w' : World) : Prop :=
  (∃ p cap, e = .returned (.tuple #[.agg #[.string R.2.t, .slice p R.2.ps.length cap, .string R.2.a.n, .string R.2.a.m, .int .i64 R.2.a.t, .int .i64 R.2.a.z, .string R.2.c.n, .string R.2.c.m, .int .i64 R.2.c.t, .int .i64 R.2.c.z, .string R.2.x], .int .i64 (R.1 : Int)]) ∧ SRw w' p R.2.ps) ∧ Below w.heap.size w w'
theorem parCR_bad {R : Nat × Cm} {w w' : World} {c : Nat} (h : R = (c, Cm.zero)) (hb : Below w.heap.size w w') :
    ParCR R w (.returned (.tuple #[.agg #[.string ⟨#[]⟩, .slice none 0 0, .string ⟨#[]⟩, .string ⟨#[]⟩, .int .i64 0, .int .i64 0, .string ⟨#[]⟩, .string ⟨#[]⟩, .int .i64 0, .int .i64 0, .string ⟨#[]⟩], .int .i64 (c : Int)])) w' := by
  subst h
  exact ⟨⟨none, 0, rfl, SRw.none _ _⟩, hb⟩
/-- How much is left. -/
def restLen (w : World) (b : Nat) : Nat := match w.cell? ⟨b, 0, none⟩ with
  | some (.string s) => s.size
  | _ => 0
theorem restLen_eq {w : World} {b : Nat} {s : ByteArray} {B : Bool} (h : Rd w b s B) : restLen w b = s.size := by
  unfold restLen
  rw [h.at.1]
/-- A parent that is put behind. -/
theorem par_put {w4 w6 : World} {ob : Obj} {b E base g c L : Nat} {v : Value} {ps : List (List UInt8)} {s V : ByteArray} {B : Bool} {v0 v2 v3 v4 v5 v6 v7 v8 v9 v10 : Value}
    (hR : Rd w4 b s B) (hE : w4.heap[E]? = some (.cells #[v0, v, v2, v3, v4, v5, v6, v7, v8, v9, v10] 26 (0, 0))) (ho : SOw w4 base v ps) (hb : b < base) (hEb : E < base) (hne : b ≠ E) (hbase : base ≤ w4.heap.size)
    (ho6 : w6.ownsRow base 9 1 (.slice (some ⟨g, 0, none⟩) (L + 1) c) (L + 1) (strs ps ++ [.string V])) (hL : L = ps.length) (hg6 : (w4.alloc ob).grownBy w6 v.ownBlock) :
    w6.cell? ⟨E, 1, none⟩ = some v ∧ w6.frozen? ⟨E, 1, none⟩ = false ∧ Rd (w6.setCell ⟨E, 1, none⟩ (.slice (some ⟨g, 0, none⟩) (L + 1) c)) b s B ∧
      (w6.setCell ⟨E, 1, none⟩ (.slice (some ⟨g, 0, none⟩) (L + 1) c)).heap[E]? = some (.cells #[v0, .slice (some ⟨g, 0, none⟩) (L + 1) c, v2, v3, v4, v5, v6, v7, v8, v9, v10] 26 (0, 0)) ∧
      SOw (w6.setCell ⟨E, 1, none⟩ (.slice (some ⟨g, 0, none⟩) (L + 1) c)) base (.slice (some ⟨g, 0, none⟩) (L + 1) c) (ps ++ [V.data.toList]) ∧ base ≤ (w6.setCell ⟨E, 1, none⟩ (.slice (some ⟨g, 0, none⟩) (L + 1) c)).heap.size := by
  have hb6 : w6.heap[b]? = w4.heap[b]? := (hg6.block b (by have := hR.lt; simp; omega) (ho.apart hb)).trans (Below.heap_alloc w4 ob b hR.lt)
  have hE6 : w6.heap[E]? = w4.heap[E]? := (hg6.block E (by have := row_lt hE; simp; omega) (ho.apart hEb)).trans (Below.heap_alloc w4 ob E (row_lt hE))
  have hr : w6.heap[E]? = some (.cells #[v0, v, v2, v3, v4, v5, v6, v7, v8, v9, v10] 26 (0, 0)) := hE6.trans hE
  refine ⟨cell_of_row _ _ 1 _ _ _ hr, frozen_of_row _ _ 1 _ _ hr, (Below.heap_setCell _ ⟨E, 1, none⟩ _ b hne).trans (hb6.trans hR), ?_, ?_, ?_⟩
  · have h := heap_setCell_same w6 E 1 _ 26 (.slice (some ⟨g, 0, none⟩) (L + 1) c) hr
    simp only [List.setIfInBounds_toArray, List.set_cons_zero, List.set_cons_succ] at h
    exact h
  · have h7 : SOw w6 base (.slice (some ⟨g, 0, none⟩) (L + 1) c) (ps ++ [V.data.toList]) := by
      unfold SOw
      rw [strs_append, List.length_append, ← hL]
      exact ho6
    exact SOw.grown (b := E) h7 ⟨rfl, rfl, rfl, by simp, fun i _ hi => Below.heap_setCell _ ⟨E, 1, none⟩ _ i (fun e => hi (by rw [e]))⟩ hEb
  · have := hg6.size
    simp at this ⊢
    omega
end Go.Proofs.YtddmnibioacelaaGreatDoor
