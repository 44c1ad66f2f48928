/-
  The walk of takePieces.
-/
import Derived.Test.YtlgaindeheaodaaSqTake
import Derived.Deep.AppendLies
namespace Go.Proofs.Ytlgaindeheaodaa
open Go.RowKit

/-- The cells of pieces. -/
def pcells (ps : List Pc) : List Value := ps.flatMap Pc.cells
theorem pcells_len (ps : List Pc) : (pcells ps).length = ps.length * 3 := by
  induction ps with
  | nil => rfl
  | cons p ps ih => simp [pcells, Pc.cells] at ih ⊢; omega
theorem pcells_snoc (ps : List Pc) (p : Pc) : pcells (ps ++ [p]) = pcells ps ++ Pc.cells p := by simp [pcells]
theorem pc_one (p : Pc) : ∀ u ∈ Pc.cells p, u.oneCell' = true := by
  intro u hu
  simp only [Pc.cells, List.mem_cons, List.not_mem_nil, or_false] at hu
  rcases hu with rfl | rfl | rfl <;> rfl

/-- What is read of the pieces from an offset on: the pieces, the error. -/
def tps (s : ByteArray) (size : Nat) (q : Int) (done : Nat) : List Pc × Nat :=
  if done < size then
    if (tp s q done size).2.2 ≠ 0 then ([], (tp s q done size).2.2) else
    if _h : 0 < (tp s q done size).1.n ∧ done + (tp s q done size).1.n ≤ size then
      if (tps s size (tp s q done size).2.1 (done + (tp s q done size).1.n)).2 ≠ 0 then ([], (tps s size (tp s q done size).2.1 (done + (tp s q done size).1.n)).2)
      else ((tp s q done size).1 :: (tps s size (tp s q done size).2.1 (done + (tp s q done size).1.n)).1, 0)
    else ([], 2)
  else if q < s.size then ([], 2) else ([], 0)
termination_by size - done
decreasing_by all_goals omega
/-- Pieces that are there already, ahead of what is still read. -/
def ahead (ps : List Pc) (r : List Pc × Nat) : List Pc × Nat := if r.2 ≠ 0 then ([], r.2) else (ps ++ r.1, 0)
theorem ahead_nil (r : List Pc × Nat) (h : r.2 ≠ 0 → r.1 = []) : ahead [] r = r := by
  unfold ahead
  by_cases h0 : r.2 ≠ 0
  · rw [if_pos h0]; exact Prod.ext (h h0).symm rfl
  · rw [if_neg h0]; exact Prod.ext rfl (by simp at h0; exact h0.symm)
theorem ahead_ahead (ps qs : List Pc) (r : List Pc × Nat) : ahead ps (ahead qs r) = ahead (ps ++ qs) r := by
  unfold ahead
  by_cases h0 : r.2 ≠ 0
  · simp [h0]
  · simp at h0; simp [h0]

/-- A piece that takePiece gives makes at least a byte, and no more than are wanted. -/
theorem tp_n {s : ByteArray} {q : Int} {done size : Nat} (h : (tp s q done size).2.2 = 0) : 0 < (tp s q done size).1.n ∧ (tp s q done size).1.n ≤ size - done := by
  rcases takeAt_cases s.data.toList q with ⟨e, he1, he3, ht⟩ | ⟨v, q2, a, -, -, hq2, hv, ht, -⟩
  · rw [tp_err ht (by omega)] at h; simp only at h; omega
  · by_cases hb : v / 2 = 0 ∨ (v % 2 = 1 ∧ v / 2 < 4) ∨ size - done < v / 2
    · rw [tp_bad ht hb] at h; simp at h
    · by_cases h1 : v % 2 = 1
      · rw [tp_copy ht hb h1] at h ⊢
        rcases takeAt_cases s.data.toList q2 with ⟨e, he1, he3, ht2⟩ | ⟨v2, q3, a2, -, -, hq3, hv2, ht2, -⟩
        · rw [tb_err ht2 (by omega)] at h; simp only at h; omega
        · by_cases hb2 : v2 = 0 ∨ done < v2
          · rw [tb_bad ht2 hb2] at h; simp at h
          · rw [tb_ok ht2 hb2]; simp only; omega
      · by_cases h2 : s.size - q2 < v / 2
        · rw [tp_short ht hb (by omega) h2] at h; simp at h
        · rw [tp_lit ht hb (by omega) h2]; simp only; omega
theorem tps_err {s : ByteArray} {q : Int} {done size e : Nat} (hlt : done < size) (h : (tp s q done size).2.2 = e) (he : e ≠ 0) : tps s size q done = ([], e) := by
  rw [tps, if_pos hlt, if_pos (by rw [h]; exact he), h]
theorem tps_on {s : ByteArray} {q q' : Int} {done size : Nat} {p : Pc} (hlt : done < size) (h : tp s q done size = (p, q', 0)) : tps s size q done = ahead [p] (tps s size q' (done + p.n)) := by
  have hn := tp_n (s := s) (q := q) (done := done) (size := size) (by rw [h])
  rw [tps, if_pos hlt, if_neg (by rw [h]; simp), dif_pos (by omega), h]
  unfold ahead
  by_cases h0 : (tps s size q' (done + p.n)).2 ≠ 0
  · rw [if_pos h0, if_pos h0]
  · rw [if_neg h0, if_neg h0]; rfl
theorem tps_left {s : ByteArray} {q : Int} {done size : Nat} (hlt : ¬ done < size) (h : q < s.size) : tps s size q done = ([], 2) := by rw [tps, if_neg hlt, if_pos h]
theorem tps_end {s : ByteArray} {q : Int} {done size : Nat} (hlt : ¬ done < size) (h : ¬ q < s.size) : tps s size q done = ([], 0) := by rw [tps, if_neg hlt, if_neg h]

theorem news_pc (w : World) (p : Pc) (o : Obj) (t : TypeId) (j : Nat) (u : Value) (hj : (Pc.cells p)[j]? = some u) :
    ((w.alloc o).alloc (.cells #[.int .i64 (p.n : Int), .int .i64 (p.b : Int), .string p.t] t)).cell? ((⟨w.heap.size + 1, 0, none⟩ : Addr).add j) = some u := by
  rw [Addr.add_lit, Nat.zero_add]
  have h := World.cell?_alloc_mark (w.alloc o) #[.int .i64 (p.n : Int), .int .i64 (p.b : Int), .string p.t] t (0, 0) j
  have e : (w.alloc o).heap.size = w.heap.size + 1 := by simp
  rw [e] at h
  refine h.trans ?_
  simpa [Pc.cells] using hj
theorem pc_cell {w w4 : World} {base n size : Nat} {e : TypeId} {v : Value} {xs : List Value} {x0 x1 x2 : Value} {t : TypeId} {o : Obj} (ho : w.ownsRow base e size v n xs) (hg : ((w.alloc (.cells #[x0, x1, x2] t)).alloc o).grownBy w4 v.ownBlock) :
    w4.cell? ⟨w.heap.size, 0, none⟩ = some x0 := by
  have hne : some w.heap.size ≠ v.ownBlock := fun h => by
    have := (ho.lt w.heap.size h.symm).2
    omega
  have hr : w4.heap[w.heap.size]? = some (.cells #[x0, x1, x2] t (0, 0)) :=
    (hg.block w.heap.size (by simp; omega) hne).trans ((Below.heap_alloc (w.alloc (.cells #[x0, x1, x2] t)) o w.heap.size (by simp)).trans (heap_alloc_new w _))
  exact cell_of_row w4 _ 0 _ _ _ hr

end Go.Proofs.Ytlgaindeheaodaa
