/-
  The walk of layOut.
-/
import Derived.Test.YtlgaindeheaodaaSqPieces
import Derived.Outline
namespace Go.Proofs.Ytlgaindeheaodaa
open Go.RowKit

/-- k bytes are copied, one after another, from b bytes before the end. -/
def cpy (b : Nat) : Nat → List UInt8 → List UInt8
  | 0, l => l
  | k + 1, l => cpy b k (l ++ [l.getD (l.length - b) 0])
theorem cpy_len (b : Nat) : ∀ (k : Nat) (l : List UInt8), (cpy b k l).length = l.length + k
  | 0, l => rfl
  | k + 1, l => by rw [cpy, cpy_len b k]; simp; omega
def layP (l : List UInt8) (p : Pc) : List UInt8 := if p.b = 0 then l ++ p.t.data.toList else cpy p.b p.n l
def lay (l : List UInt8) (ps : List Pc) : List UInt8 := ps.foldl layP l
/-- Pieces that may be laid out behind k bytes. -/
def okPs (size : Nat) : Nat → List Pc → Prop
  | _, [] => True
  | k, p :: ps => p.b ≤ k ∧ (p.b = 0 → p.t.size = p.n) ∧ k + p.n ≤ size ∧ okPs size (k + p.n) ps
theorem layP_len {l : List UInt8} {p : Pc} (h : p.b = 0 → p.t.size = p.n) : (layP l p).length = l.length + p.n := by
  unfold layP
  split
  · rename_i h0
    rw [List.length_append, list_len, h h0]
  · exact cpy_len _ _ _

theorem pcells_at (ps : List Pc) (k : Nat) (h : k < ps.length) (j : Nat) (hj : j < 3) : (pcells ps)[k * 3 + j]? = (Pc.cells ps[k])[j]? := by
  induction ps generalizing k with
  | nil => simp at h
  | cons p ps ih =>
    have e : pcells (p :: ps) = Pc.cells p ++ pcells ps := by simp [pcells]
    have hl : (Pc.cells p).length = 3 := rfl
    rw [e]
    cases k with
    | zero =>
      rw [List.getElem?_append_left (by rw [hl]; omega), Nat.zero_mul, Nat.zero_add]
      rfl
    | succ k =>
      rw [List.getElem?_append_right (by rw [hl]; omega), hl, show (k + 1) * 3 + j - 3 = k * 3 + j by omega]
      exact ih k (by simpa using h)

/-- The row of the pieces, as it is read. -/
def PRow (w : World) (g : Nat) (ps : List Pc) : Prop := ∀ k (h : k < ps.length), w.cell? ⟨g, k * 3, none⟩ = some (.int .i64 (ps[k].n : Int)) ∧ w.cell? ⟨g, k * 3 + 1, none⟩ = some (.int .i64 (ps[k].b : Int)) ∧ w.cell? ⟨g, k * 3 + 2, none⟩ = some (.string ps[k].t)
theorem prow_of {w : World} {base g n cap : Nat} {e : TypeId} {ps : List Pc} (h : w.ownsRow base e 3 (.slice (some ⟨g, 0, none⟩) n cap) n (pcells ps)) : PRow w g ps := fun k hk => by
  have at' (j : Nat) (hj : j < 3) (u : Value) (hu : (Pc.cells ps[k])[j]? = some u) : w.cell? ⟨g, k * 3 + j, none⟩ = some u := by
    have h1 := h.cells (g := g) rfl (k * 3 + j) u (by rw [pcells_at ps k hk j hj]; exact hu)
    rw [Addr.add_lit, Nat.zero_add] at h1
    exact h1
  exact ⟨at' 0 (by decide) _ rfl, at' 1 (by decide) _ rfl, at' 2 (by decide) _ rfl⟩
theorem PRow.below {w w' : World} {g X : Nat} {ps : List Pc} (h : PRow w g ps) (hb : Below X w w') (hg : g < X) : PRow w' g ps := fun k hk =>
  ⟨(hb.cell (p := ⟨g, k * 3, none⟩) hg).trans (h k hk).1, (hb.cell (p := ⟨g, k * 3 + 1, none⟩) hg).trans (h k hk).2.1, (hb.cell (p := ⟨g, k * 3 + 2, none⟩) hg).trans (h k hk).2.2⟩
theorem own_ty {w : World} {base size n P : Nat} {e t : TypeId} {v : Value} {xs : List Value} {c : Array Value} (h : w.ownsRow base e size v n xs) (hr : w.heap[P]? = some (.cells c t (0, 0))) (ht : t ≠ e) : v.ownBlock ≠ some P := by
  rcases h.2 with ⟨rfl, _⟩ | ⟨g, cap, cur, rfl, _, hg, _⟩
  · intro h; cases h
  · intro h
    simp only [Value.ownBlock, Option.some.injEq] at h
    subst h
    rw [hg] at hr
    simp only [Option.some.injEq, Obj.cells.injEq] at hr
    exact ht hr.2.1.symm

/-- A row of its own that is not empty, as it is read. -/
theorem Ow.read {w : World} {base : Nat} {v : Value} {l : List UInt8} (h : Ow w base v l) (hl : 0 < l.length) :
    ∃ g cap, v = .slice (some ⟨g, 0, none⟩) l.length cap ∧ ∀ q, q < l.length → w.cell? ⟨g, q, none⟩ = some (.int .u8 (l.getD q 0).toNat) := by
  rcases h.2 with ⟨_, hx⟩ | ⟨g, cap, cur, rfl, _⟩
  · omega
  · refine ⟨g, cap, rfl, fun q hq => ?_⟩
    have h1 := h.cells (g := g) rfl q (.int .u8 (l.getD q 0).toNat) (by rw [List.getD_eq_getElem?_getD, List.getElem?_eq_getElem hq]; simp [bcells, hq])
    rw [Addr.add_lit, Nat.zero_add] at h1
    exact h1
theorem own_row {w w' : World} {base n size P : Nat} {e t : TypeId} {v : Value} {xs : List Value} {c : Array Value} (h : w.ownsRow base e size v n xs) (hr : w.heap[P]? = some (.cells c t (0, 0))) (ht : t ≠ e)
    (hP : P < w.heap.size) (hg : w.grownBy w' v.ownBlock) : w'.heap[P]? = some (.cells c t (0, 0)) :=
  (hg.block P hP (fun he => own_ty h hr ht he.symm)).trans hr
theorem row_alloc {w : World} {P : Nat} {o o' : Obj} (hr : w.heap[P]? = some o) (hP : P < w.heap.size) : (w.alloc o').heap[P]? = some o := (Below.heap_alloc w o' P hP).trans hr

end Go.Proofs.Ytlgaindeheaodaa
