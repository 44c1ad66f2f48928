/-
  The walks of Invert and of the reference's Back.
-/
import Derived.Test.YtnmebnpldacngaaDfRows
import Derived.Outline
import Derived.Deep.RegionHeld3
namespace Go.Proofs.Ytnmebnpldacngaa
open Go.RowKit

theorem EOw.push {w : World} {base n : Nat} {v : Value} {l : List Ed} {e : Ed} (hn : n = l.length) (h : w.ownsRow base 44 4 v (n + 1) (ecells l ++ Ed.cells e)) : EOw w base v (l ++ [e]) := by
  unfold EOw
  rw [ecells_snoc, List.length_append, List.length_singleton, ← hn]
  exact h
theorem EOw.of {w : World} {base n : Nat} {v : Value} {l : List Ed} (h : EOw w base v l) (hn : n = l.length) : w.ownsRow base 44 4 v n (ecells l) := by
  rw [hn]
  exact h
theorem EOw.shapeN {w : World} {base n : Nat} {v : Value} {l : List Ed} (h : EOw w base v l) (hn : n = l.length) : ∃ p cap, v = .slice p n cap := by
  rw [hn]
  exact h.shape

/-- An edit of a row, read later. -/
theorem ERw.now {w w' : World} {p : Option Addr} {es : List Ed} (h : ERw w p es) (hb : Below w.heap.size w w') (k : Nat) (hk : k < es.length) : ∃ g o, p = some ⟨g, o, none⟩ ∧ g < w.heap.size ∧
    w'.cell? ⟨g, o + k * 4, none⟩ = some (.int .i64 es[k].f) ∧ w'.cell? ⟨g, o + k * 4 + 1, none⟩ = some (.int .i64 es[k].d) ∧ w'.cell? ⟨g, o + k * 4 + 2, none⟩ = some (.int .i64 es[k].t) ∧ w'.cell? ⟨g, o + k * 4 + 3, none⟩ = some (.int .i64 es[k].i) := by
  obtain ⟨g, o, rfl, hg, h0, h1, h2, h3⟩ := h k hk
  exact ⟨g, o, rfl, hg, (hb.cell (p := ⟨g, _, none⟩) hg).trans h0, (hb.cell (p := ⟨g, _, none⟩) hg).trans h1, (hb.cell (p := ⟨g, _, none⟩) hg).trans h2, (hb.cell (p := ⟨g, _, none⟩) hg).trans h3⟩
end Go.Proofs.Ytnmebnpldacngaa
