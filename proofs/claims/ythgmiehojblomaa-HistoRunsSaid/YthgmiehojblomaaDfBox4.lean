/-
  A box of four cells: as it is made, stored anew.
-/
import Derived.Test.YthgmiehojblomaaDfFits
namespace Go.Proofs.Ythgmiehojblomaa
open Go.RowKit

theorem box_four {w w' : World} {a b c d : Value} {t : TypeId} (h : Below (w.alloc (.cells #[a, b, c, d] t)).heap.size (w.alloc (.cells #[a, b, c, d] t)) w') :
    (w'.cell? ⟨w.heap.size, 0, none⟩ = some a ∧ w'.cell? ⟨w.heap.size, 1, none⟩ = some b ∧ w'.cell? ⟨w.heap.size, 2, none⟩ = some c ∧ w'.cell? ⟨w.heap.size, 3, none⟩ = some d) ∧ w'.heap[w.heap.size]? = some (.cells #[a, b, c, d] t (0, 0)) := by
  have hr : w'.heap[w.heap.size]? = some (.cells #[a, b, c, d] t (0, 0)) := (h.block w.heap.size (by simp)).trans (heap_alloc_new w _)
  exact ⟨⟨cell_of_row w' _ 0 _ _ _ hr, cell_of_row w' _ 1 _ _ _ hr, cell_of_row w' _ 2 _ _ _ hr, cell_of_row w' _ 3 _ _ _ hr⟩, hr⟩
theorem row4 {w : World} {B : Nat} {t : TypeId} {c0 c1 c2 c3 : Value} (h : w.heap[B]? = some (.cells #[c0, c1, c2, c3] t (0, 0))) (v0 v1 v2 v3 : Value) :
    ((((w.setCell ⟨B, 0, none⟩ v0).setCell ⟨B, 1, none⟩ v1).setCell ⟨B, 2, none⟩ v2).setCell ⟨B, 3, none⟩ v3).heap[B]? = some (.cells #[v0, v1, v2, v3] t (0, 0)) := by
  have h0 := heap_setCell_same w B 0 _ t v0 h
  have h1 := heap_setCell_same _ B 1 _ t v1 h0
  have h2 := heap_setCell_same _ B 2 _ t v2 h1
  have h3 := heap_setCell_same _ B 3 _ t v3 h2
  simp only [List.setIfInBounds_toArray, List.set_cons_zero, List.set_cons_succ] at h3
  exact h3
end Go.Proofs.Ythgmiehojblomaa
