/-
  The walk of the reference's within; a box of four cells that is stored anew.
-/
import Derived.Test.YtabadihainbbhabDfFits
namespace Go.Proofs.Ytabadihainbbhab
open Go.RowKit

theorem box_four {w w' : World} {a b c d : Value} {t : TypeId} (h : Below (w.alloc (.cells #[a, b, c, d] t)).heap.size (w.alloc (.cells #[a, b, c, d] t)) w') :
    (w'.cell? ⟨w.heap.size, 0, none⟩ = some a ∧ w'.cell? ⟨w.heap.size, 1, none⟩ = some b ∧ w'.cell? ⟨w.heap.size, 2, none⟩ = some c ∧ w'.cell? ⟨w.heap.size, 3, none⟩ = some d) ∧ w'.heap[w.heap.size]? = some (.cells #[a, b, c, d] t (0, 0)) := by
  have hr : w'.heap[w.heap.size]? = some (.cells #[a, b, c, d] t (0, 0)) := (h.block w.heap.size (by simp)).trans (heap_alloc_new w _)
  exact ⟨⟨cell_of_row w' _ 0 _ _ _ hr, cell_of_row w' _ 1 _ _ _ hr, cell_of_row w' _ 2 _ _ _ hr, cell_of_row w' _ 3 _ _ _ hr⟩, hr⟩
theorem row4 {w : World} {B : Nat} {t : TypeId} {c0 c1 c2 c3 : Value} (h : w.heap[B]? = some (.cells #[c0, c1, c2, c3] t (0, 0))) (v0 v1 v2 v3 : Value) :
    ((((w.setCell ⟨B, 0, none⟩ v0).setCell ⟨B, 1, none⟩ v1).setCell ⟨B, 2, none⟩ v2).setCell ⟨B, 3, none⟩ v3).heap[B]? = some (.cells #[v0, v1, v2, v3] t (0, 0)) := by
  have h0 := heap_setCell_same w B 0 _ t v0 h
  have h1 := heap_setCell_same _ B 1 _ t v1 h0
  have h2 := heap_setCell_same _ B 2 _ t v2 h1
  have h3 := heap_setCell_same _ B 3 _ t v3 h2
  simp only [List.setIfInBounds_toArray, List.set_cons_zero, List.set_cons_succ] at h3
  exact h3

set_option maxHeartbeats 1000000 in
set_option maxRecDepth 4000 in
theorem within_any (f d t x i j n m z1 z2 : Int) (B : Bool) (w : World) (hi : 0 ≤ i) (hj : 0 ≤ j) (hn : n ≤ 9223372036854775807) (hm : m ≤ 9223372036854775807) (hB : B = decide (okE ⟨f, d, t, x⟩ i j n m)) :
    Calls Try.prog 35 #[.agg #[.int .i64 f, .int .i64 d, .int .i64 t, .int .i64 x], .agg #[.int .i64 i, .int .i64 z1, .int .i64 j, .int .i64 z2], .int .i64 n, .int .i64 m] w fun e w' => e = .returned (.bool B) ∧ Below w.heap.size w w' := by
  have hbb := below_new (below_new (Below.refl w.heap.size w) (.cells #[.int .i64 f, .int .i64 d, .int .i64 t, .int .i64 x] 44)) (.cells #[.int .i64 i, .int .i64 z1, .int .i64 j, .int .i64 z2] 44)
  have HBB := Lib.hid hbb
  have hcases : (B = false ∧ (f < i ∨ (i ≤ f ∧ t < j) ∨ (i ≤ f ∧ j ≤ t ∧ d < 0) ∨ (i ≤ f ∧ j ≤ t ∧ 0 ≤ d ∧ x < 0) ∨ (i ≤ f ∧ j ≤ t ∧ 0 ≤ d ∧ 0 ≤ x ∧ n < f) ∨ (i ≤ f ∧ j ≤ t ∧ 0 ≤ d ∧ 0 ≤ x ∧ f ≤ n ∧ m < t) ∨ (i ≤ f ∧ j ≤ t ∧ 0 ≤ d ∧ 0 ≤ x ∧ f ≤ n ∧ t ≤ m ∧ n - f < d) ∨ (i ≤ f ∧ j ≤ t ∧ 0 ≤ d ∧ 0 ≤ x ∧ f ≤ n ∧ t ≤ m ∧ d ≤ n - f ∧ m - t < x))) ∨
      (B = true ∧ (i ≤ f ∧ j ≤ t ∧ 0 ≤ d ∧ 0 ≤ x ∧ f ≤ n ∧ t ≤ m ∧ d ≤ n - f ∧ x ≤ m - t)) := by
    by_cases h : okE ⟨f, d, t, x⟩ i j n m
    · right
      refine ⟨by rw [hB]; exact decide_eq_true h, ?_⟩
      unfold okE at h
      simp only at h
      omega
    · left
      refine ⟨by rw [hB]; exact decide_eq_false h, ?_⟩
      unfold okE at h
      simp only at h
      omega
  clear hB hbb
  rcases hcases with ⟨rfl, h1⟩ | ⟨rfl, h1, h2, h3, h4, h5, h6, h7, h8⟩
  · rcases h1 with h1 | ⟨h1, h2⟩ | ⟨h1, h2, h3⟩ | ⟨h1, h2, h3, h4⟩ | ⟨h1, h2, h3, h4, h5⟩ | ⟨h1, h2, h3, h4, h5, h6⟩ | ⟨h1, h2, h3, h4, h5, h6, h7⟩ | ⟨h1, h2, h3, h4, h5, h6, h7, h8⟩
    · go_enter Try.func35, Try.ntmps35
      go_wp2
      go_ret
      exact ⟨rfl, HBB.out⟩
    · go_enter Try.func35, Try.ntmps35
      go_wp2
      go_ret
      exact ⟨rfl, HBB.out⟩
    · go_enter Try.func35, Try.ntmps35
      go_wp2
      go_ret
      exact ⟨rfl, HBB.out⟩
    · go_enter Try.func35, Try.ntmps35
      go_wp2
      go_ret
      exact ⟨rfl, HBB.out⟩
    · go_enter Try.func35, Try.ntmps35
      go_wp2
      go_ret
      exact ⟨rfl, HBB.out⟩
    · go_enter Try.func35, Try.ntmps35
      go_wp2
      go_ret
      exact ⟨rfl, HBB.out⟩
    · have i1 : IntKind.i64.wrap (n - f) = n - f := IntWalk.i64_in _ (by omega)
      go_enter Try.func35, Try.ntmps35
      go_wp2
      go_ret
      exact ⟨rfl, HBB.out⟩
    · have i1 : IntKind.i64.wrap (n - f) = n - f := IntWalk.i64_in _ (by omega)
      have i2 : IntKind.i64.wrap (m - t) = m - t := IntWalk.i64_in _ (by omega)
      go_enter Try.func35, Try.ntmps35
      go_wp2
      go_ret
      exact ⟨ret_bool (decide_eq_false (by omega)), HBB.out⟩
  · have i1 : IntKind.i64.wrap (n - f) = n - f := IntWalk.i64_in _ (by omega)
    have i2 : IntKind.i64.wrap (m - t) = m - t := IntWalk.i64_in _ (by omega)
    go_enter Try.func35, Try.ntmps35
    go_wp2
    go_ret
    exact ⟨rfl, HBB.out⟩
end Go.Proofs.Ytabadihainbbhab
