/-
  The walk of the laws' own check.
-/
import Derived.Test.YtabadihainbbhabDfLeastA
import Derived.Test.YtabadihainbbhabDfCost
namespace Go.Proofs.Ytabadihainbbhab
open Go.RowKit

theorem srw_new (w : World) (ls : List (List UInt8)) (t : TypeId) : SRw (w.alloc (.cells (strs ls).toArray t)) (some ⟨w.heap.size, 0, none⟩) ls := fun k hk =>
  ⟨w.heap.size, 0, rfl, by simp, by
    rw [World.cell?_alloc_mark w (strs ls).toArray t (0, 0) (0 + k), Nat.zero_add]
    simp [strs, List.getElem?_map, List.getElem?_eq_getElem hk]⟩
theorem least1 : leastL [[97], [98], [99]] [[98], [100]] = [⟨0, 1, 0, 0⟩, ⟨2, 1, 1, 1⟩] := by
  simp [leastL, lst, lcs, ext]
theorem least2 : leastL [[97]] [[98]] = [⟨0, 1, 0, 1⟩] := by
  simp [leastL, lst, lcs, ext]
theorem least1_any (w : World) : Calls Try.prog 12 #[.slice (some ⟨w.heap.size, 0, none⟩) 3 3, .slice (some ⟨w.heap.size + 1, 0, none⟩) 2 2]
    ((w.alloc (.cells #[.string ⟨#[97]⟩, .string ⟨#[98]⟩, .string ⟨#[99]⟩] 9)).alloc (.cells #[.string ⟨#[98]⟩, .string ⟨#[100]⟩] 9)) fun e w' =>
    ∃ g cap, e = .returned (.slice (some ⟨g, 0, none⟩) 2 cap) ∧ g < w'.heap.size ∧ ERw w' (some ⟨g, 0, none⟩) [⟨0, 1, 0, 0⟩, ⟨2, 1, 1, 1⟩] ∧ Below w.heap.size w w' := by
  obtain ⟨W1, hW1⟩ : ∃ W1, W1 = w.alloc (.cells #[.string ⟨#[97]⟩, .string ⟨#[98]⟩, .string ⟨#[99]⟩] 9) := ⟨_, rfl⟩
  have h1 : SRw W1 (some ⟨w.heap.size, 0, none⟩) [[97], [98], [99]] := by rw [hW1]; exact srw_new w [[97], [98], [99]] _
  have s1 : W1.heap.size = w.heap.size + 1 := by rw [hW1]; simp
  rw [← hW1, ← s1]
  have hb1 : Below w.heap.size w W1 := by rw [hW1]; exact below_new (Below.refl _ _) _
  have h2 := srw_new W1 [[98], [100]] 9
  refine (least_any [[97], [98], [99]] [[98], [100]] _ _ 3 2 3 2 _ rfl rfl (h1.below (below_new (Below.refl _ _) _)) h2 (by decide) (by decide) (by decide) (by decide) (by decide) (by decide)).mono ?_
  rintro e w' ⟨⟨v, rfl, ho⟩, hb⟩
  rw [least1] at ho
  obtain ⟨g, cap, hv, hg1, hg2⟩ := ho.form (by decide)
  obtain ⟨p, cap2, hv2, hr⟩ := ho.rw
  rw [hv] at hv2
  simp only [Value.slice.injEq] at hv2
  obtain ⟨rfl, _, rfl⟩ := hv2
  exact ⟨g, cap, by rw [hv]; rfl, hg2, hr, (below_new hb1 _).trans (hb.mono (by simp; omega))⟩
theorem least2_any (w : World) : Calls Try.prog 12 #[.slice (some ⟨w.heap.size, 0, none⟩) 1 1, .slice (some ⟨w.heap.size + 1, 0, none⟩) 1 1]
    ((w.alloc (.cells #[.string ⟨#[97]⟩] 9)).alloc (.cells #[.string ⟨#[98]⟩] 9)) fun e w' =>
    ∃ g cap, e = .returned (.slice (some ⟨g, 0, none⟩) 1 cap) ∧ g < w'.heap.size ∧ ERw w' (some ⟨g, 0, none⟩) [⟨0, 1, 0, 1⟩] ∧ Below w.heap.size w w' := by
  obtain ⟨W1, hW1⟩ : ∃ W1, W1 = w.alloc (.cells #[.string ⟨#[97]⟩] 9) := ⟨_, rfl⟩
  have h1 : SRw W1 (some ⟨w.heap.size, 0, none⟩) [[97]] := by rw [hW1]; exact srw_new w [[97]] _
  have s1 : W1.heap.size = w.heap.size + 1 := by rw [hW1]; simp
  rw [← hW1, ← s1]
  have hb1 : Below w.heap.size w W1 := by rw [hW1]; exact below_new (Below.refl _ _) _
  have h2 := srw_new W1 [[98]] 9
  refine (least_any [[97]] [[98]] _ _ 1 1 1 1 _ rfl rfl (h1.below (below_new (Below.refl _ _) _)) h2 (by decide) (by decide) (by decide) (by decide) (by decide) (by decide)).mono ?_
  rintro e w' ⟨⟨v, rfl, ho⟩, hb⟩
  rw [least2] at ho
  obtain ⟨g, cap, hv, hg1, hg2⟩ := ho.form (by decide)
  obtain ⟨p, cap2, hv2, hr⟩ := ho.rw
  rw [hv] at hv2
  simp only [Value.slice.injEq] at hv2
  obtain ⟨rfl, _, rfl⟩ := hv2
  exact ⟨g, cap, by rw [hv]; rfl, hg2, hr, (below_new hb1 _).trans (hb.mono (by simp; omega))⟩
theorem erw_two {w : World} {g : Nat} {a b : Ed} (h : ERw w (some ⟨g, 0, none⟩) [a, b]) :
    (w.cell? ⟨g, 0, none⟩ = some (.int .i64 a.f) ∧ w.cell? ⟨g, 1, none⟩ = some (.int .i64 a.d) ∧ w.cell? ⟨g, 2, none⟩ = some (.int .i64 a.t) ∧ w.cell? ⟨g, 3, none⟩ = some (.int .i64 a.i)) ∧
    (w.cell? ⟨g, 4, none⟩ = some (.int .i64 b.f) ∧ w.cell? ⟨g, 5, none⟩ = some (.int .i64 b.d) ∧ w.cell? ⟨g, 6, none⟩ = some (.int .i64 b.t) ∧ w.cell? ⟨g, 7, none⟩ = some (.int .i64 b.i)) := by
  obtain ⟨g1, o1, h1, _, a0, a1, a2, a3⟩ := h 0 (by simp)
  obtain ⟨g2, o2, h2, _, b0, b1, b2, b3⟩ := h 1 (by simp)
  simp only [Option.some.injEq, Addr.mk.injEq] at h1 h2
  obtain ⟨rfl, rfl, _⟩ := h1
  obtain ⟨rfl, rfl, _⟩ := h2
  exact ⟨⟨a0, a1, a2, a3⟩, b0, b1, b2, b3⟩
theorem erw_one {w : World} {g : Nat} {a : Ed} (h : ERw w (some ⟨g, 0, none⟩) [a]) :
    w.cell? ⟨g, 0, none⟩ = some (.int .i64 a.f) ∧ w.cell? ⟨g, 1, none⟩ = some (.int .i64 a.d) ∧ w.cell? ⟨g, 2, none⟩ = some (.int .i64 a.t) ∧ w.cell? ⟨g, 3, none⟩ = some (.int .i64 a.i) := by
  obtain ⟨g1, o1, h1, _, a0, a1, a2, a3⟩ := h 0 (by simp)
  simp only [Option.some.injEq, Addr.mk.injEq] at h1
  obtain ⟨rfl, rfl, _⟩ := h1
  exact ⟨a0, a1, a2, a3⟩

set_option maxHeartbeats 1000000 in
set_option maxRecDepth 4000 in
theorem lives_any (w : World) : Calls Try.prog 10 #[] w fun e w' => e = .returned (.bool true) ∧ Below w.heap.size w w' := by
  go_enter Try.func10, Try.ntmps10
  go_wp2_with (first
    | (go_at_call 12; first
      | ((with_reducible refine (least1_any _).mono ?_); rintro e w1 ⟨g1, cap1, rfl, hg1, hr1, hb1⟩)
      | ((with_reducible refine (least2_any _).mono ?_); rintro e w2 ⟨g2, cap2, rfl, hg2, hr2, hb2⟩; have hr3 := hr1.below hb2; obtain ⟨⟨x0, x1, x2, x3⟩, x4, x5, x6, x7⟩ := erw_two hr3; obtain ⟨y0, y1, y2, y3⟩ := erw_one hr2; simp only at x0 x1 x2 x3 x4 x5 x6 x7 y0 y1 y2 y3))
    | (go_at_call 18; ((refine (cost_any [⟨0, 1, 0, 0⟩, ⟨2, 1, 1, 1⟩] _ _ _ 3 _ rfl hr3 (by decide) (by simp [csum, wrap64])).mono ?_); rintro e w3 ⟨rfl, hb3⟩)))
  go_ret
  exact ⟨rfl, (hb1.trans (hb2.mono hb1.size)).trans (hb3.mono (Nat.le_trans hb1.size hb2.size))⟩
end Go.Proofs.Ytabadihainbbhab
