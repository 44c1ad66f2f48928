/-
  The walks of fits, follows and the reference's within.
-/
import Derived.Test.YtnmebnpldacngaaDfRows
import Derived.Outline
namespace Go.Proofs.Ytnmebnpldacngaa
open Go.RowKit

set_option maxHeartbeats 1000000 in
set_option maxRecDepth 4000 in
theorem fits_any (F C S E : Int) (B : Bool) (w : World) (hS : 0 ≤ S) (hE : E ≤ 9223372036854775807) (hB : B = decide (S ≤ F ∧ F ≤ E ∧ 0 ≤ C ∧ C ≤ E - F)) :
    Calls Try.prog 43 #[.int .i64 F, .int .i64 C, .int .i64 S, .int .i64 E] w fun e w' => e = .returned (.bool B) ∧ w' = w := by
  by_cases h1 : S ≤ F
  · by_cases h2 : F ≤ E
    · have i1 : IntKind.i64.wrap (E - F) = E - F := IntWalk.i64_in _ (by omega)
      by_cases h3 : 0 ≤ C
      · by_cases h4 : C ≤ E - F
        · have HB : Hid (B = true) := by show _ = _; rw [hB]; exact decide_eq_true ⟨h1, h2, h3, h4⟩
          clear hB
          go_enter Try.func43, Try.ntmps43
          go_wp2
          go_ret
          exact ⟨by rw [HB.out]; rfl, rfl⟩
        · have HB : Hid (B = false) := by show _ = _; rw [hB]; exact decide_eq_false fun h => h4 h.2.2.2
          clear hB
          go_enter Try.func43, Try.ntmps43
          go_wp2
          go_ret
          exact ⟨by rw [HB.out]; rfl, rfl⟩
      · have HB : Hid (B = false) := by show _ = _; rw [hB]; exact decide_eq_false fun h => h3 h.2.2.1
        clear hB
        go_enter Try.func43, Try.ntmps43
        go_wp2
        go_ret
        exact ⟨by rw [HB.out]; rfl, rfl⟩
    · have HB : Hid (B = false) := by show _ = _; rw [hB]; exact decide_eq_false fun h => h2 h.2.1
      clear hB
      go_enter Try.func43, Try.ntmps43
      go_wp2
      go_ret
      exact ⟨by rw [HB.out]; rfl, rfl⟩
  · have HB : Hid (B = false) := by show _ = _; rw [hB]; exact decide_eq_false fun h => h1 h.1
    clear hB
    go_enter Try.func43, Try.ntmps43
    go_wp2
    go_ret
    exact ⟨by rw [HB.out]; rfl, rfl⟩

set_option maxHeartbeats 1000000 in
set_option maxRecDepth 4000 in
theorem follows_any (e : Ed) (i j n m : Int) (B : Bool) (w : World) (hi : 0 ≤ i) (hj : 0 ≤ j) (hn : n ≤ 9223372036854775807) (hm : m ≤ 9223372036854775807) (hB : B = decide (okE e i j n m)) :
    Calls Try.prog 32 #[.agg #[.int .i64 e.f, .int .i64 e.d, .int .i64 e.t, .int .i64 e.i], .int .i64 i, .int .i64 j, .int .i64 n, .int .i64 m] w fun e w' => e = .returned (.bool B) ∧ Below w.heap.size w w' := by
  obtain ⟨f, d, t, x⟩ := e
  simp only
  obtain ⟨B1, hB1⟩ : ∃ B1, B1 = decide (i ≤ f ∧ f ≤ n ∧ 0 ≤ d ∧ d ≤ n - f) := ⟨_, rfl⟩
  obtain ⟨B2, hB2⟩ : ∃ B2, B2 = decide (j ≤ t ∧ t ≤ m ∧ 0 ≤ x ∧ x ≤ m - t) := ⟨_, rfl⟩
  have hBB : B = (B1 && B2) := by
    rw [hB, hB1, hB2]
    unfold okE
    exact Bool.decide_and _ _
  have C1 : Hid (∀ w, Calls Try.prog 43 #[.int .i64 f, .int .i64 d, .int .i64 i, .int .i64 n] w fun e w' => e = .returned (.bool B1) ∧ w' = w) := fun w => fits_any f d i n B1 w hi hn hB1
  have C2 : Hid (∀ w, Calls Try.prog 43 #[.int .i64 t, .int .i64 x, .int .i64 j, .int .i64 m] w fun e w' => e = .returned (.bool B2) ∧ w' = w) := fun w => fits_any t x j m B2 w hj hm hB2
  have HB := Lib.hid hBB
  clear hB hB1 hB2 hBB hi hj hn hm
  rcases B1 with _ | _
  · go_enter Try.func32, Try.ntmps32
    go_wp2_with (go_at_call 43; ((with_reducible refine (C1.out _).mono ?_); rintro e w' ⟨rfl, rfl⟩))
    go_ret
    exact ⟨by rw [HB.out]; rfl, below_new (Below.refl _ _) _⟩
  · rcases B2 with _ | _
    · go_enter Try.func32, Try.ntmps32
      go_wp2_with (go_at_call 43; first
        | ((with_reducible refine (C1.out _).mono ?_); rintro e w' ⟨rfl, rfl⟩)
        | ((with_reducible refine (C2.out _).mono ?_); rintro e w' ⟨rfl, rfl⟩))
      go_ret
      exact ⟨by rw [HB.out]; rfl, below_new (Below.refl _ _) _⟩
    · go_enter Try.func32, Try.ntmps32
      go_wp2_with (go_at_call 43; first
        | ((with_reducible refine (C1.out _).mono ?_); rintro e w' ⟨rfl, rfl⟩)
        | ((with_reducible refine (C2.out _).mono ?_); rintro e w' ⟨rfl, rfl⟩))
      go_ret
      exact ⟨by rw [HB.out]; rfl, below_new (Below.refl _ _) _⟩
end Go.Proofs.Ytnmebnpldacngaa
