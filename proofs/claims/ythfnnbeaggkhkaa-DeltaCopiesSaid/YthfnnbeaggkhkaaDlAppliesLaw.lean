/-
  The walk of the law DeltaApplies.
-/
import Derived.Test.YthfnnbeaggkhkaaDlLives
import Derived.Test.YthfnnbeaggkhkaaDlRApply
namespace Go.Proofs.Ythfnnbeaggkhkaa
open Go.RowKit

set_option maxHeartbeats 1000000 in
set_option maxRecDepth 4000 in
theorem few_yes (b s : ByteArray) (w : World) (hb : b.size ≤ 1500) (hs : s.size ≤ 1500) : Calls Try.prog 25 #[.string b, .string s] w fun e w' => e = .returned (.bool true) ∧ w = w' := by
  go_enter Try.func25, Try.ntmps25
  go_wp2
  go_ret
  exact ⟨by show Ending.returned (.bool (decide ((s.size : Int) ≤ 1500))) = _; rw [decide_eq_true (by omega)], rfl⟩
set_option maxHeartbeats 1000000 in
set_option maxRecDepth 4000 in
theorem few_no (b s : ByteArray) (w : World) (h : ¬ (b.size ≤ 1500 ∧ s.size ≤ 1500)) : Calls Try.prog 25 #[.string b, .string s] w fun e w' => e = .returned (.bool false) ∧ w = w' := by
  by_cases h1 : b.size ≤ 1500
  · have h2 : ¬ s.size ≤ 1500 := fun h2 => h ⟨h1, h2⟩
    clear h
    go_enter Try.func25, Try.ntmps25
    go_wp2
    go_ret
    exact ⟨by show Ending.returned (.bool (decide ((s.size : Int) ≤ 1500))) = _; rw [decide_eq_false (by omega)], rfl⟩
  · clear h
    go_enter Try.func25, Try.ntmps25
    go_wp2
    go_ret
    exact ⟨rfl, rfl⟩

set_option maxHeartbeats 1000000 in
set_option maxRecDepth 4000 in
theorem dlApplies_walk (b s : ByteArray) (W : World) : Calls Try.prog 10 #[.string b, .string s] W fun e W' => e = .returned (.bool true) ∧ Below W.heap.size W W' := by
  have hb0 := Below.refl W.heap.size W
  by_cases h1 : b.size ≤ 1500 ∧ s.size ≤ 1500
  · obtain ⟨R, hR⟩ : ∃ R, dap b s = R := ⟨_, rfl⟩
    obtain ⟨l, k⟩ := R
    obtain ⟨P, hP⟩ : ∃ P, str l = P := ⟨_, rfl⟩
    have HF : Hid (∀ w, Calls Try.prog 25 #[.string b, .string s] w fun e w' => e = .returned (.bool true) ∧ w = w') := fun w => few_yes b s w h1.1 h1.2
    have HD : Hid (∀ W, Calls Try.prog 22 #[.string b, .string s] W fun e w' => e = .returned (.tuple #[.string P, .int .i64 k]) ∧ Below W.heap.size W w') := fun W => (dApply_any b s W (by omega) (by omega)).mono fun _ _ x => ⟨by rw [x.1, hR, hP], x.2⟩
    have HS : Hid (∀ W, Calls Try.prog 27 #[.string b, .string s] W fun e w' => e = .returned (.tuple #[.string P, .int .i64 k]) ∧ Below W.heap.size W w') := fun W => (rApply_any b s W (by omega) (by omega)).mono fun _ _ x => ⟨by rw [x.1, hR, hP], x.2⟩
    clear hR hP h1
    go_enter Try.func10, Try.ntmps10
    go_wp2_with (first
      | (go_at_call 25; ((with_reducible refine (HF.out _).mono ?_); rintro e w1 ⟨rfl, rfl⟩))
      | (go_at_call 22; ((with_reducible refine (HD.out _).mono ?_); rintro e w1 ⟨rfl, hb1⟩))
      | (go_at_call 27; ((with_reducible refine (HS.out _).mono ?_); rintro e w2 ⟨rfl, hb2⟩; have hb2' := hb1.trans (hb2.mono hb1.size)))
      | (go_at_call 21; ((with_reducible refine (dLives_inv hb2').mono ?_); rintro e w3 ⟨rfl, hb3⟩)))
    go_ret
    exact ⟨rfl, hb3⟩
  · have HF : Hid (∀ w, Calls Try.prog 25 #[.string b, .string s] w fun e w' => e = .returned (.bool false) ∧ w = w') := fun w => few_no b s w h1
    clear h1
    go_enter Try.func10, Try.ntmps10
    go_wp2_with (first
      | (go_at_call 25; ((with_reducible refine (HF.out _).mono ?_); rintro e w1 ⟨rfl, rfl⟩))
      | (go_at_call 21; ((with_reducible refine (dLives_inv hb0).mono ?_); rintro e w3 ⟨rfl, hb3⟩)))
    go_ret
    exact ⟨rfl, hb3⟩
end Go.Proofs.Ythfnnbeaggkhkaa
