/-
  The walk of the law SqueezePresses.
-/
import Derived.Test.YtgdeefcgjaklhaaSqLives
import Derived.Test.YtgdeefcgjaklhaaSqRPress
import Derived.Test.YtgdeefcgjaklhaaSqLen
namespace Go.Proofs.Ytgdeefcgjaklhaa
open Go.RowKit

set_option maxHeartbeats 1000000 in
set_option maxRecDepth 4000 in
theorem sqPresses_walk (s : ByteArray) (W : World) : Calls Try.prog 3 #[.string s] W fun e W' => e = .returned (.bool true) ∧ Below W.heap.size W W' := by
  have hb0 := Below.refl W.heap.size W
  by_cases h1 : 3000 < s.size
  · go_enter Try.func3, Try.ntmps3
    go_wp2_with (go_at_call 14; ((with_reducible refine (lives_inv hb0).mono ?_); rintro e w' ⟨rfl, hi⟩))
    go_ret
    exact ⟨rfl, hi⟩
  · obtain ⟨P, hP⟩ : ∃ P, P = str (pressed s.data.toList) := ⟨_, rfl⟩
    obtain ⟨B, hB⟩ : ∃ B, B = bnd s.size := ⟨_, rfl⟩
    have hPB : P.size ≤ B := by
      rw [hP, hB, str_size]
      have := pressed_len s.data.toList (by rw [list_len]; omega)
      rw [list_len] at this
      exact this
    have HC : Hid (∀ W, Calls Try.prog 15 #[.string s] W fun e w' => e = .returned (.string P) ∧ Below W.heap.size W w') := fun W => by rw [hP]; exact compress_any s W (by omega)
    have HR : Hid (∀ W, Calls Try.prog 16 #[.string s] W fun e w' => e = .returned (.string P) ∧ Below W.heap.size W w') := fun W => by rw [hP]; exact rpress_any s W (by omega)
    have HB : Hid (∀ W, Calls Try.prog 17 #[.int .i64 s.size] W fun e w' => e = .returned (.int .i64 B) ∧ W = w') := fun W => by rw [hB]; exact bound_nat s.size W (by omega)
    clear hP hB
    go_enter Try.func3, Try.ntmps3
    go_wp2_with (first
      | (go_at_call 15; ((with_reducible refine (HC.out _).mono ?_); rintro e w1 ⟨rfl, hb1⟩))
      | (go_at_call 14; ((with_reducible refine (lives_inv hb1).mono ?_); rintro e w2 ⟨rfl, hb2⟩))
      | (go_at_call 16; ((with_reducible refine (HR.out _).mono ?_); rintro e w3 ⟨rfl, hb3⟩))
      | (go_at_call 17; ((with_reducible refine (HB.out _).mono ?_); rintro e w4 ⟨rfl, rfl⟩)))
    go_ret
    exact ⟨rfl, hb2.trans (hb3.mono hb2.size)⟩
end Go.Proofs.Ytgdeefcgjaklhaa
