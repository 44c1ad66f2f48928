/-
  The walk of the law SqueezeBound.
-/
import Derived.Test.YtgdeefcgjaklhaaSqLives
namespace Go.Proofs.Ytgdeefcgjaklhaa
open Go.RowKit

set_option maxHeartbeats 1000000 in
set_option maxRecDepth 4000 in
theorem sqBound_walk (n : Int) (W : World) : Calls Try.prog 7 #[.int .i64 n] W fun e W' => e = .returned (.bool true) ∧ Below W.heap.size W W' := by
  have hb0 := Below.refl W.heap.size W
  by_cases h1 : 1125899906842624 < n
  · go_enter Try.func7, Try.ntmps7
    go_wp2_with (go_at_call 14; ((with_reducible refine (lives_inv hb0).mono ?_); rintro e w' ⟨rfl, hi⟩))
    go_ret
    exact ⟨rfl, hi⟩
  · by_cases h2 : n < 0
    · go_enter Try.func7, Try.ntmps7
      go_wp2_with (first
        | (go_at_call 14; ((with_reducible refine (lives_inv hb0).mono ?_); rintro e w' ⟨rfl, hi⟩))
        | (go_at_call 17; ((with_reducible refine (bound_neg n _ h2).mono ?_); rintro e w' ⟨rfl, rfl⟩))
        | (go_at_call 20; ((with_reducible refine (rbound_neg n _ h2).mono ?_); rintro e w' ⟨rfl, rfl⟩)))
      go_ret
      exact ⟨rfl, hi⟩
    · obtain ⟨m, rfl⟩ := Int.eq_ofNat_of_zero_le (by omega : 0 ≤ n)
      have hm : m ≤ 1125899906842624 := by omega
      go_enter Try.func7, Try.ntmps7
      go_wp2_with (first
        | (go_at_call 14; ((with_reducible refine (lives_inv hb0).mono ?_); rintro e w' ⟨rfl, hi⟩))
        | (go_at_call 17; ((with_reducible refine (bound_nat m _ hm).mono ?_); rintro e w' ⟨rfl, rfl⟩))
        | (go_at_call 20; ((with_reducible refine (rbound_nat m _ hm).mono ?_); rintro e w' ⟨rfl, rfl⟩)))
      go_ret
      exact ⟨rfl, hi⟩
end Go.Proofs.Ytgdeefcgjaklhaa
