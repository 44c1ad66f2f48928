/-
  The walk of the law SqueezeSpreads.
-/
import Derived.Test.YtgdeefcgjaklhaaSqLives
import Derived.Test.YtgdeefcgjaklhaaSqRSpread
namespace Go.Proofs.Ytgdeefcgjaklhaa
open Go.RowKit

set_option maxHeartbeats 1000000 in
set_option maxRecDepth 4000 in
theorem sqSpreads_walk (s : ByteArray) (m : Int) (W : World) (hm : (Lit.int .i64 m).wf = true) : Calls Try.prog 4 #[.string s, .int .i64 m] W fun e W' => e = .returned (.bool true) ∧ Below W.heap.size W W' := by
  have hm2 : -9223372036854775808 ≤ m := by
    simp [Lit.wf, IntKind.min, IntKind.max, IntKind.signed, IntKind.bits] at hm
    omega
  have hb0 := Below.refl W.heap.size W
  clear hm
  by_cases h1 : 3000 < s.size
  · go_enter Try.func4, Try.ntmps4
    go_wp2_with (go_at_call 14; ((with_reducible refine (lives_inv hb0).mono ?_); rintro e w' ⟨rfl, hi⟩))
    go_ret
    exact ⟨rfl, hi⟩
  · by_cases h2 : 5000 < m
    · go_enter Try.func4, Try.ntmps4
      go_wp2_with (go_at_call 14; ((with_reducible refine (lives_inv hb0).mono ?_); rintro e w' ⟨rfl, hi⟩))
      go_ret
      exact ⟨rfl, hi⟩
    · obtain ⟨R, hR⟩ : ∃ R, dec s m = R := ⟨_, rfl⟩
      obtain ⟨l, k⟩ := R
      obtain ⟨P, hP⟩ : ∃ P, str l = P := ⟨_, rfl⟩
      have HD : Hid (∀ W, Calls Try.prog 18 #[.string s, .int .i64 m] W fun e w' => e = .returned (.tuple #[.string P, .int .i64 k]) ∧ Below W.heap.size W w') := fun W => (decompress_any s m W (by omega) (by omega) hm2).mono fun _ _ x => ⟨by rw [x.1, hR, hP], x.2⟩
      have HS : Hid (∀ W, Calls Try.prog 19 #[.string s, .int .i64 m] W fun e w' => e = .returned (.tuple #[.string P, .int .i64 k]) ∧ Below W.heap.size W w') := fun W => (rspread_any s m W (by omega) (by omega) hm2).mono fun _ _ x => ⟨by rw [x.1, hR, hP], x.2⟩
      clear hR hP
      go_enter Try.func4, Try.ntmps4
      go_wp2_with (first
        | (go_at_call 18; ((with_reducible refine (HD.out _).mono ?_); rintro e w1 ⟨rfl, hb1⟩))
        | (go_at_call 19; ((with_reducible refine (HS.out _).mono ?_); rintro e w2 ⟨rfl, hb2⟩; have hb2' := hb1.trans (hb2.mono hb1.size)))
        | (go_at_call 14; ((with_reducible refine (lives_inv hb2').mono ?_); rintro e w3 ⟨rfl, hb3⟩)))
      go_ret
      exact ⟨rfl, hb3⟩
end Go.Proofs.Ytgdeefcgjaklhaa
