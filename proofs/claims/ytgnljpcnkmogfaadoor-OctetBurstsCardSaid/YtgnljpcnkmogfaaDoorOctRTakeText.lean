/-
  The walk of the reference's TakeText.
-/
import Derived.Test.YtgnljpcnkmogfaaDoorOctTakeText
namespace Go.Proofs.YtgnljpcnkmogfaaDoor
open Go.RowKit

set_option maxHeartbeats 400000 in
set_option maxRecDepth 4000 in
theorem rtakeText_any (s : ByteArray) (p : Int) (w : World) (hs : s.size ≤ 4611686018427387904) :
    Calls Tryd.prog 14 #[.string s, .int .i64 p] w fun e w' => e = .returned (.tuple #[.string (takeText s p).1, .int .i64 (takeText s p).2.1, .int .i64 (takeText s p).2.2]) ∧ w = w' := by
  have hc := rtake_any s p w hs
  rcases takeAt_cases s.data.toList p with ⟨er, h1, h3, ht⟩ | ⟨v, q, a, rfl, haq, hq, hv, ht, -⟩
  · rw [ht] at hc
    rw [takeText_err ht h1]
    have hne : ((er : Int) == 0) = false := by simp; omega
    have hne2 : ((er : Int) != 0) = true := by simp; omega
    go_enter Tryd.func14, Tryd.ntmps14
    go_wp2_with (go_at_call 12; refine hc.mono ?_; rintro e w' ⟨rfl, rfl⟩)
    go_ret3
    exact ⟨rfl, rfl⟩
  · rw [ht] at hc
    rw [list_len] at hq
    by_cases hb : 1048576 < v
    · rw [takeText_big ht hb]
      clear hv ht
      go_enter Tryd.func14, Tryd.ntmps14
      go_wp2_with (go_at_call 12; refine hc.mono ?_; rintro e w' ⟨rfl, rfl⟩)
      go_ret3
      exact ⟨rfl, rfl⟩
    · by_cases hf : s.size < q + v
      · rw [takeText_few ht hb hf]
        clear hv ht
        go_enter Tryd.func14, Tryd.ntmps14
        go_wp2_with (go_at_call 12; refine hc.mono ?_; rintro e w' ⟨rfl, rfl⟩)
        go_ret3
        exact ⟨rfl, rfl⟩
      · rw [takeText_ok ht hb hf]
        clear hv ht
        go_enter Tryd.func14, Tryd.ntmps14
        go_wp2_with (go_at_call 12; refine hc.mono ?_; rintro e w' ⟨rfl, rfl⟩)
        go_ret3
        exact ⟨rfl, rfl⟩
end Go.Proofs.YtgnljpcnkmogfaaDoor
