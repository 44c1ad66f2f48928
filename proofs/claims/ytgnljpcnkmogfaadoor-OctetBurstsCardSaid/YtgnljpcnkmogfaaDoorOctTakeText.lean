/-
  The walks of TakeText.
-/
import Derived.Test.YtgnljpcnkmogfaaDoorOctRTake
namespace Go.Proofs.YtgnljpcnkmogfaaDoor
open Go.RowKit

/-- What TakeText answers. -/
def takeText (s : ByteArray) (p : Int) : ByteArray × Int × Nat :=
  if (takeAt s.data.toList p).2.2 ≠ 0 then (⟨#[]⟩, 0, (takeAt s.data.toList p).2.2)
  else if 1048576 < (takeAt s.data.toList p).1 then (⟨#[]⟩, 0, 4)
  else if s.size < (takeAt s.data.toList p).2.1.toNat + (takeAt s.data.toList p).1 then (⟨#[]⟩, 0, 3)
  else (s.extract (takeAt s.data.toList p).2.1.toNat ((takeAt s.data.toList p).2.1.toNat + (takeAt s.data.toList p).1), (((takeAt s.data.toList p).2.1.toNat + (takeAt s.data.toList p).1 : Nat) : Int), 0)

theorem takeText_err {s : ByteArray} {p : Int} {e : Nat} (h : takeAt s.data.toList p = (0, 0, e)) (h1 : 1 ≤ e) : takeText s p = (⟨#[]⟩, 0, e) := by
  unfold takeText; simp only [h]; rw [if_pos (by omega)]
theorem takeText_big {s : ByteArray} {p : Int} {v q : Nat} (h : takeAt s.data.toList p = (v, (q : Int), 0)) (h1 : 1048576 < v) : takeText s p = (⟨#[]⟩, 0, 4) := by
  unfold takeText; simp only [h]; rw [if_neg (by simp), if_pos h1]
theorem takeText_few {s : ByteArray} {p : Int} {v q : Nat} (h : takeAt s.data.toList p = (v, (q : Int), 0)) (h1 : ¬ 1048576 < v) (h2 : s.size < q + v) : takeText s p = (⟨#[]⟩, 0, 3) := by
  unfold takeText; simp only [h, Int.toNat_natCast]; rw [if_neg (by simp), if_neg h1, if_pos h2]
theorem takeText_ok {s : ByteArray} {p : Int} {v q : Nat} (h : takeAt s.data.toList p = (v, (q : Int), 0)) (h1 : ¬ 1048576 < v) (h2 : ¬ s.size < q + v) : takeText s p = (s.extract q (q + v), ((q + v : Nat) : Int), 0) := by
  unfold takeText; simp only [h, Int.toNat_natCast]; rw [if_neg (by simp), if_neg h1, if_neg h2]

set_option maxHeartbeats 400000 in
set_option maxRecDepth 4000 in
theorem takeText_any (s : ByteArray) (p : Int) (w : World) (hs : s.size ≤ 4611686018427387904) :
    Calls Tryd.prog 13 #[.string s, .int .i64 p] w fun e w' => e = .returned (.tuple #[.string (takeText s p).1, .int .i64 (takeText s p).2.1, .int .i64 (takeText s p).2.2]) ∧ w = w' := by
  have hc := take_any s p w hs
  rcases takeAt_cases s.data.toList p with ⟨er, h1, h3, ht⟩ | ⟨v, q, a, rfl, haq, hq, hv, ht, -⟩
  · rw [ht] at hc
    rw [takeText_err ht h1]
    have hne : ((er : Int) == 0) = false := by simp; omega
    have hne2 : ((er : Int) != 0) = true := by simp; omega
    go_enter Tryd.func13, Tryd.ntmps13
    go_wp2_with (go_at_call 11; refine hc.mono ?_; rintro e w' ⟨rfl, rfl⟩)
    go_ret3
    exact ⟨rfl, rfl⟩
  · rw [ht] at hc
    rw [list_len] at hq
    by_cases hb : 1048576 < v
    · rw [takeText_big ht hb]
      clear hv ht
      go_enter Tryd.func13, Tryd.ntmps13
      go_wp2_with (go_at_call 11; refine hc.mono ?_; rintro e w' ⟨rfl, rfl⟩)
      go_ret3
      exact ⟨rfl, rfl⟩
    · by_cases hf : s.size < q + v
      · rw [takeText_few ht hb hf]
        clear hv ht
        go_enter Tryd.func13, Tryd.ntmps13
        go_wp2_with (go_at_call 11; refine hc.mono ?_; rintro e w' ⟨rfl, rfl⟩)
        go_ret3
        exact ⟨rfl, rfl⟩
      · rw [takeText_ok ht hb hf]
        clear hv ht
        go_enter Tryd.func13, Tryd.ntmps13
        go_wp2_with (go_at_call 11; refine hc.mono ?_; rintro e w' ⟨rfl, rfl⟩)
        go_ret3
        exact ⟨rfl, rfl⟩
end Go.Proofs.YtgnljpcnkmogfaaDoor
