/-
  The walks of Cost and of the reference's.
-/
import Derived.Test.YtnmebnpldacngaaDfRows
import Derived.Outline
namespace Go.Proofs.Ytnmebnpldacngaa
open Go.RowKit

theorem csum_snoc : ∀ (l : List Ed) (e : Ed), csum (l ++ [e]) = csum l + (e.d + e.i)
  | [], e => by simp [csum]
  | x :: l, e => by
    have := csum_snoc l e
    rw [List.cons_append, csum, csum, this]
    omega
theorem wrap_sum (a b : Int) : wrap64 (wrap64 a + wrap64 b) = wrap64 (a + b) := by
  unfold wrap64
  omega
theorem wrap_sum2 (a b c : Int) : wrap64 (wrap64 (wrap64 a + b) + c) = wrap64 (a + (b + c)) := by
  unfold wrap64
  omega

set_option maxHeartbeats 1000000 in
set_option maxRecDepth 4000 in
theorem cost_any (es : List Ed) (p : Option Addr) (c n : Nat) (C : Int) (w : World) (hn : n = es.length) (hp : ERw w p es) (hl : n ≤ 140737488355328) (hC : C = wrap64 (csum es)) :
    Calls Try.prog 20 #[.slice p n c] w fun e w' => e = .returned (.int .i64 C) ∧ Below w.heap.size w w' := by
  have HN := Lib.hid hn
  have HP := Lib.hid hp
  have HC := Lib.hid hC
  clear hn hp hC
  go_enter Try.func20, Try.ntmps20
  go_wp2
  go_loopw [8, 3] (fun iv sv wr => ∃ (k : Nat) (S : Int), k ≤ n ∧ iv = .int .i64 k ∧ sv = .int .i64 S ∧ Hid (S = wrap64 (csum (es.take k))) ∧ Below w.heap.size w wr) (fun iv _ _ => n - (intOf iv).toNat)
  case atStart => exact ⟨0, 0, by omega, rfl, rfl, (show (0 : Int) = wrap64 0 by unfold wrap64; omega), Below.refl _ _⟩
  case round =>
    obtain ⟨k, S, hk, rfl, rfl, HS, hb⟩ := hrel
    by_cases hlt : k < n
    · have hka : k < es.length := by rw [← HN.out]; omega
      obtain ⟨g, o, rfl, hg, a0, a1, a2, a3⟩ := HP.out.below hb k hka
      have hsn : es.take (k + 1) = es.take k ++ [es[k]] := List.take_succ_eq_append_getElem hka
      obtain ⟨e, he⟩ : ∃ e, e = es[k] := ⟨_, rfl⟩
      rw [← he] at a0 a1 a2 a3 hsn
      have HX : Hid (wrap64 (S + wrap64 (e.d + e.i)) = wrap64 (csum (es.take (k + 1)))) := by
        show _ = _
        rw [HS.out, hsn, csum_snoc, wrap_sum]
      clear he hsn hka hg HS
      go_wp2
      go_roundw
      case rel => exact ⟨k + 1, _, by omega, by go_num, rfl, HX, below_new hb _⟩
      case measure => simp [intOf]; omega
    · obtain rfl : k = n := by omega
      have HX : Hid (C = S) := by show _ = _; rw [HC.out, HS.out, List.take_of_length_le (by rw [← HN.out]; omega)]
      go_wp2
      go_ret
      exact ⟨by rw [HX.out]; rfl, hb⟩

end Go.Proofs.Ytnmebnpldacngaa
