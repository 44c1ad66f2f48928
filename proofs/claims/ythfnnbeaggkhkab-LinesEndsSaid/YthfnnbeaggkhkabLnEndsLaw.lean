/-
  The walk of the law LinesEnds.
-/
import Derived.Test.YthfnnbeaggkhkabLnLives
namespace Go.Proofs.Ythfnnbeaggkhkab
open Go.RowKit

set_option maxHeartbeats 1000000 in
set_option maxRecDepth 4000 in
theorem lnEnds_walk (s : ByteArray) (W : World) : Calls Try.prog 4 #[.string s] W fun e W' => e = .returned (.bool true) ∧ Below W.heap.size W W' := by
  have hb0 := Below.refl W.heap.size W
  by_cases h1 : 20000 < s.size
  · go_enter Try.func4, Try.ntmps4
    go_wp2_with (go_at_call 10; ((with_reducible refine (lives_inv hb0).mono ?_); rintro e w' ⟨rfl, hi⟩))
    go_ret
    exact ⟨rfl, hi⟩
  · obtain ⟨a, ha⟩ : ∃ a, a = str (lf s.data.toList) := ⟨_, rfl⟩
    obtain ⟨c, hc⟩ : ∃ c, c = str (crlf 0 s.data.toList) := ⟨_, rfl⟩
    obtain ⟨b, hb⟩ : ∃ b, b = bin 8000 s.data.toList := ⟨_, rfl⟩
    obtain ⟨t, ht⟩ : ∃ t, t = rt s.data.toList := ⟨_, rfl⟩
    have HA : Hid (a.data.toList = lf s.data.toList) := by show _ = _; rw [ha, str_list]
    have HC : Hid (c.data.toList = crlf 0 s.data.toList) := by show _ = _; rw [hc, str_list]
    have HB : Hid (bin 8000 s.data.toList = b) := hb.symm
    have HT : Hid (rt s.data.toList = t) := ht.symm
    clear ha hc hb ht
    go_enter Try.func4, Try.ntmps4
    go_wp2_with (first
      | (go_at_call 18; ((with_reducible refine (toLF_inv hb0 s a (by omega) HA.out).mono ?_); rintro e w1 ⟨rfl, h1⟩))
      | (go_at_call 19; ((with_reducible refine (rLf_any s a _ (by omega) HA.out).mono ?_); rintro e w2 ⟨rfl, hb2⟩; have h2 := h1.trans (hb2.mono h1.size)))
      | (go_at_call 20; ((with_reducible refine (toCRLF_inv h2 s c (by omega) HC.out).mono ?_); rintro e w3 ⟨rfl, h3⟩))
      | (go_at_call 21; ((with_reducible refine (rCrlf_any s c _ (by omega) HC.out).mono ?_); rintro e w4 ⟨rfl, hb4⟩; have h4 := h3.trans (hb4.mono h3.size)))
      | (go_at_call 22; ((with_reducible refine (binary_any s b _ (by omega) HB.out).mono ?_); rintro e w5 ⟨rfl, rfl⟩))
      | (go_at_call 23; ((with_reducible refine (rBinary_any s b _ (by omega) HB.out).mono ?_); rintro e w6 ⟨rfl, rfl⟩))
      | (go_at_call 24; ((with_reducible refine (roundTrips_any s t _ (by omega) HT.out).mono ?_); rintro e w7 ⟨rfl, rfl⟩))
      | (go_at_call 25; ((with_reducible refine (rBack_any s t _ (by omega) HT.out).mono ?_); rintro e w8 ⟨rfl, hb8⟩; have h8 := h4.trans (hb8.mono h4.size)))
      | (go_at_call 10; ((with_reducible refine (lives_inv h8).mono ?_); rintro e w9 ⟨rfl, h9⟩)))
    go_ret
    exact ⟨rfl, h9⟩
end Go.Proofs.Ythfnnbeaggkhkab
