/-
  The walk of the law DeltaReads.
-/
import Derived.Test.YthfnnbeaggkhkaaDlAppliesLaw
import Derived.Test.YthfnnbeaggkhkaaDlRCopies
namespace Go.Proofs.Ythfnnbeaggkhkaa
open Go.RowKit

theorem runs_len (l : List St) : ∀ k, (runs k l).length ≤ l.length := by
  induction l with
  | nil => intro k; simp [runs]
  | cons t l ih =>
    intro k
    have := ih (k + t.n)
    rw [runs, List.length_append, List.length_cons]
    split <;> simp <;> omega
theorem dcp_len (s : ByteArray) : (dcp s).1.length ≤ 1048576 := by
  rcases dsz_cases s with ⟨e, he1, he3, ht⟩ | ⟨v, v2, q2, hv, hv2, hq2, ht, -⟩
  · rw [dcp_err ht (by omega)]
    simp
  · by_cases hk : (sts s v v2 q2 0).2 = 0
    · rw [dcp_ok ht hk]
      have h1 := runs_len (sts s v v2 q2 0).1 0
      have h2 := okSts_len _ _ (sts_fit s v v2 v2 q2 0 (by omega) (by omega))
      simp only
      omega
    · rw [dcp_bad ht rfl hk]
      simp

set_option maxHeartbeats 1000000 in
set_option maxRecDepth 4000 in
theorem dlReads_walk (s : ByteArray) (W : World) : Calls Try.prog 11 #[.string s] W fun e W' => e = .returned (.bool true) ∧ Below W.heap.size W W' := by
  have hb0 := Below.refl W.heap.size W
  by_cases h1 : 1500 < s.size
  · go_enter Try.func11, Try.ntmps11
    go_wp2_with (go_at_call 21; ((with_reducible refine (dLives_inv hb0).mono ?_); rintro e w3 ⟨rfl, hb3⟩))
    go_ret
    exact ⟨rfl, hb3⟩
  · obtain ⟨Z, hZ⟩ : ∃ Z, dsz s = Z := ⟨_, rfl⟩
    obtain ⟨a, b, c, d⟩ := Z
    obtain ⟨R, hR⟩ : ∃ R, dcp s = R := ⟨_, rfl⟩
    have hlen := dcp_len s
    rw [hR] at hlen
    obtain ⟨l, k⟩ := R
    simp only at hlen
    have HX : Hid (∀ w, Calls Try.prog 24 #[.string s] w fun e w' => e = .returned (.tuple #[.int .i64 (a : Int), .int .i64 (b : Int), .int .i64 (d : Int)]) ∧ w = w') := fun w => dSizes_at s w (by omega) a b c d hZ
    have HY : Hid (∀ w, Calls Try.prog 28 #[.string s] w fun e w' => e = .returned (.tuple #[.int .i64 (a : Int), .int .i64 (b : Int), .int .i64 (d : Int)]) ∧ w = w') := fun w => rSizes_at s w (by omega) a b c d hZ
    obtain ⟨n, hn⟩ : ∃ n, n = l.length := ⟨_, rfl⟩
    have HC : Hid (∀ w, Calls Try.prog 29 #[.string s] w fun e w' => (∃ p cap, e = .returned (.tuple #[.slice p n cap, .int .i64 (k : Int)]) ∧ RRow w' p l) ∧ Below w.heap.size w w') := fun w => by
      have h := dCopies_any s w (by omega)
      rw [hR] at h
      rw [hn]
      exact h
    have HD : Hid (∀ w, Calls Try.prog 30 #[.string s] w fun e w' => (∃ p cap, e = .returned (.tuple #[.slice p n cap, .int .i64 (k : Int)]) ∧ RRow w' p l) ∧ Below w.heap.size w w') := fun w => by
      have h := rCopies_any s w (by omega)
      rw [hR] at h
      rw [hn]
      exact h
    have hnl : l.length ≤ 1099511627776 := by omega
    have HN := Lib.hid hn
    clear hZ hR hn hlen
    go_enter Try.func11, Try.ntmps11
    go_wp2_with (first
      | (go_at_call 24; ((with_reducible refine (HX.out _).mono ?_); rintro e w1 ⟨rfl, rfl⟩))
      | (go_at_call 28; ((with_reducible refine (HY.out _).mono ?_); rintro e w1 ⟨rfl, rfl⟩))
      | (go_at_call 29; ((with_reducible refine (HC.out _).mono ?_); rintro e w1 ⟨⟨p, cap, rfl, hr1⟩, hb1⟩))
      | (go_at_call 30; ((with_reducible refine (HD.out _).mono ?_); rintro e w2 ⟨⟨q, cap2, rfl, hr2⟩, hb2⟩; have hr1' := hr1.below hb2; have hb2' := hb1.trans (hb2.mono hb1.size)))
      | (go_at_call 31; ((with_reducible refine (rSame_any l _ _ _ _ n _ HN.out hr1' hr2 hnl).mono ?_); rintro e w3 ⟨rfl, m, rfl⟩; have hb4' := below_drewN hb2' m))
      | (go_at_call 21; ((with_reducible refine (dLives_inv hb4').mono ?_); rintro e w4 ⟨rfl, hb4⟩)))
    go_ret
    exact ⟨rfl, hb4⟩
end Go.Proofs.Ythfnnbeaggkhkaa
