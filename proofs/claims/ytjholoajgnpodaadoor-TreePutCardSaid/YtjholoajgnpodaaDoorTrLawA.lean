/-
  The walks of the laws TreeChecks, TreeParses, TreeOrder.
-/
import Derived.Test.YtjholoajgnpodaaDoorTrLives
import Derived.Test.YtjholoajgnpodaaDoorTrBackP
namespace Go.Proofs.YtjholoajgnpodaaDoor
open Go.RowKit

/-- Entries that are handed in. -/
structure EA (W : World) (es : List En) (p : Option Addr) (n : Nat) : Prop where
  len : n = es.length
  row : NRw W p es
  few : n ≤ 140737488355328
  short : ∀ e ∈ es, e.n.size ≤ 140737488355328 ∧ e.i.size ≤ 140737488355328

section
variable {W : World}
theorem tlives_inv {w : World} (hT : TrTab W) (hb : Below W.heap.size W w) : Calls Tryd.prog 10 #[] w fun e w' => e = .returned (.bool true) ∧ Below W.heap.size W w' :=
  (tlives_any w (hT.below hb)).mono fun e w' ⟨he, hb2⟩ => ⟨he, hb.trans (hb2.mono hb.size)⟩
theorem tfew_inv {es : List En} {p : Option Addr} {c n : Nat} (h : EA W es p n) {w : World} (hb : Below W.heap.size W w) (B : Bool) (hB : B = fewT es) : Calls Tryd.prog 9 #[.slice p n c] w fun e w' => e = .returned (.bool B) ∧ Below W.heap.size W w' :=
  (tfew_any es p c n B w h.len (h.row.below hb) h.few h.short hB).mono fun e w' ⟨he, k, hk⟩ => ⟨he, by rw [hk]; exact below_drewN hb k⟩
theorem EA.fewOf {es : List En} {p : Option Addr} {n : Nat} (h : EA W es p n) (hf : fewT es = true ∨ 1024 < n) : n ≤ 1024 → Few es := fun hn e he => by
  rcases hf with hf | hf
  · have := (fewT_yes hf).2 e he
    omega
  · omega

set_option maxHeartbeats 4000000 in
set_option maxRecDepth 10000 in
theorem treeChecks_walk {es : List En} {p : Option Addr} {n c : Nat} (A : EA W es p n) (hT : TrTab W) : Calls Tryd.prog 3 #[.slice p n c] W fun e W' => e = .returned (.bool true) ∧ Below W.heap.size W W' := by
  obtain ⟨F, hF⟩ : ∃ F, F = fewT es := ⟨_, rfl⟩
  have HF : Hid (∀ w, Below W.heap.size W w → Calls Tryd.prog 9 #[.slice p n c] w fun e w' => e = .returned (.bool F) ∧ Below W.heap.size W w') := fun w hb => tfew_inv A hb F hF
  have HLV : Hid (∀ w, Below W.heap.size W w → Calls Tryd.prog 10 #[] w fun e w' => e = .returned (.bool true) ∧ Below W.heap.size W w') := fun w hb => tlives_inv hT hb
  have h0 := Below.refl W.heap.size W
  by_cases hgo : F = true ∨ (1024 < n ∧ n ≤ 2000)
  · have hfw := A.fewOf (hF ▸ hgo.imp_right fun h => h.1)
    obtain ⟨s, hs⟩ : ∃ s, s = str (bodyT es) := ⟨_, rfl⟩
    obtain ⟨C, hC⟩ : ∃ C, C = chkT es := ⟨_, rfl⟩
    have HB1 : Hid (∀ w, Below W.heap.size W w → Calls Tryd.prog 11 #[.slice p n c] w fun e w' => e = .returned (.tuple #[.string s, .int .i64 (C : Int)]) ∧ Below W.heap.size W w') := fun w hb => by
      rw [hs, hC]
      exact (tbody_any es p c n w A.len (A.row.below hb) (hT.below hb) hfw A.few).mono fun e w' ⟨he, hb2⟩ => ⟨he, hb.trans (hb2.mono hb.size)⟩
    have HB2 : Hid (∀ w, Below W.heap.size W w → Calls Tryd.prog 12 #[.slice p n c] w fun e w' => e = .returned (.tuple #[.string s, .int .i64 (C : Int)]) ∧ Below W.heap.size W w') := fun w hb => by
      rw [hs, hC]
      exact (trbody_any es p c n w A.len (A.row.below hb) hfw A.few).mono fun e w' ⟨he, hb2⟩ => ⟨he, hb.trans (hb2.mono hb.size)⟩
    have HC1 : Hid (∀ w, Below W.heap.size W w → Calls Tryd.prog 13 #[.slice p n c] w fun e w' => e = .returned (.int .i64 (C : Int)) ∧ Below W.heap.size W w') := fun w hb => by
      rw [hC]
      exact (tcheck_any es p c n w A.len (A.row.below hb) (hT.below hb) hfw A.few).mono fun e w' ⟨he, hb2⟩ => ⟨he, hb.trans (hb2.mono hb.size)⟩
    have HC2 : Hid (∀ w, Below W.heap.size W w → Calls Tryd.prog 14 #[.slice p n c] w fun e w' => e = .returned (.int .i64 (C : Int)) ∧ Below W.heap.size W w') := fun w hb => by
      rw [hC]
      exact (trcheck_any es p c n w A.len (A.row.below hb) hfw A.few).mono fun e w' ⟨he, hb2⟩ => ⟨he, hb.trans (hb2.mono hb.size)⟩
    clear hs hC hfw hF hT A
    rcases hgo with rfl | ⟨g1, g2⟩
    · go_enter Tryd.func3, Tryd.ntmps3
      go_wp2_with (first
        | (go_at_call 9; ((with_reducible refine (HF.out _ (by assumption)).mono ?_); rintro e w1 ⟨rfl, hb1⟩))
        | (go_at_call 11; ((with_reducible refine (HB1.out _ (by assumption)).mono ?_); rintro e w2 ⟨rfl, hb2⟩))
        | (go_at_call 12; ((with_reducible refine (HB2.out _ (by assumption)).mono ?_); rintro e w3 ⟨rfl, hb3⟩))
        | (go_at_call 13; ((with_reducible refine (HC1.out _ (by assumption)).mono ?_); rintro e w4 ⟨rfl, hb4⟩))
        | (go_at_call 14; ((with_reducible refine (HC2.out _ (by assumption)).mono ?_); rintro e w5 ⟨rfl, hb5⟩))
        | (go_at_call 10; ((with_reducible refine (HLV.out _ (by assumption)).mono ?_); rintro e w6 ⟨rfl, hb6⟩)))
      go_ret
      exact ⟨rfl, hb6⟩
    · have e1 : decide ((n : Int) ≤ 1024) = false := decide_eq_false (by omega)
      have e2 : decide ((2000 : Int) < (n : Int)) = false := decide_eq_false (by omega)
      have e3 : decide (n ≤ 1024) = false := decide_eq_false (by omega)
      have e4 : decide (2000 < n) = false := decide_eq_false (by omega)
      rcases F with _ | _
      all_goals go_enter Tryd.func3, Tryd.ntmps3
      all_goals go_wp2_with (first
        | (go_at_call 9; ((with_reducible refine (HF.out _ (by assumption)).mono ?_); rintro e w1 ⟨rfl, hb1⟩))
        | (go_at_call 11; ((with_reducible refine (HB1.out _ (by assumption)).mono ?_); rintro e w2 ⟨rfl, hb2⟩))
        | (go_at_call 12; ((with_reducible refine (HB2.out _ (by assumption)).mono ?_); rintro e w3 ⟨rfl, hb3⟩))
        | (go_at_call 13; ((with_reducible refine (HC1.out _ (by assumption)).mono ?_); rintro e w4 ⟨rfl, hb4⟩))
        | (go_at_call 14; ((with_reducible refine (HC2.out _ (by assumption)).mono ?_); rintro e w5 ⟨rfl, hb5⟩))
        | (go_at_call 10; ((with_reducible refine (HLV.out _ (by assumption)).mono ?_); rintro e w6 ⟨rfl, hb6⟩)))
      all_goals go_ret
      all_goals exact ⟨rfl, hb6⟩
  · obtain rfl : F = false := by
      cases F
      · rfl
      · exact absurd (.inl rfl) hgo
    have hn : n ≤ 1024 ∨ (¬ n ≤ 1024 ∧ 2000 < n) := by
      by_cases h : n ≤ 1024
      · exact .inl h
      · exact .inr ⟨h, by
          rcases Nat.lt_or_ge 2000 n with h2 | h2
          · exact h2
          · exact absurd (.inr ⟨by omega, h2⟩) hgo⟩
    clear hgo hF hT A
    rcases hn with e | ⟨e, e2⟩
    · have e1 : decide ((n : Int) ≤ 1024) = true := decide_eq_true (by omega)
      go_enter Tryd.func3, Tryd.ntmps3
      go_wp2_with (first
        | (go_at_call 9; ((with_reducible refine (HF.out _ (by assumption)).mono ?_); rintro e w1 ⟨rfl, hb1⟩))
        | (go_at_call 10; ((with_reducible refine (HLV.out _ (by assumption)).mono ?_); rintro e w6 ⟨rfl, hb6⟩)))
      go_ret
      exact ⟨rfl, hb6⟩
    · have e1 : decide ((n : Int) ≤ 1024) = false := decide_eq_false (by omega)
      have e3 : decide ((2000 : Int) < (n : Int)) = true := decide_eq_true (by omega)
      go_enter Tryd.func3, Tryd.ntmps3
      go_wp2_with (first
        | (go_at_call 9; ((with_reducible refine (HF.out _ (by assumption)).mono ?_); rintro e w1 ⟨rfl, hb1⟩))
        | (go_at_call 10; ((with_reducible refine (HLV.out _ (by assumption)).mono ?_); rintro e w6 ⟨rfl, hb6⟩)))
      go_ret
      exact ⟨rfl, hb6⟩

set_option maxHeartbeats 4000000 in
set_option maxRecDepth 10000 in
theorem treeParses_walk (s : ByteArray) (hT : TrTab W) (hs : s.size ≤ 140737488355328) : Calls Tryd.prog 4 #[.string s] W fun e W' => e = .returned (.bool true) ∧ Below W.heap.size W W' := by
  have HLV : Hid (∀ w, Below W.heap.size W w → Calls Tryd.prog 10 #[] w fun e w' => e = .returned (.bool true) ∧ Below W.heap.size W w') := fun w hb => tlives_inv hT hb
  have h0 := Below.refl W.heap.size W
  by_cases hbig : 3000 < s.size
  · have e1 : decide ((3000 : Int) < (s.size : Int)) = true := decide_eq_true (by omega)
    clear hT
    go_enter Tryd.func4, Tryd.ntmps4
    go_wp2_with (go_at_call 10; ((with_reducible refine (HLV.out _ (by assumption)).mono ?_); rintro e w6 ⟨rfl, hb6⟩))
    go_ret
    exact ⟨rfl, hb6⟩
  · have e1 : decide ((3000 : Int) < (s.size : Int)) = false := decide_eq_false (by omega)
    obtain ⟨R, hR⟩ : ∃ R, R = parE s.data.toList := ⟨_, rfl⟩
    obtain ⟨C, hC⟩ : ∃ C, C = R.1 := ⟨_, rfl⟩
    obtain ⟨es, hes⟩ : ∃ es, es = R.2 := ⟨_, rfl⟩
    obtain ⟨n, hn⟩ : ∃ n, n = es.length := ⟨_, rfl⟩
    have HP1 : Hid (Calls Tryd.prog 15 #[.string s] W fun e w' => (∃ p c, e = .returned (.tuple #[.slice p n c, .int .i64 (C : Int)]) ∧ NRw w' p es) ∧ Below W.heap.size W w') :=
      (tparse_any s W hT (by omega)).mono fun e w' ⟨⟨v, he, p, c, hv, _, hnr⟩, hb⟩ => by
        rw [← hR] at he hv hnr
        exact ⟨⟨p, c, by rw [he, hv, ← hC, hn, hes], by rw [hes]; exact hnr⟩, hb⟩
    have HP2 : Hid (∀ w, Below W.heap.size W w → Calls Tryd.prog 16 #[.string s] w fun e w' => (∃ p c, e = .returned (.tuple #[.slice p n c, .int .i64 (C : Int)]) ∧ NRw w' p es) ∧ Below w.heap.size w w') := fun w _ =>
      (trparse_any s w (by omega)).mono fun e w' ⟨⟨v, he, p, c, hv, _, hnr⟩, hb⟩ => by
        rw [← hR] at he hv hnr
        exact ⟨⟨p, c, by rw [he, hv, ← hC, hn, hes], by rw [hes]; exact hnr⟩, hb⟩
    have HN : Hid (n = es.length ∧ n ≤ 140737488355328) := by
      refine ⟨hn, ?_⟩
      rcases Nat.eq_zero_or_pos C with h | h
      · have h2 := (chkT_ok.1 (body_par (l := s.data.toList) (by rw [← hR, ← hC]; exact h)).1).1
        rw [hn, hes, hR]
        omega
      · rw [hn, hes, hR, par_err (by rw [← hR, ← hC]; omega)]
        decide
    clear hR hC hes hn hT
    go_enter Tryd.func4, Tryd.ntmps4
    go_upto_region 4 with (go_at_call 15; ((with_reducible refine HP1.out.mono ?_); rintro e w1 ⟨⟨p1, c1, rfl, hn1⟩, hb1⟩))
    go_upto_region 5 with (go_at_call 16; ((with_reducible refine (HP2.out _ hb1).mono ?_); rintro e w2 ⟨⟨p2, c2, rfl, hn2⟩, hb2⟩))
    have hb3 := hb1.trans (hb2.mono hb1.size)
    have HS : Hid (Calls Tryd.prog 17 #[.slice p1 n c1, .slice p2 n c2] w2 fun e w' => e = .returned (.bool true) ∧ Below W.heap.size W w') :=
      (tsame_any es es p1 p2 c1 c2 n n true w2 HN.out.1 HN.out.1 (hn1.below hb2) hn2 HN.out.2 HN.out.2 (by simp)).mono fun e w' ⟨he, k, hk⟩ => ⟨he, by rw [hk]; exact below_drewN hb3 k⟩
    clear hn1 hn2 hb1 hb2
    go_wp2_with (first
      | (go_at_call 17; ((with_reducible refine HS.out.mono ?_); rintro e w4 ⟨rfl, hb4⟩))
      | (go_at_call 10; ((with_reducible refine (HLV.out _ (by assumption)).mono ?_); rintro e w6 ⟨rfl, hb6⟩)))
    go_ret
    exact ⟨rfl, hb6⟩
end
end Go.Proofs.YtjholoajgnpodaaDoor
