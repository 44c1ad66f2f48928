/-
  The walk of fits, with the functions that fitsPart and that Match hand to it.
-/
import Derived.Test.YtdgcmapmnkopaaaDoorGlStar
import Derived.Test.YtdgcmapmnkopaaaDoorGlIs
import Derived.Deep.LoopGhost
import Derived.WalkMore
namespace Go.Proofs.YtdgcmapmnkopaaaDoor
open Go.RowKit

set_option maxHeartbeats 4000000 in
set_option maxRecDepth 4000 in
theorem fits_bytes {τ α : Type} (μ : τ → α → Bool) (At : Nat → List (Option τ) → Prop) (T : List α) (R : Bool) (n m b1 b2 : Nat) (w : World) (J : World → Prop) (hm : m = T.length) (hn2 : n ≤ 1048576) (hm2 : m ≤ 1048576)
    (HE : Hid ((∀ i, At i [] → i = n) ∧ (∀ i x L, At i (x :: L) → i < n) ∧ (∀ i L, At i (none :: L) → At (i + 1) L)))
    (HS : Hid (∀ (i : Nat) (x : Option τ) (L : List (Option τ)) (w' : World), J w' → At i (x :: L) → Calls Tryd.prog 73 #[.int .i64 (i : Int), .pointer (some ⟨b1, 0, none⟩)] w' fun e w'' => e = .returned (.bool x.isNone) ∧ J w''))
    (HM : Hid (∀ (i j : Nat) (f : τ) (L : List (Option τ)) (c : α), At i (some f :: L) → (h : j < T.length) → c = T[j] → ∃ N : Int, (∀ w' : World, J w' → Calls Tryd.prog 74 #[.int .i64 (i : Int), .int .i64 (j : Int), .pointer (some ⟨b1, 0, none⟩), .pointer (some ⟨b2, 0, none⟩)] w' fun e w'' => e = .returned (.tuple #[.bool (μ f c), .int .i64 N]) ∧ J w'') ∧ (μ f c = true → ∃ k : Nat, N = k ∧ At k L)))
    (HJ : Hid (J w)) (L0 : List (Option τ)) (h0 : At 0 L0) (hR : R = wm μ L0 T) :
    Calls Tryd.prog 61 #[.int .i64 (n : Int), .int .i64 (m : Int), .func (.func 73) #[] #[.pointer (some ⟨b1, 0, none⟩)], .func (.func 74) #[] #[.pointer (some ⟨b1, 0, none⟩), .pointer (some ⟨b2, 0, none⟩)]] w fun e w' => e = .returned (.bool R) ∧ J w' := by
  have HN0 : Hid (Now μ At R T (-1) 0 0 0) := ⟨L0, h0, Nat.zero_le _, Nat.le_refl _, .inl ⟨rfl, rfl, hR⟩⟩
  have HMT := Lib.hid hm
  clear hm h0 hR
  go_enter Tryd.func61, Tryd.ntmps61
  go_wp2
  go_step3
  go_wp2
  go_step3
  go_wp2
  go_loopg [9, 10, 11] m (fun g av iv fv wx => ∃ (aS : Int) (i f : Nat), av = .int .i64 aS ∧ iv = .int .i64 (i : Int) ∧ fv = .int .i64 (f : Int) ∧ f + g = m ∧ Hid (Now μ At R T aS i f f) ∧ Hid (J wx))
  case atStart => exact ⟨-1, 0, 0, rfl, rfl, rfl, by omega, HN0.out, HJ.out⟩
  case round =>
    clear HN0 HJ
    obtain ⟨aS0, i0, f0, rfl, rfl, rfl, hfm, HN, HJ⟩ := hrel
    obtain ⟨gO, hgO⟩ : ∃ gO, gO = gk := ⟨_, rfl⟩
    rw [← hgO] at hfm
    obtain ⟨wO, hwO⟩ : ∃ wO, wO = wr := ⟨_, rfl⟩
    rw [← hwO] at HJ ⊢
    clear hwO
    go_wp2
    go_loopg [9, 10, 11, 12] gO (fun g av iv fv jv wx => ∃ (aS : Int) (i f j : Nat), av = .int .i64 aS ∧ iv = .int .i64 (i : Int) ∧ fv = .int .i64 (f : Int) ∧ jv = .int .i64 (j : Int) ∧ j + g = m ∧ f0 ≤ f ∧ f ≤ j ∧ Hid (Now μ At R T aS i f j) ∧ Hid (J wx))
    case atStart => exact ⟨aS0, i0, f0, f0, rfl, rfl, rfl, rfl, hfm, Nat.le_refl _, Nat.le_refl _, HN.out, HJ.out⟩
    case round =>
      clear HN HJ
      obtain ⟨aS1, i1, f1, j, rfl, rfl, rfl, rfl, hjm, hff, hfj, HN, HJ⟩ := hrel
      obtain ⟨gI, hgI⟩ : ∃ gI, gI = gk := ⟨_, rfl⟩
      rw [← hgI] at hjm
      obtain ⟨wI, hwI⟩ : ∃ wI, wI = wr := ⟨_, rfl⟩
      rw [← hwI] at HJ ⊢
      clear hwI
      by_cases hlt : j < m
      · go_wp2
        go_loopg [9, 10, 11] (n + 1) (fun g av iv fv wx => ∃ (aS : Int) (i f : Nat), av = .int .i64 aS ∧ iv = .int .i64 (i : Int) ∧ fv = .int .i64 (f : Int) ∧ i + g ≥ n + 1 ∧ f0 ≤ f ∧ f ≤ j ∧ Hid (Now μ At R T aS i f j) ∧ Hid (J wx))
        case atStart => exact ⟨aS1, i1, f1, rfl, rfl, rfl, by omega, hff, hfj, HN.out, HJ.out⟩
        case round =>
          clear HN HJ
          obtain ⟨aS, i, f, rfl, rfl, rfl, hig, hff, hfj, HN, HJ⟩ := hrel
          obtain ⟨gS, hgS⟩ : ∃ gS, gS = gk := ⟨_, rfl⟩
          rw [← hgS] at hig
          obtain ⟨L, hL, hjl, hfj2, hnow⟩ := HN.out
          have hjT : j < T.length := by rw [← HMT.out]; exact hlt
          have i1w : IntKind.i64.wrap ((f : Int) + 1) = ((f + 1 : Nat) : Int) := by rw [IntWalk.i64_in _ (by omega)]; omega
          have i2w : IntKind.i64.wrap ((j : Int) + 1) = ((j + 1 : Nat) : Int) := by rw [IntWalk.i64_in _ (by omega)]; omega
          have hmiss : wm μ L (T.drop j) = false → (aS = -1 ∧ R = false) ∨ ∃ k : Nat, aS = k ∧ Now μ At R T aS k (f + 1) (f + 1) := fun hw => by
            rcases hnow with ⟨h1, h2, h3⟩ | ⟨k, S, h1, h2, h3⟩
            · exact .inl ⟨h1, by rw [h3, hw]⟩
            · exact .inr ⟨k, h1, S, h2, by omega, Nat.le_refl _, .inr ⟨k, S, h1, h2, h3.back μ hjT hw⟩⟩
          rcases L with _ | ⟨x, L⟩
          · have hin := HE.out.1 i hL
            have hw : wm μ [] (T.drop j) = false := by rw [List.drop_eq_getElem_cons hjT, wm_nil]; rfl
            have hii : ¬ i < n := by omega
            rcases hmiss hw with ⟨rfl, hRf⟩ | ⟨k, rfl, hN2⟩
            · have HRF := Lib.hid hRf
              clear hmiss hnow HN hw hRf hin hL
              go_wp2
              try rw [Exit.noGoto_ret]
              go_ret
              exact ⟨by rw [HRF.out]; rfl, HJ.out⟩
            · have HN2 := Lib.hid hN2
              clear hmiss hnow HN hw hN2 hin hL
              go_wp2
              go_roundg (m - (f + 1))
              case rel => exact ⟨_, k, f + 1, rfl, rfl, by go_num, by omega, HN2.out, HJ.out⟩
              case measure => omega
          · have hin := HE.out.2.1 i x L hL
            have HC := Lib.hid (HS.out i x L · · hL)
            rcases x with _ | fl
            · have HN2 : Hid (Now μ At R T (i + 1 : Nat) (i + 1) j j) := ⟨L, HE.out.2.2 i L hL, by omega, Nat.le_refl _, .inr ⟨i + 1, L, rfl, HE.out.2.2 i L hL, by
                rcases hnow with ⟨h1, h2, h3⟩ | ⟨k, S, h1, h2, h3⟩
                · exact Behind.start μ (by omega) h3
                · exact h3.star μ⟩⟩
              have i3w : IntKind.i64.wrap ((i : Int) + 1) = ((i + 1 : Nat) : Int) := by rw [IntWalk.i64_in _ (by omega)]; omega
              clear hmiss hnow HN hL
              go_wp2_with (go_at_call 73; ((with_reducible refine (HC.out _ HJ.out).mono ?_); rintro e w2 ⟨rfl, hj2⟩; have HJ2 := Lib.hid hj2; clear hj2))
              go_roundg (gS - 1)
              case rel => exact ⟨_, i + 1, j, rfl, by go_num, rfl, by omega, by omega, Nat.le_refl _, HN2.out, HJ2.out⟩
              case measure => omega
            · obtain ⟨c, hc⟩ : ∃ c, c = T[j] := ⟨_, rfl⟩
              obtain ⟨N, hcall, hgo⟩ := HM.out i j fl L c hL hjT hc
              have HCM := Lib.hid hcall
              have hw0 : wm μ (some fl :: L) (T.drop j) = (μ fl c && wm μ L (T.drop (j + 1))) := by rw [List.drop_eq_getElem_cons hjT, wm_some, hc]
              clear hcall
              by_cases hf : μ fl c = true
              · obtain ⟨k, rfl, hk⟩ := hgo hf
                have HN2 : Hid (Now μ At R T aS k f (j + 1)) := ⟨L, hk, by omega, by omega, by
                  rcases hnow with ⟨h1, h2, h3⟩ | ⟨k', S, h1, h2, h3⟩
                  · exact .inl ⟨h1, h2, by rw [h3, hw0, hf, Bool.true_and]⟩
                  · exact .inr ⟨k', S, h1, h2, h3.step μ hjT hc hf⟩⟩
                rw [hf] at HCM
                clear hmiss hnow HN hL hgo hw0 hf hc
                go_wp2_with (first
                  | (go_at_call 73; ((with_reducible refine (HC.out _ HJ.out).mono ?_); rintro e w2 ⟨rfl, hj2⟩; have HJ2 := Lib.hid hj2; clear hj2))
                  | (go_at_call 74; ((with_reducible refine (HCM.out _ HJ2.out).mono ?_); rintro e w3 ⟨rfl, hj3⟩; have HJ3 := Lib.hid hj3; clear hj3)))
                go_roundg (gI - 1)
                case rel => exact ⟨aS, k, f, j + 1, rfl, rfl, rfl, by go_num, by omega, hff, by omega, HN2.out, HJ3.out⟩
                case measure => omega
              · have hf2 : μ fl c = false := by simpa using hf
                have hw : wm μ (some fl :: L) (T.drop j) = false := by rw [hw0, hf2]; rfl
                rw [hf2] at HCM
                rcases hmiss hw with ⟨rfl, hRf⟩ | ⟨k, rfl, hN2⟩
                · have HRF := Lib.hid hRf
                  clear hmiss hnow HN hw hRf hL hgo hw0 hf hf2 hc
                  go_wp2_with (first
                    | (go_at_call 73; ((with_reducible refine (HC.out _ HJ.out).mono ?_); rintro e w2 ⟨rfl, hj2⟩; have HJ2 := Lib.hid hj2; clear hj2))
                    | (go_at_call 74; ((with_reducible refine (HCM.out _ HJ2.out).mono ?_); rintro e w3 ⟨rfl, hj3⟩; have HJ3 := Lib.hid hj3; clear hj3)))
                  try rw [Exit.noGoto_ret]
                  go_ret
                  exact ⟨by rw [HRF.out]; rfl, HJ3.out⟩
                · have HN2 := Lib.hid hN2
                  clear hmiss hnow HN hw hN2 hL hgo hw0 hf hf2 hc
                  go_wp2_with (first
                    | (go_at_call 73; ((with_reducible refine (HC.out _ HJ.out).mono ?_); rintro e w2 ⟨rfl, hj2⟩; have HJ2 := Lib.hid hj2; clear hj2))
                    | (go_at_call 74; ((with_reducible refine (HCM.out _ HJ2.out).mono ?_); rintro e w3 ⟨rfl, hj3⟩; have HJ3 := Lib.hid hj3; clear hj3)))
                  go_roundg (m - (f + 1))
                  case rel => exact ⟨_, k, f + 1, rfl, rfl, by go_num, by omega, HN2.out, HJ3.out⟩
                  case measure => omega
      · obtain rfl : j = m := by omega
        have HRL : Hid (∃ L, At i1 L ∧ R = wm μ L []) := by
          obtain ⟨L, hL, hjl, hfj2, hnow⟩ := HN.out
          refine ⟨L, hL, ?_⟩
          rcases hnow with ⟨h1, h2, h3⟩ | ⟨k, S, h1, h2, h3⟩
          · rw [h3, HMT.out, List.drop_length]
          · rw [HMT.out] at h3
            exact h3.done μ
        clear HN
        go_wp2
        go_loopg [10] (n + 1) (fun g iv wx => ∃ i : Nat, iv = .int .i64 (i : Int) ∧ i + g ≥ n + 1 ∧ Hid (∃ L, At i L ∧ R = wm μ L []) ∧ Hid (J wx))
        case atStart => exact ⟨i1, rfl, by omega, HRL.out, HJ.out⟩
        case round =>
          clear HRL HJ
          obtain ⟨i, rfl, hig, HRL, HJ⟩ := hrel
          obtain ⟨L, hL, hRL⟩ := HRL.out
          rcases L with _ | ⟨x, L⟩
          · have hin := HE.out.1 i hL
            have HRT : Hid (R = true) := by show _ = _; rw [hRL, wm_nil]; rfl
            have hii : ¬ i < n := by omega
            have e1 : ((i : Int) == (n : Int)) = true := by rw [beq_iff_eq]; omega
            clear hL hRL HRL hin
            go_wp2
            try rw [Exit.noGoto_ret]
            go_ret
            exact ⟨by rw [HRT.out]; rfl, HJ.out⟩
          · have hin := HE.out.2.1 i x L hL
            have HC := Lib.hid (HS.out i x L · · hL)
            rcases x with _ | fl
            · have HN2 : Hid (∃ L, At (i + 1) L ∧ R = wm μ L []) := ⟨L, HE.out.2.2 i L hL, by rw [hRL, wm_star_nil]⟩
              have i3w : IntKind.i64.wrap ((i : Int) + 1) = ((i + 1 : Nat) : Int) := by rw [IntWalk.i64_in _ (by omega)]; omega
              clear hL hRL HRL
              go_wp2_with (go_at_call 73; ((with_reducible refine (HC.out _ HJ.out).mono ?_); rintro e w2 ⟨rfl, hj2⟩; have HJ2 := Lib.hid hj2; clear hj2))
              go_roundg (gk - 1)
              case rel => exact ⟨i + 1, by go_num, by omega, HN2.out, HJ2.out⟩
              case measure => omega
            · have HRF : Hid (R = false) := by show _ = _; rw [hRL, wm_some_nil]
              have e1 : ((i : Int) == (n : Int)) = false := by rw [beq_eq_false_iff_ne]; omega
              clear hL hRL HRL
              go_wp2_with (go_at_call 73; ((with_reducible refine (HC.out _ HJ.out).mono ?_); rintro e w2 ⟨rfl, hj2⟩; have HJ2 := Lib.hid hj2; clear hj2))
              try rw [Exit.noGoto_ret]
              go_ret
              exact ⟨by rw [HRF.out]; rfl, HJ2.out⟩

set_option maxHeartbeats 4000000 in
set_option maxRecDepth 4000 in
theorem fits_parts {τ α : Type} (μ : τ → α → Bool) (At : Nat → List (Option τ) → Prop) (T : List α) (R : Bool) (n m b1 b2 : Nat) (w : World) (J : World → Prop) (hm : m = T.length) (hn2 : n ≤ 1048576) (hm2 : m ≤ 1048576)
    (HE : Hid ((∀ i, At i [] → i = n) ∧ (∀ i x L, At i (x :: L) → i < n) ∧ (∀ i L, At i (none :: L) → At (i + 1) L)))
    (HS : Hid (∀ (i : Nat) (x : Option τ) (L : List (Option τ)) (w' : World), J w' → At i (x :: L) → Calls Tryd.prog 59 #[.int .i64 (i : Int), .pointer (some ⟨b1, 0, none⟩)] w' fun e w'' => e = .returned (.bool x.isNone) ∧ J w''))
    (HM : Hid (∀ (i j : Nat) (f : τ) (L : List (Option τ)) (c : α), At i (some f :: L) → (h : j < T.length) → c = T[j] → ∃ N : Int, (∀ w' : World, J w' → Calls Tryd.prog 60 #[.int .i64 (i : Int), .int .i64 (j : Int), .pointer (some ⟨b1, 0, none⟩), .pointer (some ⟨b2, 0, none⟩)] w' fun e w'' => e = .returned (.tuple #[.bool (μ f c), .int .i64 N]) ∧ J w'') ∧ (μ f c = true → ∃ k : Nat, N = k ∧ At k L)))
    (HJ : Hid (J w)) (L0 : List (Option τ)) (h0 : At 0 L0) (hR : R = wm μ L0 T) :
    Calls Tryd.prog 61 #[.int .i64 (n : Int), .int .i64 (m : Int), .func (.func 59) #[] #[.pointer (some ⟨b1, 0, none⟩)], .func (.func 60) #[] #[.pointer (some ⟨b1, 0, none⟩), .pointer (some ⟨b2, 0, none⟩)]] w fun e w' => e = .returned (.bool R) ∧ J w' := by
  have HN0 : Hid (Now μ At R T (-1) 0 0 0) := ⟨L0, h0, Nat.zero_le _, Nat.le_refl _, .inl ⟨rfl, rfl, hR⟩⟩
  have HMT := Lib.hid hm
  clear hm h0 hR
  go_enter Tryd.func61, Tryd.ntmps61
  go_wp2
  go_step3
  go_wp2
  go_step3
  go_wp2
  go_loopg [9, 10, 11] m (fun g av iv fv wx => ∃ (aS : Int) (i f : Nat), av = .int .i64 aS ∧ iv = .int .i64 (i : Int) ∧ fv = .int .i64 (f : Int) ∧ f + g = m ∧ Hid (Now μ At R T aS i f f) ∧ Hid (J wx))
  case atStart => exact ⟨-1, 0, 0, rfl, rfl, rfl, by omega, HN0.out, HJ.out⟩
  case round =>
    clear HN0 HJ
    obtain ⟨aS0, i0, f0, rfl, rfl, rfl, hfm, HN, HJ⟩ := hrel
    obtain ⟨gO, hgO⟩ : ∃ gO, gO = gk := ⟨_, rfl⟩
    rw [← hgO] at hfm
    obtain ⟨wO, hwO⟩ : ∃ wO, wO = wr := ⟨_, rfl⟩
    rw [← hwO] at HJ ⊢
    clear hwO
    go_wp2
    go_loopg [9, 10, 11, 12] gO (fun g av iv fv jv wx => ∃ (aS : Int) (i f j : Nat), av = .int .i64 aS ∧ iv = .int .i64 (i : Int) ∧ fv = .int .i64 (f : Int) ∧ jv = .int .i64 (j : Int) ∧ j + g = m ∧ f0 ≤ f ∧ f ≤ j ∧ Hid (Now μ At R T aS i f j) ∧ Hid (J wx))
    case atStart => exact ⟨aS0, i0, f0, f0, rfl, rfl, rfl, rfl, hfm, Nat.le_refl _, Nat.le_refl _, HN.out, HJ.out⟩
    case round =>
      clear HN HJ
      obtain ⟨aS1, i1, f1, j, rfl, rfl, rfl, rfl, hjm, hff, hfj, HN, HJ⟩ := hrel
      obtain ⟨gI, hgI⟩ : ∃ gI, gI = gk := ⟨_, rfl⟩
      rw [← hgI] at hjm
      obtain ⟨wI, hwI⟩ : ∃ wI, wI = wr := ⟨_, rfl⟩
      rw [← hwI] at HJ ⊢
      clear hwI
      by_cases hlt : j < m
      · go_wp2
        go_loopg [9, 10, 11] (n + 1) (fun g av iv fv wx => ∃ (aS : Int) (i f : Nat), av = .int .i64 aS ∧ iv = .int .i64 (i : Int) ∧ fv = .int .i64 (f : Int) ∧ i + g ≥ n + 1 ∧ f0 ≤ f ∧ f ≤ j ∧ Hid (Now μ At R T aS i f j) ∧ Hid (J wx))
        case atStart => exact ⟨aS1, i1, f1, rfl, rfl, rfl, by omega, hff, hfj, HN.out, HJ.out⟩
        case round =>
          clear HN HJ
          obtain ⟨aS, i, f, rfl, rfl, rfl, hig, hff, hfj, HN, HJ⟩ := hrel
          obtain ⟨gS, hgS⟩ : ∃ gS, gS = gk := ⟨_, rfl⟩
          rw [← hgS] at hig
          obtain ⟨L, hL, hjl, hfj2, hnow⟩ := HN.out
          have hjT : j < T.length := by rw [← HMT.out]; exact hlt
          have i1w : IntKind.i64.wrap ((f : Int) + 1) = ((f + 1 : Nat) : Int) := by rw [IntWalk.i64_in _ (by omega)]; omega
          have i2w : IntKind.i64.wrap ((j : Int) + 1) = ((j + 1 : Nat) : Int) := by rw [IntWalk.i64_in _ (by omega)]; omega
          have hmiss : wm μ L (T.drop j) = false → (aS = -1 ∧ R = false) ∨ ∃ k : Nat, aS = k ∧ Now μ At R T aS k (f + 1) (f + 1) := fun hw => by
            rcases hnow with ⟨h1, h2, h3⟩ | ⟨k, S, h1, h2, h3⟩
            · exact .inl ⟨h1, by rw [h3, hw]⟩
            · exact .inr ⟨k, h1, S, h2, by omega, Nat.le_refl _, .inr ⟨k, S, h1, h2, h3.back μ hjT hw⟩⟩
          rcases L with _ | ⟨x, L⟩
          · have hin := HE.out.1 i hL
            have hw : wm μ [] (T.drop j) = false := by rw [List.drop_eq_getElem_cons hjT, wm_nil]; rfl
            have hii : ¬ i < n := by omega
            rcases hmiss hw with ⟨rfl, hRf⟩ | ⟨k, rfl, hN2⟩
            · have HRF := Lib.hid hRf
              clear hmiss hnow HN hw hRf hin hL
              go_wp2
              try rw [Exit.noGoto_ret]
              go_ret
              exact ⟨by rw [HRF.out]; rfl, HJ.out⟩
            · have HN2 := Lib.hid hN2
              clear hmiss hnow HN hw hN2 hin hL
              go_wp2
              go_roundg (m - (f + 1))
              case rel => exact ⟨_, k, f + 1, rfl, rfl, by go_num, by omega, HN2.out, HJ.out⟩
              case measure => omega
          · have hin := HE.out.2.1 i x L hL
            have HC := Lib.hid (HS.out i x L · · hL)
            rcases x with _ | fl
            · have HN2 : Hid (Now μ At R T (i + 1 : Nat) (i + 1) j j) := ⟨L, HE.out.2.2 i L hL, by omega, Nat.le_refl _, .inr ⟨i + 1, L, rfl, HE.out.2.2 i L hL, by
                rcases hnow with ⟨h1, h2, h3⟩ | ⟨k, S, h1, h2, h3⟩
                · exact Behind.start μ (by omega) h3
                · exact h3.star μ⟩⟩
              have i3w : IntKind.i64.wrap ((i : Int) + 1) = ((i + 1 : Nat) : Int) := by rw [IntWalk.i64_in _ (by omega)]; omega
              clear hmiss hnow HN hL
              go_wp2_with (go_at_call 59; ((with_reducible refine (HC.out _ HJ.out).mono ?_); rintro e w2 ⟨rfl, hj2⟩; have HJ2 := Lib.hid hj2; clear hj2))
              go_roundg (gS - 1)
              case rel => exact ⟨_, i + 1, j, rfl, by go_num, rfl, by omega, by omega, Nat.le_refl _, HN2.out, HJ2.out⟩
              case measure => omega
            · obtain ⟨c, hc⟩ : ∃ c, c = T[j] := ⟨_, rfl⟩
              obtain ⟨N, hcall, hgo⟩ := HM.out i j fl L c hL hjT hc
              have HCM := Lib.hid hcall
              have hw0 : wm μ (some fl :: L) (T.drop j) = (μ fl c && wm μ L (T.drop (j + 1))) := by rw [List.drop_eq_getElem_cons hjT, wm_some, hc]
              clear hcall
              by_cases hf : μ fl c = true
              · obtain ⟨k, rfl, hk⟩ := hgo hf
                have HN2 : Hid (Now μ At R T aS k f (j + 1)) := ⟨L, hk, by omega, by omega, by
                  rcases hnow with ⟨h1, h2, h3⟩ | ⟨k', S, h1, h2, h3⟩
                  · exact .inl ⟨h1, h2, by rw [h3, hw0, hf, Bool.true_and]⟩
                  · exact .inr ⟨k', S, h1, h2, h3.step μ hjT hc hf⟩⟩
                rw [hf] at HCM
                clear hmiss hnow HN hL hgo hw0 hf hc
                go_wp2_with (first
                  | (go_at_call 59; ((with_reducible refine (HC.out _ HJ.out).mono ?_); rintro e w2 ⟨rfl, hj2⟩; have HJ2 := Lib.hid hj2; clear hj2))
                  | (go_at_call 60; ((with_reducible refine (HCM.out _ HJ2.out).mono ?_); rintro e w3 ⟨rfl, hj3⟩; have HJ3 := Lib.hid hj3; clear hj3)))
                go_roundg (gI - 1)
                case rel => exact ⟨aS, k, f, j + 1, rfl, rfl, rfl, by go_num, by omega, hff, by omega, HN2.out, HJ3.out⟩
                case measure => omega
              · have hf2 : μ fl c = false := by simpa using hf
                have hw : wm μ (some fl :: L) (T.drop j) = false := by rw [hw0, hf2]; rfl
                rw [hf2] at HCM
                rcases hmiss hw with ⟨rfl, hRf⟩ | ⟨k, rfl, hN2⟩
                · have HRF := Lib.hid hRf
                  clear hmiss hnow HN hw hRf hL hgo hw0 hf hf2 hc
                  go_wp2_with (first
                    | (go_at_call 59; ((with_reducible refine (HC.out _ HJ.out).mono ?_); rintro e w2 ⟨rfl, hj2⟩; have HJ2 := Lib.hid hj2; clear hj2))
                    | (go_at_call 60; ((with_reducible refine (HCM.out _ HJ2.out).mono ?_); rintro e w3 ⟨rfl, hj3⟩; have HJ3 := Lib.hid hj3; clear hj3)))
                  try rw [Exit.noGoto_ret]
                  go_ret
                  exact ⟨by rw [HRF.out]; rfl, HJ3.out⟩
                · have HN2 := Lib.hid hN2
                  clear hmiss hnow HN hw hN2 hL hgo hw0 hf hf2 hc
                  go_wp2_with (first
                    | (go_at_call 59; ((with_reducible refine (HC.out _ HJ.out).mono ?_); rintro e w2 ⟨rfl, hj2⟩; have HJ2 := Lib.hid hj2; clear hj2))
                    | (go_at_call 60; ((with_reducible refine (HCM.out _ HJ2.out).mono ?_); rintro e w3 ⟨rfl, hj3⟩; have HJ3 := Lib.hid hj3; clear hj3)))
                  go_roundg (m - (f + 1))
                  case rel => exact ⟨_, k, f + 1, rfl, rfl, by go_num, by omega, HN2.out, HJ3.out⟩
                  case measure => omega
      · obtain rfl : j = m := by omega
        have HRL : Hid (∃ L, At i1 L ∧ R = wm μ L []) := by
          obtain ⟨L, hL, hjl, hfj2, hnow⟩ := HN.out
          refine ⟨L, hL, ?_⟩
          rcases hnow with ⟨h1, h2, h3⟩ | ⟨k, S, h1, h2, h3⟩
          · rw [h3, HMT.out, List.drop_length]
          · rw [HMT.out] at h3
            exact h3.done μ
        clear HN
        go_wp2
        go_loopg [10] (n + 1) (fun g iv wx => ∃ i : Nat, iv = .int .i64 (i : Int) ∧ i + g ≥ n + 1 ∧ Hid (∃ L, At i L ∧ R = wm μ L []) ∧ Hid (J wx))
        case atStart => exact ⟨i1, rfl, by omega, HRL.out, HJ.out⟩
        case round =>
          clear HRL HJ
          obtain ⟨i, rfl, hig, HRL, HJ⟩ := hrel
          obtain ⟨L, hL, hRL⟩ := HRL.out
          rcases L with _ | ⟨x, L⟩
          · have hin := HE.out.1 i hL
            have HRT : Hid (R = true) := by show _ = _; rw [hRL, wm_nil]; rfl
            have hii : ¬ i < n := by omega
            have e1 : ((i : Int) == (n : Int)) = true := by rw [beq_iff_eq]; omega
            clear hL hRL HRL hin
            go_wp2
            try rw [Exit.noGoto_ret]
            go_ret
            exact ⟨by rw [HRT.out]; rfl, HJ.out⟩
          · have hin := HE.out.2.1 i x L hL
            have HC := Lib.hid (HS.out i x L · · hL)
            rcases x with _ | fl
            · have HN2 : Hid (∃ L, At (i + 1) L ∧ R = wm μ L []) := ⟨L, HE.out.2.2 i L hL, by rw [hRL, wm_star_nil]⟩
              have i3w : IntKind.i64.wrap ((i : Int) + 1) = ((i + 1 : Nat) : Int) := by rw [IntWalk.i64_in _ (by omega)]; omega
              clear hL hRL HRL
              go_wp2_with (go_at_call 59; ((with_reducible refine (HC.out _ HJ.out).mono ?_); rintro e w2 ⟨rfl, hj2⟩; have HJ2 := Lib.hid hj2; clear hj2))
              go_roundg (gk - 1)
              case rel => exact ⟨i + 1, by go_num, by omega, HN2.out, HJ2.out⟩
              case measure => omega
            · have HRF : Hid (R = false) := by show _ = _; rw [hRL, wm_some_nil]
              have e1 : ((i : Int) == (n : Int)) = false := by rw [beq_eq_false_iff_ne]; omega
              clear hL hRL HRL
              go_wp2_with (go_at_call 59; ((with_reducible refine (HC.out _ HJ.out).mono ?_); rintro e w2 ⟨rfl, hj2⟩; have HJ2 := Lib.hid hj2; clear hj2))
              try rw [Exit.noGoto_ret]
              go_ret
              exact ⟨by rw [HRF.out]; rfl, HJ2.out⟩
end Go.Proofs.YtdgcmapmnkopaaaDoor
