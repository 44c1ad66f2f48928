/-
  The walk of the reference's Least.
-/
import Derived.Test.YtidghjalfbklnaaDfRLeast
import Derived.Test.YtidghjalfbklnaaDfLens
namespace Go.Proofs.Ytidghjalfbklnaa
open Go.RowKit

theorem bd_ext0 {i j d n : Nat} {acc : List Ed} (h : Bd 0 i j acc) (h1 : 1 ≤ d + n) : Bd 0 (i + d) (j + n) (ext acc ⟨i, d, j, n⟩) := by
  have := Bd.ext h (d := d) (n := n) h1
  simpa using this
theorem last_eq {r r' : List Ed} {l l' : Ed} (h : r ++ [l] = r' ++ [l']) : l = l' := by
  have := congrArg List.getLast? h
  rw [List.getLast?_concat, List.getLast?_concat] at this
  exact Option.some.inj this
theorem Al.nil (i j : Nat) : Al [] i j := fun r l h => absurd h (by simp)
theorem al_ext {i j d n : Nat} {acc : List Ed} (h : Al acc i j) : Al (ext acc ⟨i, d, j, n⟩) (i + d) (j + n) := by
  rcases List.eq_nil_or_concat acc with rfl | ⟨r, l, rfl⟩
  · rw [ext_nil]
    intro r l hl
    have := last_eq (r := []) hl
    subst this
    simp only
    omega
  · rw [List.concat_eq_append] at h ⊢
    have h0 := h r l rfl
    by_cases hf : l.f + l.d = (i : Int)
    · rw [ext_join r l ⟨i, d, j, n⟩ hf]
      intro r2 l2 hl
      have := last_eq hl
      subst this
      simp only
      omega
    · rw [ext_new r l ⟨i, d, j, n⟩ hf]
      intro r2 l2 hl
      have := last_eq hl
      subst this
      simp only
      omega
theorem Al.same {i j : Nat} {acc : List Ed} (h : Al acc i j) : Al acc (i + 1) (j + 1) := fun r l e => by
  have := h r l e
  omega

set_option maxHeartbeats 8000000 in
set_option maxRecDepth 4000 in
theorem rleast_any (la lb : List (List UInt8)) (p q : Option Addr) (c d n m : Nat) (w : World) (hn : n = la.length) (hm : m = lb.length) (hp : SRw w p la) (hq : SRw w q lb) (hc : n ≤ c) (hd : m ≤ d) (hl : n ≤ 5000) (hl2 : m ≤ 5000) :
    Calls Try.prog 79 #[.slice p n c, .slice q m d] w fun e w' => (∃ v, e = .returned v ∧ EOw w' w.heap.size v (leastL la lb)) ∧ Below w.heap.size w w' := by
  have HN := Lib.hid hn
  have HM := Lib.hid hm
  have HP := Lib.hid hp
  have HQ := Lib.hid hq
  obtain ⟨R, hR⟩ : ∃ R, R = leastL la lb := ⟨_, rfl⟩
  rw [← hR]
  by_cases hbig : n ≤ 4096 ∧ m ≤ 4096
  · have HB : Hid (R = lst (la.drop 0) (lb.drop 0) ((0 : Nat) : Int) ((0 : Nat) : Int) []) := by show _ = _; rw [hR, leastL_small (by rw [← hn, ← hm]; exact hbig)]; rfl
    have HTAB := Lib.hid (rtable_any la lb p q c d n m w hn hm hp hq hbig.1 hbig.2)
    obtain ⟨hn4, hm4⟩ := hbig
    clear hn hm hp hq hR
    go_enter Try.func79, Try.ntmps79
    go_wp2_with (go_at_call 99; ((with_reducible refine HTAB.out.mono ?_); rintro e w1 ⟨T, cap, rfl, hT, hb1⟩; have HT0 := Lib.hid hT; have HW0 := Lib.hid hb1; clear hT hb1))
    obtain ⟨B, hB⟩ : ∃ B, B = w1.heap.size := ⟨_, rfl⟩
    obtain ⟨N, hN⟩ : ∃ N, N = n + 1 := ⟨_, rfl⟩
    obtain ⟨M, hM⟩ : ∃ M, M = m + 1 := ⟨_, rfl⟩
    have HBB := Lib.hid hB
    have HMM := Lib.hid hM
    have hiN : n + 1 ≤ N := by omega
    have hjM : m + 1 ≤ M := by omega
    rw [← hN]
    clear HTAB hN hM hB
    go_wp2
    go_loopw [6, 7, 8] (fun ov iv jv wr => ∃ (i j L : Nat) (acc : List Ed) (g : Option Addr) (cp : Nat), i ≤ n ∧ j ≤ m ∧ L ≤ i + j ∧ ov = .slice g L cp ∧ iv = .int .i64 (i : Int) ∧ jv = .int .i64 (j : Int) ∧ Hid (L = acc.length) ∧ Hid (EOw wr B (.slice g L cp) acc) ∧ Hid (Bd 0 i j acc) ∧ Hid (Al acc i j) ∧ Hid (R = lst (la.drop i) (lb.drop j) (i : Int) (j : Int) acc) ∧ Hid (Below B w1 wr)) (fun _ iv jv _ => (n - (intOf iv).toNat) + (m - (intOf jv).toNat))
    case atStart => exact ⟨0, 0, 0, [], none, 0, by omega, by omega, by omega, rfl, rfl, rfl, rfl, EOw.nil _ _, Bd.nil _ _ _, Al.nil _ _, HB.out, Below.refl _ _⟩
    case round =>
      clear HB
      obtain ⟨i, j, L, acc, gO, cp, hi, hj, hL, rfl, rfl, rfl, HL, HO, HBD, HAL, HX, HW⟩ := hrel
      have HBW : Hid (Below w1.heap.size w1 wr) := by show Below _ _ _; rw [← HBB.out]; exact HW.out
      have HWW : Hid (Below w.heap.size w wr) := HW0.out.trans (HBW.out.mono HW0.out.size)
      have HADD : Hid (∀ (w' : World) (d k : Int), (0 ≤ d ∧ d ≤ 8192) → (0 ≤ k ∧ k ≤ 8192) → Below wr.heap.size wr w' → Calls Try.prog 100 #[.slice gO L cp, .agg #[.int .i64 (i : Int), .int .i64 d, .int .i64 (j : Int), .int .i64 k]] w' fun e' w'' => (∃ v', e' = .returned v' ∧ EOw w'' B v' (ext acc ⟨i, d, j, k⟩)) ∧ Below B w' w'') := fun w' d k h1 h2 hb =>
        radd_any acc ⟨i, d, j, k⟩ _ B w' (eow_below HO.out hb) (by have := HBW.out.size; have := HBB.out; have := hb.size; omega) (by have := HL.out; omega) (fun r l e => by have := HBD.out.each l (by rw [e]; simp); omega) (by simp only; omega) (fun r l e h => by have := HAL.out r l e; simp only at h ⊢; omega)
      have HNX : Hid (∀ (w' : World) (d k : Nat) (v : Value), EOw w' B v (ext acc ⟨i, d, j, k⟩) → 1 ≤ d + k → ∃ g L2 cp2, v = .slice g L2 cp2 ∧ L2 = (ext acc ⟨i, d, j, k⟩).length ∧ L2 ≤ (i + d) + (j + k)) := fun w' d k v ho h1 => by
        obtain ⟨g, cp2, rfl⟩ := ho.shapeN rfl
        exact ⟨g, _, cp2, rfl, rfl, by have := ext_len acc ⟨i, d, j, k⟩; have := HL.out; omega⟩
      by_cases hA : i < n ∧ j < m
      · obtain ⟨hin, hjm⟩ := hA
        have hia : i < la.length := by rw [← HN.out]; omega
        have hjb : j < lb.length := by rw [← HM.out]; omega
        obtain ⟨g, o, rfl, hg, a0⟩ := HP.out.below HWW.out i hia
        obtain ⟨h, o2, rfl, hh, b0⟩ := HQ.out.below HWW.out j hjb
        have hX := HX.out
        rw [List.drop_eq_getElem_cons hia, List.drop_eq_getElem_cons hjb] at hX
        obtain ⟨g1, t1, u1⟩ := (HT0.out.below HBW.out) (i + 1) (by omega)
        obtain ⟨g2, t2, u2⟩ := (HT0.out.below HBW.out) i (by omega)
        replace u1 := u1 j (by omega)
        replace u2 := u2 (j + 1) (by omega)
        rw [← HMM.out] at t1 t2
        rw [List.drop_eq_getElem_cons hjb] at u1
        rw [List.drop_eq_getElem_cons hia] at u2
        have hdj := List.drop_eq_getElem_cons hjb
        have hdi := List.drop_eq_getElem_cons hia
        obtain ⟨x, hx⟩ : ∃ x, x = la[i] := ⟨_, rfl⟩
        obtain ⟨y, hy⟩ : ∃ y, y = lb[j] := ⟨_, rfl⟩
        rw [← hx] at a0 hX u2 hdi
        rw [← hy] at b0 hX u1 hdj
        obtain ⟨L1, hL1⟩ : ∃ L1, L1 = lcs (la.drop (i + 1)) (y :: lb.drop (j + 1)) := ⟨_, rfl⟩
        obtain ⟨L2, hL2⟩ : ∃ L2, L2 = lcs (x :: la.drop (i + 1)) (lb.drop (j + 1)) := ⟨_, rfl⟩
        rw [← hL1] at u1
        rw [← hL2] at u2
        have i1 : IntKind.i64.wrap ((i : Int) + 1) = ((i + 1 : Nat) : Int) := by rw [IntWalk.i64_in _ (by omega)]; omega
        have i2 : IntKind.i64.wrap ((j : Int) + 1) = ((j + 1 : Nat) : Int) := by rw [IntWalk.i64_in _ (by omega)]; omega
        have k1 : i + 1 < N := by omega
        have k2 : i < N := by omega
        have k3 : j < M := by omega
        have k4 : j + 1 < M := by omega
        have hjm2 : ((j : Int) == (m : Int)) = false := by rw [beq_eq_false_iff_ne]; omega
        have HDJ := Lib.hid hdj
        have HDI := Lib.hid hdi
        by_cases he : x = y
        · obtain ⟨e1, e2⟩ := str_is he
          have HX2 : Hid (R = lst (la.drop (i + 1)) (lb.drop (j + 1)) ((i + 1 : Nat) : Int) ((j + 1 : Nat) : Int) acc) := by show _ = _; rw [hX, he, lst_same]; rfl
          have HBD2 := Lib.hid (HBD.out.more (Nat.le_succ i) (Nat.le_succ j))
          have HAL2 := Lib.hid (Al.same HAL.out)
          obtain ⟨s, hs⟩ : ∃ s, s = str x := ⟨_, rfl⟩
          obtain ⟨t, ht⟩ : ∃ t, t = str y := ⟨_, rfl⟩
          rw [← hs] at a0 e1 e2
          rw [← ht] at b0 e1 e2
          clear hs ht he hx hy hia hjb hg hh hX hdi hdj hL1 hL2 t1 t2 u1 u2
          go_wp2
          go_quiet (fail)
          go_wp2
          go_roundw
          case rel => exact ⟨i + 1, j + 1, L, acc, gO, cp, by omega, by omega, by omega, rfl, rfl, rfl, HL.out, eow_below HO.out (below_drewN (Below.refl _ _) _), HBD2.out, HAL2.out, HX2.out, below_drewN HW.out _⟩
          case measure => simp [intOf]; omega
        · obtain ⟨e1, e2⟩ := str_ne he
          by_cases hle : L2 ≤ L1
          · have HX2 : Hid (R = lst (la.drop (i + 1)) (lb.drop (j + 0)) ((i + 1 : Nat) : Int) ((j + 0 : Nat) : Int) (ext acc ⟨i, (1 : Nat), j, (0 : Nat)⟩)) := by
              show _ = _
              rw [hX, lst_del he (by rw [← hL1, ← hL2]; exact hle), ← HDJ.out]
              rfl
            have HBD2 : Hid (Bd 0 (i + 1) (j + 0) (ext acc ⟨i, (1 : Nat), j, (0 : Nat)⟩)) := bd_ext0 HBD.out (by omega)
            have HAL2 : Hid (Al (ext acc ⟨i, (1 : Nat), j, (0 : Nat)⟩) (i + 1) (j + 0)) := al_ext HAL.out
            obtain ⟨s, hs⟩ : ∃ s, s = str x := ⟨_, rfl⟩
            obtain ⟨t, ht⟩ : ∃ t, t = str y := ⟨_, rfl⟩
            rw [← hs] at a0 e1 e2
            rw [← ht] at b0 e1 e2
            have hlD : decide (L2 ≤ L1) = true := decide_eq_true hle
            clear hs ht he hx hy hia hjb hg hh hX hdi hdj hL1 hL2
            go_wp2
            go_quiet (fail)
            go_wp2
            go_quiet (fail)
            go_wp2_with (go_at_call 100; ((with_reducible refine (HADD.out _ 1 0 (by decide) (by decide) (below_drewN (Below.refl _ _) _)).mono ?_); rintro e w2 ⟨⟨v2, rfl, ho2⟩, hb2⟩; obtain ⟨g3, L3, cp3, rfl, hL3, hL4⟩ := HNX.out _ 1 0 _ ho2 (by omega); have HO2 := Lib.hid ho2; have HB2 := Lib.hid hb2; have HL3 := Lib.hid hL3; clear ho2 hb2 hL3))
            go_roundw
            case rel => exact ⟨i + 1, j + 0, L3, _, g3, cp3, by omega, by omega, hL4, rfl, rfl, rfl, HL3.out, HO2.out, HBD2.out, HAL2.out, HX2.out, (below_drewN HW.out _).trans HB2.out⟩
            case measure => simp [intOf]; omega
          · have HX2 : Hid (R = lst (la.drop (i + 0)) (lb.drop (j + 1)) ((i + 0 : Nat) : Int) ((j + 1 : Nat) : Int) (ext acc ⟨i, (0 : Nat), j, (1 : Nat)⟩)) := by
              show _ = _
              rw [hX, lst_ins he (by rw [← hL1, ← hL2]; exact hle), ← HDI.out]
              rfl
            have HBD2 : Hid (Bd 0 (i + 0) (j + 1) (ext acc ⟨i, (0 : Nat), j, (1 : Nat)⟩)) := bd_ext0 HBD.out (by omega)
            have HAL2 : Hid (Al (ext acc ⟨i, (0 : Nat), j, (1 : Nat)⟩) (i + 0) (j + 1)) := al_ext HAL.out
            obtain ⟨s, hs⟩ : ∃ s, s = str x := ⟨_, rfl⟩
            obtain ⟨t, ht⟩ : ∃ t, t = str y := ⟨_, rfl⟩
            rw [← hs] at a0 e1 e2
            rw [← ht] at b0 e1 e2
            have hlD : decide (L2 ≤ L1) = false := decide_eq_false hle
            clear hs ht he hx hy hia hjb hg hh hX hdi hdj hL1 hL2
            go_wp2
            go_quiet (fail)
            go_wp2
            go_quiet (fail)
            go_wp2_with (go_at_call 100; ((with_reducible refine (HADD.out _ 0 1 (by decide) (by decide) (below_drewN (Below.refl _ _) _)).mono ?_); rintro e w2 ⟨⟨v2, rfl, ho2⟩, hb2⟩; obtain ⟨g3, L3, cp3, rfl, hL3, hL4⟩ := HNX.out _ 0 1 _ ho2 (by omega); have HO2 := Lib.hid ho2; have HB2 := Lib.hid hb2; have HL3 := Lib.hid hL3; clear ho2 hb2 hL3))
            go_roundw
            case rel => exact ⟨i + 0, j + 1, L3, _, g3, cp3, by omega, by omega, hL4, rfl, rfl, rfl, HL3.out, HO2.out, HBD2.out, HAL2.out, HX2.out, (below_drewN HW.out _).trans HB2.out⟩
            case measure => simp [intOf]; omega
      · by_cases hin : i < n
        · obtain rfl : j = m := by omega
          have hia : i < la.length := by rw [← HN.out]; omega
          have HX2 : Hid (R = lst (la.drop (i + 1)) (lb.drop (j + 0)) ((i + 1 : Nat) : Int) ((j + 0 : Nat) : Int) (ext acc ⟨i, (1 : Nat), j, (0 : Nat)⟩)) := by
            show _ = _
            rw [HX.out, HM.out, List.drop_length, List.drop_eq_getElem_cons hia, lst_left1, show lb.drop (lb.length + 0) = [] from List.drop_length]
            rfl
          have HBD2 : Hid (Bd 0 (i + 1) (j + 0) (ext acc ⟨i, (1 : Nat), j, (0 : Nat)⟩)) := bd_ext0 HBD.out (by omega)
          have HAL2 : Hid (Al (ext acc ⟨i, (1 : Nat), j, (0 : Nat)⟩) (i + 1) (j + 0)) := al_ext HAL.out
          have i1 : IntKind.i64.wrap ((i : Int) + 1) = ((i + 1 : Nat) : Int) := by rw [IntWalk.i64_in _ (by omega)]; omega
          have hjj : ((j : Int) == (j : Int)) = true := beq_self_eq_true _
          clear hA hia
          go_wp2
          go_quiet (fail)
          go_wp2
          go_quiet (fail)
          go_wp2_with (go_at_call 100; ((with_reducible refine (HADD.out _ 1 0 (by decide) (by decide) (below_drewN (Below.refl _ _) _)).mono ?_); rintro e w2 ⟨⟨v2, rfl, ho2⟩, hb2⟩; obtain ⟨g3, L3, cp3, rfl, hL3, hL4⟩ := HNX.out _ 1 0 _ ho2 (by omega); have HO2 := Lib.hid ho2; have HB2 := Lib.hid hb2; have HL3 := Lib.hid hL3; clear ho2 hb2 hL3))
          go_roundw
          case rel => exact ⟨i + 1, j + 0, L3, _, g3, cp3, by omega, by omega, hL4, rfl, rfl, rfl, HL3.out, HO2.out, HBD2.out, HAL2.out, HX2.out, (below_drewN HW.out _).trans HB2.out⟩
          case measure => simp [intOf]; omega
        · obtain rfl : i = n := by omega
          by_cases hjm : j < m
          · have hjb : j < lb.length := by rw [← HM.out]; omega
            have HX2 : Hid (R = lst (la.drop (i + 0)) (lb.drop (j + 1)) ((i + 0 : Nat) : Int) ((j + 1 : Nat) : Int) (ext acc ⟨i, (0 : Nat), j, (1 : Nat)⟩)) := by
              show _ = _
              rw [HX.out, HN.out, List.drop_length, List.drop_eq_getElem_cons hjb, lst_right1, show la.drop (la.length + 0) = [] from List.drop_length]
              rfl
            have HBD2 : Hid (Bd 0 (i + 0) (j + 1) (ext acc ⟨i, (0 : Nat), j, (1 : Nat)⟩)) := bd_ext0 HBD.out (by omega)
            have HAL2 : Hid (Al (ext acc ⟨i, (0 : Nat), j, (1 : Nat)⟩) (i + 0) (j + 1)) := al_ext HAL.out
            have i2 : IntKind.i64.wrap ((j : Int) + 1) = ((j + 1 : Nat) : Int) := by rw [IntWalk.i64_in _ (by omega)]; omega
            have hjm2 : ((j : Int) == (m : Int)) = false := by rw [beq_eq_false_iff_ne]; omega
            clear hA hjb
            go_wp2
            go_quiet (fail)
            go_wp2
            go_quiet (fail)
            go_wp2_with (go_at_call 100; ((with_reducible refine (HADD.out _ 0 1 (by decide) (by decide) (below_drewN (Below.refl _ _) _)).mono ?_); rintro e w2 ⟨⟨v2, rfl, ho2⟩, hb2⟩; obtain ⟨g3, L3, cp3, rfl, hL3, hL4⟩ := HNX.out _ 0 1 _ ho2 (by omega); have HO2 := Lib.hid ho2; have HB2 := Lib.hid hb2; have HL3 := Lib.hid hL3; clear ho2 hb2 hL3))
            go_roundw
            case rel => exact ⟨i + 0, j + 1, L3, _, g3, cp3, by omega, by omega, hL4, rfl, rfl, rfl, HL3.out, HO2.out, HBD2.out, HAL2.out, HX2.out, (below_drewN HW.out _).trans HB2.out⟩
            case measure => simp [intOf]; omega
          · obtain rfl : j = m := by omega
            have HX2 : Hid (R = acc) := by
              show _ = _
              rw [HX.out, HN.out, HM.out, List.drop_length, List.drop_length, lst_none]
            have HLO : Hid (w.heap.size ≤ B) := by show _ ≤ _; rw [HBB.out]; exact HW0.out.size
            clear hA
            go_wp2
            go_ret
            exact ⟨⟨_, rfl, by rw [HX2.out]; exact HO.out.lower HLO.out⟩, HWW.out⟩
  · have hbigs : (4096 : Int) < n ∨ ((n : Int) ≤ 4096 ∧ (4096 : Int) < m) := by omega
    have hRR : R = if la = lb then [] else [⟨0, (n : Int), 0, (m : Int)⟩] := by
      rw [hR, leastL]
      by_cases he : la = lb
      · rw [if_pos he, if_pos he]
      · rw [if_neg he, if_neg he, if_neg (by rw [← hn, ← hm]; exact hbig), hn, hm]
    have HSAME := Lib.hid (fun (B : Bool) (hB : B = decide (la = lb)) => rsame_any la lb p q c d n m B w hn hm hp hq (by omega) (by omega) hB)
    by_cases he : la = lb
    · have HX : Hid (R = []) := by show _ = _; rw [hRR, if_pos he]
      have HS := Lib.hid (HSAME.out true (decide_eq_true he).symm)
      clear hn hm hp hq hR hRR HSAME he hbig
      rcases hbigs with l1 | ⟨l1, l2⟩
      all_goals go_enter Try.func79, Try.ntmps79
      all_goals go_wp2_with (go_at_call 98; ((with_reducible refine HS.out.mono ?_); rintro e w' ⟨rfl, x, rfl⟩))
      all_goals go_ret
      all_goals exact ⟨⟨_, rfl, by rw [HX.out]; exact EOw.nil _ _⟩, below_drewN (Below.refl _ _) _⟩
    · have HX : Hid (R = [⟨0, (n : Int), 0, (m : Int)⟩]) := by show _ = _; rw [hRR, if_neg he]
      have HS := Lib.hid (HSAME.out false (decide_eq_false he).symm)
      have hrow : ∀ w' : World, EOw (w'.alloc (.cells #[.int .i64 0, .int .i64 (n : Int), .int .i64 0, .int .i64 (m : Int)] 52)) w'.heap.size (.slice (some ⟨w'.heap.size, 0, none⟩) 1 1) [⟨0, (n : Int), 0, (m : Int)⟩] := fun w' =>
        ⟨rfl, .inr ⟨w'.heap.size, 1, _, rfl, Nat.le_refl _, heap_alloc_new w' _, Nat.le_refl _, by decide, rfl, rfl⟩⟩
      have HROW := Lib.hid hrow
      clear hn hm hp hq hR hRR HSAME he hbig hrow
      rcases hbigs with l1 | ⟨l1, l2⟩
      all_goals go_enter Try.func79, Try.ntmps79
      all_goals go_wp2_with (go_at_call 98; ((with_reducible refine HS.out.mono ?_); rintro e w' ⟨rfl, x, rfl⟩))
      all_goals go_ret
      all_goals exact ⟨⟨_, rfl, by rw [HX.out]; exact HROW.out _⟩, below_new (show Below w.heap.size w _ from (below_drewN (Below.refl _ _) _)) _⟩
end Go.Proofs.Ytidghjalfbklnaa
