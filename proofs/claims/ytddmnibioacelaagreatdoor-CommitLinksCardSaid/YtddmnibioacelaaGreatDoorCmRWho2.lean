/-
  The walk of the reference's ParseWho.
-/
import Derived.Test.YtddmnibioacelaaGreatDoorCmRNamePk
import Derived.Deep.RegionHeld3
namespace Go.Proofs.YtddmnibioacelaaGreatDoor
open Go Go.RowKit

set_option maxHeartbeats 8000000 in
set_option maxRecDepth 8000 in
theorem rwhop_any (s : ByteArray) (w : World) (hs : s.size ≤ 1048576) : Calls Tryz.prog 24 #[.string s] w (WhoR (whoR s.data.toList) w) := by
  obtain ⟨R, hR⟩ : ∃ R, R = whoR s.data.toList := ⟨_, rfl⟩
  have hR0 := hR
  rw [← hR]
  have hat := who_at s.data.toList
  rw [← hR] at hat
  have hx := heap_alloc_new w (.cells #[.string ⟨#[]⟩, .string ⟨#[]⟩, .int .i64 0, .int .i64 0] 24)
  obtain ⟨w1, hw1⟩ : ∃ w1, w1 = w.alloc (.cells #[.string ⟨#[]⟩, .string ⟨#[]⟩, .int .i64 0, .int .i64 0] 24) := ⟨_, rfl⟩
  have hbx : Below w.heap.size w w1 := by rw [hw1]; exact below_new (Below.refl _ _) _
  rw [← hw1] at hx
  have HW1 := Lib.hid hw1
  have HRW := Lib.hid hx
  have HBX := Lib.hid hbx
  obtain ⟨y0, y1, y2, y3, z0, z1, z2, z3⟩ := pn_end hx
  have h1 : Hid (∀ w', Calls Tryz.prog 58 #[.string s, .string ⟨#[32, 60]⟩, .int .i64 ((0 : Nat) : Int)] w' fun e w'' => e = .returned (.int .i64 (findI s.data.toList [32, 60] 0)) ∧ w'' = w') := fun w' => rfnd_any s ⟨#[32, 60]⟩ 0 w' (by decide) (by decide) (by omega) (by omega)
  have h2 : Hid (∀ a : Nat, a ≤ s.size → ∀ w', Calls Tryz.prog 58 #[.string s, .string ⟨#[62, 32]⟩, .int .i64 (a : Int)] w' fun e w'' => e = .returned (.int .i64 (findI s.data.toList [62, 32] a)) ∧ w'' = w') := fun a ha w' => rfnd_any s ⟨#[62, 32]⟩ a w' (by decide) (by decide) (by omega) (by omega)
  have h3 : Hid (∀ a : Nat, a ≤ s.size + 2 → ∀ w', Calls Tryz.prog 58 #[.string s, .string ⟨#[32]⟩, .int .i64 (a : Int)] w' fun e w'' => e = .returned (.int .i64 (findI s.data.toList [32] a)) ∧ w'' = w') := fun a ha w' => rfnd_any s ⟨#[32]⟩ a w' (by decide) (by decide) (by omega) (by omega)
  clear hx hbx hw1
  rcases hat with ⟨ha, hq⟩ | ⟨a, ha, hal, hat⟩
  · have HQ := Lib.hid hq
    have HF1 : Hid (∀ w', Calls Tryz.prog 58 #[.string s, .string ⟨#[32, 60]⟩, .int .i64 0] w' fun e w'' => e = .returned (.int .i64 (-1)) ∧ w' = w'') := fun w' => (h1.out w').mono fun e w'' ⟨he, hw⟩ => ⟨by rw [he, ha], hw.symm⟩
    have HF2 := HF1
    have HF3 := HF1
    clear ha hq h1 h2 h3 hR hR0
    go_enter Tryz.func24, Tryz.ntmps24
    go_upto_region 1 with fail
    rw [← HW1.out]
    go_wp2_with (go_at_call 58; first
      | ((with_reducible refine (HF1.out _).mono ?_); rintro e wa ⟨rfl, rfl⟩)
      | ((with_reducible refine (HF2.out _).mono ?_); rintro e wb ⟨rfl, rfl⟩)
      | ((with_reducible refine (HF3.out _).mono ?_); rintro e wc ⟨rfl, rfl⟩))
    obtain ⟨d0, d1, d2, d3, _⟩ := pn_end (pn_row (v0 := .string ⟨#[]⟩) (v1 := .string ⟨#[]⟩) (v2 := .int .i64 0) (v3 := .int .i64 0) HRW.out)
    refine bodyPost_ret (v := .tuple #[.agg #[.string ⟨#[]⟩, .string ⟨#[]⟩, .int .i64 0, .int .i64 0], .int .i64 2]) (by simp [results, Tryz.results24, go_sem, d0, d1, d2, d3]) rfl (whoR_bad HQ.out (set4_below HBX.out (Nat.le_refl _)))
  have HF1 : Hid (∀ w', Calls Tryz.prog 58 #[.string s, .string ⟨#[32, 60]⟩, .int .i64 0] w' fun e w'' => e = .returned (.int .i64 (a : Int)) ∧ w' = w'') := fun w' => (h1.out w').mono fun e w'' ⟨he, hw⟩ => ⟨by rw [he, ha], hw.symm⟩
  rw [list_len] at hal
  rcases hat with ⟨hb, hq⟩ | ⟨b, hb, hb1, hb2, hat⟩
  · have HQ := Lib.hid hq
    have HF2 : Hid (∀ w', Calls Tryz.prog 58 #[.string s, .string ⟨#[62, 32]⟩, .int .i64 (a : Int)] w' fun e w'' => e = .returned (.int .i64 (-1)) ∧ w' = w'') := fun w' => (h2.out a hal w').mono fun e w'' ⟨he, hw⟩ => ⟨by rw [he, hb], hw.symm⟩
    have HF3 := HF1
    clear ha hb hq h1 h2 h3 hR hR0
    go_enter Tryz.func24, Tryz.ntmps24
    go_upto_region 1 with fail
    rw [← HW1.out]
    go_wp2_with (go_at_call 58; first
      | ((with_reducible refine (HF1.out _).mono ?_); rintro e wa ⟨rfl, rfl⟩)
      | ((with_reducible refine (HF2.out _).mono ?_); rintro e wb ⟨rfl, rfl⟩)
      | ((with_reducible refine (HF3.out _).mono ?_); rintro e wc ⟨rfl, rfl⟩))
    obtain ⟨d0, d1, d2, d3, _⟩ := pn_end (pn_row (v0 := .string ⟨#[]⟩) (v1 := .string ⟨#[]⟩) (v2 := .int .i64 0) (v3 := .int .i64 0) HRW.out)
    refine bodyPost_ret (v := .tuple #[.agg #[.string ⟨#[]⟩, .string ⟨#[]⟩, .int .i64 0, .int .i64 0], .int .i64 2]) (by simp [results, Tryz.results24, go_sem, d0, d1, d2, d3]) rfl (whoR_bad HQ.out (set4_below HBX.out (Nat.le_refl _)))
  have HF2 : Hid (∀ w', Calls Tryz.prog 58 #[.string s, .string ⟨#[62, 32]⟩, .int .i64 (a : Int)] w' fun e w'' => e = .returned (.int .i64 (b : Int)) ∧ w' = w'') := fun w' => (h2.out a hal w').mono fun e w'' ⟨he, hw⟩ => ⟨by rw [he, hb], hw.symm⟩
  rw [list_len] at hb2
  obtain ⟨b2, hbb⟩ : ∃ b2, b2 = b + 2 := ⟨_, rfl⟩
  have eb2 : (b : Int) + 2 = (b2 : Int) := by omega
  rw [← hbb] at hat
  rcases hat with ⟨hc, hq⟩ | ⟨c, hc, hc1, hc2, hl, ea, eb, ec⟩
  · have HQ := Lib.hid hq
    have HF3 : Hid (∀ w', Calls Tryz.prog 58 #[.string s, .string ⟨#[32]⟩, .int .i64 (b2 : Int)] w' fun e w'' => e = .returned (.int .i64 (-1)) ∧ w' = w'') := fun w' => (h3.out b2 (by omega) w').mono fun e w'' ⟨he, hw⟩ => ⟨by rw [he, hc], hw.symm⟩
    clear ha hb hc hq h1 h2 h3 hbb hR hR0
    go_enter Tryz.func24, Tryz.ntmps24
    go_upto_region 1 with fail
    rw [← HW1.out]
    go_wp2_with (go_at_call 58; first
      | ((with_reducible refine (HF1.out _).mono ?_); rintro e wa ⟨rfl, rfl⟩)
      | ((with_reducible refine (HF2.out _).mono ?_); rintro e wb ⟨rfl, rfl⟩)
      | ((with_reducible refine (HF3.out _).mono ?_); rintro e wc ⟨rfl, rfl⟩))
    obtain ⟨d0, d1, d2, d3, _⟩ := pn_end (pn_row (v0 := .string ⟨#[]⟩) (v1 := .string ⟨#[]⟩) (v2 := .int .i64 0) (v3 := .int .i64 0) HRW.out)
    refine bodyPost_ret (v := .tuple #[.agg #[.string ⟨#[]⟩, .string ⟨#[]⟩, .int .i64 0, .int .i64 0], .int .i64 2]) (by simp [results, Tryz.results24, go_sem, d0, d1, d2, d3]) rfl (whoR_bad HQ.out (set4_below HBX.out (Nat.le_refl _)))
  have HF3 : Hid (∀ w', Calls Tryz.prog 58 #[.string s, .string ⟨#[32]⟩, .int .i64 (b2 : Int)] w' fun e w'' => e = .returned (.int .i64 (c : Int)) ∧ w' = w'') := fun w' => (h3.out b2 (by omega) w').mono fun e w'' ⟨he, hw⟩ => ⟨by rw [he, hc], hw.symm⟩
  rw [list_len] at hc2
  obtain ⟨n, hn⟩ : ∃ n, n = str (whoN s.data.toList) := ⟨_, rfl⟩
  obtain ⟨m, hm⟩ : ∃ m, m = str (whoM s.data.toList) := ⟨_, rfl⟩
  obtain ⟨d, hd⟩ : ∃ d, d = str (whoT s.data.toList) := ⟨_, rfl⟩
  obtain ⟨g, hg⟩ : ∃ g, g = str (whoZ s.data.toList) := ⟨_, rfl⟩
  obtain ⟨a2, haa⟩ : ∃ a2, a2 = a + 2 := ⟨_, rfl⟩
  obtain ⟨c1, hcc⟩ : ∃ c1, c1 = c + 1 := ⟨_, rfl⟩
  have ea2 : (a : Int) + 2 = (a2 : Int) := by omega
  have ec1 : (c : Int) + 1 = (c1 : Int) := by omega
  have en : s.extract 0 a = n := by rw [hn]; exact ext_all s 0 a [] _ _ hl rfl (by simp [ea])
  have em : s.extract a2 b = m := by
    rw [hm]
    refine ext_all s a2 b (whoN s.data.toList ++ [32, 60]) (whoM s.data.toList) ([62, 32] ++ (whoT s.data.toList ++ ([32] ++ whoZ s.data.toList))) ?_ ?_ ?_
    · rw [List.append_assoc]; exact hl
    · simp; omega
    · simp; omega
  have ed : s.extract b2 c = d := by
    rw [hd]
    refine ext_all s b2 c (whoN s.data.toList ++ ([32, 60] ++ (whoM s.data.toList ++ [62, 32]))) (whoT s.data.toList) ([32] ++ whoZ s.data.toList) ?_ ?_ ?_
    · simp only [List.append_assoc]; exact hl
    · simp; omega
    · simp; omega
  have hsz : s.size = (whoN s.data.toList).length + 2 + (whoM s.data.toList).length + 2 + (whoT s.data.toList).length + 1 + (whoZ s.data.toList).length := by
    have := congrArg List.length hl
    rw [list_len] at this
    simp only [List.length_append, List.length_cons, List.length_nil] at this
    omega
  have eg : s.extract c1 s.size = g := by
    rw [hg]
    refine ext_all s c1 s.size (whoN s.data.toList ++ ([32, 60] ++ (whoM s.data.toList ++ ([62, 32] ++ (whoT s.data.toList ++ [32]))))) (whoZ s.data.toList) [] ?_ ?_ ?_
    · simp only [List.append_assoc, List.append_nil]; exact hl
    · simp; omega
    · simp; omega
  obtain ⟨I, hI⟩ : ∃ I, I = timeI d.data.toList := ⟨_, rfl⟩
  obtain ⟨T, hT⟩ : ∃ T, T = timeB d.data.toList := ⟨_, rfl⟩
  obtain ⟨K, hK⟩ : ∃ K, K = zoneI g.data.toList := ⟨_, rfl⟩
  obtain ⟨B, hB⟩ : ∃ B, B = zoneB g.data.toList := ⟨_, rfl⟩
  obtain ⟨O, hO⟩ : ∃ O, O = okPn ⟨n, m, I, K⟩ := ⟨_, rfl⟩
  obtain ⟨u1, hu1⟩ : ∃ u, u = Lib.index n.data.toList [60] := ⟨_, rfl⟩
  obtain ⟨u2, hu2⟩ : ∃ u, u = Lib.index n.data.toList [62] := ⟨_, rfl⟩
  obtain ⟨u3, hu3⟩ : ∃ u, u = Lib.index m.data.toList [60] := ⟨_, rfl⟩
  obtain ⟨u4, hu4⟩ : ∃ u, u = Lib.index m.data.toList [62] := ⟨_, rfl⟩
  have HR : Hid (R = codeW T B (decide (0 ≤ u1) || decide (0 ≤ u2) || decide (0 ≤ u3) || decide (0 ≤ u4)) O ⟨n, m, I, K⟩) := by
    show _ = _
    have e5 : whoP s.data.toList = ⟨n, m, I, K⟩ := by rw [whoP, hI, hK, hn, hm, hd, hg]; rfl
    have e6 : angle (whoN s.data.toList ++ whoM s.data.toList) = (decide (0 ≤ u1) || decide (0 ≤ u2) || decide (0 ≤ u3) || decide (0 ≤ u4)) := by
      rw [angle_app, angle_find, angle_find, hu1, hu2, hu3, hu4, hn, hm, str_list, str_list, Bool.or_assoc, Bool.or_assoc, Bool.or_assoc]
    rw [hR0, whoR, e5, e6, hT, hB, hO, hd, hg]
    rfl
  have hds : d.size ≤ s.size ∧ g.size ≤ s.size ∧ n.size ≤ s.size ∧ m.size ≤ s.size := by
    rw [hd, hg, hn, hm, str_size, str_size, str_size, str_size]
    omega
  have HN60 : Hid (∀ w', Calls Tryz.prog 58 #[.string n, .string ⟨#[60]⟩, .int .i64 0] w' fun e w'' => e = .returned (.int .i64 u1) ∧ w' = w'') := fun w' => (rfnd_any n ⟨#[60]⟩ 0 w' (by decide) (by decide) (by omega) (by omega)).mono fun e w'' ⟨he, hw⟩ => ⟨by rw [he, hu1, findI_zero], hw.symm⟩
  have HN62 : Hid (∀ w', Calls Tryz.prog 58 #[.string n, .string ⟨#[62]⟩, .int .i64 0] w' fun e w'' => e = .returned (.int .i64 u2) ∧ w' = w'') := fun w' => (rfnd_any n ⟨#[62]⟩ 0 w' (by decide) (by decide) (by omega) (by omega)).mono fun e w'' ⟨he, hw⟩ => ⟨by rw [he, hu2, findI_zero], hw.symm⟩
  have HM60 : Hid (∀ w', Calls Tryz.prog 58 #[.string m, .string ⟨#[60]⟩, .int .i64 0] w' fun e w'' => e = .returned (.int .i64 u3) ∧ w' = w'') := fun w' => (rfnd_any m ⟨#[60]⟩ 0 w' (by decide) (by decide) (by omega) (by omega)).mono fun e w'' ⟨he, hw⟩ => ⟨by rw [he, hu3, findI_zero], hw.symm⟩
  have HM62 : Hid (∀ w', Calls Tryz.prog 58 #[.string m, .string ⟨#[62]⟩, .int .i64 0] w' fun e w'' => e = .returned (.int .i64 u4) ∧ w' = w'') := fun w' => (rfnd_any m ⟨#[62]⟩ 0 w' (by decide) (by decide) (by omega) (by omega)).mono fun e w'' ⟨he, hw⟩ => ⟨by rw [he, hu4, findI_zero], hw.symm⟩
  have HD : Hid (∀ w', Calls Tryz.prog 60 #[.string d] w' fun e w'' => e = .returned (.bool T) ∧ w' = w'') := fun w' => (rdigs_any d w' (by omega)).mono fun e w'' ⟨he, hw⟩ => ⟨by rw [he, hT], hw.symm⟩
  have HZ : Hid (∀ w', Calls Tryz.prog 59 #[.string g] w' fun e w'' => e = .returned (.tuple #[.int .i64 K, .bool B]) ∧ w' = w'') := fun w' => (rzone_any g w' (by omega)).mono fun e w'' ⟨he, hw⟩ => ⟨by rw [he, hK, hB], hw.symm⟩
  have HP : Hid (∀ w', Calls Tryz.prog 26 #[.agg #[.string n, .string m, .int .i64 I, .int .i64 K]] w' fun e w'' => e = .returned (.bool O) ∧ Below w'.heap.size w' w'') := fun w' => by rw [hO]; exact rperson_any ⟨n, m, I, K⟩ w' (by simp only; omega) (by simp only; omega)
  have hdV : T = true → ∃ v : Nat, Lib.decFrom 0 d.data.toList = some v ∧ v < 1000000000000000000 ∧ I = (v : Int) := fun h => by
    rw [hT] at h
    obtain ⟨v, hv⟩ := Option.isSome_iff_exists.mp h
    refine ⟨v, ?_, by have := numK_lt hv; omega, by rw [hI, timeI, hv]⟩
    unfold numR at hv
    split at hv
    · cases hv
    · exact hv
  have HV : Hid (T = true → ∀ w', Calls Tryz.prog 61 #[.string d] w' fun e w'' => e = .returned (.int .i64 I) ∧ w' = w'') := fun h w' => by
    obtain ⟨v, h1, h2, h3⟩ := hdV h
    exact (rvalue_any d v w' h1 h2 (by omega)).mono fun e w'' ⟨he, hw⟩ => ⟨by rw [he, h3], hw.symm⟩
  have l1 : (a : Int) ≤ (s.size : Int) := by omega
  have l2 : (a2 : Int) ≤ (b : Int) := by omega
  have l3 : (b : Int) ≤ (s.size : Int) := by omega
  have l4 : (c1 : Int) ≤ (s.size : Int) := by omega
  have l5 : (b2 : Int) ≤ (c : Int) := by omega
  have l6 : (c : Int) ≤ (s.size : Int) := by omega
  have m1 : a ≤ s.size := by omega
  have m2 : a2 ≤ b := by omega
  have m3 : b ≤ s.size := by omega
  have m4 : c1 ≤ s.size := by omega
  have m5 : b2 ≤ c := by omega
  have m6 : c ≤ s.size := by omega
  have w2 : IntKind.i64.wrap ((a : Int) + 2) = (a2 : Int) := by rw [IntWalk.i64_in _ (by omega)]; omega
  have w3 : IntKind.i64.wrap ((b : Int) + 2) = (b2 : Int) := by rw [IntWalk.i64_in _ (by omega)]; omega
  have w4 : IntKind.i64.wrap ((c : Int) + 1) = (c1 : Int) := by rw [IntWalk.i64_in _ (by omega)]; omega
  clear hR hR0 hdV hn hm hd hg hI hT hK hB hO hu1 hu2 hu3 hu4 hsz hl ea eb ec ha hb hc h1 h2 h3 hbb haa hcc hal hb1 hb2 hc1 hc2 hds
  go_enter Tryz.func24, Tryz.ntmps24
  go_upto_region 1 with fail
  rw [← HW1.out]
  go_upto_region 10 with (go_at_call 58; first
  | ((with_reducible refine (HF1.out _).mono ?_); rintro e wa ⟨rfl, rfl⟩)
  | ((with_reducible refine (HF2.out _).mono ?_); rintro e wb ⟨rfl, rfl⟩)
  | ((with_reducible refine (HF3.out _).mono ?_); rintro e wc ⟨rfl, rfl⟩))
  have one : Below w1.heap.size w1 w1.drew := (Below.refl _ _).drew
  go_region
  obtain ⟨P, hP⟩ : ∃ P, P = w1.heap.size := ⟨_, rfl⟩
  obtain ⟨w2, hw2⟩ : ∃ w2, w2 = (w1.alloc (.cells #[.string n, .string m, .int .i64 0, .int .i64 0] 24)).drew := ⟨_, rfl⟩
  have hb2 : Below w1.heap.size w1 w2 := by rw [hw2]; exact (below_new (Below.refl _ _) _).drew
  have hp2 : w2.heap[P]? = some (.cells #[.string n, .string m, .int .i64 0, .int .i64 0] 24 (0, 0)) := by rw [hw2, hP]; exact heap_alloc_new w1 _
  have hr2 := (hb2.block _ (row_lt HRW.out)).trans HRW.out
  have hPA : w.heap.size < P := by rw [hP]; exact row_lt HRW.out
  rw [← hw2, ← hP]
  have HP2 := Lib.hid hp2
  have HRW1 := HRW
  clear HRW
  have HRW := Lib.hid hr2
  have HBB := Lib.hid (HBX.out.trans (hb2.mono HBX.out.size))
  obtain ⟨x0, x1, x2, x3, f0, f1, f2, f3⟩ := pn_end hp2
  clear hw2 hb2 hr2 hP y0 y1 y2 y3 z0 z1 z2 z3 one HRW1 HW1
  go_upto_region 12 with (go_at_call 59; ((with_reducible refine (HZ.out _).mono ?_); rintro e wa ⟨rfl, rfl⟩))
  rcases B with _ | _
  · have HQ : Hid (R = (2, Pn.zero)) := by show _ = _; rw [HR.out, codeW, if_pos (.inr (.inl rfl))]
    clear HR
    obtain ⟨y0, y1, y2, y3, z0, z1, z2, z3⟩ := pn_end HRW.out
    go_wp2_with (first
      | (go_at_call 60; ((with_reducible refine (HD.out _).mono ?_); rintro e wa ⟨rfl, rfl⟩))
      | (go_at_call 58; first
        | ((with_reducible refine (HN60.out _).mono ?_); rintro e wa ⟨rfl, rfl⟩)
        | ((with_reducible refine (HN62.out _).mono ?_); rintro e wa ⟨rfl, rfl⟩)
        | ((with_reducible refine (HM60.out _).mono ?_); rintro e wa ⟨rfl, rfl⟩)
        | ((with_reducible refine (HM62.out _).mono ?_); rintro e wa ⟨rfl, rfl⟩)))
    obtain ⟨d0, d1, d2, d3, _⟩ := pn_end (pn_row (v0 := .string ⟨#[]⟩) (v1 := .string ⟨#[]⟩) (v2 := .int .i64 0) (v3 := .int .i64 0) HRW.out)
    refine bodyPost_ret (v := .tuple #[.agg #[.string ⟨#[]⟩, .string ⟨#[]⟩, .int .i64 0, .int .i64 0], .int .i64 2]) (by simp [results, Tryz.results24, go_sem, d0, d1, d2, d3]) rfl (whoR_bad HQ.out (set4_below HBB.out (Nat.le_refl _)))
  rcases T with _ | _
  · have HQ : Hid (R = (2, Pn.zero)) := by show _ = _; rw [HR.out, codeW, if_pos (.inl rfl)]
    clear HR
    obtain ⟨y0, y1, y2, y3, z0, z1, z2, z3⟩ := pn_end HRW.out
    go_wp2_with (first
      | (go_at_call 60; ((with_reducible refine (HD.out _).mono ?_); rintro e wa ⟨rfl, rfl⟩))
      | (go_at_call 58; first
        | ((with_reducible refine (HN60.out _).mono ?_); rintro e wa ⟨rfl, rfl⟩)
        | ((with_reducible refine (HN62.out _).mono ?_); rintro e wa ⟨rfl, rfl⟩)
        | ((with_reducible refine (HM60.out _).mono ?_); rintro e wa ⟨rfl, rfl⟩)
        | ((with_reducible refine (HM62.out _).mono ?_); rintro e wa ⟨rfl, rfl⟩)))
    obtain ⟨d0, d1, d2, d3, _⟩ := pn_end (pn_row (v0 := .string ⟨#[]⟩) (v1 := .string ⟨#[]⟩) (v2 := .int .i64 0) (v3 := .int .i64 0) HRW.out)
    refine bodyPost_ret (v := .tuple #[.agg #[.string ⟨#[]⟩, .string ⟨#[]⟩, .int .i64 0, .int .i64 0], .int .i64 2]) (by simp [results, Tryz.results24, go_sem, d0, d1, d2, d3]) rfl (whoR_bad HQ.out (set4_below HBB.out (Nat.le_refl _)))
  have HV2 := Lib.hid (HV.out rfl)
  by_cases k1 : 0 ≤ u1
  · have HQ : Hid (R = (2, Pn.zero)) := by show _ = _; rw [HR.out, codeW, if_pos (.inr (.inr (by simp [k1])))]
    clear HR
    obtain ⟨y0, y1, y2, y3, z0, z1, z2, z3⟩ := pn_end HRW.out
    go_wp2_with (first
      | (go_at_call 60; ((with_reducible refine (HD.out _).mono ?_); rintro e wa ⟨rfl, rfl⟩))
      | (go_at_call 58; first
        | ((with_reducible refine (HN60.out _).mono ?_); rintro e wa ⟨rfl, rfl⟩)
        | ((with_reducible refine (HN62.out _).mono ?_); rintro e wa ⟨rfl, rfl⟩)
        | ((with_reducible refine (HM60.out _).mono ?_); rintro e wa ⟨rfl, rfl⟩)
        | ((with_reducible refine (HM62.out _).mono ?_); rintro e wa ⟨rfl, rfl⟩)))
    obtain ⟨d0, d1, d2, d3, _⟩ := pn_end (pn_row (v0 := .string ⟨#[]⟩) (v1 := .string ⟨#[]⟩) (v2 := .int .i64 0) (v3 := .int .i64 0) HRW.out)
    refine bodyPost_ret (v := .tuple #[.agg #[.string ⟨#[]⟩, .string ⟨#[]⟩, .int .i64 0, .int .i64 0], .int .i64 2]) (by simp [results, Tryz.results24, go_sem, d0, d1, d2, d3]) rfl (whoR_bad HQ.out (set4_below HBB.out (Nat.le_refl _)))
  by_cases k2 : 0 ≤ u2
  · have HQ : Hid (R = (2, Pn.zero)) := by show _ = _; rw [HR.out, codeW, if_pos (.inr (.inr (by simp [k2])))]
    clear HR
    obtain ⟨y0, y1, y2, y3, z0, z1, z2, z3⟩ := pn_end HRW.out
    go_wp2_with (first
      | (go_at_call 60; ((with_reducible refine (HD.out _).mono ?_); rintro e wa ⟨rfl, rfl⟩))
      | (go_at_call 58; first
        | ((with_reducible refine (HN60.out _).mono ?_); rintro e wa ⟨rfl, rfl⟩)
        | ((with_reducible refine (HN62.out _).mono ?_); rintro e wa ⟨rfl, rfl⟩)
        | ((with_reducible refine (HM60.out _).mono ?_); rintro e wa ⟨rfl, rfl⟩)
        | ((with_reducible refine (HM62.out _).mono ?_); rintro e wa ⟨rfl, rfl⟩)))
    obtain ⟨d0, d1, d2, d3, _⟩ := pn_end (pn_row (v0 := .string ⟨#[]⟩) (v1 := .string ⟨#[]⟩) (v2 := .int .i64 0) (v3 := .int .i64 0) HRW.out)
    refine bodyPost_ret (v := .tuple #[.agg #[.string ⟨#[]⟩, .string ⟨#[]⟩, .int .i64 0, .int .i64 0], .int .i64 2]) (by simp [results, Tryz.results24, go_sem, d0, d1, d2, d3]) rfl (whoR_bad HQ.out (set4_below HBB.out (Nat.le_refl _)))
  by_cases k3 : 0 ≤ u3
  · have HQ : Hid (R = (2, Pn.zero)) := by show _ = _; rw [HR.out, codeW, if_pos (.inr (.inr (by simp [k3])))]
    clear HR
    obtain ⟨y0, y1, y2, y3, z0, z1, z2, z3⟩ := pn_end HRW.out
    go_wp2_with (first
      | (go_at_call 60; ((with_reducible refine (HD.out _).mono ?_); rintro e wa ⟨rfl, rfl⟩))
      | (go_at_call 58; first
        | ((with_reducible refine (HN60.out _).mono ?_); rintro e wa ⟨rfl, rfl⟩)
        | ((with_reducible refine (HN62.out _).mono ?_); rintro e wa ⟨rfl, rfl⟩)
        | ((with_reducible refine (HM60.out _).mono ?_); rintro e wa ⟨rfl, rfl⟩)
        | ((with_reducible refine (HM62.out _).mono ?_); rintro e wa ⟨rfl, rfl⟩)))
    obtain ⟨d0, d1, d2, d3, _⟩ := pn_end (pn_row (v0 := .string ⟨#[]⟩) (v1 := .string ⟨#[]⟩) (v2 := .int .i64 0) (v3 := .int .i64 0) HRW.out)
    refine bodyPost_ret (v := .tuple #[.agg #[.string ⟨#[]⟩, .string ⟨#[]⟩, .int .i64 0, .int .i64 0], .int .i64 2]) (by simp [results, Tryz.results24, go_sem, d0, d1, d2, d3]) rfl (whoR_bad HQ.out (set4_below HBB.out (Nat.le_refl _)))
  by_cases k4 : 0 ≤ u4
  · have HQ : Hid (R = (2, Pn.zero)) := by show _ = _; rw [HR.out, codeW, if_pos (.inr (.inr (by simp [k4])))]
    clear HR
    obtain ⟨y0, y1, y2, y3, z0, z1, z2, z3⟩ := pn_end HRW.out
    go_wp2_with (first
      | (go_at_call 60; ((with_reducible refine (HD.out _).mono ?_); rintro e wa ⟨rfl, rfl⟩))
      | (go_at_call 58; first
        | ((with_reducible refine (HN60.out _).mono ?_); rintro e wa ⟨rfl, rfl⟩)
        | ((with_reducible refine (HN62.out _).mono ?_); rintro e wa ⟨rfl, rfl⟩)
        | ((with_reducible refine (HM60.out _).mono ?_); rintro e wa ⟨rfl, rfl⟩)
        | ((with_reducible refine (HM62.out _).mono ?_); rintro e wa ⟨rfl, rfl⟩)))
    obtain ⟨d0, d1, d2, d3, _⟩ := pn_end (pn_row (v0 := .string ⟨#[]⟩) (v1 := .string ⟨#[]⟩) (v2 := .int .i64 0) (v3 := .int .i64 0) HRW.out)
    refine bodyPost_ret (v := .tuple #[.agg #[.string ⟨#[]⟩, .string ⟨#[]⟩, .int .i64 0, .int .i64 0], .int .i64 2]) (by simp [results, Tryz.results24, go_sem, d0, d1, d2, d3]) rfl (whoR_bad HQ.out (set4_below HBB.out (Nat.le_refl _)))
  have HR2 : Hid (R = if O = false then (1, Pn.zero) else (0, ⟨n, m, I, K⟩)) := by show _ = _; rw [HR.out, codeW, if_neg (by simp [k1, k2, k3, k4])]
  clear HR HV
  go_upto_region 14 with (first
  | (go_at_call 60; ((with_reducible refine (HD.out _).mono ?_); rintro e wa ⟨rfl, rfl⟩))
  | (go_at_call 58; first
    | ((with_reducible refine (HN60.out _).mono ?_); rintro e wa ⟨rfl, rfl⟩)
    | ((with_reducible refine (HN62.out _).mono ?_); rintro e wa ⟨rfl, rfl⟩)
    | ((with_reducible refine (HM60.out _).mono ?_); rintro e wa ⟨rfl, rfl⟩)
    | ((with_reducible refine (HM62.out _).mono ?_); rintro e wa ⟨rfl, rfl⟩)))
  clear k1 k2 k3 k4 HN60 HN62 HM60 HM62 HD HZ HF1 HF2 HF3
  go_upto_region 15 with (go_at_call 61; ((with_reducible refine (HV2.out _).mono ?_); rintro e wa ⟨rfl, rfl⟩))
  go_upto_region 16 with fail
  obtain ⟨w3, hw3⟩ : ∃ w3, w3 = (w2.setCell ⟨P, 2, none⟩ (.int .i64 I)).setCell ⟨P, 3, none⟩ (.int .i64 K) := ⟨_, rfl⟩
  have hp3 : w3.heap[P]? = some (.cells #[.string n, .string m, .int .i64 I, .int .i64 K] 24 (0, 0)) := by
    rw [hw3]
    have h := heap_setCell_same w2 P 2 _ 24 (.int .i64 I) HP2.out
    simp only [List.setIfInBounds_toArray, List.set_cons_zero, List.set_cons_succ] at h
    have h := heap_setCell_same _ P 3 _ 24 (.int .i64 K) h
    simp only [List.setIfInBounds_toArray, List.set_cons_zero, List.set_cons_succ] at h
    exact h
  have hr3 : w3.heap[w.heap.size]? = some (.cells #[.string ⟨#[]⟩, .string ⟨#[]⟩, .int .i64 0, .int .i64 0] 24 (0, 0)) := by
    rw [hw3]
    exact (Below.heap_setCell _ ⟨P, 3, none⟩ _ _ (by show w.heap.size ≠ P; omega)).trans ((Below.heap_setCell _ ⟨P, 2, none⟩ _ _ (by show w.heap.size ≠ P; omega)).trans HRW.out)
  have hb3 : Below w.heap.size w w3 := by
    rw [hw3]
    exact (HBB.out.setCell (p := ⟨P, 2, none⟩) (by show _ ≤ P; omega) _).setCell (p := ⟨P, 3, none⟩) (by show _ ≤ P; omega) _
  rw [← hw3]
  obtain ⟨c0, c1', c2', c3, -⟩ := pn_end hp3
  have HP3 := Lib.hid hp3
  have HR3 := Lib.hid hr3
  have HB3 := Lib.hid hb3
  clear hw3 hp3 hr3 hb3 x0 x1 x2 x3 f0 f1 f2 f3 HP2 HRW
  rcases O with _ | _
  · have HQ : Hid (R = (1, Pn.zero)) := by show _ = _; rw [HR2.out, if_pos rfl]
    clear HR2
    go_upto_region 17 with (go_at_call 26; ((with_reducible refine (HP.out _).mono ?_); rintro e w4 ⟨rfl, hb4⟩))
    have hr4 := (hb4.block _ (row_lt HR3.out)).trans HR3.out
    have HRW := Lib.hid hr4
    have HB4 := Lib.hid (HB3.out.trans (hb4.mono HB3.out.size))
    obtain ⟨y0, y1, y2, y3, z0, z1, z2, z3⟩ := pn_end hr4
    clear hr4 hb4 c0 c1' c2' c3
    go_wp2
    obtain ⟨d0, d1, d2, d3, _⟩ := pn_end (pn_row (v0 := .string ⟨#[]⟩) (v1 := .string ⟨#[]⟩) (v2 := .int .i64 0) (v3 := .int .i64 0) HRW.out)
    refine bodyPost_ret (v := .tuple #[.agg #[.string ⟨#[]⟩, .string ⟨#[]⟩, .int .i64 0, .int .i64 0], .int .i64 1]) (by simp [results, Tryz.results24, go_sem, d0, d1, d2, d3]) rfl (whoR_bad HQ.out (set4_below HB4.out (Nat.le_refl _)))
  · have HQ : Hid (R = (0, ⟨n, m, I, K⟩)) := by show _ = _; rw [HR2.out, if_neg (by decide)]
    clear HR2
    go_upto_region 18 with (go_at_call 26; ((with_reducible refine (HP.out _).mono ?_); rintro e w4 ⟨rfl, hb4⟩))
    have hr4 := (hb4.block _ (row_lt HR3.out)).trans HR3.out
    have hp4 := (hb4.block _ (row_lt HP3.out)).trans HP3.out
    have HRW := Lib.hid hr4
    have HB4 := Lib.hid (HB3.out.trans (hb4.mono HB3.out.size))
    obtain ⟨y0, y1, y2, y3, z0, z1, z2, z3⟩ := pn_end hr4
    obtain ⟨v0, v1, v2, v3, -⟩ := pn_end hp4
    clear hr4 hb4 hp4 c0 c1' c2' c3
    go_wp2
    obtain ⟨d0, d1, d2, d3, _⟩ := pn_end (pn_row (v0 := .string n) (v1 := .string m) (v2 := .int .i64 I) (v3 := .int .i64 K) HRW.out)
    refine bodyPost_ret (v := .tuple #[.agg #[.string n, .string m, .int .i64 I, .int .i64 K], .int .i64 0]) (by simp [results, Tryz.results24, go_sem, d0, d1, d2, d3]) rfl ?_
    rw [HQ.out]
    exact ⟨rfl, set4_below HB4.out (Nat.le_refl _)⟩
end Go.Proofs.YtddmnibioacelaaGreatDoor
