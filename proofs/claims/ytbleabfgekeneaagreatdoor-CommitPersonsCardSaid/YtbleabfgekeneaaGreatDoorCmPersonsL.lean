/-
  The walk of the law CommitPersons.
-/
import Derived.Test.YtbleabfgekeneaaGreatDoorCmLives
import Derived.Test.YtbleabfgekeneaaGreatDoorCmRNamePk
import Derived.Test.YtbleabfgekeneaaGreatDoorCmRZonePk
namespace Go.Proofs.YtbleabfgekeneaaGreatDoor
open Go Go.RowKit

set_option maxHeartbeats 8000000 in
set_option maxRecDepth 8000 in
theorem commitPersons_walk (p : Pn) (s : ByteArray) (W : World) (hT : StrTab W) (hO : WoTab W) (hR : TrTab W) (hn : p.n.size ≤ 140737488355328) (hm : p.m.size ≤ 140737488355328) (hs : s.size ≤ 140737488355328) :
    Calls Tryz.prog 6 #[.agg #[.string p.n, .string p.m, .int .i64 p.t, .int .i64 p.z], .string s] W fun e W' => e = .returned (.bool true) ∧ Below W.heap.size W W' := by
  have fP := fun w' => rperson_any p w' hn hm
  have fF := fun w' h ht ht0 hz => fmt_any p w' h hn hm ht0 ht hz
  have fR := fun w' ht ht0 hz => rfmt_any p w' hn hm ht0 ht hz
  have fI := @okPn_parts p
  have fB := @whoR_whoL p
  have fL := @whoL_size p
  obtain ⟨A, hA⟩ : ∃ A, A = whoL p := ⟨_, rfl⟩
  obtain ⟨O, hOO⟩ : ∃ O, O = okPn p := ⟨_, rfl⟩
  rw [← hA] at fF fR fB fL
  rw [← hOO] at fP fI fB fL
  obtain ⟨n, m, t, z⟩ := p
  simp only at *
  obtain ⟨w1, hw1⟩ : ∃ w1, w1 = W.alloc (.cells #[.string n, .string m, .int .i64 t, .int .i64 z] 24) := ⟨_, rfl⟩
  have hx := heap_alloc_new W (.cells #[.string n, .string m, .int .i64 t, .int .i64 z] 24)
  rw [← hw1] at hx
  have hbx : Below W.heap.size W w1 := by rw [hw1]; exact below_new (Below.refl _ _) _
  have tT := fun w' (hb : Below w1.heap.size w1 w') => (hT.below hbx).below hb
  have HLV : Hid (∀ w', Below w1.heap.size w1 w' → Calls Tryz.prog 9 #[] w' fun e w'' => e = .returned (.bool true) ∧ Below w1.heap.size w1 w'' ∧ Below w'.heap.size w' w'') := fun w' hb => (clives_any w' (tT w' hb) ((hO.below hbx).below hb) ((hR.below hbx).below hb)).mono fun e w'' ⟨h1, h2⟩ => ⟨h1, hb.trans (h2.mono hb.size), h2⟩
  have HX := Lib.hid hx
  have HBX := Lib.hid hbx
  have HW1 := Lib.hid hw1
  have HB0 := Lib.hid (Below.refl w1.heap.size w1)
  obtain ⟨x0, x1, x2, x3, -⟩ := pn_end hx
  obtain ⟨L, hL⟩ : ∃ L, L = n.size + m.size := ⟨_, rfl⟩
  have eL : (n.size : Int) + (m.size : Int) = (L : Int) := by omega
  have eL2 : IntKind.i64.wrap ((n.size : Int) + (m.size : Int)) = (L : Int) := by rw [IntWalk.i64_in _ (by omega)]; omega
  by_cases k1 : 1000 < s.size
  · have g1 : (1000 : Int) < (s.size : Int) := by omega
    clear fP fF fR fI fB fL hA hOO hx hbx hw1 tT hL
    go_enter Tryz.func6, Tryz.ntmps6
    go_upto_region 1 with fail
    rw [← HW1.out]
    go_wp2_with (go_at_call 9; ((with_reducible refine (HLV.out _ HB0.out).mono ?_); rintro e w2 ⟨rfl, hb2, hc2⟩))
    go_ret
    exact ⟨rfl, HBX.out.trans (hb2.mono HBX.out.size)⟩
  have g1 : ¬ (1000 : Int) < (s.size : Int) := by omega
  by_cases k2 : 1000 < L
  · have g2 : (1000 : Int) < (L : Int) := by omega
    clear fP fF fR fI fB fL hA hOO hx hbx hw1 tT hL
    go_enter Tryz.func6, Tryz.ntmps6
    go_upto_region 1 with fail
    rw [← HW1.out]
    go_wp2_with (go_at_call 9; ((with_reducible refine (HLV.out _ HB0.out).mono ?_); rintro e w2 ⟨rfl, hb2, hc2⟩))
    go_ret
    exact ⟨rfl, HBX.out.trans (hb2.mono HBX.out.size)⟩
  have g2 : ¬ (1000 : Int) < (L : Int) := by omega
  obtain ⟨⟨c, ⟨n1, m1, t1, z1⟩⟩, hq⟩ : ∃ q, q = whoR s.data.toList := ⟨_, rfl⟩
  have HPW : Hid (∀ w', Below w1.heap.size w1 w' → Calls Tryz.prog 23 #[.string s] w' fun e w'' => e = .returned (.tuple #[.agg #[.string n1, .string m1, .int .i64 t1, .int .i64 z1], .int .i64 (c : Int)]) ∧ Below w1.heap.size w1 w'' ∧ Below w'.heap.size w' w'') := fun w' hb => (who_any s w' (tT w' hb) (by omega)).mono fun e w'' ⟨h1, h2⟩ => ⟨by rw [h1, ← hq], hb.trans (h2.mono hb.size), h2⟩
  have HRW : Hid (∀ w', Below w1.heap.size w1 w' → Calls Tryz.prog 24 #[.string s] w' fun e w'' => e = .returned (.tuple #[.agg #[.string n1, .string m1, .int .i64 t1, .int .i64 z1], .int .i64 (c : Int)]) ∧ Below w1.heap.size w1 w'' ∧ Below w'.heap.size w' w'') := fun w' hb => (rwhop_any s w' (by omega)).mono fun e w'' ⟨h1, h2⟩ => ⟨by rw [h1, ← hq], hb.trans (h2.mono hb.size), h2⟩
  have HRP : Hid (∀ w', Below w1.heap.size w1 w' → Calls Tryz.prog 26 #[.agg #[.string n, .string m, .int .i64 t, .int .i64 z]] w' fun e w'' => e = .returned (.bool O) ∧ Below w1.heap.size w1 w'' ∧ Below w'.heap.size w' w'') := fun w' hb => (fP w').mono fun e w'' ⟨h1, h2⟩ => ⟨h1, hb.trans (h2.mono hb.size), h2⟩
  have fW0 : c = 0 → ∀ w', Below w1.heap.size w1 w' → Calls Tryz.prog 25 #[.agg #[.string n1, .string m1, .int .i64 t1, .int .i64 z1]] w' fun e w'' => e = .returned (.string s) ∧ Below w1.heap.size w1 w'' ∧ Below w'.heap.size w' w'' := fun h w' hb => by
    obtain ⟨b1, b2⟩ := whoR_back (l := s.data.toList) (by rw [← hq]; exact h)
    rw [← hq] at b1 b2
    obtain ⟨i1, i2, i3, i4, i5, i6⟩ := okPn_parts b1
    have s1 := (nameB_parts i1).2.1
    have s2 := (nameB_parts i2).2.1
    rw [list_len] at s1 s2
    simp only at i3 i4 i5 i6 s1 s2
    exact (fmt_any ⟨n1, m1, t1, z1⟩ w' (tT w' hb) (by simp only; omega) (by simp only; omega) (by simp only; omega) (by simp only; omega) (by simp only; omega)).mono fun e w'' ⟨h1, h2⟩ => ⟨by rw [h1, show whoL ⟨n1, m1, t1, z1⟩ = s from ba_ext b2], hb.trans (h2.mono hb.size), h2⟩
  have fWP : O = true → ∀ w', Below w1.heap.size w1 w' → Calls Tryz.prog 25 #[.agg #[.string n, .string m, .int .i64 t, .int .i64 z]] w' fun e w'' => e = .returned (.string A) ∧ Below w1.heap.size w1 w'' ∧ Below w'.heap.size w' w'' := fun h w' hb => by
    obtain ⟨i1, i2, i3, i4, i5, i6⟩ := fI h
    exact (fF w' (tT w' hb) (by omega) i3 (by omega)).mono fun e w'' ⟨h1, h2⟩ => ⟨h1, hb.trans (h2.mono hb.size), h2⟩
  have fRF : O = true → ∀ w', Below w1.heap.size w1 w' → Calls Tryz.prog 27 #[.agg #[.string n, .string m, .int .i64 t, .int .i64 z]] w' fun e w'' => e = .returned (.string A) ∧ Below w1.heap.size w1 w'' ∧ Below w'.heap.size w' w'' := fun h w' hb => by
    obtain ⟨i1, i2, i3, i4, i5, i6⟩ := fI h
    exact (fR w' (by omega) i3 (by omega)).mono fun e w'' ⟨h1, h2⟩ => ⟨h1, hb.trans (h2.mono hb.size), h2⟩
  have fPA : O = true → ∀ w', Below w1.heap.size w1 w' → Calls Tryz.prog 23 #[.string A] w' fun e w'' => e = .returned (.tuple #[.agg #[.string n, .string m, .int .i64 t, .int .i64 z], .int .i64 0]) ∧ Below w1.heap.size w1 w'' ∧ Below w'.heap.size w' w'' := fun h w' hb =>
    (who_any A w' (tT w' hb) (by have := fL h; omega)).mono fun e w'' ⟨h1, h2⟩ => ⟨by rw [h1, fB h]; rfl, hb.trans (h2.mono hb.size), h2⟩
  have HfW0 := Lib.hid fW0
  have HfWP := Lib.hid fWP
  have HfRF := Lib.hid fRF
  have HfPA := Lib.hid fPA
  clear fP fF fR fI fB fL hA hOO hx hbx hw1 tT hL hq fW0 fWP fRF fPA k1 k2 hn hm hs hT hO hR
  by_cases h0 : c = 0
  · have HW0 := Lib.hid (HfW0.out h0)
    have gc : ((c : Int) == 0) = true := by rw [beq_iff_eq]; omega
    clear h0 HfW0
    rcases O with _ | _
    · clear HfWP HfRF HfPA
      go_enter Tryz.func6, Tryz.ntmps6
      go_upto_region 1 with fail
      rw [← HW1.out]
      go_upto_region 4 with (go_at_call 23; ((with_reducible refine (HPW.out _ HB0.out).mono ?_); rintro e wa ⟨rfl, hba, hca⟩))
      obtain ⟨P, hP⟩ : ∃ P, P = wa.heap.size := ⟨_, rfl⟩
      obtain ⟨w2, hw2⟩ : ∃ w2, w2 = wa.alloc (.cells #[.string n1, .string m1, .int .i64 t1, .int .i64 z1] 24) := ⟨_, rfl⟩
      have hp2 : w2.heap[P]? = some (.cells #[.string n1, .string m1, .int .i64 t1, .int .i64 z1] 24 (0, 0)) := by rw [hw2, hP]; exact heap_alloc_new _ _
      have hb2 : Below w1.heap.size w1 w2 := hba.trans (by rw [hw2]; exact (below_new (Below.refl _ _) _).mono hba.size)
      rw [← hw2, ← hP]
      clear hw2 hP hba hca
      go_upto_region 5 with (go_at_call 24; ((with_reducible refine (HRW.out _ hb2).mono ?_); rintro e wb ⟨rfl, hbb, hcb⟩))
      obtain ⟨Q, hQ⟩ : ∃ Q, Q = wb.heap.size := ⟨_, rfl⟩
      obtain ⟨w3, hw3⟩ : ∃ w3, w3 = wb.alloc (.cells #[.string n1, .string m1, .int .i64 t1, .int .i64 z1] 24) := ⟨_, rfl⟩
      have hq3 : w3.heap[Q]? = some (.cells #[.string n1, .string m1, .int .i64 t1, .int .i64 z1] 24 (0, 0)) := by rw [hw3, hQ]; exact heap_alloc_new _ _
      have hb23 : Below w2.heap.size w2 w3 := hcb.trans (by rw [hw3]; exact (below_new (Below.refl _ _) _).mono hcb.size)
      have hb3 : Below w1.heap.size w1 w3 := hb2.trans (hb23.mono hb2.size)
      have hp3 := (hb23.block _ (row_lt hp2)).trans hp2
      rw [← hw3, ← hQ]
      obtain ⟨x0, x1, x2, x3, -⟩ := pn_end hp3
      obtain ⟨y0, y1, y2, y3, -⟩ := pn_end hq3
      clear hw3 hQ hbb hcb hp2 hb2 hb23 hp3 hq3 HPW HRW
      go_upto_region 7 with (go_at_call 25; ((with_reducible refine (HW0.out _ hb3).mono ?_); rintro e w4 ⟨rfl, hb4, hc4⟩))
      clear x0 x1 x2 x3 y0 y1 y2 y3
      have hrw := (hb4.block _ (row_lt HX.out)).trans HX.out
      obtain ⟨x0, x1, x2, x3, -⟩ := pn_end hrw
      go_upto_region 8 with (go_at_call 26; ((with_reducible refine (HRP.out _ hb4).mono ?_); rintro e w5 ⟨rfl, hb5, hc5⟩))
      go_wp2_with (go_at_call 9; ((with_reducible refine (HLV.out _ hb5).mono ?_); rintro e w6 ⟨rfl, hb6, hc6⟩))
      go_ret
      exact ⟨rfl, HBX.out.trans (hb6.mono HBX.out.size)⟩
    · have HWP := Lib.hid (HfWP.out rfl)
      have HRF := Lib.hid (HfRF.out rfl)
      have HPA := Lib.hid (HfPA.out rfl)
      clear HfWP HfRF HfPA
      go_enter Tryz.func6, Tryz.ntmps6
      go_upto_region 1 with fail
      rw [← HW1.out]
      go_upto_region 4 with (go_at_call 23; ((with_reducible refine (HPW.out _ HB0.out).mono ?_); rintro e wa ⟨rfl, hba, hca⟩))
      obtain ⟨P, hP⟩ : ∃ P, P = wa.heap.size := ⟨_, rfl⟩
      obtain ⟨w2, hw2⟩ : ∃ w2, w2 = wa.alloc (.cells #[.string n1, .string m1, .int .i64 t1, .int .i64 z1] 24) := ⟨_, rfl⟩
      have hp2 : w2.heap[P]? = some (.cells #[.string n1, .string m1, .int .i64 t1, .int .i64 z1] 24 (0, 0)) := by rw [hw2, hP]; exact heap_alloc_new _ _
      have hb2 : Below w1.heap.size w1 w2 := hba.trans (by rw [hw2]; exact (below_new (Below.refl _ _) _).mono hba.size)
      rw [← hw2, ← hP]
      clear hw2 hP hba hca
      go_upto_region 5 with (go_at_call 24; ((with_reducible refine (HRW.out _ hb2).mono ?_); rintro e wb ⟨rfl, hbb, hcb⟩))
      obtain ⟨Q, hQ⟩ : ∃ Q, Q = wb.heap.size := ⟨_, rfl⟩
      obtain ⟨w3, hw3⟩ : ∃ w3, w3 = wb.alloc (.cells #[.string n1, .string m1, .int .i64 t1, .int .i64 z1] 24) := ⟨_, rfl⟩
      have hq3 : w3.heap[Q]? = some (.cells #[.string n1, .string m1, .int .i64 t1, .int .i64 z1] 24 (0, 0)) := by rw [hw3, hQ]; exact heap_alloc_new _ _
      have hb23 : Below w2.heap.size w2 w3 := hcb.trans (by rw [hw3]; exact (below_new (Below.refl _ _) _).mono hcb.size)
      have hb3 : Below w1.heap.size w1 w3 := hb2.trans (hb23.mono hb2.size)
      have hp3 := (hb23.block _ (row_lt hp2)).trans hp2
      rw [← hw3, ← hQ]
      obtain ⟨x0, x1, x2, x3, -⟩ := pn_end hp3
      obtain ⟨y0, y1, y2, y3, -⟩ := pn_end hq3
      clear hw3 hQ hbb hcb hp2 hb2 hb23 hp3 hq3 HPW HRW
      go_upto_region 7 with (go_at_call 25; ((with_reducible refine (HW0.out _ hb3).mono ?_); rintro e w4 ⟨rfl, hb4, hc4⟩))
      clear x0 x1 x2 x3 y0 y1 y2 y3
      have hrw := (hb4.block _ (row_lt HX.out)).trans HX.out
      obtain ⟨x0, x1, x2, x3, -⟩ := pn_end hrw
      go_upto_region 9 with (go_at_call 26; ((with_reducible refine (HRP.out _ hb4).mono ?_); rintro e w5 ⟨rfl, hb5, hc5⟩))
      clear x0 x1 x2 x3
      have hrw5 := (hb5.block _ (row_lt HX.out)).trans HX.out
      obtain ⟨x0, x1, x2, x3, -⟩ := pn_end hrw5
      go_upto_region 10 with (go_at_call 25; ((with_reducible refine (HWP.out _ hb5).mono ?_); rintro e w6 ⟨rfl, hb6, hc6⟩))
      go_upto_region 11 with (go_at_call 23; ((with_reducible refine (HPA.out _ hb6).mono ?_); rintro e wc ⟨rfl, hbc, hcc⟩))
      obtain ⟨G, hG⟩ : ∃ G, G = wc.heap.size := ⟨_, rfl⟩
      obtain ⟨w7, hw7⟩ : ∃ w7, w7 = wc.alloc (.cells #[.string n, .string m, .int .i64 t, .int .i64 z] 24) := ⟨_, rfl⟩
      have hg7 : w7.heap[G]? = some (.cells #[.string n, .string m, .int .i64 t, .int .i64 z] 24 (0, 0)) := by rw [hw7, hG]; exact heap_alloc_new _ _
      have hb7 : Below w1.heap.size w1 w7 := hbc.trans (by rw [hw7]; exact (below_new (Below.refl _ _) _).mono hbc.size)
      rw [← hw7, ← hG]
      have HG7 := Lib.hid hg7
      clear x0 x1 x2 x3 hw7 hG hbc hcc hrw hrw5 hg7
      go_wp2_with (first
        | (go_at_call 9; ((with_reducible refine (HLV.out _ hb7).mono ?_); rintro e w8 ⟨rfl, hb8, hc8⟩; obtain ⟨u0, u1, u2, u3, -⟩ := pn_end ((hb8.block _ (row_lt HX.out)).trans HX.out)))
        | (go_at_call 27; ((with_reducible refine (HRF.out _ hb8).mono ?_); rintro e w9 ⟨rfl, hb9, hc9⟩; obtain ⟨v0, v1, v2, v3, -⟩ := pn_end ((hb9.block _ (row_lt HX.out)).trans HX.out); obtain ⟨g0, g1, g2, g3, -⟩ := pn_end ((hc9.block _ (Nat.lt_of_lt_of_le (row_lt HG7.out) hc8.size)).trans ((hc8.block _ (row_lt HG7.out)).trans HG7.out)))))
      all_goals go_ret
      all_goals first
        | exact ⟨rfl, HBX.out.trans (hb9.mono HBX.out.size)⟩
        | (exfalso; simp_all)
  · have gc : ((c : Int) == 0) = false := by rw [beq_eq_false_iff_ne]; omega
    clear h0 HfW0
    rcases O with _ | _
    · clear HfWP HfRF HfPA
      go_enter Tryz.func6, Tryz.ntmps6
      go_upto_region 1 with fail
      rw [← HW1.out]
      go_upto_region 4 with (go_at_call 23; ((with_reducible refine (HPW.out _ HB0.out).mono ?_); rintro e wa ⟨rfl, hba, hca⟩))
      obtain ⟨P, hP⟩ : ∃ P, P = wa.heap.size := ⟨_, rfl⟩
      obtain ⟨w2, hw2⟩ : ∃ w2, w2 = wa.alloc (.cells #[.string n1, .string m1, .int .i64 t1, .int .i64 z1] 24) := ⟨_, rfl⟩
      have hp2 : w2.heap[P]? = some (.cells #[.string n1, .string m1, .int .i64 t1, .int .i64 z1] 24 (0, 0)) := by rw [hw2, hP]; exact heap_alloc_new _ _
      have hb2 : Below w1.heap.size w1 w2 := hba.trans (by rw [hw2]; exact (below_new (Below.refl _ _) _).mono hba.size)
      rw [← hw2, ← hP]
      clear hw2 hP hba hca
      go_upto_region 5 with (go_at_call 24; ((with_reducible refine (HRW.out _ hb2).mono ?_); rintro e wb ⟨rfl, hbb, hcb⟩))
      obtain ⟨Q, hQ⟩ : ∃ Q, Q = wb.heap.size := ⟨_, rfl⟩
      obtain ⟨w3, hw3⟩ : ∃ w3, w3 = wb.alloc (.cells #[.string n1, .string m1, .int .i64 t1, .int .i64 z1] 24) := ⟨_, rfl⟩
      have hq3 : w3.heap[Q]? = some (.cells #[.string n1, .string m1, .int .i64 t1, .int .i64 z1] 24 (0, 0)) := by rw [hw3, hQ]; exact heap_alloc_new _ _
      have hb23 : Below w2.heap.size w2 w3 := hcb.trans (by rw [hw3]; exact (below_new (Below.refl _ _) _).mono hcb.size)
      have hb3 : Below w1.heap.size w1 w3 := hb2.trans (hb23.mono hb2.size)
      have hp3 := (hb23.block _ (row_lt hp2)).trans hp2
      rw [← hw3, ← hQ]
      obtain ⟨x0, x1, x2, x3, -⟩ := pn_end hp3
      obtain ⟨y0, y1, y2, y3, -⟩ := pn_end hq3
      clear hw3 hQ hbb hcb hp2 hb2 hb23 hp3 hq3 HPW HRW
      go_upto_region 7 with fail
      have hb4 := hb3
      clear x0 x1 x2 x3 y0 y1 y2 y3
      have hrw := (hb4.block _ (row_lt HX.out)).trans HX.out
      obtain ⟨x0, x1, x2, x3, -⟩ := pn_end hrw
      go_upto_region 8 with (go_at_call 26; ((with_reducible refine (HRP.out _ hb4).mono ?_); rintro e w5 ⟨rfl, hb5, hc5⟩))
      go_wp2_with (go_at_call 9; ((with_reducible refine (HLV.out _ hb5).mono ?_); rintro e w6 ⟨rfl, hb6, hc6⟩))
      go_ret
      exact ⟨rfl, HBX.out.trans (hb6.mono HBX.out.size)⟩
    · have HWP := Lib.hid (HfWP.out rfl)
      have HRF := Lib.hid (HfRF.out rfl)
      have HPA := Lib.hid (HfPA.out rfl)
      clear HfWP HfRF HfPA
      go_enter Tryz.func6, Tryz.ntmps6
      go_upto_region 1 with fail
      rw [← HW1.out]
      go_upto_region 4 with (go_at_call 23; ((with_reducible refine (HPW.out _ HB0.out).mono ?_); rintro e wa ⟨rfl, hba, hca⟩))
      obtain ⟨P, hP⟩ : ∃ P, P = wa.heap.size := ⟨_, rfl⟩
      obtain ⟨w2, hw2⟩ : ∃ w2, w2 = wa.alloc (.cells #[.string n1, .string m1, .int .i64 t1, .int .i64 z1] 24) := ⟨_, rfl⟩
      have hp2 : w2.heap[P]? = some (.cells #[.string n1, .string m1, .int .i64 t1, .int .i64 z1] 24 (0, 0)) := by rw [hw2, hP]; exact heap_alloc_new _ _
      have hb2 : Below w1.heap.size w1 w2 := hba.trans (by rw [hw2]; exact (below_new (Below.refl _ _) _).mono hba.size)
      rw [← hw2, ← hP]
      clear hw2 hP hba hca
      go_upto_region 5 with (go_at_call 24; ((with_reducible refine (HRW.out _ hb2).mono ?_); rintro e wb ⟨rfl, hbb, hcb⟩))
      obtain ⟨Q, hQ⟩ : ∃ Q, Q = wb.heap.size := ⟨_, rfl⟩
      obtain ⟨w3, hw3⟩ : ∃ w3, w3 = wb.alloc (.cells #[.string n1, .string m1, .int .i64 t1, .int .i64 z1] 24) := ⟨_, rfl⟩
      have hq3 : w3.heap[Q]? = some (.cells #[.string n1, .string m1, .int .i64 t1, .int .i64 z1] 24 (0, 0)) := by rw [hw3, hQ]; exact heap_alloc_new _ _
      have hb23 : Below w2.heap.size w2 w3 := hcb.trans (by rw [hw3]; exact (below_new (Below.refl _ _) _).mono hcb.size)
      have hb3 : Below w1.heap.size w1 w3 := hb2.trans (hb23.mono hb2.size)
      have hp3 := (hb23.block _ (row_lt hp2)).trans hp2
      rw [← hw3, ← hQ]
      obtain ⟨x0, x1, x2, x3, -⟩ := pn_end hp3
      obtain ⟨y0, y1, y2, y3, -⟩ := pn_end hq3
      clear hw3 hQ hbb hcb hp2 hb2 hb23 hp3 hq3 HPW HRW
      go_upto_region 7 with fail
      have hb4 := hb3
      clear x0 x1 x2 x3 y0 y1 y2 y3
      have hrw := (hb4.block _ (row_lt HX.out)).trans HX.out
      obtain ⟨x0, x1, x2, x3, -⟩ := pn_end hrw
      go_upto_region 9 with (go_at_call 26; ((with_reducible refine (HRP.out _ hb4).mono ?_); rintro e w5 ⟨rfl, hb5, hc5⟩))
      clear x0 x1 x2 x3
      have hrw5 := (hb5.block _ (row_lt HX.out)).trans HX.out
      obtain ⟨x0, x1, x2, x3, -⟩ := pn_end hrw5
      go_upto_region 10 with (go_at_call 25; ((with_reducible refine (HWP.out _ hb5).mono ?_); rintro e w6 ⟨rfl, hb6, hc6⟩))
      go_upto_region 11 with (go_at_call 23; ((with_reducible refine (HPA.out _ hb6).mono ?_); rintro e wc ⟨rfl, hbc, hcc⟩))
      obtain ⟨G, hG⟩ : ∃ G, G = wc.heap.size := ⟨_, rfl⟩
      obtain ⟨w7, hw7⟩ : ∃ w7, w7 = wc.alloc (.cells #[.string n, .string m, .int .i64 t, .int .i64 z] 24) := ⟨_, rfl⟩
      have hg7 : w7.heap[G]? = some (.cells #[.string n, .string m, .int .i64 t, .int .i64 z] 24 (0, 0)) := by rw [hw7, hG]; exact heap_alloc_new _ _
      have hb7 : Below w1.heap.size w1 w7 := hbc.trans (by rw [hw7]; exact (below_new (Below.refl _ _) _).mono hbc.size)
      rw [← hw7, ← hG]
      have HG7 := Lib.hid hg7
      clear x0 x1 x2 x3 hw7 hG hbc hcc hrw hrw5 hg7
      go_wp2_with (first
        | (go_at_call 9; ((with_reducible refine (HLV.out _ hb7).mono ?_); rintro e w8 ⟨rfl, hb8, hc8⟩; obtain ⟨u0, u1, u2, u3, -⟩ := pn_end ((hb8.block _ (row_lt HX.out)).trans HX.out)))
        | (go_at_call 27; ((with_reducible refine (HRF.out _ hb8).mono ?_); rintro e w9 ⟨rfl, hb9, hc9⟩; obtain ⟨v0, v1, v2, v3, -⟩ := pn_end ((hb9.block _ (row_lt HX.out)).trans HX.out); obtain ⟨g0, g1, g2, g3, -⟩ := pn_end ((hc9.block _ (Nat.lt_of_lt_of_le (row_lt HG7.out) hc8.size)).trans ((hc8.block _ (row_lt HG7.out)).trans HG7.out)))))
      all_goals go_ret
      all_goals first
        | exact ⟨rfl, HBX.out.trans (hb9.mono HBX.out.size)⟩
        | (exfalso; simp_all)
end Go.Proofs.YtbleabfgekeneaaGreatDoor
