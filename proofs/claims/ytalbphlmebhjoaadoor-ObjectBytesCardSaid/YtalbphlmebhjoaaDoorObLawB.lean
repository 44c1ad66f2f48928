/-
  The walk of the law ObjectBytes.
-/
import Derived.Test.YtalbphlmebhjoaaDoorObLaws
namespace Go.Proofs.YtalbphlmebhjoaaDoor
open Go.RowKit

theorem two_boxes (w : World) (x y : Obj) : ((w.alloc x).alloc y).heap[w.heap.size]? = some x ∧ ((w.alloc x).alloc y).heap[w.heap.size + 1]? = some y ∧ Below w.heap.size w ((w.alloc x).alloc y) ∧ ((w.alloc x).alloc y).heap.size = w.heap.size + 2 := by
  have hx := heap_alloc_new w x
  refine ⟨?_, ?_, ?_, ?_⟩
  · exact (Below.heap_alloc (w.alloc x) y w.heap.size (by rw [World.size_alloc]; omega)).trans hx
  · have h := heap_alloc_new (w.alloc x) y
    rwa [World.size_alloc] at h
  · exact ((Below.refl _ _).alloc (Nat.le_refl _) _).alloc (by simp) _
  · simp [World.size_alloc]

set_option maxHeartbeats 8000000 in
set_option maxRecDepth 10000 in
theorem objectBytes_walk (k1 : Int) (b1 : ByteArray) (k2 : Int) (b2 : ByteArray) (w : World) (h : ObTab w) (hs1 : b1.size ≤ 140737488355328) (hs2 : b2.size ≤ 140737488355328) :
    Calls Tryd.prog 3 #[.agg #[.int .i64 k1, .string b1], .agg #[.int .i64 k2, .string b2]] w fun e w' => e = .returned (.bool true) ∧ Below w.heap.size w w' := by
  obtain ⟨q1, q2, q3, q4⟩ := two_boxes w (.cells #[.int .i64 k1, .string b1] 23) (.cells #[.int .i64 k2, .string b2] 23)
  obtain ⟨w1, hw1⟩ : ∃ w1, w1 = (w.alloc (.cells #[.int .i64 k1, .string b1] 23)).alloc (.cells #[.int .i64 k2, .string b2] 23) := ⟨_, rfl⟩
  have HW1 := Lib.hid hw1
  rw [← hw1] at q1 q2 q3 q4
  have HA := Lib.hid q1
  have HB := Lib.hid q2
  have HX := Lib.hid q3
  have hT : ∀ w', Below w1.heap.size w1 w' → ObTab w' := fun w' hb => (h.below q3).below hb
  have hsz := q4
  clear hw1 q1 q2 q3
  have HL : Hid (∀ w', Below w1.heap.size w1 w' → Calls Tryd.prog 6 #[] w' fun e w'' => e = .returned (.bool true) ∧ Below w1.heap.size w1 w'') := fun w' hb => (lives_any w' (hT w' hb)).mono fun e w'' ⟨he, hb2⟩ => ⟨he, hb.trans (hb2.mono hb.size)⟩
  have a0 : ∀ w', Below w1.heap.size w1 w' → w'.cell? ⟨w.heap.size, 0, none⟩ = some (.int .i64 k1) := fun w' hb => cell_bel (cell_of_row w1 _ 0 _ _ _ HA.out) hb
  have a1 : ∀ w', Below w1.heap.size w1 w' → w'.cell? ⟨w.heap.size, 1, none⟩ = some (.string b1) := fun w' hb => cell_bel (cell_of_row w1 _ 1 _ _ _ HA.out) hb
  have b0 : ∀ w', Below w1.heap.size w1 w' → w'.cell? ⟨w.heap.size + 1, 0, none⟩ = some (.int .i64 k2) := fun w' hb => cell_bel (cell_of_row w1 _ 0 _ _ _ HB.out) hb
  have bb1 : ∀ w', Below w1.heap.size w1 w' → w'.cell? ⟨w.heap.size + 1, 1, none⟩ = some (.string b2) := fun w' hb => cell_bel (cell_of_row w1 _ 1 _ _ _ HB.out) hb
  have A0 := Lib.hid a0
  have A1 := Lib.hid a1
  have B0 := Lib.hid b0
  have B1 := Lib.hid bb1
  have c0 := a0 w1 (Below.refl _ _)
  have c1 := a1 w1 (Below.refl _ _)
  have d0 := b0 w1 (Below.refl _ _)
  have d1 := bb1 w1 (Below.refl _ _)
  clear a0 a1 b0 bb1 HA HB hsz q4
  by_cases hbig : 1048586 < b1.size
  · clear hT h
    go_enter Tryd.func3, Tryd.ntmps3
    go_upto_region 1 with fail
    rw [← HW1.out]
    go_wp2_with (go_at_call 6; ((with_reducible refine (HL.out _ (Below.refl _ _)).mono ?_); rintro e w2 ⟨rfl, hb2⟩))
    go_ret
    exact ⟨rfl, HX.out.trans (hb2.mono HX.out.size)⟩
  by_cases hbig2 : 1048586 < b2.size
  · clear hT h
    go_enter Tryd.func3, Tryd.ntmps3
    go_upto_region 1 with fail
    rw [← HW1.out]
    go_wp2_with (go_at_call 6; ((with_reducible refine (HL.out _ (Below.refl _ _)).mono ?_); rintro e w2 ⟨rfl, hb2⟩))
    go_ret
    exact ⟨rfl, HX.out.trans (hb2.mono HX.out.size)⟩
  obtain ⟨S1, hS1⟩ : ∃ S1, S1 = str (bytesL k1 b1.data.toList) := ⟨_, rfl⟩
  obtain ⟨E1, hE1⟩ : ∃ E1, E1 = bytesE k1 b1.data.toList := ⟨_, rfl⟩
  obtain ⟨S2, hS2⟩ : ∃ S2, S2 = str (bytesL k2 b2.data.toList) := ⟨_, rfl⟩
  obtain ⟨E2, hE2⟩ : ∃ E2, E2 = bytesE k2 b2.data.toList := ⟨_, rfl⟩
  obtain ⟨D1, hD1⟩ : ∃ D1, D1 = str (idL k1 b1.data.toList) := ⟨_, rfl⟩
  have hS1l : S1.size ≤ 2000000 := by rw [hS1, str_size]; exact bytesL_len
  have HBy1 : Hid (∀ w', Below w1.heap.size w1 w' → Calls Tryd.prog 7 #[.agg #[.int .i64 k1, .string b1]] w' fun e w'' => e = .returned (.tuple #[.string S1, .int .i64 (E1 : Int)]) ∧ Below w1.heap.size w1 w'') := fun w' hb => (bytes_any k1 b1 w' (hT w' hb).wo (hT w' hb).st hs1).mono fun e w'' ⟨he, hb2⟩ => ⟨by rw [he, hS1, hE1], hb.trans (hb2.mono hb.size)⟩
  have HBy2 : Hid (∀ w', Below w1.heap.size w1 w' → Calls Tryd.prog 7 #[.agg #[.int .i64 k2, .string b2]] w' fun e w'' => e = .returned (.tuple #[.string S2, .int .i64 (E2 : Int)]) ∧ Below w1.heap.size w1 w'' ∧ Below w'.heap.size w' w'') := fun w' hb => (bytes_any k2 b2 w' (hT w' hb).wo (hT w' hb).st hs2).mono fun e w'' ⟨he, hb2⟩ => ⟨by rw [he, hS2, hE2], hb.trans (hb2.mono hb.size), hb2⟩
  have HRb1 : Hid (∀ w', Below w1.heap.size w1 w' → Calls Tryd.prog 8 #[.agg #[.int .i64 k1, .string b1]] w' fun e w'' => e = .returned (.tuple #[.string S1, .int .i64 (E1 : Int)]) ∧ Below w1.heap.size w1 w'') := fun w' hb => (rbytes_any k1 b1 w' hs1).mono fun e w'' ⟨he, hb2⟩ => ⟨by rw [he, hS1, hE1], hb.trans (hb2.mono hb.size)⟩
  have HPa : E1 = 0 → Hid (∀ w', Below w1.heap.size w1 w' → Calls Tryd.prog 12 #[.string S1] w' fun e w'' => e = .returned (.tuple #[.agg #[.int .i64 k1, .string b1], .int .i64 0]) ∧ Below w1.heap.size w1 w'') := fun h0 w' hb => (parse_any S1 w' (hT w' hb).wo (hT w' hb).st (by omega)).mono fun e w'' ⟨he, hb2⟩ => ⟨by
    have hz : bytesE k1 b1.data.toList = 0 := hE1.symm.trans h0
    have hw : wordL k1 ≠ [] := fun e => by rw [bytesE_kind e] at hz; cases hz
    have hl : b1.data.toList.length ≤ 1048576 := by
      rcases Nat.lt_or_ge 1048576 b1.data.toList.length with h' | h'
      · rw [bytesE_big hw h'] at hz; cases hz
      · exact h'
    have hk : 1 ≤ k1 := by
      rcases Int.lt_or_le k1 1 with h' | h'
      · exact absurd (wordL_nil.mpr (by omega)) hw
      · exact h'
    rw [he, hS1, str_list, bytesL_ok hz, prs_enc k1 _ hw hl]
    show Ending.returned (.tuple #[.agg #[.int .i64 ((k1.toNat : Nat) : Int), .string (str b1.data.toList)], .int .i64 ((0 : Nat) : Int)]) = _
    rw [Int.toNat_of_nonneg (by omega)]
    rfl, hb.trans (hb2.mono hb.size)⟩
  have HId : Hid (∀ w4, Below w1.heap.size w1 w4 → ∀ x : BelW w4, Calls Tryd.prog 9 #[.agg #[.int .i64 k1, .string b1]] x.w fun e w'' => e = .returned (.string D1) ∧ ∃ y : BelW w4, w'' = y.w) := fun w4 hb x => Calls.bel_class (x := x) (by
    have ht := hT x.w (hb.trans (x.h.mono hb.size))
    rw [hD1]
    exact id_any k1 b1 x.w ht.wo ht.st ht.kt hs1)
  have HRd : Hid (∀ w4, ∀ x : BelW w4, Calls Tryd.prog 10 #[.agg #[.int .i64 k1, .string b1]] x.w fun e w'' => e = .returned (.string D1) ∧ ∃ y : BelW w4, w'' = y.w) := fun w4 x => Calls.bel_class (x := x) (by
    rw [hD1]
    exact rid_any k1 b1 x.w hs1)
  have HLv : Hid (∀ w4, Below w1.heap.size w1 w4 → ∀ x : BelW w4, Calls Tryd.prog 6 #[] x.w fun e w'' => e = .returned (.bool true) ∧ ∃ y : BelW w4, w'' = y.w) := fun w4 hb x => Calls.bel_class (x := x) (lives_any x.w (hT x.w (hb.trans (x.h.mono hb.size))))
  have inj : E1 = 0 → E2 = 0 → S1 = S2 → k1 = k2 ∧ b1 = b2 := fun e1 e2 e3 => by
    have h1 : bytesE k1 b1.data.toList = 0 := hE1.symm.trans e1
    have h2 : bytesE k2 b2.data.toList = 0 := hE2.symm.trans e2
    rw [hS1, hS2, bytesL_ok h1, bytesL_ok h2] at e3
    have e4 := congrArg (fun x : ByteArray => x.data.toList) e3
    obtain ⟨h3, h4⟩ := enc_inj h1 h2 e4
    exact ⟨h3, ba_ext h4⟩
  have same : k1 = k2 → b1 = b2 → S1 = S2 ∧ E1 = E2 := fun e1 e2 => by subst e1; subst e2; exact ⟨hS1.trans hS2.symm, hE1.trans hE2.symm⟩
  clear hS1 hS2 hE1 hE2 hD1 hT h HL
  by_cases hk : k1 = k2
  · subst hk
    by_cases hb : b1 = b2
    · subst hb
      obtain ⟨rfl, rfl⟩ := same rfl rfl
      clear same
      have CS : Hid (∀ w4, ∀ x : BelW w4, Calls Tryd.prog 11 #[.agg #[.int .i64 k1, .string b1], .agg #[.int .i64 k1, .string b1]] x.w fun e w'' => e = .returned (.bool true) ∧ ∃ y : BelW w4, w'' = y.w) := fun w4 x => Calls.bel_class (x := x) (same_any _ _ _ _ true x.w (by simp))
      by_cases h1 : E1 = 0
      · have HP := Lib.hid (HPa h1).out
        subst h1
        clear inj HPa
        go_enter Tryd.func3, Tryd.ntmps3
        go_upto_region 1 with fail
        rw [← HW1.out]
        go_upto_region 4 with (go_at_call 7; ((with_reducible refine (HBy1.out _ (Below.refl _ _)).mono ?_); rintro e w2 ⟨rfl, hb2⟩))
        clear c0 c1 d0 d1
        have c0 := A0.out _ hb2
        have c1 := A1.out _ hb2
        go_upto_region 5 with (go_at_call 8; ((with_reducible refine (HRb1.out _ hb2).mono ?_); rintro e w3 ⟨rfl, hb3⟩))
        clear c0 c1 hb2
        have i0 : ∀ x : BelW w3, x.w.cell? ⟨w.heap.size, 0, none⟩ = some (.int .i64 k1) := fun x => A0.out _ (hb3.trans (x.h.mono hb3.size))
        have i1 : ∀ x : BelW w3, x.w.cell? ⟨w.heap.size, 1, none⟩ = some (.string b1) := fun x => A1.out _ (hb3.trans (x.h.mono hb3.size))
        have j0 : ∀ x : BelW w3, x.w.cell? ⟨w.heap.size + 1, 0, none⟩ = some (.int .i64 k1) := fun x => B0.out _ (hb3.trans (x.h.mono hb3.size))
        have j1 : ∀ x : BelW w3, x.w.cell? ⟨w.heap.size + 1, 1, none⟩ = some (.string b1) := fun x => B1.out _ (hb3.trans (x.h.mono hb3.size))
        have hq : Nonempty (BelW w3) := ⟨⟨w3, Below.refl _ _⟩⟩
        have C1 := Lib.hid (HId.out w3 hb3)
        have C2 := Lib.hid (HRd.out w3)
        have C3 := Lib.hid (HLv.out w3 hb3)
        have HB3 := Lib.hid hb3
        clear hb3
        refine wp_region_bel (w0 := w3) (Below.refl _ _) (by kernel_rfl) (by kernel_rfl) ?_
        repeat (go_big_quiet_step (first
          | (go_at_call 6; with_reducible exact C3.out _)
          | (go_at_call 9; with_reducible exact C1.out _)
          | (go_at_call 10; with_reducible exact C2.out _)
          | (go_at_call 11; with_reducible exact CS.out _ _)))
        refine wpQuiet_nil ?_
        rintro _ ⟨x, rfl⟩
        have hx3 := HB3.out.trans (x.h.mono HB3.out.size)
        obtain ⟨w4, hw4⟩ : ∃ w4, w4 = x.w := ⟨_, rfl⟩
        rw [← hw4] at hx3 ⊢
        have HB4 := Lib.hid hx3
        clear hw4 hx3 i0 i1 j0 j1 hq x C1 C2 C3
        go_upto_region 10 with (go_at_call 12; ((with_reducible refine (HP.out _ HB4.out).mono ?_); rintro e w5 ⟨rfl, hb5⟩))
        obtain ⟨O, hO⟩ : ∃ O, O = w5.heap.size := ⟨_, rfl⟩
        obtain ⟨w6, hw6⟩ : ∃ w6, w6 = w5.alloc (.cells #[.int .i64 k1, .string b1] 23) := ⟨_, rfl⟩
        have hrow : w6.heap[O]? = some (.cells #[.int .i64 k1, .string b1] 23 (0, 0)) := by rw [hw6, hO]; exact heap_alloc_new _ _
        have hb6 : Below w1.heap.size w1 w6 := by rw [hw6]; exact hb5.alloc hb5.size _
        rw [← hw6, ← hO]
        have HR := Lib.hid hrow
        have d0 := B0.out _ hb6
        have d1 := B1.out _ hb6
        clear hw6 hO hrow hb5
        go_upto_region 11 with (go_at_call 7; ((with_reducible refine (HBy2.out _ hb6).mono ?_); rintro e w7 ⟨rfl, hb7, hc7⟩))
        clear d0 d1
        have c0 := A0.out _ hb7
        have c1 := A1.out _ hb7
        have d0 := B0.out _ hb7
        have d1 := B1.out _ hb7
        have o0 := cell_bel (cell_of_row w6 O 0 _ _ _ HR.out) hc7
        have o1 := cell_bel (cell_of_row w6 O 1 _ _ _ HR.out) hc7
        have HB7 := Lib.hid hb7
        clear hb6 hb7 hc7
        go_wp2
        go_ret
        exact ⟨rfl, HX.out.trans (HB7.out.mono HX.out.size)⟩
      · have g1 : ((E1 : Int) != 0) = true := by simpa using h1
        clear inj HPa h1
        go_enter Tryd.func3, Tryd.ntmps3
        go_upto_region 1 with fail
        rw [← HW1.out]
        go_upto_region 4 with (go_at_call 7; ((with_reducible refine (HBy1.out _ (Below.refl _ _)).mono ?_); rintro e w2 ⟨rfl, hb2⟩))
        clear c0 c1 d0 d1
        have c0 := A0.out _ hb2
        have c1 := A1.out _ hb2
        go_upto_region 5 with (go_at_call 8; ((with_reducible refine (HRb1.out _ hb2).mono ?_); rintro e w3 ⟨rfl, hb3⟩))
        clear c0 c1 hb2
        have i0 : ∀ x : BelW w3, x.w.cell? ⟨w.heap.size, 0, none⟩ = some (.int .i64 k1) := fun x => A0.out _ (hb3.trans (x.h.mono hb3.size))
        have i1 : ∀ x : BelW w3, x.w.cell? ⟨w.heap.size, 1, none⟩ = some (.string b1) := fun x => A1.out _ (hb3.trans (x.h.mono hb3.size))
        have j0 : ∀ x : BelW w3, x.w.cell? ⟨w.heap.size + 1, 0, none⟩ = some (.int .i64 k1) := fun x => B0.out _ (hb3.trans (x.h.mono hb3.size))
        have j1 : ∀ x : BelW w3, x.w.cell? ⟨w.heap.size + 1, 1, none⟩ = some (.string b1) := fun x => B1.out _ (hb3.trans (x.h.mono hb3.size))
        have hq : Nonempty (BelW w3) := ⟨⟨w3, Below.refl _ _⟩⟩
        have C1 := Lib.hid (HId.out w3 hb3)
        have C2 := Lib.hid (HRd.out w3)
        have C3 := Lib.hid (HLv.out w3 hb3)
        have HB3 := Lib.hid hb3
        clear hb3
        refine wp_region_bel (w0 := w3) (Below.refl _ _) (by kernel_rfl) (by kernel_rfl) ?_
        repeat (go_big_quiet_step (first
          | (go_at_call 6; with_reducible exact C3.out _)
          | (go_at_call 9; with_reducible exact C1.out _)
          | (go_at_call 10; with_reducible exact C2.out _)
          | (go_at_call 11; with_reducible exact CS.out _ _)))
        refine wpQuiet_nil ?_
        rintro _ ⟨x, rfl⟩
        have hx3 := HB3.out.trans (x.h.mono HB3.out.size)
        obtain ⟨w4, hw4⟩ : ∃ w4, w4 = x.w := ⟨_, rfl⟩
        rw [← hw4] at hx3 ⊢
        have HB4 := Lib.hid hx3
        clear hw4 hx3 i0 i1 j0 j1 hq x C1 C2 C3
        go_wp2
        go_ret
        exact ⟨rfl, HX.out.trans (HB4.out.mono HX.out.size)⟩
    · have hdiff : ¬ (k1 = k1 ∧ b1 = b2) := fun h => hb h.2
      have g3 : (b1.toList == b2.toList) = false := ba_ne hb
      have g4 : ¬ b1.toList = b2.toList := by simpa using g3
      have CS : Hid (∀ w4, ∀ x : BelW w4, Calls Tryd.prog 11 #[.agg #[.int .i64 k1, .string b1], .agg #[.int .i64 k1, .string b2]] x.w fun e w'' => e = .returned (.bool false) ∧ ∃ y : BelW w4, w'' = y.w) := fun w4 x => Calls.bel_class (x := x) (same_any _ _ _ _ false x.w (by simp [hb]))
      by_cases h1 : E1 = 0
      · have HP := Lib.hid (HPa h1).out
        by_cases h2 : E2 = 0
        · have hSne : S1 ≠ S2 := fun e => hdiff (inj h1 h2 e)
          have g1 : (S1.toList == S2.toList) = false := ba_ne hSne
          have g2 : ¬ S1.toList = S2.toList := by simpa using g1
          subst h1
          subst h2
          clear hSne inj same hdiff HPa
          go_enter Tryd.func3, Tryd.ntmps3
          go_upto_region 1 with fail
          rw [← HW1.out]
          go_upto_region 4 with (go_at_call 7; ((with_reducible refine (HBy1.out _ (Below.refl _ _)).mono ?_); rintro e w2 ⟨rfl, hb2⟩))
          clear c0 c1 d0 d1
          have c0 := A0.out _ hb2
          have c1 := A1.out _ hb2
          go_upto_region 5 with (go_at_call 8; ((with_reducible refine (HRb1.out _ hb2).mono ?_); rintro e w3 ⟨rfl, hb3⟩))
          clear c0 c1 hb2
          have i0 : ∀ x : BelW w3, x.w.cell? ⟨w.heap.size, 0, none⟩ = some (.int .i64 k1) := fun x => A0.out _ (hb3.trans (x.h.mono hb3.size))
          have i1 : ∀ x : BelW w3, x.w.cell? ⟨w.heap.size, 1, none⟩ = some (.string b1) := fun x => A1.out _ (hb3.trans (x.h.mono hb3.size))
          have j0 : ∀ x : BelW w3, x.w.cell? ⟨w.heap.size + 1, 0, none⟩ = some (.int .i64 k1) := fun x => B0.out _ (hb3.trans (x.h.mono hb3.size))
          have j1 : ∀ x : BelW w3, x.w.cell? ⟨w.heap.size + 1, 1, none⟩ = some (.string b2) := fun x => B1.out _ (hb3.trans (x.h.mono hb3.size))
          have hq : Nonempty (BelW w3) := ⟨⟨w3, Below.refl _ _⟩⟩
          have C1 := Lib.hid (HId.out w3 hb3)
          have C2 := Lib.hid (HRd.out w3)
          have C3 := Lib.hid (HLv.out w3 hb3)
          have HB3 := Lib.hid hb3
          clear hb3
          refine wp_region_bel (w0 := w3) (Below.refl _ _) (by kernel_rfl) (by kernel_rfl) ?_
          repeat (go_big_quiet_step (first
            | (go_at_call 6; with_reducible exact C3.out _)
            | (go_at_call 9; with_reducible exact C1.out _)
            | (go_at_call 10; with_reducible exact C2.out _)
            | (go_at_call 11; with_reducible exact CS.out _ _)))
          refine wpQuiet_nil ?_
          rintro _ ⟨x, rfl⟩
          have hx3 := HB3.out.trans (x.h.mono HB3.out.size)
          obtain ⟨w4, hw4⟩ : ∃ w4, w4 = x.w := ⟨_, rfl⟩
          rw [← hw4] at hx3 ⊢
          have HB4 := Lib.hid hx3
          clear hw4 hx3 i0 i1 j0 j1 hq x C1 C2 C3
          go_upto_region 10 with (go_at_call 12; ((with_reducible refine (HP.out _ HB4.out).mono ?_); rintro e w5 ⟨rfl, hb5⟩))
          obtain ⟨O, hO⟩ : ∃ O, O = w5.heap.size := ⟨_, rfl⟩
          obtain ⟨w6, hw6⟩ : ∃ w6, w6 = w5.alloc (.cells #[.int .i64 k1, .string b1] 23) := ⟨_, rfl⟩
          have hrow : w6.heap[O]? = some (.cells #[.int .i64 k1, .string b1] 23 (0, 0)) := by rw [hw6, hO]; exact heap_alloc_new _ _
          have hb6 : Below w1.heap.size w1 w6 := by rw [hw6]; exact hb5.alloc hb5.size _
          rw [← hw6, ← hO]
          have HR := Lib.hid hrow
          have d0 := B0.out _ hb6
          have d1 := B1.out _ hb6
          clear hw6 hO hrow hb5
          go_upto_region 11 with (go_at_call 7; ((with_reducible refine (HBy2.out _ hb6).mono ?_); rintro e w7 ⟨rfl, hb7, hc7⟩))
          clear d0 d1
          have c0 := A0.out _ hb7
          have c1 := A1.out _ hb7
          have d0 := B0.out _ hb7
          have d1 := B1.out _ hb7
          have o0 := cell_bel (cell_of_row w6 O 0 _ _ _ HR.out) hc7
          have o1 := cell_bel (cell_of_row w6 O 1 _ _ _ HR.out) hc7
          have HB7 := Lib.hid hb7
          clear hb6 hb7 hc7
          go_wp2
          go_ret
          exact ⟨rfl, HX.out.trans (HB7.out.mono HX.out.size)⟩
        · have g1 : ((E2 : Int) != 0) = true := by simpa using h2
          subst h1
          clear inj same hdiff HPa h2
          go_enter Tryd.func3, Tryd.ntmps3
          go_upto_region 1 with fail
          rw [← HW1.out]
          go_upto_region 4 with (go_at_call 7; ((with_reducible refine (HBy1.out _ (Below.refl _ _)).mono ?_); rintro e w2 ⟨rfl, hb2⟩))
          clear c0 c1 d0 d1
          have c0 := A0.out _ hb2
          have c1 := A1.out _ hb2
          go_upto_region 5 with (go_at_call 8; ((with_reducible refine (HRb1.out _ hb2).mono ?_); rintro e w3 ⟨rfl, hb3⟩))
          clear c0 c1 hb2
          have i0 : ∀ x : BelW w3, x.w.cell? ⟨w.heap.size, 0, none⟩ = some (.int .i64 k1) := fun x => A0.out _ (hb3.trans (x.h.mono hb3.size))
          have i1 : ∀ x : BelW w3, x.w.cell? ⟨w.heap.size, 1, none⟩ = some (.string b1) := fun x => A1.out _ (hb3.trans (x.h.mono hb3.size))
          have j0 : ∀ x : BelW w3, x.w.cell? ⟨w.heap.size + 1, 0, none⟩ = some (.int .i64 k1) := fun x => B0.out _ (hb3.trans (x.h.mono hb3.size))
          have j1 : ∀ x : BelW w3, x.w.cell? ⟨w.heap.size + 1, 1, none⟩ = some (.string b2) := fun x => B1.out _ (hb3.trans (x.h.mono hb3.size))
          have hq : Nonempty (BelW w3) := ⟨⟨w3, Below.refl _ _⟩⟩
          have C1 := Lib.hid (HId.out w3 hb3)
          have C2 := Lib.hid (HRd.out w3)
          have C3 := Lib.hid (HLv.out w3 hb3)
          have HB3 := Lib.hid hb3
          clear hb3
          refine wp_region_bel (w0 := w3) (Below.refl _ _) (by kernel_rfl) (by kernel_rfl) ?_
          repeat (go_big_quiet_step (first
            | (go_at_call 6; with_reducible exact C3.out _)
            | (go_at_call 9; with_reducible exact C1.out _)
            | (go_at_call 10; with_reducible exact C2.out _)
            | (go_at_call 11; with_reducible exact CS.out _ _)))
          refine wpQuiet_nil ?_
          rintro _ ⟨x, rfl⟩
          have hx3 := HB3.out.trans (x.h.mono HB3.out.size)
          obtain ⟨w4, hw4⟩ : ∃ w4, w4 = x.w := ⟨_, rfl⟩
          rw [← hw4] at hx3 ⊢
          have HB4 := Lib.hid hx3
          clear hw4 hx3 i0 i1 j0 j1 hq x C1 C2 C3
          go_upto_region 10 with (go_at_call 12; ((with_reducible refine (HP.out _ HB4.out).mono ?_); rintro e w5 ⟨rfl, hb5⟩))
          obtain ⟨O, hO⟩ : ∃ O, O = w5.heap.size := ⟨_, rfl⟩
          obtain ⟨w6, hw6⟩ : ∃ w6, w6 = w5.alloc (.cells #[.int .i64 k1, .string b1] 23) := ⟨_, rfl⟩
          have hrow : w6.heap[O]? = some (.cells #[.int .i64 k1, .string b1] 23 (0, 0)) := by rw [hw6, hO]; exact heap_alloc_new _ _
          have hb6 : Below w1.heap.size w1 w6 := by rw [hw6]; exact hb5.alloc hb5.size _
          rw [← hw6, ← hO]
          have HR := Lib.hid hrow
          have d0 := B0.out _ hb6
          have d1 := B1.out _ hb6
          clear hw6 hO hrow hb5
          go_upto_region 11 with (go_at_call 7; ((with_reducible refine (HBy2.out _ hb6).mono ?_); rintro e w7 ⟨rfl, hb7, hc7⟩))
          clear d0 d1
          have c0 := A0.out _ hb7
          have c1 := A1.out _ hb7
          have d0 := B0.out _ hb7
          have d1 := B1.out _ hb7
          have o0 := cell_bel (cell_of_row w6 O 0 _ _ _ HR.out) hc7
          have o1 := cell_bel (cell_of_row w6 O 1 _ _ _ HR.out) hc7
          have HB7 := Lib.hid hb7
          clear hb6 hb7 hc7
          go_wp2
          go_ret
          exact ⟨rfl, HX.out.trans (HB7.out.mono HX.out.size)⟩
      · have g1 : ((E1 : Int) != 0) = true := by simpa using h1
        clear inj HPa h1
        clear same hdiff
        go_enter Tryd.func3, Tryd.ntmps3
        go_upto_region 1 with fail
        rw [← HW1.out]
        go_upto_region 4 with (go_at_call 7; ((with_reducible refine (HBy1.out _ (Below.refl _ _)).mono ?_); rintro e w2 ⟨rfl, hb2⟩))
        clear c0 c1 d0 d1
        have c0 := A0.out _ hb2
        have c1 := A1.out _ hb2
        go_upto_region 5 with (go_at_call 8; ((with_reducible refine (HRb1.out _ hb2).mono ?_); rintro e w3 ⟨rfl, hb3⟩))
        clear c0 c1 hb2
        have i0 : ∀ x : BelW w3, x.w.cell? ⟨w.heap.size, 0, none⟩ = some (.int .i64 k1) := fun x => A0.out _ (hb3.trans (x.h.mono hb3.size))
        have i1 : ∀ x : BelW w3, x.w.cell? ⟨w.heap.size, 1, none⟩ = some (.string b1) := fun x => A1.out _ (hb3.trans (x.h.mono hb3.size))
        have j0 : ∀ x : BelW w3, x.w.cell? ⟨w.heap.size + 1, 0, none⟩ = some (.int .i64 k1) := fun x => B0.out _ (hb3.trans (x.h.mono hb3.size))
        have j1 : ∀ x : BelW w3, x.w.cell? ⟨w.heap.size + 1, 1, none⟩ = some (.string b2) := fun x => B1.out _ (hb3.trans (x.h.mono hb3.size))
        have hq : Nonempty (BelW w3) := ⟨⟨w3, Below.refl _ _⟩⟩
        have C1 := Lib.hid (HId.out w3 hb3)
        have C2 := Lib.hid (HRd.out w3)
        have C3 := Lib.hid (HLv.out w3 hb3)
        have HB3 := Lib.hid hb3
        clear hb3
        refine wp_region_bel (w0 := w3) (Below.refl _ _) (by kernel_rfl) (by kernel_rfl) ?_
        repeat (go_big_quiet_step (first
          | (go_at_call 6; with_reducible exact C3.out _)
          | (go_at_call 9; with_reducible exact C1.out _)
          | (go_at_call 10; with_reducible exact C2.out _)
          | (go_at_call 11; with_reducible exact CS.out _ _)))
        refine wpQuiet_nil ?_
        rintro _ ⟨x, rfl⟩
        have hx3 := HB3.out.trans (x.h.mono HB3.out.size)
        obtain ⟨w4, hw4⟩ : ∃ w4, w4 = x.w := ⟨_, rfl⟩
        rw [← hw4] at hx3 ⊢
        have HB4 := Lib.hid hx3
        clear hw4 hx3 i0 i1 j0 j1 hq x C1 C2 C3
        go_wp2
        go_ret
        exact ⟨rfl, HX.out.trans (HB4.out.mono HX.out.size)⟩
  · have hdiff : ¬ (k1 = k2 ∧ b1 = b2) := fun h => hk h.1
    have CS : Hid (∀ w4, ∀ x : BelW w4, Calls Tryd.prog 11 #[.agg #[.int .i64 k1, .string b1], .agg #[.int .i64 k2, .string b2]] x.w fun e w'' => e = .returned (.bool false) ∧ ∃ y : BelW w4, w'' = y.w) := fun w4 x => Calls.bel_class (x := x) (same_any _ _ _ _ false x.w (by simp [hk]))
    by_cases h1 : E1 = 0
    · have HP := Lib.hid (HPa h1).out
      by_cases h2 : E2 = 0
      · have hSne : S1 ≠ S2 := fun e => hdiff (inj h1 h2 e)
        have g1 : (S1.toList == S2.toList) = false := ba_ne hSne
        have g2 : ¬ S1.toList = S2.toList := by simpa using g1
        subst h1
        subst h2
        clear hSne inj same hdiff HPa
        go_enter Tryd.func3, Tryd.ntmps3
        go_upto_region 1 with fail
        rw [← HW1.out]
        go_upto_region 4 with (go_at_call 7; ((with_reducible refine (HBy1.out _ (Below.refl _ _)).mono ?_); rintro e w2 ⟨rfl, hb2⟩))
        clear c0 c1 d0 d1
        have c0 := A0.out _ hb2
        have c1 := A1.out _ hb2
        go_upto_region 5 with (go_at_call 8; ((with_reducible refine (HRb1.out _ hb2).mono ?_); rintro e w3 ⟨rfl, hb3⟩))
        clear c0 c1 hb2
        have i0 : ∀ x : BelW w3, x.w.cell? ⟨w.heap.size, 0, none⟩ = some (.int .i64 k1) := fun x => A0.out _ (hb3.trans (x.h.mono hb3.size))
        have i1 : ∀ x : BelW w3, x.w.cell? ⟨w.heap.size, 1, none⟩ = some (.string b1) := fun x => A1.out _ (hb3.trans (x.h.mono hb3.size))
        have j0 : ∀ x : BelW w3, x.w.cell? ⟨w.heap.size + 1, 0, none⟩ = some (.int .i64 k2) := fun x => B0.out _ (hb3.trans (x.h.mono hb3.size))
        have j1 : ∀ x : BelW w3, x.w.cell? ⟨w.heap.size + 1, 1, none⟩ = some (.string b2) := fun x => B1.out _ (hb3.trans (x.h.mono hb3.size))
        have hq : Nonempty (BelW w3) := ⟨⟨w3, Below.refl _ _⟩⟩
        have C1 := Lib.hid (HId.out w3 hb3)
        have C2 := Lib.hid (HRd.out w3)
        have C3 := Lib.hid (HLv.out w3 hb3)
        have HB3 := Lib.hid hb3
        clear hb3
        refine wp_region_bel (w0 := w3) (Below.refl _ _) (by kernel_rfl) (by kernel_rfl) ?_
        repeat (go_big_quiet_step (first
          | (go_at_call 6; with_reducible exact C3.out _)
          | (go_at_call 9; with_reducible exact C1.out _)
          | (go_at_call 10; with_reducible exact C2.out _)
          | (go_at_call 11; with_reducible exact CS.out _ _)))
        refine wpQuiet_nil ?_
        rintro _ ⟨x, rfl⟩
        have hx3 := HB3.out.trans (x.h.mono HB3.out.size)
        obtain ⟨w4, hw4⟩ : ∃ w4, w4 = x.w := ⟨_, rfl⟩
        rw [← hw4] at hx3 ⊢
        have HB4 := Lib.hid hx3
        clear hw4 hx3 i0 i1 j0 j1 hq x C1 C2 C3
        go_upto_region 10 with (go_at_call 12; ((with_reducible refine (HP.out _ HB4.out).mono ?_); rintro e w5 ⟨rfl, hb5⟩))
        obtain ⟨O, hO⟩ : ∃ O, O = w5.heap.size := ⟨_, rfl⟩
        obtain ⟨w6, hw6⟩ : ∃ w6, w6 = w5.alloc (.cells #[.int .i64 k1, .string b1] 23) := ⟨_, rfl⟩
        have hrow : w6.heap[O]? = some (.cells #[.int .i64 k1, .string b1] 23 (0, 0)) := by rw [hw6, hO]; exact heap_alloc_new _ _
        have hb6 : Below w1.heap.size w1 w6 := by rw [hw6]; exact hb5.alloc hb5.size _
        rw [← hw6, ← hO]
        have HR := Lib.hid hrow
        have d0 := B0.out _ hb6
        have d1 := B1.out _ hb6
        clear hw6 hO hrow hb5
        go_upto_region 11 with (go_at_call 7; ((with_reducible refine (HBy2.out _ hb6).mono ?_); rintro e w7 ⟨rfl, hb7, hc7⟩))
        clear d0 d1
        have c0 := A0.out _ hb7
        have c1 := A1.out _ hb7
        have d0 := B0.out _ hb7
        have d1 := B1.out _ hb7
        have o0 := cell_bel (cell_of_row w6 O 0 _ _ _ HR.out) hc7
        have o1 := cell_bel (cell_of_row w6 O 1 _ _ _ HR.out) hc7
        have HB7 := Lib.hid hb7
        clear hb6 hb7 hc7
        go_wp2
        go_ret
        exact ⟨rfl, HX.out.trans (HB7.out.mono HX.out.size)⟩
      · have g1 : ((E2 : Int) != 0) = true := by simpa using h2
        subst h1
        clear inj same hdiff HPa h2
        go_enter Tryd.func3, Tryd.ntmps3
        go_upto_region 1 with fail
        rw [← HW1.out]
        go_upto_region 4 with (go_at_call 7; ((with_reducible refine (HBy1.out _ (Below.refl _ _)).mono ?_); rintro e w2 ⟨rfl, hb2⟩))
        clear c0 c1 d0 d1
        have c0 := A0.out _ hb2
        have c1 := A1.out _ hb2
        go_upto_region 5 with (go_at_call 8; ((with_reducible refine (HRb1.out _ hb2).mono ?_); rintro e w3 ⟨rfl, hb3⟩))
        clear c0 c1 hb2
        have i0 : ∀ x : BelW w3, x.w.cell? ⟨w.heap.size, 0, none⟩ = some (.int .i64 k1) := fun x => A0.out _ (hb3.trans (x.h.mono hb3.size))
        have i1 : ∀ x : BelW w3, x.w.cell? ⟨w.heap.size, 1, none⟩ = some (.string b1) := fun x => A1.out _ (hb3.trans (x.h.mono hb3.size))
        have j0 : ∀ x : BelW w3, x.w.cell? ⟨w.heap.size + 1, 0, none⟩ = some (.int .i64 k2) := fun x => B0.out _ (hb3.trans (x.h.mono hb3.size))
        have j1 : ∀ x : BelW w3, x.w.cell? ⟨w.heap.size + 1, 1, none⟩ = some (.string b2) := fun x => B1.out _ (hb3.trans (x.h.mono hb3.size))
        have hq : Nonempty (BelW w3) := ⟨⟨w3, Below.refl _ _⟩⟩
        have C1 := Lib.hid (HId.out w3 hb3)
        have C2 := Lib.hid (HRd.out w3)
        have C3 := Lib.hid (HLv.out w3 hb3)
        have HB3 := Lib.hid hb3
        clear hb3
        refine wp_region_bel (w0 := w3) (Below.refl _ _) (by kernel_rfl) (by kernel_rfl) ?_
        repeat (go_big_quiet_step (first
          | (go_at_call 6; with_reducible exact C3.out _)
          | (go_at_call 9; with_reducible exact C1.out _)
          | (go_at_call 10; with_reducible exact C2.out _)
          | (go_at_call 11; with_reducible exact CS.out _ _)))
        refine wpQuiet_nil ?_
        rintro _ ⟨x, rfl⟩
        have hx3 := HB3.out.trans (x.h.mono HB3.out.size)
        obtain ⟨w4, hw4⟩ : ∃ w4, w4 = x.w := ⟨_, rfl⟩
        rw [← hw4] at hx3 ⊢
        have HB4 := Lib.hid hx3
        clear hw4 hx3 i0 i1 j0 j1 hq x C1 C2 C3
        go_upto_region 10 with (go_at_call 12; ((with_reducible refine (HP.out _ HB4.out).mono ?_); rintro e w5 ⟨rfl, hb5⟩))
        obtain ⟨O, hO⟩ : ∃ O, O = w5.heap.size := ⟨_, rfl⟩
        obtain ⟨w6, hw6⟩ : ∃ w6, w6 = w5.alloc (.cells #[.int .i64 k1, .string b1] 23) := ⟨_, rfl⟩
        have hrow : w6.heap[O]? = some (.cells #[.int .i64 k1, .string b1] 23 (0, 0)) := by rw [hw6, hO]; exact heap_alloc_new _ _
        have hb6 : Below w1.heap.size w1 w6 := by rw [hw6]; exact hb5.alloc hb5.size _
        rw [← hw6, ← hO]
        have HR := Lib.hid hrow
        have d0 := B0.out _ hb6
        have d1 := B1.out _ hb6
        clear hw6 hO hrow hb5
        go_upto_region 11 with (go_at_call 7; ((with_reducible refine (HBy2.out _ hb6).mono ?_); rintro e w7 ⟨rfl, hb7, hc7⟩))
        clear d0 d1
        have c0 := A0.out _ hb7
        have c1 := A1.out _ hb7
        have d0 := B0.out _ hb7
        have d1 := B1.out _ hb7
        have o0 := cell_bel (cell_of_row w6 O 0 _ _ _ HR.out) hc7
        have o1 := cell_bel (cell_of_row w6 O 1 _ _ _ HR.out) hc7
        have HB7 := Lib.hid hb7
        clear hb6 hb7 hc7
        go_wp2
        go_ret
        exact ⟨rfl, HX.out.trans (HB7.out.mono HX.out.size)⟩
    · have g1 : ((E1 : Int) != 0) = true := by simpa using h1
      clear inj HPa h1
      clear same hdiff
      go_enter Tryd.func3, Tryd.ntmps3
      go_upto_region 1 with fail
      rw [← HW1.out]
      go_upto_region 4 with (go_at_call 7; ((with_reducible refine (HBy1.out _ (Below.refl _ _)).mono ?_); rintro e w2 ⟨rfl, hb2⟩))
      clear c0 c1 d0 d1
      have c0 := A0.out _ hb2
      have c1 := A1.out _ hb2
      go_upto_region 5 with (go_at_call 8; ((with_reducible refine (HRb1.out _ hb2).mono ?_); rintro e w3 ⟨rfl, hb3⟩))
      clear c0 c1 hb2
      have i0 : ∀ x : BelW w3, x.w.cell? ⟨w.heap.size, 0, none⟩ = some (.int .i64 k1) := fun x => A0.out _ (hb3.trans (x.h.mono hb3.size))
      have i1 : ∀ x : BelW w3, x.w.cell? ⟨w.heap.size, 1, none⟩ = some (.string b1) := fun x => A1.out _ (hb3.trans (x.h.mono hb3.size))
      have j0 : ∀ x : BelW w3, x.w.cell? ⟨w.heap.size + 1, 0, none⟩ = some (.int .i64 k2) := fun x => B0.out _ (hb3.trans (x.h.mono hb3.size))
      have j1 : ∀ x : BelW w3, x.w.cell? ⟨w.heap.size + 1, 1, none⟩ = some (.string b2) := fun x => B1.out _ (hb3.trans (x.h.mono hb3.size))
      have hq : Nonempty (BelW w3) := ⟨⟨w3, Below.refl _ _⟩⟩
      have C1 := Lib.hid (HId.out w3 hb3)
      have C2 := Lib.hid (HRd.out w3)
      have C3 := Lib.hid (HLv.out w3 hb3)
      have HB3 := Lib.hid hb3
      clear hb3
      refine wp_region_bel (w0 := w3) (Below.refl _ _) (by kernel_rfl) (by kernel_rfl) ?_
      repeat (go_big_quiet_step (first
        | (go_at_call 6; with_reducible exact C3.out _)
        | (go_at_call 9; with_reducible exact C1.out _)
        | (go_at_call 10; with_reducible exact C2.out _)
        | (go_at_call 11; with_reducible exact CS.out _ _)))
      refine wpQuiet_nil ?_
      rintro _ ⟨x, rfl⟩
      have hx3 := HB3.out.trans (x.h.mono HB3.out.size)
      obtain ⟨w4, hw4⟩ : ∃ w4, w4 = x.w := ⟨_, rfl⟩
      rw [← hw4] at hx3 ⊢
      have HB4 := Lib.hid hx3
      clear hw4 hx3 i0 i1 j0 j1 hq x C1 C2 C3
      go_wp2
      go_ret
      exact ⟨rfl, HX.out.trans (HB4.out.mono HX.out.size)⟩
end Go.Proofs.YtalbphlmebhjoaaDoor
