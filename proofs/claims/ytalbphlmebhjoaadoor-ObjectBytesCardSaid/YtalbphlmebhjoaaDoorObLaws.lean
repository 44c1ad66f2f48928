/-
  The walks of the laws of object.
-/
import Derived.Test.YtalbphlmebhjoaaDoorObLives
import Derived.Test.YtalbphlmebhjoaaDoorObBack
namespace Go.Proofs.YtalbphlmebhjoaaDoor
open Go.RowKit

set_option maxHeartbeats 4000000 in
set_option maxRecDepth 10000 in
theorem objectWords_walk (k : Int) (s : ByteArray) (w : World) (h : ObTab w) :
    Calls Tryd.prog 5 #[.int .i64 k, .string s] w fun e w' => e = .returned (.bool true) ∧ Below w.heap.size w w' := by
  obtain ⟨t, ht⟩ : ∃ t, t = str (wordL k) := ⟨_, rfl⟩
  have HL : Hid (∀ w', Below w.heap.size w w' → Calls Tryd.prog 6 #[] w' fun e w'' => e = .returned (.bool true) ∧ Below w.heap.size w w'') := fun w' hb => (lives_any w' (h.below hb)).mono fun e w'' ⟨he, hb2⟩ => ⟨he, hb.trans (hb2.mono hb.size)⟩
  have HWd : Hid (∀ w', Below w.heap.size w w' → Calls Tryd.prog 14 #[.int .i64 k] w' fun e w'' => e = .returned (.string t) ∧ w' = w'') := fun w' hb => (word_any k w' (h.wo.below hb)).mono fun e w'' ⟨he, hw⟩ => ⟨by rw [he, ht], hw.symm⟩
  have HRw : Hid (∀ w', Calls Tryd.prog 15 #[.int .i64 k] w' fun e w'' => e = .returned (.string t) ∧ w' = w'') := fun w' => (rword_any k w').mono fun e w'' ⟨he, hw⟩ => ⟨by rw [he, ht], hw.symm⟩
  obtain ⟨K, hK⟩ : ∃ K, K = kindL s.data.toList := ⟨_, rfl⟩
  have HKd : Hid (∀ w', Below w.heap.size w w' → Calls Tryd.prog 16 #[.string s] w' fun e w'' => e = .returned (.int .i64 (K : Int)) ∧ w' = w'') := fun w' hb => (kind_any s w' (h.wo.below hb)).mono fun e w'' ⟨he, hw⟩ => ⟨by rw [he, hK], hw.symm⟩
  have HRk : Hid (∀ w', Calls Tryd.prog 17 #[.string s] w' fun e w'' => e = .returned (.int .i64 (K : Int)) ∧ w' = w'') := fun w' => (rkind_any s w').mono fun e w'' ⟨he, hw⟩ => ⟨by rw [he, hK], hw.symm⟩
  by_cases hk : wordL k = []
  · have f1 : t.toList.isEmpty = true := by rw [ByteArray.toList_eq, ht, str_list, hk]; rfl
    have f2 : (t.toList == []) = true := by rw [ByteArray.toList_eq, ht, str_list, hk]; rfl
    clear ht hK hk h
    go_enter Tryd.func5, Tryd.ntmps5
    go_wp2_with (first
      | (go_at_call 6; ((with_reducible refine (HL.out _ (Below.refl _ _)).mono ?_); rintro e w1 ⟨rfl, hb1⟩))
      | (go_at_call 14; ((with_reducible refine (HWd.out _ hb1).mono ?_); rintro e w2 ⟨rfl, rfl⟩))
      | (go_at_call 15; ((with_reducible refine (HRw.out _).mono ?_); rintro e w2 ⟨rfl, rfl⟩))
      | (go_at_call 16; ((with_reducible refine (HKd.out _ hb1).mono ?_); rintro e w2 ⟨rfl, rfl⟩))
      | (go_at_call 17; ((with_reducible refine (HRk.out _).mono ?_); rintro e w2 ⟨rfl, rfl⟩)))
    go_ret
    exact ⟨rfl, hb1⟩
  · have f1 : t.toList.isEmpty = false := by
      rw [ByteArray.toList_eq, ht, str_list]
      cases hx : wordL k with
      | nil => exact absurd hx hk
      | cons a l => rfl
    have f2 : (t.toList == []) = false := by rw [ByteArray.toList_eq, ht, str_list, beq_eq_false_iff_ne]; exact hk
    have hkk : 1 ≤ k ∧ k ≤ 4 := by
      by_cases hkk : 1 ≤ k ∧ k ≤ 4
      · exact hkk
      · exact absurd (wordL_nil.mpr hkk) hk
    have HKt : Hid (∀ w', Below w.heap.size w w' → Calls Tryd.prog 16 #[.string t] w' fun e w'' => e = .returned (.int .i64 k) ∧ w' = w'') := fun w' hb => (kind_any t w' (h.wo.below hb)).mono fun e w'' ⟨he, hw⟩ => ⟨by rw [he, ht, str_list, kind_word hkk], hw.symm⟩
    clear ht hK hk h hkk
    go_enter Tryd.func5, Tryd.ntmps5
    go_wp2_with (first
      | (go_at_call 6; ((with_reducible refine (HL.out _ (Below.refl _ _)).mono ?_); rintro e w1 ⟨rfl, hb1⟩))
      | (go_at_call 14; ((with_reducible refine (HWd.out _ hb1).mono ?_); rintro e w2 ⟨rfl, rfl⟩))
      | (go_at_call 15; ((with_reducible refine (HRw.out _).mono ?_); rintro e w2 ⟨rfl, rfl⟩))
      | (go_at_call 16; first | ((with_reducible refine (HKd.out _ hb1).mono ?_); rintro e w2 ⟨rfl, rfl⟩) | ((with_reducible refine (HKt.out _ hb1).mono ?_); rintro e w2 ⟨rfl, rfl⟩))
      | (go_at_call 17; ((with_reducible refine (HRk.out _).mono ?_); rintro e w2 ⟨rfl, rfl⟩)))
    go_ret
    exact ⟨rfl, hb1⟩

set_option maxHeartbeats 4000000 in
set_option maxRecDepth 10000 in
theorem objectParses_walk (s : ByteArray) (w : World) (h : ObTab w) (hs : s.size ≤ 140737488355328) :
    Calls Tryd.prog 4 #[.string s] w fun e w' => e = .returned (.bool true) ∧ Below w.heap.size w w' := by
  have HL : Hid (∀ w', Below w.heap.size w w' → Calls Tryd.prog 6 #[] w' fun e w'' => e = .returned (.bool true) ∧ Below w.heap.size w w'' ∧ Below w'.heap.size w' w'') := fun w' hb => (lives_any w' (h.below hb)).mono fun e w'' ⟨he, hb2⟩ => ⟨he, hb.trans (hb2.mono hb.size), hb2⟩
  by_cases hbig : 1048596 < s.size
  · clear h
    go_enter Tryd.func4, Tryd.ntmps4
    go_wp2_with (go_at_call 6; ((with_reducible refine (HL.out _ (Below.refl _ _)).mono ?_); rintro e w1 ⟨rfl, hb1, hc1⟩))
    go_ret
    exact ⟨rfl, hb1⟩
  obtain ⟨kd, bl, er, hp⟩ : ∃ kd bl er, prs s.data.toList = (kd, bl, er) := ⟨_, _, _, rfl⟩
  obtain ⟨bd, hbd⟩ : ∃ bd, bd = str bl := ⟨_, rfl⟩
  have hbdl : bd.data.toList = bl := by rw [hbd]; rfl
  have hbs : bd.size ≤ 2000000 := by
    have h0 : (prs s.data.toList).2.1.length ≤ s.data.toList.length := by
      unfold prs
      simp only
      split
      · simp
      split
      · simp
      split
      · simp
      split
      · simp
      split
      · simp
      · simp only [List.length_drop]; omega
    rw [hp] at h0
    rw [hbd, str_size]
    rw [list_len] at h0
    simp only at h0
    omega
  have HP : Hid (∀ w', Below w.heap.size w w' → Calls Tryd.prog 12 #[.string s] w' fun e w'' => e = .returned (.tuple #[.agg #[.int .i64 (kd : Int), .string bd], .int .i64 (er : Int)]) ∧ Below w.heap.size w w'' ∧ Below w'.heap.size w' w'') := fun w' hb => (parse_any s w' (h.wo.below hb) (h.st.below hb) (by omega)).mono fun e w'' ⟨he, hb2⟩ => ⟨by rw [he, hp, hbd], hb.trans (hb2.mono hb.size), hb2⟩
  have HRP : Hid (∀ w', Below w.heap.size w w' → Calls Tryd.prog 13 #[.string s] w' fun e w'' => e = .returned (.tuple #[.agg #[.int .i64 (kd : Int), .string bd], .int .i64 (er : Int)]) ∧ Below w.heap.size w w'' ∧ Below w'.heap.size w' w'') := fun w' hb => (rparse_any s w' (by omega)).mono fun e w'' ⟨he, hb2⟩ => ⟨by rw [he, hp, hbd], hb.trans (hb2.mono hb.size), hb2⟩
  obtain ⟨t, ht⟩ : ∃ t, t = str (bytesL (kd : Int) bl) := ⟨_, rfl⟩
  obtain ⟨E, hE⟩ : ∃ E, E = bytesE (kd : Int) bl := ⟨_, rfl⟩
  have HBy : Hid (∀ w', Below w.heap.size w w' → Calls Tryd.prog 7 #[.agg #[.int .i64 (kd : Int), .string bd]] w' fun e w'' => e = .returned (.tuple #[.string t, .int .i64 (E : Int)]) ∧ Below w.heap.size w w'') := fun w' hb => (bytes_any (kd : Int) bd w' (h.wo.below hb) (h.st.below hb) (by omega)).mono fun e w'' ⟨he, hb2⟩ => ⟨by rw [he, hbdl, ht, hE], hb.trans (hb2.mono hb.size)⟩
  have back : er = 0 → t = s ∧ E = 0 := fun he => by
    subst he
    obtain ⟨h1, h2⟩ := prs_back hp
    exact ⟨ba_ext (by rw [ht, str_list, bytesL_ok h1, h2]), by rw [hE, h1]⟩
  clear h hp hbd hbdl ht hE hbs
  by_cases he : er = 0
  · obtain ⟨rfl, rfl⟩ := back he
    subst he
    clear back
    go_enter Tryd.func4, Tryd.ntmps4
    go_upto_region 4 with (go_at_call 12; ((with_reducible refine (HP.out _ (Below.refl _ _)).mono ?_); rintro e w1 ⟨rfl, hb1, hc1⟩))
    obtain ⟨O, hO⟩ : ∃ O, O = w1.heap.size := ⟨_, rfl⟩
    obtain ⟨w2, hw2⟩ : ∃ w2, w2 = w1.alloc (.cells #[.int .i64 (kd : Int), .string bd] 23) := ⟨_, rfl⟩
    have hrow2 : w2.heap[O]? = some (.cells #[.int .i64 (kd : Int), .string bd] 23 (0, 0)) := by rw [hw2, hO]; exact heap_alloc_new _ _
    have hO2 : O < w2.heap.size := by rw [hw2, World.size_alloc]; omega
    have hb2 : Below w.heap.size w w2 := by rw [hw2]; exact hb1.alloc hb1.size _
    rw [← hw2, ← hO]
    clear hw2 hO hb1 hc1
    go_upto_region 5 with (go_at_call 13; ((with_reducible refine (HRP.out _ hb2).mono ?_); rintro e w3 ⟨rfl, hb3, hc3⟩))
    obtain ⟨V, hV⟩ : ∃ V, V = w3.heap.size := ⟨_, rfl⟩
    obtain ⟨w4, hw4⟩ : ∃ w4, w4 = w3.alloc (.cells #[.int .i64 (kd : Int), .string bd] 23) := ⟨_, rfl⟩
    have hrow4 : w4.heap[V]? = some (.cells #[.int .i64 (kd : Int), .string bd] 23 (0, 0)) := by rw [hw4, hV]; exact heap_alloc_new _ _
    have hb4 : Below w.heap.size w w4 := by rw [hw4]; exact hb3.alloc hb3.size _
    have hc4 : Below w2.heap.size w2 w4 := by rw [hw4]; exact hc3.alloc hc3.size _
    have hr4 : w4.heap[O]? = some (.cells #[.int .i64 (kd : Int), .string bd] 23 (0, 0)) := (hc4.block O hO2).trans hrow2
    rw [← hw4, ← hV]
    clear hw4 hV hb2 hb3 hc3 hc4 hrow2 hO2
    have HR := Lib.hid hrow4
    have HR2 := Lib.hid hr4
    have HB4 := Lib.hid hb4
    clear hrow4 hr4 hb4
    go_wp2_with (first
      | (go_at_call 6; ((with_reducible refine (HL.out _ HB4.out).mono ?_); rintro e w5 ⟨rfl, hb5, hc5⟩; have o0 := cell_bel (cell_of_row w4 O 0 _ _ _ HR2.out) hc5; have o1 := cell_bel (cell_of_row w4 O 1 _ _ _ HR2.out) hc5; have v0 := cell_bel (cell_of_row w4 V 0 _ _ _ HR.out) hc5; have v1 := cell_bel (cell_of_row w4 V 1 _ _ _ HR.out) hc5))
      | (go_at_call 7; ((with_reducible refine (HBy.out _ hb5).mono ?_); rintro e w6 ⟨rfl, hb6⟩)))
    go_ret
    exact ⟨rfl, hb6⟩
  · have f1 : ((er : Int) != 0) = true := by simpa using he
    clear back he
    go_enter Tryd.func4, Tryd.ntmps4
    go_upto_region 4 with (go_at_call 12; ((with_reducible refine (HP.out _ (Below.refl _ _)).mono ?_); rintro e w1 ⟨rfl, hb1, hc1⟩))
    obtain ⟨O, hO⟩ : ∃ O, O = w1.heap.size := ⟨_, rfl⟩
    obtain ⟨w2, hw2⟩ : ∃ w2, w2 = w1.alloc (.cells #[.int .i64 (kd : Int), .string bd] 23) := ⟨_, rfl⟩
    have hrow2 : w2.heap[O]? = some (.cells #[.int .i64 (kd : Int), .string bd] 23 (0, 0)) := by rw [hw2, hO]; exact heap_alloc_new _ _
    have hO2 : O < w2.heap.size := by rw [hw2, World.size_alloc]; omega
    have hb2 : Below w.heap.size w w2 := by rw [hw2]; exact hb1.alloc hb1.size _
    rw [← hw2, ← hO]
    clear hw2 hO hb1 hc1
    go_upto_region 5 with (go_at_call 13; ((with_reducible refine (HRP.out _ hb2).mono ?_); rintro e w3 ⟨rfl, hb3, hc3⟩))
    obtain ⟨V, hV⟩ : ∃ V, V = w3.heap.size := ⟨_, rfl⟩
    obtain ⟨w4, hw4⟩ : ∃ w4, w4 = w3.alloc (.cells #[.int .i64 (kd : Int), .string bd] 23) := ⟨_, rfl⟩
    have hrow4 : w4.heap[V]? = some (.cells #[.int .i64 (kd : Int), .string bd] 23 (0, 0)) := by rw [hw4, hV]; exact heap_alloc_new _ _
    have hb4 : Below w.heap.size w w4 := by rw [hw4]; exact hb3.alloc hb3.size _
    have hc4 : Below w2.heap.size w2 w4 := by rw [hw4]; exact hc3.alloc hc3.size _
    have hr4 : w4.heap[O]? = some (.cells #[.int .i64 (kd : Int), .string bd] 23 (0, 0)) := (hc4.block O hO2).trans hrow2
    rw [← hw4, ← hV]
    clear hw4 hV hb2 hb3 hc3 hc4 hrow2 hO2
    have HR := Lib.hid hrow4
    have HR2 := Lib.hid hr4
    have HB4 := Lib.hid hb4
    clear hrow4 hr4 hb4
    go_wp2_with (first
      | (go_at_call 6; ((with_reducible refine (HL.out _ HB4.out).mono ?_); rintro e w5 ⟨rfl, hb5, hc5⟩; have o0 := cell_bel (cell_of_row w4 O 0 _ _ _ HR2.out) hc5; have o1 := cell_bel (cell_of_row w4 O 1 _ _ _ HR2.out) hc5; have v0 := cell_bel (cell_of_row w4 V 0 _ _ _ HR.out) hc5; have v1 := cell_bel (cell_of_row w4 V 1 _ _ _ HR.out) hc5))
      | (go_at_call 7; ((with_reducible refine (HBy.out _ hb5).mono ?_); rintro e w6 ⟨rfl, hb6⟩)))
    go_ret
    exact ⟨rfl, hb6⟩
end Go.Proofs.YtalbphlmebhjoaaDoor
