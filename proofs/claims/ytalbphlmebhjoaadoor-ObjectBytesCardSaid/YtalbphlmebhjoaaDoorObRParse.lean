/-
  The walks of the reference's Parse and of Same.
-/
import Derived.Test.YtalbphlmebhjoaaDoorObParse
import Derived.StillTailTactics
namespace Go.Proofs.YtalbphlmebhjoaaDoor
open Go.RowKit

theorem take_str (s : ByteArray) (a : Nat) : (s.extract 0 a).data.toList = s.data.toList.take a := by
  rw [Lib.extract_data]
  simp
theorem drop_str (s : ByteArray) (a b : Nat) : (s.extract (a + 1) b).data.toList = (s.data.toList.take b).drop (a + 1) := by
  rw [Lib.extract_data, List.drop_take]
theorem rest_str (s : ByteArray) (a : Nat) : (s.extract a s.size).data.toList = s.data.toList.drop a := by
  rw [Lib.extract_data, List.take_of_length_le (by simp)]

set_option maxHeartbeats 4000000 in
set_option maxRecDepth 4000 in
theorem rparse_any (s : ByteArray) (w : World) (hs : s.size ≤ 4000000) :
    Calls Tryd.prog 13 #[.string s] w (ParR (prs s.data.toList) w) := by
  obtain ⟨R, hR⟩ : ∃ R, R = prs s.data.toList := ⟨_, rfl⟩
  rw [← hR]
  obtain ⟨A, hA⟩ : ∃ A, A = Lib.indexByte s.data.toList 32 := ⟨_, rfl⟩
  obtain ⟨B, hB⟩ : ∃ B, B = Lib.indexByte s.data.toList 0 := ⟨_, rfl⟩
  have HF1 : Hid (∀ w', Calls Tryd.prog 25 #[.string s, .int .u8 32, .int .i64 0] w' fun e w'' => e = .returned (.int .i64 A) ∧ w' = w'') := fun w' => (rfindB_any s 32 32 w' rfl (by omega)).mono fun e w'' ⟨he, hw⟩ => ⟨by rw [he, hA], hw.symm⟩
  have HF2 : Hid (∀ w', Calls Tryd.prog 25 #[.string s, .int .u8 0, .int .i64 0] w' fun e w'' => e = .returned (.int .i64 B) ∧ w' = w'') := fun w' => (rfindB_any s 0 0 w' rfl (by omega)).mono fun e w'' ⟨he, hw⟩ => ⟨by rw [he, hB], hw.symm⟩
  have hx := heap_alloc_new w (.cells #[.int .i64 0, .string ⟨#[]⟩] 23)
  have hbx : Below w.heap.size w (w.alloc (.cells #[.int .i64 0, .string ⟨#[]⟩] 23)) := (Below.refl _ _).alloc (Nat.le_refl _) _
  obtain ⟨w1, hw1⟩ : ∃ w1, w1 = w.alloc (.cells #[.int .i64 0, .string ⟨#[]⟩] 23) := ⟨_, rfl⟩
  have HW1 := Lib.hid hw1
  rw [← hw1] at hx hbx
  have y0 := cell_of_row w1 w.heap.size 0 _ _ _ hx
  have y1 := cell_of_row w1 w.heap.size 1 _ _ _ hx
  have z0 := frozen_of_row w1 w.heap.size 0 _ _ hx
  have z1 := frozen_of_row w1 w.heap.size 1 _ _ hx
  have HRW := Lib.hid hx
  have HBX := Lib.hid hbx
  clear hw1 hx hbx
  by_cases c1 : A < 0
  · have HQ : Hid (R = (0, (⟨#[]⟩ : ByteArray).data.toList, 2)) := by show _ = _; rw [hR, prs_bad (.inl (by rw [← hA]; exact c1))]
    clear hR hA hB
    go_enter Tryd.func13, Tryd.ntmps13
    go_upto_region 1 with fail
    rw [← HW1.out]
    go_wp2_with (first
      | (go_at_call 25; first
        | ((with_reducible refine (HF1.out _).mono ?_); rintro e w2 ⟨rfl, rfl⟩)
        | ((with_reducible refine (HF2.out _).mono ?_); rintro e w3 ⟨rfl, rfl⟩)))
    obtain ⟨d0, d1⟩ := obj_end (v0 := .int .i64 0) (v1 := .string ⟨#[]⟩) HRW.out
    refine bodyPost_ret (v := .tuple #[.agg #[.int .i64 0, .string ⟨#[]⟩], .int .i64 2]) (by simp [results, Tryd.results13, go_sem, d0, d1]) rfl (parR_mk (b := ⟨#[]⟩) HQ.out rfl ((HBX.out.setCell (Nat.le_refl _) _).setCell (Nat.le_refl _) _))
  by_cases c2 : B < A
  · have HQ : Hid (R = (0, (⟨#[]⟩ : ByteArray).data.toList, 2)) := by show _ = _; rw [hR, prs_bad (.inr (.inl (by rw [← hA, ← hB]; exact c2)))]
    clear hR hA hB
    go_enter Tryd.func13, Tryd.ntmps13
    go_upto_region 1 with fail
    rw [← HW1.out]
    go_wp2_with (first
      | (go_at_call 25; first
        | ((with_reducible refine (HF1.out _).mono ?_); rintro e w2 ⟨rfl, rfl⟩)
        | ((with_reducible refine (HF2.out _).mono ?_); rintro e w3 ⟨rfl, rfl⟩)))
    obtain ⟨d0, d1⟩ := obj_end (v0 := .int .i64 0) (v1 := .string ⟨#[]⟩) HRW.out
    refine bodyPost_ret (v := .tuple #[.agg #[.int .i64 0, .string ⟨#[]⟩], .int .i64 2]) (by simp [results, Tryd.results13, go_sem, d0, d1]) rfl (parR_mk (b := ⟨#[]⟩) HQ.out rfl ((HBX.out.setCell (Nat.le_refl _) _).setCell (Nat.le_refl _) _))
  obtain ⟨a, rfl⟩ : ∃ a : Nat, A = (a : Int) := ⟨A.toNat, by omega⟩
  obtain ⟨b, rfl⟩ : ∃ b : Nat, B = (b : Int) := ⟨B.toNat, by omega⟩
  have hal : a < s.size := by
    rcases idx_nat s.data.toList 32 with h | ⟨k, h, hk⟩
    · omega
    · rw [list_len] at hk; omega
  have hbl : b < s.size := by
    rcases idx_nat s.data.toList 0 with h | ⟨k, h, hk⟩
    · omega
    · rw [list_len] at hk; omega
  have hne : a ≠ b := by
    intro e
    subst e
    have h1 := (Lib.indexByte_some hA.symm).1
    rw [(Lib.indexByte_some hB.symm).1] at h1
    cases h1
  have hab : a < b := by omega
  obtain ⟨K, hK⟩ : ∃ K, K = kindL (s.data.toList.take a) := ⟨_, rfl⟩
  have HKd : Hid (∀ w', Calls Tryd.prog 17 #[.string (s.extract 0 a)] w' fun e w'' => e = .returned (.int .i64 (K : Int)) ∧ w' = w'') := fun w' => (rkind_any (s.extract 0 a) w').mono fun e w'' ⟨he, hw⟩ => ⟨by rw [he, take_str, hK], hw.symm⟩
  clear c1 c2 hne
  by_cases c3 : K = 0
  · have HQ : Hid (R = (0, (⟨#[]⟩ : ByteArray).data.toList, 2)) := by show _ = _; rw [hR, prs_bad (.inr (.inr (by rw [← hA, Int.toNat_natCast, ← hK]; exact c3)))]
    subst c3
    clear hR hA hB hK
    go_enter Tryd.func13, Tryd.ntmps13
    go_upto_region 1 with fail
    rw [← HW1.out]
    go_wp2_with (first
      | (go_at_call 25; first
        | ((with_reducible refine (HF1.out _).mono ?_); rintro e w2 ⟨rfl, rfl⟩)
        | ((with_reducible refine (HF2.out _).mono ?_); rintro e w3 ⟨rfl, rfl⟩))
      | (go_at_call 17; ((with_reducible refine (HKd.out _).mono ?_); rintro e w4 ⟨rfl, rfl⟩)))
    obtain ⟨d0, d1⟩ := obj_end (v0 := .int .i64 0) (v1 := .string ⟨#[]⟩) HRW.out
    refine bodyPost_ret (v := .tuple #[.agg #[.int .i64 0, .string ⟨#[]⟩], .int .i64 2]) (by simp [results, Tryd.results13, go_sem, d0, d1]) rfl (parR_mk (b := ⟨#[]⟩) HQ.out rfl ((HBX.out.setCell (Nat.le_refl _) _).setCell (Nat.le_refl _) _))
  have e3 : ((K : Int) == 0) = false := by simpa using c3
  have hP : R = match numR 7 ((s.data.toList.take b).drop (a + 1)) with
      | none => (0, [], 2)
      | some n => if 1048576 < n then (0, [], 4) else if s.size - b - 1 < n then (0, [], 3) else if n < s.size - b - 1 then (0, [], 2) else (K, s.data.toList.drop (b + 1), 0) := by
    rw [hR]
    unfold prs
    simp only [← hA, ← hB, Int.toNat_natCast, ← hK, list_len]
    rw [if_neg (by rintro (h | h | h); omega; omega; exact c3 h)]
    cases numR 7 ((s.data.toList.take b).drop (a + 1)) <;> rfl
  obtain ⟨N, hN⟩ : ∃ N, N = numI ((s.data.toList.take b).drop (a + 1)) := ⟨_, rfl⟩
  have HNm : Hid (∀ w', Calls Tryd.prog 26 #[.string (s.extract (a + 1) b), .int .i64 7] w' fun e w'' => e = .returned (.int .i64 N) ∧ w' = w'') := fun w' => (rnumber_any (s.extract (a + 1) b) w' (by rw [ByteArray.size_extract]; omega)).mono fun e w'' ⟨he, hw⟩ => ⟨by rw [he, drop_str, hN], hw.symm⟩
  have i1 : IntKind.i64.wrap ((a : Int) + 1) = ((a + 1 : Nat) : Int) := by rw [IntWalk.i64_in _ (by omega)]; omega
  have i1b : IntKind.i64.wrap ((b : Int) + 1) = ((b + 1 : Nat) : Int) := by rw [IntWalk.i64_in _ (by omega)]; omega
  clear hR hA hB hK
  cases hn : numR 7 ((s.data.toList.take b).drop (a + 1)) with
  | none =>
    have hN1 : N = -1 := by rw [hN, numI, hn]
    have HQ : Hid (R = (0, (⟨#[]⟩ : ByteArray).data.toList, 2)) := by show _ = _; rw [hP, hn]
    subst hN1
    clear hP hN hn c3
    go_enter Tryd.func13, Tryd.ntmps13
    go_upto_region 1 with fail
    rw [← HW1.out]
    go_wp2_with (first
      | (go_at_call 25; first
        | ((with_reducible refine (HF1.out _).mono ?_); rintro e w2 ⟨rfl, rfl⟩)
        | ((with_reducible refine (HF2.out _).mono ?_); rintro e w3 ⟨rfl, rfl⟩))
      | (go_at_call 17; ((with_reducible refine (HKd.out _).mono ?_); rintro e w4 ⟨rfl, rfl⟩))
      | (go_at_call 26; ((with_reducible refine (HNm.out _).mono ?_); rintro e w5 ⟨rfl, rfl⟩)))
    obtain ⟨d0, d1⟩ := obj_end (v0 := .int .i64 0) (v1 := .string ⟨#[]⟩) HRW.out
    refine bodyPost_ret (v := .tuple #[.agg #[.int .i64 0, .string ⟨#[]⟩], .int .i64 2]) (by simp [results, Tryd.results13, go_sem, d0, d1]) rfl (parR_mk (b := ⟨#[]⟩) HQ.out rfl ((HBX.out.setCell (Nat.le_refl _) _).setCell (Nat.le_refl _) _))
  | some n =>
    have hN1 : N = (n : Int) := by rw [hN, numI, hn]
    have hnl := numR_lt hn
    rw [hn] at hP
    simp only at hP
    subst hN1
    obtain ⟨D1, hD1⟩ : ∃ D1, D1 = s.size - b := ⟨_, rfl⟩
    obtain ⟨D, hD⟩ : ∃ D, D = D1 - 1 := ⟨_, rfl⟩
    rw [← hD1, ← hD] at hP
    have j1 : (s.size : Int) - (b : Int) = (D1 : Int) := by omega
    have j2 : (D1 : Int) - 1 = (D : Int) := by omega
    have j1' : IntKind.i64.wrap ((s.size : Int) - (b : Int)) = (D1 : Int) := by rw [IntWalk.i64_in _ (by omega)]; omega
    have j2' : IntKind.i64.wrap ((D1 : Int) - 1) = (D : Int) := by rw [IntWalk.i64_in _ (by omega)]; omega
    have hDl : D ≤ 4000000 := by omega
    clear hN hn hD hD1
    by_cases c4 : 1048576 < n
    · have HQ : Hid (R = (0, (⟨#[]⟩ : ByteArray).data.toList, 4)) := by show _ = _; rw [hP, if_pos c4]
      clear hP c3
      go_enter Tryd.func13, Tryd.ntmps13
      go_upto_region 1 with fail
      rw [← HW1.out]
      go_wp2_with (first
        | (go_at_call 25; first
          | ((with_reducible refine (HF1.out _).mono ?_); rintro e w2 ⟨rfl, rfl⟩)
          | ((with_reducible refine (HF2.out _).mono ?_); rintro e w3 ⟨rfl, rfl⟩))
        | (go_at_call 17; ((with_reducible refine (HKd.out _).mono ?_); rintro e w4 ⟨rfl, rfl⟩))
        | (go_at_call 26; ((with_reducible refine (HNm.out _).mono ?_); rintro e w5 ⟨rfl, rfl⟩)))
      obtain ⟨d0, d1⟩ := obj_end (v0 := .int .i64 0) (v1 := .string ⟨#[]⟩) HRW.out
      refine bodyPost_ret (v := .tuple #[.agg #[.int .i64 0, .string ⟨#[]⟩], .int .i64 4]) (by simp [results, Tryd.results13, go_sem, d0, d1]) rfl (parR_mk (b := ⟨#[]⟩) HQ.out rfl ((HBX.out.setCell (Nat.le_refl _) _).setCell (Nat.le_refl _) _))
    by_cases c5 : D < n
    · have HQ : Hid (R = (0, (⟨#[]⟩ : ByteArray).data.toList, 3)) := by show _ = _; rw [hP, if_neg c4, if_pos c5]
      clear hP c3
      go_enter Tryd.func13, Tryd.ntmps13
      go_upto_region 1 with fail
      rw [← HW1.out]
      go_wp2_with (first
        | (go_at_call 25; first
          | ((with_reducible refine (HF1.out _).mono ?_); rintro e w2 ⟨rfl, rfl⟩)
          | ((with_reducible refine (HF2.out _).mono ?_); rintro e w3 ⟨rfl, rfl⟩))
        | (go_at_call 17; ((with_reducible refine (HKd.out _).mono ?_); rintro e w4 ⟨rfl, rfl⟩))
        | (go_at_call 26; ((with_reducible refine (HNm.out _).mono ?_); rintro e w5 ⟨rfl, rfl⟩)))
      obtain ⟨d0, d1⟩ := obj_end (v0 := .int .i64 0) (v1 := .string ⟨#[]⟩) HRW.out
      refine bodyPost_ret (v := .tuple #[.agg #[.int .i64 0, .string ⟨#[]⟩], .int .i64 3]) (by simp [results, Tryd.results13, go_sem, d0, d1]) rfl (parR_mk (b := ⟨#[]⟩) HQ.out rfl ((HBX.out.setCell (Nat.le_refl _) _).setCell (Nat.le_refl _) _))
    by_cases c6 : n < D
    · have HQ : Hid (R = (0, (⟨#[]⟩ : ByteArray).data.toList, 2)) := by show _ = _; rw [hP, if_neg c4, if_neg c5, if_pos c6]
      clear hP c3
      go_enter Tryd.func13, Tryd.ntmps13
      go_upto_region 1 with fail
      rw [← HW1.out]
      go_wp2_with (first
        | (go_at_call 25; first
          | ((with_reducible refine (HF1.out _).mono ?_); rintro e w2 ⟨rfl, rfl⟩)
          | ((with_reducible refine (HF2.out _).mono ?_); rintro e w3 ⟨rfl, rfl⟩))
        | (go_at_call 17; ((with_reducible refine (HKd.out _).mono ?_); rintro e w4 ⟨rfl, rfl⟩))
        | (go_at_call 26; ((with_reducible refine (HNm.out _).mono ?_); rintro e w5 ⟨rfl, rfl⟩)))
      obtain ⟨d0, d1⟩ := obj_end (v0 := .int .i64 0) (v1 := .string ⟨#[]⟩) HRW.out
      refine bodyPost_ret (v := .tuple #[.agg #[.int .i64 0, .string ⟨#[]⟩], .int .i64 2]) (by simp [results, Tryd.results13, go_sem, d0, d1]) rfl (parR_mk (b := ⟨#[]⟩) HQ.out rfl ((HBX.out.setCell (Nat.le_refl _) _).setCell (Nat.le_refl _) _))
    · have HQ : Hid (R = (K, (s.extract (b + 1) s.size).data.toList, 0)) := by show _ = _; rw [hP, if_neg c4, if_neg c5, if_neg c6, rest_str]
      clear hP c3
      go_enter Tryd.func13, Tryd.ntmps13
      go_upto_region 1 with fail
      rw [← HW1.out]
      go_upto_region 14 with (first
        | (go_at_call 25; first
          | ((with_reducible refine (HF1.out _).mono ?_); rintro e w2 ⟨rfl, rfl⟩)
          | ((with_reducible refine (HF2.out _).mono ?_); rintro e w3 ⟨rfl, rfl⟩))
        | (go_at_call 17; ((with_reducible refine (HKd.out _).mono ?_); rintro e w4 ⟨rfl, rfl⟩))
        | (go_at_call 26; ((with_reducible refine (HNm.out _).mono ?_); rintro e w5 ⟨rfl, rfl⟩)))
      have hq1 : (0 : Int) ≤ (b : Int) + 1 := by omega
      have hq2 : (b : Int) + 1 ≤ (s.size : Int) := by omega
      have hq3 : ((b : Int) + 1).toNat = b + 1 := by omega
      go_still_tail 9, (by kernel_rfl)
      still_call (((HKd.out _).mono fun e w'' ⟨he, hw⟩ => ⟨he, hw.symm⟩))
      repeat still_step
      refine wpStill_nil ?_
      change wpList _ _ _ _ _ w1.drew
      have HRD : Hid (w1.drew.heap[w.heap.size]? = some (.cells #[.int .i64 0, .string ⟨#[]⟩] 23 (0, 0))) := HRW.out
      have HBD := Lib.hid HBX.out.drew
      clear y0 y1 z0 z1
      generalize w1.drew = w6 at HRD HBD ⊢
      have y0 := cell_of_row w6 w.heap.size 0 _ _ _ HRD.out
      have y1 := cell_of_row w6 w.heap.size 1 _ _ _ HRD.out
      have z0 := frozen_of_row w6 w.heap.size 0 _ _ HRD.out
      have z1 := frozen_of_row w6 w.heap.size 1 _ _ HRD.out
      go_wp2
      obtain ⟨d0, d1⟩ := obj_end (v0 := .int .i64 K) (v1 := .string (s.extract (b + 1) s.size)) HRD.out
      refine bodyPost_ret (v := .tuple #[.agg #[.int .i64 K, .string (s.extract (b + 1) s.size)], .int .i64 0]) (by simp [results, Tryd.results13, go_sem, d0, d1]) rfl (parR_mk (b := (s.extract (b + 1) s.size)) HQ.out rfl ((HBD.out.setCell (Nat.le_refl _) _).setCell (Nat.le_refl _) _))

set_option maxHeartbeats 2000000 in
set_option maxRecDepth 4000 in
theorem same_any (k1 k2 : Int) (b1 b2 : ByteArray) (S : Bool) (w : World) (hS : S = decide (k1 = k2 ∧ b1 = b2)) :
    Calls Tryd.prog 11 #[.agg #[.int .i64 k1, .string b1], .agg #[.int .i64 k2, .string b2]] w fun e w' => e = .returned (.bool S) ∧ Below w.heap.size w w' := by
  by_cases hk : k1 = k2
  · subst hk
    by_cases hb : b1 = b2
    · subst hb
      have HS : Hid (S = true) := by show _ = _; rw [hS]; simp
      clear hS
      go_enter Tryd.func11, Tryd.ntmps11
      go_wp2
      go_ret
      exact ⟨by rw [HS.out]; rfl, ((Below.refl _ _).alloc (Nat.le_refl _) _).alloc (by simp) _⟩
    · have HS : Hid (S = false) := by show _ = _; rw [hS]; simp [hb]
      have hne : (b1.toList == b2.toList) = false := ba_ne hb
      have hne2 : ¬ b1.toList = b2.toList := by simpa using hne
      clear hS
      go_enter Tryd.func11, Tryd.ntmps11
      go_wp2
      go_ret
      exact ⟨by rw [HS.out]; rfl, ((Below.refl _ _).alloc (Nat.le_refl _) _).alloc (by simp) _⟩
  · have HS : Hid (S = false) := by show _ = _; rw [hS]; simp [hk]
    have hk2 : (k1 == k2) = false := by simpa using hk
    clear hS
    go_enter Tryd.func11, Tryd.ntmps11
    go_wp2
    go_ret
    exact ⟨by rw [HS.out]; rfl, ((Below.refl _ _).alloc (Nat.le_refl _) _).alloc (by simp) _⟩
end Go.Proofs.YtalbphlmebhjoaaDoor
