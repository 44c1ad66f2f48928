/-
  The walk of the reference's one.
-/
import Derived.Test.YtddmnibioacelaaGreatDoorTrBodyPk
import Derived.Test.YtddmnibioacelaaGreatDoorTrTake
import Derived.Test.YtddmnibioacelaaGreatDoorIdRHex
namespace Go.Proofs.YtddmnibioacelaaGreatDoor
open Go.RowKit

/-- What the reference's one answers. -/
def OneR (R : Nat × En × List UInt8) (n : Nat) (w : World) (e : Ending) (w' : World) : Prop :=
  (∃ z : Int, e = .returned (.tuple #[.agg #[.int .i64 R.2.1.m, .string R.2.1.n, .string R.2.1.i], .int .i64 z, .int .i64 (R.1 : Int)]) ∧ (R.1 = 0 → ∃ k : Nat, z = (k : Int) ∧ k + R.2.2.length = n)) ∧ Below w.heap.size w w'
theorem oneR_bad {R : Nat × En × List UInt8} {n : Nat} {w w' : World} {c : Nat} (h : R = (c, En.zero, [])) (hc : c ≠ 0) (hb : Below w.heap.size w w') : OneR R n w (.returned (.tuple #[.agg #[.int .i64 0, .string ⟨#[]⟩, .string ⟨#[]⟩], .int .i64 0, .int .i64 (c : Int)])) w' := by
  subst h
  exact ⟨⟨0, rfl, fun h => absurd h hc⟩, hb⟩
theorem oneR_ok {R : Nat × En × List UInt8} {n k : Nat} {w w' : World} {q : Int} {N I : ByteArray} {rest : List UInt8} (h : R = (0, ⟨q, N, I⟩, rest)) (hk : k + rest.length = n) (hb : Below w.heap.size w w') : OneR R n w (.returned (.tuple #[.agg #[.int .i64 q, .string N, .string I], .int .i64 (k : Int), .int .i64 0])) w' := by
  subst h
  exact ⟨⟨_, rfl, fun _ => ⟨k, rfl, hk⟩⟩, hb⟩
theorem modeT_no {l : List UInt8} (h : (modeT l).1 = 0) : (modeT l).2 = 2 ∨ (modeT l).2 = 3 := by
  unfold modeT at h ⊢
  split
  · rename_i h1; rw [if_pos h1] at h; cases h
  rename_i h1
  rw [if_neg h1] at h
  split
  · rename_i h2; rw [if_pos h2] at h; cases h
  rename_i h2
  rw [if_neg h2] at h
  split
  · rename_i h3; rw [if_pos h3] at h; cases h
  rename_i h3
  rw [if_neg h3] at h
  split
  · rename_i h4; rw [if_pos h4] at h; cases h
  exact errTo_le l 5
theorem shI_none {k : Nat} {x : Int} (h : x = -1) : shI k x = -1 := by rw [h]; rfl
theorem shI_some {k j : Nat} : shI k (j : Int) = ((k + j : Nat) : Int) := by
  unfold shI
  rw [if_neg (by omega)]
  omega

set_option maxHeartbeats 4000000 in
set_option maxRecDepth 4000 in
theorem rone_any (s : ByteArray) (w : World) (hs : s.size ≤ 1048576) :
    Calls Tryz.prog 88 #[.string s] w (OneR (oneT s.data.toList) s.size w) := by
  obtain ⟨R, hR⟩ : ∃ R, R = oneT s.data.toList := ⟨_, rfl⟩
  rw [← hR]
  have hb1 : Below w.heap.size w (w.alloc (.cells #[.int .i64 0, .string ⟨#[]⟩, .string ⟨#[]⟩] 85)) := below_new (Below.refl _ _) _
  have hr1 := heap_alloc_new w (.cells #[.int .i64 0, .string ⟨#[]⟩, .string ⟨#[]⟩] 85)
  obtain ⟨w1, hw1⟩ : ∃ w1, w1 = w.alloc (.cells #[.int .i64 0, .string ⟨#[]⟩, .string ⟨#[]⟩] 85) := ⟨_, rfl⟩
  rw [← hw1] at hb1 hr1
  have HM := Lib.hid (fun w => rmode_any s w (by omega))
  have HW1 := Lib.hid hw1
  have HB1 := Lib.hid hb1
  have HR1 := Lib.hid hr1
  have f0 := frozen_of_row w1 w.heap.size 0 _ _ hr1
  have f1 := frozen_of_row w1 w.heap.size 1 _ _ hr1
  have f2 := frozen_of_row w1 w.heap.size 2 _ _ hr1
  have y0 : w1.cell? ⟨w.heap.size, 0, none⟩ = some (.int .i64 0) := cell_of_row w1 w.heap.size 0 _ _ _ hr1
  have y1 : w1.cell? ⟨w.heap.size, 1, none⟩ = some (.string ⟨#[]⟩) := cell_of_row w1 w.heap.size 1 _ _ _ hr1
  have y2 : w1.cell? ⟨w.heap.size, 2, none⟩ = some (.string ⟨#[]⟩) := cell_of_row w1 w.heap.size 2 _ _ _ hr1
  by_cases hm : (modeT s.data.toList).1 = 0
  · have hno := modeT_no hm
    have HX : Hid (R = ((modeT s.data.toList).2, En.zero, [])) := by show _ = _; rw [hR, oneT, if_pos hm]
    obtain ⟨d, hd⟩ : ∃ d, d = (modeT s.data.toList).2 := ⟨_, rfl⟩
    have hM : rmodeT s.data.toList = if d = 3 then -1 else 0 := by rw [hd]; unfold rmodeT; rw [if_neg (by rw [hm]; decide)]
    rw [← hd] at hno HX
    rw [hM] at HM
    clear hR hm hw1 hb1 hr1 hM hd
    rcases hno with h2 | h3
    · have HX2 : Hid (R = (2, En.zero, [])) := by show _ = _; rw [HX.out, h2]
      rw [if_neg (by omega)] at HM
      clear h2 HX
      go_enter Tryz.func88, Tryz.ntmps88
      go_upto_region 1 with fail
      rw [← HW1.out]
      go_wp2_with (go_at_call 107; ((with_reducible refine (HM.out _).mono ?_); rintro x w2 ⟨rfl, rfl⟩))
      obtain ⟨d0, d1, d2⟩ := ent_end (v0 := .int .i64 0) (v1 := .string ⟨#[]⟩) (v2 := .string ⟨#[]⟩) HR1.out
      refine bodyPost_ret (v := .tuple #[.agg #[.int .i64 0, .string ⟨#[]⟩, .string ⟨#[]⟩], .int .i64 0, .int .i64 2]) (by simp [results, Tryz.results88, go_sem, d0, d1, d2]) rfl (oneR_bad (c := 2) HX2.out (by decide) (set3_below HB1.out (Nat.le_refl _)))
    · have HX2 : Hid (R = (3, En.zero, [])) := by show _ = _; rw [HX.out, h3]
      rw [if_pos h3] at HM
      clear h3 HX
      go_enter Tryz.func88, Tryz.ntmps88
      go_upto_region 1 with fail
      rw [← HW1.out]
      go_wp2_with (go_at_call 107; ((with_reducible refine (HM.out _).mono ?_); rintro x w2 ⟨rfl, rfl⟩))
      obtain ⟨d0, d1, d2⟩ := ent_end (v0 := .int .i64 0) (v1 := .string ⟨#[]⟩) (v2 := .string ⟨#[]⟩) HR1.out
      refine bodyPost_ret (v := .tuple #[.agg #[.int .i64 0, .string ⟨#[]⟩, .string ⟨#[]⟩], .int .i64 0, .int .i64 3]) (by simp [results, Tryz.results88, go_sem, d0, d1, d2]) rfl (oneR_bad (c := 3) HX2.out (by decide) (set3_below HB1.out (Nat.le_refl _)))
  · obtain ⟨he0, hq1, hq4⟩ := modeT_yes hm
    obtain ⟨q, hq⟩ : ∃ q, q = (modeT s.data.toList).1 := ⟨_, rfl⟩
    have hpf : Lib.hasPrefix s.data.toList (wordM q) = true := by
      rw [hq]
      unfold modeT at hm ⊢
      split
      · assumption
      rename_i h1
      rw [if_neg h1] at hm
      split
      · assumption
      rename_i h2
      rw [if_neg h2] at hm
      split
      · assumption
      rename_i h3
      rw [if_neg h3] at hm
      split
      · assumption
      rename_i h4
      rw [if_neg h4] at hm
      exact absurd rfl hm
    obtain ⟨F, hF⟩ : ∃ F, F = (wordM q).length := ⟨_, rfl⟩
    have hFs : F ≤ s.size := by have := pre_lenT hpf; rw [list_len] at this; omega
    obtain ⟨r, hr⟩ : ∃ r, r = s.data.toList.drop F := ⟨_, rfl⟩
    have hrl : r.length + F = s.size := by rw [hr, List.length_drop, list_len]; omega
    have HX : Hid (R = restT q r (Lib.indexByte r 0)) := by show _ = _; rw [hR, oneT, if_neg hm, ← hq, ← hF, ← hr]
    have hM : rmodeT s.data.toList = (q : Int) := by unfold rmodeT; rw [if_pos hm, hq]
    rw [hM] at HM
    rw [← hq] at hq1 hq4
    have HD : Hid (∀ w, Calls Tryz.prog 108 #[.int .i64 (q : Int)] w fun e w' => e = .returned (.string (str (wordM q))) ∧ w' = w) := fun w => rdigitsT_any q w hq1 hq4
    obtain ⟨W, hW⟩ : ∃ W, W = str (wordM q) := ⟨_, rfl⟩
    have hWs : W.size = F := by rw [hW, str_size, hF]
    rw [← hW] at HD
    have HFI : Hid (∀ w, Calls Tryz.prog 109 #[.string s, .int .u8 0, .int .i64 (F : Int)] w fun e w' => e = .returned (.int .i64 (shI F (Lib.indexByte r 0))) ∧ w' = w) := fun w => by
      rw [hr]
      exact rfindF_any s 0 0 F w hFs rfl (by omega)
    have HRS := Lib.hid hr
    have HF := Lib.hid hF
    clear hR hm hw1 hb1 hr1 hM hq he0 hpf hF hr hW
    rcases idx_natT r 0 with h0 | ⟨k, h0, hk⟩
    · rw [h0] at HFI HX
      rw [shI_none rfl] at HFI
      have HXE : Hid (R = (3, En.zero, [])) := by show _ = _; rw [HX.out, restT, if_pos (.inl (by decide))]
      clear h0 HX hrl
      have HWS := Lib.hid hWs
      clear hWs
      go_enter Tryz.func88, Tryz.ntmps88
      go_upto_region 1 with fail
      rw [← HW1.out]
      go_upto_region 7 with (first
        | (go_at_call 107; ((with_reducible refine (HM.out _).mono ?_); rintro x w2 ⟨rfl, rfl⟩))
        | (go_at_call 108; ((with_reducible refine (HD.out _).mono ?_); rintro x w3 ⟨rfl, rfl⟩)))
      rw [HWS.out]
      go_wp2_with (go_at_call 109; ((with_reducible refine (HFI.out _).mono ?_); rintro x w4 ⟨rfl, rfl⟩))
      obtain ⟨d0, d1, d2⟩ := ent_end (v0 := .int .i64 0) (v1 := .string ⟨#[]⟩) (v2 := .string ⟨#[]⟩) HR1.out
      refine bodyPost_ret (v := .tuple #[.agg #[.int .i64 0, .string ⟨#[]⟩, .string ⟨#[]⟩], .int .i64 0, .int .i64 3]) (by simp [results, Tryz.results88, go_sem, d0, d1, d2]) rfl (oneR_bad (c := 3) HXE.out (by decide) (set3_below HB1.out (Nat.le_refl _)))
    · rw [h0] at HFI HX
      rw [shI_some] at HFI
      obtain ⟨T, hT⟩ : ∃ T, T = F + k := ⟨_, rfl⟩
      rw [← hT] at HFI
      have hTs : T < s.size := by omega
      have HWS := Lib.hid hWs
      clear h0 hWs
      by_cases hsh : r.length < k + 21
      · have HXE : Hid (R = (3, En.zero, [])) := by show _ = _; rw [HX.out, restT, if_pos (.inr (by simp only [Int.toNat_natCast]; omega))]
        have j2 : (s.size : Int) - (T : Int) < 21 := by omega
        have HT := Lib.hid hT
        clear HX hk hsh hT hrl
        go_enter Tryz.func88, Tryz.ntmps88
        go_upto_region 1 with fail
        rw [← HW1.out]
        go_upto_region 7 with (first
          | (go_at_call 107; ((with_reducible refine (HM.out _).mono ?_); rintro x w2 ⟨rfl, rfl⟩))
          | (go_at_call 108; ((with_reducible refine (HD.out _).mono ?_); rintro x w3 ⟨rfl, rfl⟩)))
        rw [HWS.out]
        go_wp2_with (go_at_call 109; ((with_reducible refine (HFI.out _).mono ?_); rintro x w4 ⟨rfl, rfl⟩))
        obtain ⟨d0, d1, d2⟩ := ent_end (v0 := .int .i64 0) (v1 := .string ⟨#[]⟩) (v2 := .string ⟨#[]⟩) HR1.out
        refine bodyPost_ret (v := .tuple #[.agg #[.int .i64 0, .string ⟨#[]⟩, .string ⟨#[]⟩], .int .i64 0, .int .i64 3]) (by simp [results, Tryz.results88, go_sem, d0, d1, d2]) rfl (oneR_bad (c := 3) HXE.out (by decide) (set3_below HB1.out (Nat.le_refl _)))
      · have j2 : ¬ (s.size : Int) - (T : Int) < 21 := by omega
        obtain ⟨S, hS⟩ : ∃ S, S = T + 1 := ⟨_, rfl⟩
        obtain ⟨U, hU⟩ : ∃ U, U = T + 21 := ⟨_, rfl⟩
        obtain ⟨N, hN⟩ : ∃ N, N = s.extract F T := ⟨_, rfl⟩
        obtain ⟨RW, hRW⟩ : ∃ RW, RW = s.extract S U := ⟨_, rfl⟩
        obtain ⟨I, hI⟩ : ∃ I, I = str (hexL RW.data.toList) := ⟨_, rfl⟩
        have hRWs : RW.size ≤ 20 := by rw [hRW, ByteArray.size_extract]; omega
        have HHX : Hid (∀ W, Calls Tryz.prog 110 #[.string RW] W fun e w' => e = .returned (.string I) ∧ ∃ y : BelW W, w' = y.w) := fun W =>
          (rhex_any RW W (by omega)).mono fun e w' ⟨he, hb⟩ => ⟨by rw [he, hI], ⟨w', hb⟩, rfl⟩
        have HXE : Hid (R = (0, ⟨(q : Int), N, I⟩, r.drop (k + 21)) ∧ U + (r.drop (k + 21)).length = s.size) := by
          refine ⟨?_, by rw [List.length_drop]; omega⟩
          rw [HX.out, restT, if_neg (by simp only [Int.toNat_natCast]; omega)]
          simp only [Int.toNat_natCast]
          have e1 : str (r.take k) = N := ba_ext (by rw [hN, str_list, HRS.out, ext_bytes, show T - F = k by omega])
          have e2 : (r.drop (k + 1)).take 20 = RW.data.toList := by rw [hRW, HRS.out, ext_bytes, List.drop_drop, show U - S = 20 by omega, show F + (k + 1) = S by omega]
          rw [e1, e2, ← hI]
        have i1 : IntKind.i64.wrap ((T : Int) + 1) = (S : Int) := by rw [IntWalk.i64_in _ (by omega)]; omega
        have i2 : IntKind.i64.wrap ((T : Int) + 21) = (U : Int) := by rw [IntWalk.i64_in _ (by omega)]; omega
        have i3 : (0 : Int) ≤ (F : Int) := by omega
        have i4 : (F : Int) ≤ (T : Int) := by omega
        have i5 : (T : Int) ≤ (s.size : Int) := by omega
        have i6 : (0 : Int) ≤ (S : Int) := by omega
        have i7 : (S : Int) ≤ (U : Int) := by omega
        have i8 : (U : Int) ≤ (s.size : Int) := by omega
        have i9 : F ≤ T := by omega
        have i10 : T ≤ s.size := by omega
        have i11 : S ≤ U := by omega
        have i12 : U ≤ s.size := by omega
        have hN2 := hN.symm
        have hRW2 := hRW.symm
        clear HX hk hsh hT hrl hS hU hI hRWs hN hRW
        go_enter Tryz.func88, Tryz.ntmps88
        go_upto_region 1 with fail
        rw [← HW1.out]
        go_upto_region 7 with (first
          | (go_at_call 107; ((with_reducible refine (HM.out _).mono ?_); rintro x w2 ⟨rfl, rfl⟩))
          | (go_at_call 108; ((with_reducible refine (HD.out _).mono ?_); rintro x w3 ⟨rfl, rfl⟩)))
        rw [HWS.out]
        go_upto_region 10 with (go_at_call 109; ((with_reducible refine (HFI.out _).mono ?_); rintro x w4 ⟨rfl, rfl⟩))
        have hry : ∀ y : BelW w4.drew, y.w.heap[w.heap.size]? = some (.cells #[.int .i64 0, .string ⟨#[]⟩, .string ⟨#[]⟩] 85 (0, 0)) := fun y => (y.h.block w.heap.size (row_lt HR1.out)).trans HR1.out
        have s0 : ∀ y : BelW w4.drew, y.w.cell? ⟨w.heap.size, 0, none⟩ = some (.int .i64 0) := fun y => cell_of_row y.w w.heap.size 0 _ _ _ (hry y)
        have s1 : ∀ y : BelW w4.drew, y.w.cell? ⟨w.heap.size, 1, none⟩ = some (.string ⟨#[]⟩) := fun y => cell_of_row y.w w.heap.size 1 _ _ _ (hry y)
        have s2 : ∀ y : BelW w4.drew, y.w.cell? ⟨w.heap.size, 2, none⟩ = some (.string ⟨#[]⟩) := fun y => cell_of_row y.w w.heap.size 2 _ _ _ (hry y)
        have t0 : ∀ y : BelW w4.drew, y.w.frozen? ⟨w.heap.size, 0, none⟩ = false := fun y => frozen_of_row y.w w.heap.size 0 _ _ (hry y)
        have t1 : ∀ y : BelW w4.drew, y.w.frozen? ⟨w.heap.size, 1, none⟩ = false := fun y => frozen_of_row y.w w.heap.size 1 _ _ (hry y)
        have t2 : ∀ y : BelW w4.drew, y.w.frozen? ⟨w.heap.size, 2, none⟩ = false := fun y => frozen_of_row y.w w.heap.size 2 _ _ (hry y)
        have HRY := Lib.hid hry
        clear hry
        go_region_with (go_at_call 110; ((with_reducible refine (HHX.out _).mono ?_); rintro e _ ⟨rfl, y, rfl⟩))
        all_goals go_wp2_with fail
        obtain ⟨d0, d1, d2⟩ := ent_end (v0 := .int .i64 (q : Int)) (v1 := .string N) (v2 := .string I) (HRY.out y)
        refine bodyPost_ret (v := .tuple #[.agg #[.int .i64 (q : Int), .string N, .string I], .int .i64 (U : Int), .int .i64 0]) (by simp [results, Tryz.results88, go_sem, d0, d1, d2]) rfl (oneR_ok HXE.out.1 HXE.out.2 (set3_below (HB1.out.drew.trans (y.h.mono (show w.heap.size ≤ w4.drew.heap.size from HB1.out.size))) (Nat.le_refl _)))
end Go.Proofs.YtddmnibioacelaaGreatDoor
