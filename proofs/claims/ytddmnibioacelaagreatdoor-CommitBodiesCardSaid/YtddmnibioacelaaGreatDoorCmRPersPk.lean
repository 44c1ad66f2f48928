/-
  The walk of the reference's Person.
-/
import Derived.Test.YtddmnibioacelaaGreatDoorCmNamePk
import Derived.Test.YtddmnibioacelaaGreatDoorCmRTagPPk
namespace Go.Proofs.YtddmnibioacelaaGreatDoor
open Go Go.RowKit

set_option maxHeartbeats 2000000 in
set_option maxRecDepth 4000 in
theorem rperson_any (p : Pn) (w : World) (hn : p.n.size ≤ 140737488355328) (hi : p.m.size ≤ 140737488355328) :
    Calls Tryz.prog 26 #[.agg #[.string p.n, .string p.m, .int .i64 p.t, .int .i64 p.z]] w fun x w' => x = .returned (.bool (okPn p)) ∧ Below w.heap.size w w' := by
  obtain ⟨n, m, t, z⟩ := p
  simp only at hn hi ⊢
  obtain ⟨N, hN⟩ : ∃ N, N = nameB n.data.toList := ⟨_, rfl⟩
  obtain ⟨M, hM⟩ : ∃ M, M = nameB m.data.toList := ⟨_, rfl⟩
  obtain ⟨R, hR⟩ : ∃ R, R = okPn ⟨n, m, t, z⟩ := ⟨_, rfl⟩
  rw [← hR]
  have HR : Hid (R = (N && (M && (decide (0 ≤ t) && (decide (t ≤ 1099511627776) && (decide (-840 ≤ z) && decide (z ≤ 840))))))) := by
    show _ = _
    rw [hR, okPn, hN, hM]
  have HN : Hid (∀ w', Calls Tryz.prog 64 #[.string n] w' fun e w'' => e = .returned (.bool N) ∧ Below w'.heap.size w' w'') := fun w' => by
    rw [hN]
    exact (rnamed_any n w' hn).mono fun e w'' ⟨he, hw⟩ => ⟨he, by rw [hw]; exact Below.refl _ _⟩
  have HM : Hid (∀ w', Calls Tryz.prog 64 #[.string m] w' fun e w'' => e = .returned (.bool M) ∧ Below w'.heap.size w' w'') := fun w' => by
    rw [hM]
    exact (rnamed_any m w' hi).mono fun e w'' ⟨he, hw⟩ => ⟨he, by rw [hw]; exact Below.refl _ _⟩
  have hx := heap_alloc_new w (.cells #[.string n, .string m, .int .i64 t, .int .i64 z] 24)
  have hbx : Below w.heap.size w (w.alloc (.cells #[.string n, .string m, .int .i64 t, .int .i64 z] 24)) := below_new (Below.refl _ _) _
  have hbl : w.heap.size < (w.alloc (.cells #[.string n, .string m, .int .i64 t, .int .i64 z] 24)).heap.size := by simp
  obtain ⟨w1, hw1⟩ : ∃ w1, w1 = w.alloc (.cells #[.string n, .string m, .int .i64 t, .int .i64 z] 24) := ⟨_, rfl⟩
  have HW1 := Lib.hid hw1
  rw [← hw1] at hx hbx hbl
  have a0 : w1.cell? ⟨w.heap.size, 0, none⟩ = some (.string n) := cell_of_row w1 _ 0 _ _ _ hx
  have a1 : w1.cell? ⟨w.heap.size, 1, none⟩ = some (.string m) := cell_of_row w1 _ 1 _ _ _ hx
  have a2 : w1.cell? ⟨w.heap.size, 2, none⟩ = some (.int .i64 t) := cell_of_row w1 _ 2 _ _ _ hx
  have a3 : w1.cell? ⟨w.heap.size, 3, none⟩ = some (.int .i64 z) := cell_of_row w1 _ 3 _ _ _ hx
  have HB := Lib.hid hbx
  clear hN hM hR hw1 hx hbx hn hi
  rcases N with _ | _
  · have HX : Hid (R = false) := by show _ = _; rw [HR.out]; rfl
    clear HR
    go_enter Tryz.func26, Tryz.ntmps26
    go_upto_region 1 with fail
    rw [← HW1.out]
    go_wp2_with (go_at_call 64; ((with_reducible refine (HN.out _).mono ?_); rintro e w2 ⟨rfl, hb2⟩))
    go_ret
    exact ⟨by rw [HX.out]; rfl, HB.out.trans (hb2.mono HB.out.size)⟩
  rcases M with _ | _
  · have HX : Hid (R = false) := by show _ = _; rw [HR.out]; rfl
    clear HR
    go_enter Tryz.func26, Tryz.ntmps26
    go_upto_region 1 with fail
    rw [← HW1.out]
    go_wp2_with (first
      | (go_at_call 64; ((with_reducible refine (HM.out _).mono ?_); rintro e w3 ⟨rfl, hb3⟩))
      | (go_at_call 64; ((with_reducible refine (HN.out _).mono ?_); rintro e w2 ⟨rfl, hb2⟩; have b1 := cell_bel a1 hb2)))
    go_ret
    exact ⟨by rw [HX.out]; rfl, HB.out.trans ((hb2.trans (hb3.mono hb2.size)).mono HB.out.size)⟩
  have hc : (¬ 0 ≤ t) ∨ (0 ≤ t ∧ ¬ t ≤ 1099511627776) ∨ (0 ≤ t ∧ t ≤ 1099511627776 ∧ ¬ -840 ≤ z) ∨ (0 ≤ t ∧ t ≤ 1099511627776 ∧ -840 ≤ z ∧ ¬ z ≤ 840) ∨ (0 ≤ t ∧ t ≤ 1099511627776 ∧ -840 ≤ z ∧ z ≤ 840) := by omega
  have HX : Hid (R = decide (0 ≤ t ∧ t ≤ 1099511627776 ∧ -840 ≤ z ∧ z ≤ 840)) := by
    show _ = _
    rw [HR.out]
    simp
  clear HR
  rcases hc with h1 | ⟨h1, h2⟩ | ⟨h1, h2, h3⟩ | ⟨h1, h2, h3, h4⟩ | ⟨h1, h2, h3, h4⟩
  all_goals
    go_enter Tryz.func26, Tryz.ntmps26
    go_upto_region 1 with fail
    rw [← HW1.out]
    go_wp2_with (first
      | (go_at_call 64; ((with_reducible refine (HM.out _).mono ?_); rintro e w3 ⟨rfl, hb3⟩; have c2 := cell_bel b2 hb3; have c3 := cell_bel b3 hb3))
      | (go_at_call 64; ((with_reducible refine (HN.out _).mono ?_); rintro e w2 ⟨rfl, hb2⟩; have b1 := cell_bel a1 hb2; have b2 := cell_bel a2 hb2; have b3 := cell_bel a3 hb2)))
    go_ret
    refine ⟨?_, HB.out.trans ((hb2.trans (hb3.mono hb2.size)).mono HB.out.size)⟩
    first
      | (have hy : R = true := by rw [HX.out]; exact decide_eq_true (by omega)
         rw [hy]; rfl)
      | (have hy : R = false := by rw [HX.out]; exact decide_eq_false (by omega)
         rw [hy]; rfl)
      | (have hy : R = decide (z ≤ 840) := by rw [HX.out, Bool.eq_iff_iff]; simp only [decide_eq_true_eq]; omega
         rw [hy]; rfl)
end Go.Proofs.YtddmnibioacelaaGreatDoor
/-
  The walk of the reference's Num.
-/
namespace Go.Proofs.YtddmnibioacelaaGreatDoor
open Go Go.RowKit

set_option maxHeartbeats 2000000 in
set_option maxRecDepth 4000 in
theorem rnum_any (n : Nat) (w : World) (hn : n ≤ 1000000000000000000) :
    Calls Tryz.prog 65 #[.int .i64 (n : Int)] w fun e w' => e = .returned (.string (str (Lib.decDigits n))) ∧ Below w.heap.size w w' := by
  obtain ⟨R, hR⟩ : ∃ R, R = Lib.decDigits n := ⟨_, rfl⟩
  rw [← hR]
  have HR : Hid (R = Lib.decDigits n ++ (⟨#[]⟩ : ByteArray).data.toList) := by show _ = _; rw [hR]; simp
  clear hR
  go_enter Tryz.func65, Tryz.ntmps65
  go_wp2
  go_loopw [0, 3] (fun iv sv wr => ∃ (k : Nat) (s : ByteArray), k ≤ n ∧ s.size + k ≤ 2000000000000000000 ∧ iv = .int .i64 (k : Int) ∧ sv = .string s ∧ Hid (R = Lib.decDigits k ++ s.data.toList) ∧ Hid (Below w.heap.size w wr)) (fun iv _ _ => (intOf iv).toNat)
  case atStart => exact ⟨n, ⟨#[]⟩, Nat.le_refl _, by show 0 + n ≤ _; omega, rfl, rfl, HR.out, Below.refl _ _⟩
  case round =>
    clear HR
    obtain ⟨k, s, hk, hs, rfl, rfl, HR, HB⟩ := hrel
    obtain ⟨d, hd⟩ : ∃ d, d = k % 10 := ⟨_, rfl⟩
    obtain ⟨k2, hk2⟩ : ∃ k2, k2 = k / 10 := ⟨_, rfl⟩
    obtain ⟨T, hT⟩ : ∃ T, T = str [UInt8.ofNat (48 + d)] := ⟨_, rfl⟩
    have HT1 : T.size = 1 := by rw [hT, str_size]; rfl
    have hcv := conv_one (P := Tryz.prog) wr (48 + (d : Int)) (48 + d) (by omega) (by omega) 78 9 5 5 1 Tryz.underlying78 Tryz.underlying5 Tryz.underlying9
    rw [← hT] at hcv
    have e5 : IntKind.u8.wrap (48 + (d : Int)) = 48 + (d : Int) := IntWalk.u8_in _ (by omega)
    have hB2 : Hid (Below w.heap.size w (wr.alloc (.cells #[.int .u8 (48 + (d : Int))] 5))) := HB.out.alloc HB.out.size _
    by_cases h10 : k < 10
    · have HX : Hid (R = (T ++ s).data.toList) := by
        show _ = _
        rw [HR.out, Lib.decDigits_one h10, app_list, hT, hd, show k % 10 = k by omega]
        rfl
      obtain rfl : d = k := by omega
      clear hd hk2 hT HR HB
      go_wp2
      go_ret
      exact ⟨by rw [HX.out]; rfl, hB2.out⟩
    · have HX : Hid (R = Lib.decDigits k2 ++ (T ++ s).data.toList) := by
        show _ = _
        rw [HR.out, decDigits_big h10, app_list, hT, hd, hk2]
        simp [str]
      have e1 : (k : Int) % 10 = (d : Int) := by omega
      have e2 : (k : Int) / 10 = (k2 : Int) := by omega
      have hk2n : k2 ≤ n ∧ k2 < k := by omega
      have hsz : (T ++ s).size + k2 ≤ 2000000000000000000 := by rw [ByteArray.size_append, HT1]; omega
      clear hd hk2 hT HR HB
      go_wp2
      go_roundw
      case rel => exact ⟨k2, T ++ s, hk2n.1, hsz, rfl, rfl, HX.out, hB2.out⟩
      case measure => simp [intOf]; omega
end Go.Proofs.YtddmnibioacelaaGreatDoor
