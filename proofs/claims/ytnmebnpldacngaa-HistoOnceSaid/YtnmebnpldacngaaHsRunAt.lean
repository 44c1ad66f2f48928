/-
  The walk of runAt.
-/
import Derived.Test.YtnmebnpldacngaaHsLeast
import Derived.Laws.Slices
namespace Go.Proofs.Ytnmebnpldacngaa
open Go.RowKit Go.Maps Go.WideMaps

/-- What runAt answers. -/
def frV (o : Option Ru) : Value := match o with
  | some r => .tuple #[r.val, .bool true]
  | none => .tuple #[.agg #[.int .i64 0, .int .i64 0, .int .i64 0], .bool false]
theorem row3s {w : World} {B : Nat} {t : TypeId} {c0 c1 c2 : Value} (h : w.heap[B]? = some (.cells #[c0, c1, c2] t (0, 0))) (v0 v1 v2 : Value) :
    (((w.setCell ⟨B, 0, none⟩ v0).setCell ⟨B, 1, none⟩ v1).setCell ⟨B, 2, none⟩ v2).heap[B]? = some (.cells #[v0, v1, v2] t (0, 0)) := by
  have h0 : (w.setCell ⟨B, 0, none⟩ v0).heap[B]? = some (.cells #[v0, c1, c2] t (0, 0)) := by
    have h := heap_setCell_same w B 0 _ t v0 h
    simpa using h
  have h1 : ((w.setCell ⟨B, 0, none⟩ v0).setCell ⟨B, 1, none⟩ v1).heap[B]? = some (.cells #[v0, v1, c2] t (0, 0)) := by
    have h := heap_setCell_same _ B 1 _ t v1 h0
    simpa using h
  have h := heap_setCell_same _ B 2 _ t v2 h1
  simpa using h
theorem fin3 {w wx w4 : World} {S : Nat} {t : TypeId} {c0 c1 c2 v0 v1 v2 : Value} (h : wx.heap[S]? = some (.cells #[c0, c1, c2] t (0, 0))) (hS : S = w.heap.size) (hb : Below w.heap.size w wx) (h4 : w4 = ((wx.setCell ⟨S, 0, none⟩ v0).setCell ⟨S, 1, none⟩ v1).setCell ⟨S, 2, none⟩ v2) :
    w4.cell? ⟨S, 0, none⟩ = some v0 ∧ w4.cell? ⟨S, 1, none⟩ = some v1 ∧ w4.cell? ⟨S, 2, none⟩ = some v2 ∧ Below w.heap.size w w4 := by
  have hr := row3s h v0 v1 v2
  rw [← h4] at hr
  exact ⟨cell_of_row _ _ 0 _ _ _ hr, cell_of_row _ _ 1 _ _ _ hr, cell_of_row _ _ 2 _ _ _ hr, by rw [h4, hS]; exact ((hb.setCell (Nat.le_refl _) _).setCell (Nat.le_refl _) _).setCell (Nat.le_refl _) _⟩
set_option maxHeartbeats 2000000 in
set_option maxRecDepth 4000 in
theorem runAt_any (a b : List Nat) (M N H B L i j n m c d : Nat) (o : Option Ru) (D : DataW Unit) (p q : Option Addr) (w : World) (hn : n = a.length) (hm : m = b.length) (hp : NRw w p a) (hq : NRw w q b) (hnc : n ≤ c) (hmd : m ≤ d) (hi : i < n) (hj : j < m) (hl : n ≤ 1048576) (hl2 : m ≤ 1048576)
    (ha : ∀ x ∈ a, x ≤ 1048576) (hh : HsM w a M N D) (hc : w.cell? ⟨H, 0, none⟩ = some (.map (some M))) (hb : w.cell? ⟨B, 0, none⟩ = some (.int .i64 (L : Int))) (ho : o = fr a b L i j) :
    Calls Try.prog 49 #[.slice p n c, .slice q m d, .int .i64 (i : Int), .int .i64 (j : Int), .func (.func 48) #[] #[.pointer (some ⟨H, 0, none⟩), .pointer (some ⟨B, 0, none⟩)]] w fun e w' => e = .returned (frV o) ∧ Below w.heap.size w w' := by
  obtain ⟨w1, hw1⟩ : ∃ w1, w1 = w.alloc (.cells #[.int .i64 0, .int .i64 0, .int .i64 0] 30) := ⟨_, rfl⟩
  obtain ⟨S, hS⟩ : ∃ S, S = w.heap.size := ⟨_, rfl⟩
  have hb1 : Below w.heap.size w w1 := by rw [hw1]; exact below_new (Below.refl _ _) _
  have hrow : w1.heap[S]? = some (.cells #[.int .i64 0, .int .i64 0, .int .i64 0] 30 (0, 0)) := by rw [hw1, hS]; exact heap_alloc_new w _
  have hbk := bk_le a b i j
  have HRW := Lib.hid hrow
  have HB1 := Lib.hid hb1
  have HW1 := Lib.hid hw1
  have HS := Lib.hid hS
  have HP := Lib.hid (hp.below hb1)
  have HQ := Lib.hid (hq.below hb1)
  have HN := Lib.hid hn
  have HM := Lib.hid hm
  have HA := Lib.hid ha
  have HO := Lib.hid ho
  have hc1 := (hb1.cell (p := ⟨H, 0, none⟩) (World.block_lt_of_cell? w _ hc)).trans hc
  have hbl := (hb1.cell (p := ⟨B, 0, none⟩) (World.block_lt_of_cell? w _ hb)).trans hb
  have HRA : Hid (∀ (x : Nat) (R : Bool) (e : Nat), x ≤ 1048576 → R = decide (a.count x = L) → Calls Try.prog 48 #[.int .i64 (x : Int), .pointer (some ⟨H, 0, none⟩), .pointer (some ⟨B, 0, none⟩)] (w1.drewN e) fun e' w' => e' = .returned (.bool R) ∧ w1.drewN e = w') := fun x R e hx hR =>
    rare_any a M N H B x L R D (w1.drewN e) ((hh.below hb1).below (below_drewN (Below.refl _ _) e)) hx hc1 hbl hR
  have hmn : (if j < i then (j : Int) else (i : Int)) = ((min i j : Nat) : Int) := by split <;> omega
  have hwb : w.heap.size ≤ w1.heap.size := hb1.size
  clear hn hm hp hq ha hh hc hb ho hb1 hrow hc1 hbl hw1 hS
  go_enter Try.func49, Try.ntmps49
  go_upto_region 1 with fail
  rw [← HW1.out, ← HS.out]
  go_wp2_with fail
  go_loopw [12] (fun sv wr => ∃ (s x : Nat), s ≤ bk a b i j ∧ sv = .int .i64 s ∧ wr = w1.drewN x ∧ Hid (∀ k, k < s → (a[i - 1 - k]?).map (fun x => a.count x) ≠ some L)) (fun sv _ => bk a b i j - (intOf sv).toNat)
  case atStart => exact ⟨0, 0, by omega, rfl, rfl, fun k hk => absurd hk (Nat.not_lt_zero _)⟩
  case round =>
    obtain ⟨s, x, hs, rfl, rfl, HX⟩ := hrel
    by_cases hlt : s < bk a b i j
    · have hia : i - 1 - s < a.length := by rw [← HN.out]; omega
      have hjb : j - 1 - s < b.length := by rw [← HM.out]; omega
      obtain ⟨g, o1, rfl, hg, a0⟩ := HP.out (i - 1 - s) hia
      obtain ⟨h, o2, rfl, hh, b0⟩ := HQ.out (j - 1 - s) hjb
      have he := bk_eq a b i j s hlt
      rw [List.getElem?_eq_getElem hia, List.getElem?_eq_getElem hjb, Option.some.injEq] at he
      have hax := HA.out _ (List.getElem_mem hia)
      have hnx : (a[i - 1 - s]?).map (fun x => a.count x) = some (a.count a[i - 1 - s]) := by rw [List.getElem?_eq_getElem hia]; rfl
      rw [← he] at b0
      obtain ⟨u, hu⟩ : ∃ u, u = a[i - 1 - s] := ⟨_, rfl⟩
      rw [← hu] at a0 b0 hax hnx
      have e1 : ((u : Int) == (u : Int)) = true := by simp
      have hsi : s < i := by omega
      have hsj : s < j := by omega
      have hd1 : s < min i j := by omega
      have a1 : w1.cell? ⟨g, o1 + (i - (s + 1)), none⟩ = some (.int .i64 (u : Int)) := by rw [show i - (s + 1) = i - 1 - s by omega]; exact a0
      have hi2 : i - (s + 1) < n := by omega
      have hi3 : i - 1 - s < n := by omega
      have hj3 : j - 1 - s < m := by omega
      by_cases hr : a.count u = L
      · have HR := Lib.hid (fun e => HRA.out u true e hax (decide_eq_true hr).symm)
        have HE : Hid (o = none) := by
          show _ = _
          rw [HO.out, fr, if_neg (fun h => h s hlt (by rw [hnx, hr]))]
        clear hr hnx hu he hia hjb hg hh
        go_wp2_with fail
        go_quiet (fail)
        have z0 := cell_of_row _ S 0 _ _ _ HRW.out
        have z1 := cell_of_row _ S 1 _ _ _ HRW.out
        have z2 := cell_of_row _ S 2 _ _ _ HRW.out
        have y0 := frozen_of_row _ S 0 _ _ HRW.out
        have y1 := frozen_of_row _ S 1 _ _ HRW.out
        have y2 := frozen_of_row _ S 2 _ _ HRW.out
        go_wp2_with (go_at_call 48; ((refine (HR.out _).mono ?_); rintro e w2 ⟨rfl, rfl⟩))
        obtain ⟨w4, hw4⟩ : ∃ w4, w4 = ((((w1.drewN (x + nq)).setCell ⟨S, 0, none⟩ (.int .i64 0)).setCell ⟨S, 1, none⟩ (.int .i64 0)).setCell ⟨S, 2, none⟩ (.int .i64 0)) := ⟨_, rfl⟩
        obtain ⟨k0, k1, k2, kb⟩ := fin3 (wx := w1.drewN (x + nq)) HRW.out HS.out (below_drewN HB1.out _) hw4
        rw [← hw4]
        clear z0 z1 z2 y0 y1 y2 hw4
        refine bodyPost_ret (v := frV none) (by simp [results, Try.results49, go_sem, frV, k0, k1, k2]) rfl ⟨by rw [HE.out], kb⟩
      · have HR := Lib.hid (fun e => HRA.out u false e hax (decide_eq_false hr).symm)
        have HX2 : Hid (∀ k, k < s + 1 → (a[i - 1 - k]?).map (fun x => a.count x) ≠ some L) := fun k hk => by
          rcases Nat.lt_or_ge k s with h1 | h1
          · exact HX.out k h1
          · rw [show k = s by omega, hnx]
            exact fun e => hr (Option.some.inj e)
        clear hr hnx hu he hia hjb hg hh HX
        go_wp2_with fail
        go_quiet (fail)
        go_wp2_with (go_at_call 48; ((refine (HR.out _).mono ?_); rintro e w2 ⟨rfl, rfl⟩))
        go_roundw
        case rel => exact ⟨s + 1, _, by omega, by go_num, by first | rfl | exact World.drewN_drewN _ _ _, HX2⟩
        case measure => simp [intOf]; omega
    · obtain rfl : s = bk a b i j := by omega
      have hstop := bk_stop a b i j
      obtain ⟨t, ht⟩ : ∃ t, t = bk a b i j := ⟨_, rfl⟩
      have HE : Hid (o = some (run a b i j)) := by show _ = _; rw [HO.out, fr, if_pos HX.out]
      rw [← ht] at hstop hbk ⊢
      obtain ⟨g, o1, rfl, hg, aa⟩ := HP.out i (by rw [← HN.out]; exact hi)
      obtain ⟨h, o2, rfl, hh, bb⟩ := HQ.out j (by rw [← HM.out]; exact hj)
      obtain ⟨C, hC⟩ : ∃ C, C = cpre (a.drop i) (b.drop j) := ⟨_, rfl⟩
      have hCle : C ≤ n - i := by
        have := (cpre_le (a.drop i) (b.drop j)).1
        rw [List.length_drop, ← HN.out] at this
        omega
      have HRUN : Hid (run a b i j = ⟨i - t, j - t, t + C⟩) := by show _ = _; rw [run, ← ht, ← hC]
      have hci : (c = i) = False := eq_false (by omega)
      have hdj : (d = j) = False := eq_false (by omega)
      have hii : (i : Int) ≤ (n : Int) := by omega
      have hjj : (j : Int) ≤ (m : Int) := by omega
      have hil : i ≤ n := by omega
      have hjl : j ≤ m := by omega
      have HCP : Hid (∀ e, Calls Try.prog 38 #[.slice (some ⟨g, o1 + i, none⟩) (n - i) (c - i), .slice (some ⟨h, o2 + j, none⟩) (m - j) (d - j)] (w1.drewN e) fun e' w' => e' = .returned (.int .i64 (C : Nat)) ∧ ∃ k, w' = (w1.drewN e).drewN k) := fun e =>
        hcpre_any (a.drop i) (b.drop j) _ _ _ _ _ _ C (w1.drewN e) (by rw [List.length_drop, HN.out]) (by rw [List.length_drop, HM.out])
          (by have := (HP.out.below (below_drewN (Below.refl _ _) e)).cut (c := c) i (by rw [← HN.out]; exact hnc) (by rw [← HN.out]; omega); rw [if_neg (by omega), Option.map_some, Addr.add_lit] at this; exact this)
          (by have := (HQ.out.below (below_drewN (Below.refl _ _) e)).cut (c := d) j (by rw [← HM.out]; exact hmd) (by rw [← HM.out]; omega); rw [if_neg (by omega), Option.map_some, Addr.add_lit] at this; exact this) (by omega) (by omega) hC
      clear hC hg hh aa bb HRA HX hlt ht
      have hend : (min i j ≤ t) ∨ (t < i ∧ t < j ∧ a[i - 1 - t]? ≠ b[j - 1 - t]?) := by
        rcases hstop with h | h | h
        · exact .inl (by omega)
        · exact .inl (by omega)
        · by_cases h1 : min i j ≤ t
          · exact .inl h1
          · exact .inr ⟨by omega, by omega, h⟩
      clear hstop
      rcases hend with h1 | ⟨h1, h2, h3⟩
      · have hd1 : ¬ t < min i j := by omega
        have hti : t ≤ i := by omega
        have htj : t ≤ j := by omega
        go_wp2_with fail
        go_quiet (fail)
        go_wp2_with fail
        have z0 := cell_of_row _ S 0 _ _ _ HRW.out
        have z1 := cell_of_row _ S 1 _ _ _ HRW.out
        have z2 := cell_of_row _ S 2 _ _ _ HRW.out
        have y0 := frozen_of_row _ S 0 _ _ HRW.out
        have y1 := frozen_of_row _ S 1 _ _ HRW.out
        have y2 := frozen_of_row _ S 2 _ _ HRW.out
        go_region_with (go_at_call 38; ((with_reducible refine (HCP.out _).mono ?_); rintro e w2 ⟨rfl, k2, rfl⟩))
        go_wp2
        have i1 : IntKind.i64.wrap ((i : Int) - (t : Int)) = ((i - t : Nat) : Int) := by rw [IntWalk.i64_in _ (by omega)]; omega
        have i2 : IntKind.i64.wrap ((j : Int) - (t : Int)) = ((j - t : Nat) : Int) := by rw [IntWalk.i64_in _ (by omega)]; omega
        have i3 : IntKind.i64.wrap ((t : Int) + (C : Int)) = ((t + C : Nat) : Int) := by rw [IntWalk.i64_in _ (by omega)]; omega
        obtain ⟨w4, hw4⟩ : ∃ w4, w4 = ((((w1.drewN (x + nq + 1 + k2)).setCell ⟨S, 0, none⟩ (.int .i64 (IntKind.i64.wrap ((i : Int) - (t : Int))))).setCell ⟨S, 1, none⟩ (.int .i64 (IntKind.i64.wrap ((j : Int) - (t : Int))))).setCell ⟨S, 2, none⟩ (.int .i64 (IntKind.i64.wrap ((t : Int) + (C : Int))))) := ⟨_, rfl⟩
        obtain ⟨k0, k1, k2', kb⟩ := fin3 (wx := w1.drewN (x + nq + 1 + k2)) HRW.out HS.out (below_drewN HB1.out _) hw4
        rw [← hw4]
        rw [i1] at k0
        rw [i2] at k1
        rw [i3] at k2'
        clear z0 z1 z2 y0 y1 y2 hw4 i1 i2 i3
        refine bodyPost_ret (v := frV (some ⟨i - t, j - t, t + C⟩)) (by simp [results, Try.results49, go_sem, frV, Ru.val, k0, k1, k2']) rfl ⟨by rw [HE.out, HRUN.out], kb⟩
      · have hia : i - 1 - t < a.length := by rw [← HN.out]; omega
        have hjb : j - 1 - t < b.length := by rw [← HM.out]; omega
        obtain ⟨g', o1', hpe, hg, a0⟩ := HP.out (i - 1 - t) hia
        obtain ⟨h', o2', hqe, hh, b0⟩ := HQ.out (j - 1 - t) hjb
        simp only [Option.some.injEq, Addr.mk.injEq, and_true] at hpe hqe
        obtain ⟨rfl, rfl⟩ := hpe
        obtain ⟨rfl, rfl⟩ := hqe
        rw [List.getElem?_eq_getElem hia, List.getElem?_eq_getElem hjb] at h3
        have h4 : a[i - 1 - t] ≠ b[j - 1 - t] := fun e => h3 (by rw [e])
        have e1 := neN h4
        obtain ⟨u, hu⟩ : ∃ u, u = a[i - 1 - t] := ⟨_, rfl⟩
        obtain ⟨v, hv⟩ : ∃ v, v = b[j - 1 - t] := ⟨_, rfl⟩
        rw [← hu] at a0 e1
        rw [← hv] at b0 e1
        have hd1 : t < min i j := by omega
        have hti : t ≤ i := by omega
        have htj : t ≤ j := by omega
        have hi3 : i - 1 - t < n := by omega
        have hj3 : j - 1 - t < m := by omega
        clear hu hv h3 h4 hia hjb hg hh
        go_wp2_with fail
        go_quiet (fail)
        go_wp2_with fail
        have z0 := cell_of_row _ S 0 _ _ _ HRW.out
        have z1 := cell_of_row _ S 1 _ _ _ HRW.out
        have z2 := cell_of_row _ S 2 _ _ _ HRW.out
        have y0 := frozen_of_row _ S 0 _ _ HRW.out
        have y1 := frozen_of_row _ S 1 _ _ HRW.out
        have y2 := frozen_of_row _ S 2 _ _ HRW.out
        go_region_with (go_at_call 38; ((with_reducible refine (HCP.out _).mono ?_); rintro e w2 ⟨rfl, k2, rfl⟩))
        go_wp2
        have i1 : IntKind.i64.wrap ((i : Int) - (t : Int)) = ((i - t : Nat) : Int) := by rw [IntWalk.i64_in _ (by omega)]; omega
        have i2 : IntKind.i64.wrap ((j : Int) - (t : Int)) = ((j - t : Nat) : Int) := by rw [IntWalk.i64_in _ (by omega)]; omega
        have i3 : IntKind.i64.wrap ((t : Int) + (C : Int)) = ((t + C : Nat) : Int) := by rw [IntWalk.i64_in _ (by omega)]; omega
        obtain ⟨w4, hw4⟩ : ∃ w4, w4 = ((((w1.drewN (x + nq + 1 + k2)).setCell ⟨S, 0, none⟩ (.int .i64 (IntKind.i64.wrap ((i : Int) - (t : Int))))).setCell ⟨S, 1, none⟩ (.int .i64 (IntKind.i64.wrap ((j : Int) - (t : Int))))).setCell ⟨S, 2, none⟩ (.int .i64 (IntKind.i64.wrap ((t : Int) + (C : Int))))) := ⟨_, rfl⟩
        obtain ⟨k0, k1, k2', kb⟩ := fin3 (wx := w1.drewN (x + nq + 1 + k2)) HRW.out HS.out (below_drewN HB1.out _) hw4
        rw [← hw4]
        rw [i1] at k0
        rw [i2] at k1
        rw [i3] at k2'
        clear z0 z1 z2 y0 y1 y2 hw4 i1 i2 i3
        refine bodyPost_ret (v := frV (some ⟨i - t, j - t, t + C⟩)) (by simp [results, Try.results49, go_sem, frV, Ru.val, k0, k1, k2']) rfl ⟨by rw [HE.out, HRUN.out], kb⟩
end Go.Proofs.Ytnmebnpldacngaa
