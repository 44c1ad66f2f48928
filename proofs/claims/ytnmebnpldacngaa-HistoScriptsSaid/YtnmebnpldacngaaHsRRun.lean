/-
  The walk of the reference's run.
-/
import Derived.Test.YtnmebnpldacngaaHsRAnchor
import Derived.Deep.QuietTactic
import Derived.BigQuiet
import Derived.IntWalk
namespace Go.Proofs.Ytnmebnpldacngaa
open Go.RowKit

theorem srw_cellO {w : World} {g o : Nat} {ls : List (List UInt8)} (h : SRw w (some ⟨g, o, Option.none⟩) ls) {k : Nat} (hk : k < ls.length) : w.cell? ⟨g, o + k, Option.none⟩ = some (.string (str ls[k])) := by
  obtain ⟨g', o', he, -, hc⟩ := h k hk
  cases he
  exact hc
theorem cells_two {w : World} {g o g' o' n m a b : Nat} {la lb : List (List UInt8)} (h : SRw w (some ⟨g, o, Option.none⟩) la) (h' : SRw w (some ⟨g', o', Option.none⟩) lb) (hn : n = la.length) (hm : m = lb.length) (ha : a < n) (hb : b < m) :
    (la[a]? = lb[b]? → ∃ u : ByteArray, w.cell? ⟨g, o + a, Option.none⟩ = some (.string u) ∧ w.cell? ⟨g', o' + b, Option.none⟩ = some (.string u)) ∧
    (la[a]? ≠ lb[b]? → ∃ u v : ByteArray, w.cell? ⟨g, o + a, Option.none⟩ = some (.string u) ∧ w.cell? ⟨g', o' + b, Option.none⟩ = some (.string v) ∧ (u.toList == v.toList) = false) := by
  have ha2 : a < la.length := by omega
  have hb2 : b < lb.length := by omega
  rw [List.getElem?_eq_getElem ha2, List.getElem?_eq_getElem hb2]
  refine ⟨fun he => ?_, fun hne => ⟨_, _, srw_cellO h ha2, srw_cellO h' hb2, (str_ne (fun e => hne (by rw [e]))).1⟩⟩
  rw [Option.some.injEq] at he
  exact ⟨_, srw_cellO h ha2, by rw [he]; exact srw_cellO h' hb2⟩
set_option maxHeartbeats 2000000 in
set_option maxRecDepth 4000 in
theorem rrun_any (la lb : List (List UInt8)) (i j : Nat) (p q : Option Addr) (c d n m : Nat) (r : Ru) (w : World) (hn : n = la.length) (hm : m = lb.length) (hp : SRw w p la) (hq : SRw w q lb) (hl : n ≤ 1048576) (hl2 : m ≤ 1048576) (hi : i < n) (hj : j < m) (he : la[i]? = lb[j]?) (hr : r = run la lb i j) :
    Calls Try.prog 29 #[.slice p n c, .slice q m d, .int .i64 (i : Int), .int .i64 (j : Int)] w fun e w' => e = .returned r.val ∧ Below w.heap.size w w' := by
  obtain ⟨g, o, rfl, -, -⟩ := hp i (by omega)
  obtain ⟨g', o', rfl, -, -⟩ := hq j (by omega)
  obtain ⟨w1, hw1⟩ : ∃ w1, w1 = w.alloc (.cells #[.int .i64 0, .int .i64 0, .int .i64 0] 30) := ⟨_, rfl⟩
  obtain ⟨S, hS⟩ : ∃ S, S = w.heap.size := ⟨_, rfl⟩
  have hb1 : Below w.heap.size w w1 := by rw [hw1]; exact below_new (Below.refl _ _) _
  have hrow : w1.heap[S]? = some (.cells #[.int .i64 0, .int .i64 0, .int .i64 0] 30 (0, 0)) := by rw [hw1, hS]; exact heap_alloc_new w _
  have hrun := (run_is (a := la) (b := lb) (by omega) (by omega) he).1
  have hbk := bk_le la lb i j
  have HRW := Lib.hid hrow
  have HB1 := Lib.hid hb1
  have HW1 := Lib.hid hw1
  have HS := Lib.hid hS
  have HP : Hid (∀ k, SRw (w1.drewN k) (some ⟨g, o, none⟩) la) := fun k => (hp.below hb1).below (below_drewN (Below.refl _ _) k)
  have HQ : Hid (∀ k, SRw (w1.drewN k) (some ⟨g', o', none⟩) lb) := fun k => (hq.below hb1).below (below_drewN (Below.refl _ _) k)
  have HN := Lib.hid hn
  have HM := Lib.hid hm
  have HRU := Lib.hid hrun
  have HR := Lib.hid hr
  obtain ⟨K, hK⟩ : ∃ K, K = bk la lb i j := ⟨_, rfl⟩
  have HK := Lib.hid hK
  have hK1 : K ≤ i := by rw [hK]; exact hbk.1
  have hK2 : K ≤ j := by rw [hK]; exact hbk.2
  clear hn hm hp hq hr hrun hbk hb1 hrow hw1 hS hK he
  go_enter Try.func29, Try.ntmps29
  go_upto_region 1 with fail
  rw [← HW1.out, ← HS.out]
  go_loopw [2, 3] (fun iv jv wr => ∃ x y s k : Nat, iv = .int .i64 (x : Int) ∧ jv = .int .i64 (y : Int) ∧ x + s = i ∧ y + s = j ∧ s ≤ K ∧ wr = w1.drewN k) (fun iv _ _ => (intOf iv).toNat)
  case atStart => exact ⟨i, j, 0, 0, rfl, rfl, by omega, by omega, by omega, rfl⟩
  case round =>
    obtain ⟨x, y, s, k, rfl, rfl, hx, hy, hs, hwr⟩ := hrel
    have HP1 := Lib.hid (HP.out k)
    have HQ1 := Lib.hid (HQ.out k)
    rw [← hwr] at HP1 HQ1
    have HWR := Lib.hid hwr
    clear hwr
    by_cases hlt : s < K
    · have hq := bk_eq la lb i j s (by rw [← HK.out]; exact hlt)
      obtain ⟨xa, hxa⟩ : ∃ xa, xa = x - 1 := ⟨_, rfl⟩
      obtain ⟨ya, hya⟩ : ∃ ya, ya = y - 1 := ⟨_, rfl⟩
      rw [show i - 1 - s = xa by omega, show j - 1 - s = ya by omega] at hq
      obtain ⟨u, a0, b0⟩ := (cells_two HP1.out HQ1.out HN.out HM.out (show xa < n by omega) (show ya < m by omega)).1 hq
      have t1 : decide ((0 : Int) < (x : Int)) = true := decide_eq_true (by omega)
      have t2 : decide (0 < x) = true := decide_eq_true (by omega)
      have t3 : decide ((0 : Int) < (y : Int)) = true := decide_eq_true (by omega)
      have t4 : decide (0 < y) = true := decide_eq_true (by omega)
      have t5 : (x : Int) - 1 = (xa : Int) := by omega
      have t6 : (y : Int) - 1 = (ya : Int) := by omega
      have t7 : IntKind.i64.wrap (xa : Int) = (xa : Int) := IntWalk.i64_in _ (by omega)
      have t8 : IntKind.i64.wrap (ya : Int) = (ya : Int) := IntWalk.i64_in _ (by omega)
      have t9 : xa < n := by omega
      have t10 : ya < m := by omega
      have t11 : (xa : Int) < (n : Int) := by omega
      have t12 : (ya : Int) < (m : Int) := by omega
      have HH := Lib.hid (show x = xa + 1 ∧ xa + (s + 1) = i ∧ ya + (s + 1) = j ∧ s + 1 ≤ K by omega)
      clear hq hxa hya hx hy hs hlt
      go_wp2_with fail
      go_quiet (fail)
      go_wp2_with fail
      go_roundw
      case rel => exact ⟨xa, ya, s + 1, k + nq, rfl, rfl, HH.out.2.1, HH.out.2.2.1, HH.out.2.2.2, by rw [HWR.out, World.drewN_drewN]⟩
      case measure => have := HH.out.1; simp [intOf]; omega
    · obtain rfl : s = K := by omega
      have hLL : x = 0 ∨ (0 < x ∧ y = 0) ∨ ∃ xa ya : Nat, ∃ u v : ByteArray, 0 < x ∧ 0 < y ∧ x = xa + 1 ∧ y = ya + 1 ∧ wr.cell? ⟨g, o + xa, none⟩ = some (.string u) ∧ wr.cell? ⟨g', o' + ya, none⟩ = some (.string v) ∧ (u.toList == v.toList) = false := by
        by_cases k1 : x = 0
        · exact .inl k1
        · by_cases k2 : y = 0
          · exact .inr (.inl ⟨by omega, k2⟩)
          · have hlo := HRU.out.lo
            simp only [run] at hlo
            rw [← HK.out, show i - s = x by omega, show j - s = y by omega] at hlo
            rcases hlo with k3 | k3 | k3
            · exact absurd k3 k1
            · exact absurd k3 k2
            · obtain ⟨u, v, a0, b0, e⟩ := (cells_two HP1.out HQ1.out HN.out HM.out (show x - 1 < n by omega) (show y - 1 < m by omega)).2 k3
              exact .inr (.inr ⟨x - 1, y - 1, u, v, by omega, by omega, by omega, by omega, a0, b0, e⟩)
      obtain ⟨L, hL⟩ : ∃ L, L = r.n := ⟨_, rfl⟩
      have hra : r.a = x := by rw [HR.out]; simp only [run]; rw [← HK.out]; omega
      have hrb : r.b = y := by rw [HR.out]; simp only [run]; rw [← HK.out]; omega
      have HV : Hid (r.val = .agg #[.int .i64 (x : Int), .int .i64 (y : Int), .int .i64 (L : Int)]) := by show _ = _; rw [Ru.val, hra, hrb, hL]
      have hru := HRU.out
      rw [← HR.out] at hru
      obtain ⟨-, f2, f3, f4, -, f6⟩ := hru
      rw [hra, ← hL, ← HN.out] at f2
      rw [hrb, ← hL, ← HM.out] at f3
      rw [hra, hrb, ← hL] at f4 f6
      rw [← HN.out, ← HM.out] at f6
      have HEQ := Lib.hid f4
      have HHI := Lib.hid f6
      clear f4 f6 hra hrb hL
      rcases hLL with h1 | ⟨h1, h2⟩ | ⟨xa, ya, u, v, h1, h2, h3, h4, a0, b0, hne⟩
      · have t1 : decide ((0 : Int) < (x : Int)) = false := decide_eq_false (by omega)
        have t2 : decide (0 < x) = false := decide_eq_false (by omega)
        clear h1
        go_wp2_with fail
        go_quiet (fail)
        go_wp2_with fail
        have HX2 := Lib.hid (And.intro f2 f3)
        clear t1 t2 hx hy hlt hs
        go_loopw [9] (fun tv wr2 => ∃ t k2 : Nat, t ≤ L ∧ tv = .int .i64 (t : Int) ∧ wr2 = w1.drewN k2) (fun tv _ => L - (intOf tv).toNat)
        case atStart => exact ⟨0, k + nq, by omega, rfl, by rw [HWR.out, World.drewN_drewN]⟩
        case round =>
          obtain ⟨t, k2, ht, rfl, hwr2⟩ := hrel
          have HP2 := Lib.hid (HP.out k2)
          have HQ2 := Lib.hid (HQ.out k2)
          rw [← hwr2] at HP2 HQ2
          have HWR2 := Lib.hid hwr2
          clear hwr2
          obtain ⟨za, hza⟩ : ∃ za, za = x + t := ⟨_, rfl⟩
          obtain ⟨zb, hzb⟩ : ∃ zb, zb = y + t := ⟨_, rfl⟩
          have s1 : (x : Int) + (t : Int) = (za : Int) := by omega
          have s2 : (y : Int) + (t : Int) = (zb : Int) := by omega
          have s3 : IntKind.i64.wrap (za : Int) = (za : Int) := IntWalk.i64_in _ (by omega)
          have s4 : IntKind.i64.wrap (zb : Int) = (zb : Int) := IntWalk.i64_in _ (by omega)
          by_cases hlt : t < L
          · obtain ⟨u, a0, b0⟩ := (cells_two HP2.out HQ2.out HN.out HM.out (show za < n by omega) (show zb < m by omega)).1 (by rw [hza, hzb]; exact HEQ.out t hlt)
            have x1 : decide ((za : Int) < (n : Int)) = true := decide_eq_true (by omega)
            have x2 : decide (za < n) = true := decide_eq_true (by omega)
            have x3 : decide ((zb : Int) < (m : Int)) = true := decide_eq_true (by omega)
            have x4 : decide (zb < m) = true := decide_eq_true (by omega)
            have x5 : (za : Int) < (n : Int) := by omega
            have x6 : (zb : Int) < (m : Int) := by omega
            have x7 : za < n := by omega
            have x8 : zb < m := by omega
            have HH := Lib.hid (show t + 1 ≤ L by omega)
            clear hza hzb f2 f3 ht
            go_wp2_with fail
            go_quiet (fail)
            go_wp2_with fail
            go_roundw
            case rel => exact ⟨t + 1, k2 + nq, HH.out, by go_num, by rw [HWR2.out, World.drewN_drewN]⟩
            case measure => have := HH.out; simp [intOf]; omega
          · obtain rfl : t = L := by omega
            have hRR : za = n ∨ (za < n ∧ zb = m) ∨ ∃ u v : ByteArray, za < n ∧ zb < m ∧ wr.cell? ⟨g, o + za, none⟩ = some (.string u) ∧ wr.cell? ⟨g', o' + zb, none⟩ = some (.string v) ∧ (u.toList == v.toList) = false := by
              by_cases k1 : za = n
              · exact .inl k1
              · by_cases k2 : zb = m
                · exact .inr (.inl ⟨by omega, k2⟩)
                · have hhi := HHI.out
                  rw [← hza, ← hzb] at hhi
                  rcases hhi with k3 | k3 | k3
                  · exact absurd k3 k1
                  · exact absurd k3 k2
                  · obtain ⟨u, v, a0, b0, e⟩ := (cells_two HP2.out HQ2.out HN.out HM.out (show za < n by omega) (show zb < m by omega)).2 k3
                    exact .inr (.inr ⟨u, v, by omega, by omega, a0, b0, e⟩)
            clear hza hzb f2 f3
            rcases hRR with e1 | ⟨e1, e2⟩ | ⟨u, v, e1, e2, a0, b0, e3⟩
            · have x1 : decide ((za : Int) < (n : Int)) = false := decide_eq_false (by omega)
              have x2 : decide (za < n) = false := decide_eq_false (by omega)
              clear e1
              go_wp2_with fail
              go_quiet (fail)
              obtain ⟨w3, hw3⟩ : ∃ w3, w3 = wr.drewN nq := ⟨_, rfl⟩
              rw [← hw3]
              have hd3 : w3 = w1.drewN (k2 + nq) := by rw [hw3, HWR2.out, World.drewN_drewN]
              have hb3 : Below w1.heap.size w1 w3 := by rw [hd3]; exact below_drewN (Below.refl _ _) _
              have hr3 := (hb3.block _ (row_lt HRW.out)).trans HRW.out
              have z0 := cell_of_row w3 S 0 _ _ _ hr3
              have z1 := cell_of_row w3 S 1 _ _ _ hr3
              have z2 := cell_of_row w3 S 2 _ _ _ hr3
              have y0 := frozen_of_row w3 S 0 _ _ hr3
              have y1 := frozen_of_row w3 S 1 _ _ hr3
              have y2 := frozen_of_row w3 S 2 _ _ hr3
              have HR3 := Lib.hid hr3
              have HB3 := Lib.hid (HB1.out.trans (hb3.mono HB1.out.size))
              clear hr3 hb3 hd3 hw3
              go_wp2_with fail
              obtain ⟨w4, hw4⟩ : ∃ w4, w4 = ((w3.setCell ⟨S, 0, none⟩ (.int .i64 (x : Int))).setCell ⟨S, 1, none⟩ (.int .i64 (y : Int))).setCell ⟨S, 2, none⟩ (.int .i64 (t : Int)) := ⟨_, rfl⟩
              obtain ⟨m0, m1, m2, mb⟩ := fin3 HR3.out HS.out HB3.out hw4
              rw [← hw4]
              clear z0 z1 z2 y0 y1 y2 hw4
              refine bodyPost_ret (v := .agg #[.int .i64 (x : Int), .int .i64 (y : Int), .int .i64 (t : Int)]) (by simp [results, Try.results29, go_sem, m0, m1, m2]) rfl ⟨by rw [HV.out], mb⟩
            · have x1 : decide ((za : Int) < (n : Int)) = true := decide_eq_true (by omega)
              have x2 : decide (za < n) = true := decide_eq_true (by omega)
              have x3 : decide ((zb : Int) < (m : Int)) = false := decide_eq_false (by omega)
              have x4 : decide (zb < m) = false := decide_eq_false (by omega)
              clear e1 e2
              go_wp2_with fail
              go_quiet (fail)
              obtain ⟨w3, hw3⟩ : ∃ w3, w3 = wr.drewN nq := ⟨_, rfl⟩
              rw [← hw3]
              have hd3 : w3 = w1.drewN (k2 + nq) := by rw [hw3, HWR2.out, World.drewN_drewN]
              have hb3 : Below w1.heap.size w1 w3 := by rw [hd3]; exact below_drewN (Below.refl _ _) _
              have hr3 := (hb3.block _ (row_lt HRW.out)).trans HRW.out
              have z0 := cell_of_row w3 S 0 _ _ _ hr3
              have z1 := cell_of_row w3 S 1 _ _ _ hr3
              have z2 := cell_of_row w3 S 2 _ _ _ hr3
              have y0 := frozen_of_row w3 S 0 _ _ hr3
              have y1 := frozen_of_row w3 S 1 _ _ hr3
              have y2 := frozen_of_row w3 S 2 _ _ hr3
              have HR3 := Lib.hid hr3
              have HB3 := Lib.hid (HB1.out.trans (hb3.mono HB1.out.size))
              clear hr3 hb3 hd3 hw3
              go_wp2_with fail
              obtain ⟨w4, hw4⟩ : ∃ w4, w4 = ((w3.setCell ⟨S, 0, none⟩ (.int .i64 (x : Int))).setCell ⟨S, 1, none⟩ (.int .i64 (y : Int))).setCell ⟨S, 2, none⟩ (.int .i64 (t : Int)) := ⟨_, rfl⟩
              obtain ⟨m0, m1, m2, mb⟩ := fin3 HR3.out HS.out HB3.out hw4
              rw [← hw4]
              clear z0 z1 z2 y0 y1 y2 hw4
              refine bodyPost_ret (v := .agg #[.int .i64 (x : Int), .int .i64 (y : Int), .int .i64 (t : Int)]) (by simp [results, Try.results29, go_sem, m0, m1, m2]) rfl ⟨by rw [HV.out], mb⟩
            · have x1 : decide ((za : Int) < (n : Int)) = true := decide_eq_true (by omega)
              have x2 : decide (za < n) = true := decide_eq_true (by omega)
              have x3 : decide ((zb : Int) < (m : Int)) = true := decide_eq_true (by omega)
              have x4 : decide (zb < m) = true := decide_eq_true (by omega)
              have x5 : (za : Int) < (n : Int) := by omega
              have x6 : (zb : Int) < (m : Int) := by omega
              go_wp2_with fail
              go_quiet (fail)
              obtain ⟨w3, hw3⟩ : ∃ w3, w3 = wr.drewN nq := ⟨_, rfl⟩
              rw [← hw3]
              have hd3 : w3 = w1.drewN (k2 + nq) := by rw [hw3, HWR2.out, World.drewN_drewN]
              have hb3 : Below w1.heap.size w1 w3 := by rw [hd3]; exact below_drewN (Below.refl _ _) _
              have hr3 := (hb3.block _ (row_lt HRW.out)).trans HRW.out
              have z0 := cell_of_row w3 S 0 _ _ _ hr3
              have z1 := cell_of_row w3 S 1 _ _ _ hr3
              have z2 := cell_of_row w3 S 2 _ _ _ hr3
              have y0 := frozen_of_row w3 S 0 _ _ hr3
              have y1 := frozen_of_row w3 S 1 _ _ hr3
              have y2 := frozen_of_row w3 S 2 _ _ hr3
              have HR3 := Lib.hid hr3
              have HB3 := Lib.hid (HB1.out.trans (hb3.mono HB1.out.size))
              clear hr3 hb3 hd3 hw3
              go_wp2_with fail
              obtain ⟨w4, hw4⟩ : ∃ w4, w4 = ((w3.setCell ⟨S, 0, none⟩ (.int .i64 (x : Int))).setCell ⟨S, 1, none⟩ (.int .i64 (y : Int))).setCell ⟨S, 2, none⟩ (.int .i64 (t : Int)) := ⟨_, rfl⟩
              obtain ⟨m0, m1, m2, mb⟩ := fin3 HR3.out HS.out HB3.out hw4
              rw [← hw4]
              clear z0 z1 z2 y0 y1 y2 hw4
              refine bodyPost_ret (v := .agg #[.int .i64 (x : Int), .int .i64 (y : Int), .int .i64 (t : Int)]) (by simp [results, Try.results29, go_sem, m0, m1, m2]) rfl ⟨by rw [HV.out], mb⟩
      · have t1 : decide ((0 : Int) < (x : Int)) = true := decide_eq_true (by omega)
        have t2 : decide (0 < x) = true := decide_eq_true (by omega)
        have t3 : decide ((0 : Int) < (y : Int)) = false := decide_eq_false (by omega)
        have t4 : decide (0 < y) = false := decide_eq_false (by omega)
        clear h1 h2
        go_wp2_with fail
        go_quiet (fail)
        go_wp2_with fail
        have HX2 := Lib.hid (And.intro f2 f3)
        clear t1 t2 t3 t4 hx hy hlt hs
        go_loopw [9] (fun tv wr2 => ∃ t k2 : Nat, t ≤ L ∧ tv = .int .i64 (t : Int) ∧ wr2 = w1.drewN k2) (fun tv _ => L - (intOf tv).toNat)
        case atStart => exact ⟨0, k + nq, by omega, rfl, by rw [HWR.out, World.drewN_drewN]⟩
        case round =>
          obtain ⟨t, k2, ht, rfl, hwr2⟩ := hrel
          have HP2 := Lib.hid (HP.out k2)
          have HQ2 := Lib.hid (HQ.out k2)
          rw [← hwr2] at HP2 HQ2
          have HWR2 := Lib.hid hwr2
          clear hwr2
          obtain ⟨za, hza⟩ : ∃ za, za = x + t := ⟨_, rfl⟩
          obtain ⟨zb, hzb⟩ : ∃ zb, zb = y + t := ⟨_, rfl⟩
          have s1 : (x : Int) + (t : Int) = (za : Int) := by omega
          have s2 : (y : Int) + (t : Int) = (zb : Int) := by omega
          have s3 : IntKind.i64.wrap (za : Int) = (za : Int) := IntWalk.i64_in _ (by omega)
          have s4 : IntKind.i64.wrap (zb : Int) = (zb : Int) := IntWalk.i64_in _ (by omega)
          by_cases hlt : t < L
          · obtain ⟨u, a0, b0⟩ := (cells_two HP2.out HQ2.out HN.out HM.out (show za < n by omega) (show zb < m by omega)).1 (by rw [hza, hzb]; exact HEQ.out t hlt)
            have x1 : decide ((za : Int) < (n : Int)) = true := decide_eq_true (by omega)
            have x2 : decide (za < n) = true := decide_eq_true (by omega)
            have x3 : decide ((zb : Int) < (m : Int)) = true := decide_eq_true (by omega)
            have x4 : decide (zb < m) = true := decide_eq_true (by omega)
            have x5 : (za : Int) < (n : Int) := by omega
            have x6 : (zb : Int) < (m : Int) := by omega
            have x7 : za < n := by omega
            have x8 : zb < m := by omega
            have HH := Lib.hid (show t + 1 ≤ L by omega)
            clear hza hzb f2 f3 ht
            go_wp2_with fail
            go_quiet (fail)
            go_wp2_with fail
            go_roundw
            case rel => exact ⟨t + 1, k2 + nq, HH.out, by go_num, by rw [HWR2.out, World.drewN_drewN]⟩
            case measure => have := HH.out; simp [intOf]; omega
          · obtain rfl : t = L := by omega
            have hRR : za = n ∨ (za < n ∧ zb = m) ∨ ∃ u v : ByteArray, za < n ∧ zb < m ∧ wr.cell? ⟨g, o + za, none⟩ = some (.string u) ∧ wr.cell? ⟨g', o' + zb, none⟩ = some (.string v) ∧ (u.toList == v.toList) = false := by
              by_cases k1 : za = n
              · exact .inl k1
              · by_cases k2 : zb = m
                · exact .inr (.inl ⟨by omega, k2⟩)
                · have hhi := HHI.out
                  rw [← hza, ← hzb] at hhi
                  rcases hhi with k3 | k3 | k3
                  · exact absurd k3 k1
                  · exact absurd k3 k2
                  · obtain ⟨u, v, a0, b0, e⟩ := (cells_two HP2.out HQ2.out HN.out HM.out (show za < n by omega) (show zb < m by omega)).2 k3
                    exact .inr (.inr ⟨u, v, by omega, by omega, a0, b0, e⟩)
            clear hza hzb f2 f3
            rcases hRR with e1 | ⟨e1, e2⟩ | ⟨u, v, e1, e2, a0, b0, e3⟩
            · have x1 : decide ((za : Int) < (n : Int)) = false := decide_eq_false (by omega)
              have x2 : decide (za < n) = false := decide_eq_false (by omega)
              clear e1
              go_wp2_with fail
              go_quiet (fail)
              obtain ⟨w3, hw3⟩ : ∃ w3, w3 = wr.drewN nq := ⟨_, rfl⟩
              rw [← hw3]
              have hd3 : w3 = w1.drewN (k2 + nq) := by rw [hw3, HWR2.out, World.drewN_drewN]
              have hb3 : Below w1.heap.size w1 w3 := by rw [hd3]; exact below_drewN (Below.refl _ _) _
              have hr3 := (hb3.block _ (row_lt HRW.out)).trans HRW.out
              have z0 := cell_of_row w3 S 0 _ _ _ hr3
              have z1 := cell_of_row w3 S 1 _ _ _ hr3
              have z2 := cell_of_row w3 S 2 _ _ _ hr3
              have y0 := frozen_of_row w3 S 0 _ _ hr3
              have y1 := frozen_of_row w3 S 1 _ _ hr3
              have y2 := frozen_of_row w3 S 2 _ _ hr3
              have HR3 := Lib.hid hr3
              have HB3 := Lib.hid (HB1.out.trans (hb3.mono HB1.out.size))
              clear hr3 hb3 hd3 hw3
              go_wp2_with fail
              obtain ⟨w4, hw4⟩ : ∃ w4, w4 = ((w3.setCell ⟨S, 0, none⟩ (.int .i64 (x : Int))).setCell ⟨S, 1, none⟩ (.int .i64 (y : Int))).setCell ⟨S, 2, none⟩ (.int .i64 (t : Int)) := ⟨_, rfl⟩
              obtain ⟨m0, m1, m2, mb⟩ := fin3 HR3.out HS.out HB3.out hw4
              rw [← hw4]
              clear z0 z1 z2 y0 y1 y2 hw4
              refine bodyPost_ret (v := .agg #[.int .i64 (x : Int), .int .i64 (y : Int), .int .i64 (t : Int)]) (by simp [results, Try.results29, go_sem, m0, m1, m2]) rfl ⟨by rw [HV.out], mb⟩
            · have x1 : decide ((za : Int) < (n : Int)) = true := decide_eq_true (by omega)
              have x2 : decide (za < n) = true := decide_eq_true (by omega)
              have x3 : decide ((zb : Int) < (m : Int)) = false := decide_eq_false (by omega)
              have x4 : decide (zb < m) = false := decide_eq_false (by omega)
              clear e1 e2
              go_wp2_with fail
              go_quiet (fail)
              obtain ⟨w3, hw3⟩ : ∃ w3, w3 = wr.drewN nq := ⟨_, rfl⟩
              rw [← hw3]
              have hd3 : w3 = w1.drewN (k2 + nq) := by rw [hw3, HWR2.out, World.drewN_drewN]
              have hb3 : Below w1.heap.size w1 w3 := by rw [hd3]; exact below_drewN (Below.refl _ _) _
              have hr3 := (hb3.block _ (row_lt HRW.out)).trans HRW.out
              have z0 := cell_of_row w3 S 0 _ _ _ hr3
              have z1 := cell_of_row w3 S 1 _ _ _ hr3
              have z2 := cell_of_row w3 S 2 _ _ _ hr3
              have y0 := frozen_of_row w3 S 0 _ _ hr3
              have y1 := frozen_of_row w3 S 1 _ _ hr3
              have y2 := frozen_of_row w3 S 2 _ _ hr3
              have HR3 := Lib.hid hr3
              have HB3 := Lib.hid (HB1.out.trans (hb3.mono HB1.out.size))
              clear hr3 hb3 hd3 hw3
              go_wp2_with fail
              obtain ⟨w4, hw4⟩ : ∃ w4, w4 = ((w3.setCell ⟨S, 0, none⟩ (.int .i64 (x : Int))).setCell ⟨S, 1, none⟩ (.int .i64 (y : Int))).setCell ⟨S, 2, none⟩ (.int .i64 (t : Int)) := ⟨_, rfl⟩
              obtain ⟨m0, m1, m2, mb⟩ := fin3 HR3.out HS.out HB3.out hw4
              rw [← hw4]
              clear z0 z1 z2 y0 y1 y2 hw4
              refine bodyPost_ret (v := .agg #[.int .i64 (x : Int), .int .i64 (y : Int), .int .i64 (t : Int)]) (by simp [results, Try.results29, go_sem, m0, m1, m2]) rfl ⟨by rw [HV.out], mb⟩
            · have x1 : decide ((za : Int) < (n : Int)) = true := decide_eq_true (by omega)
              have x2 : decide (za < n) = true := decide_eq_true (by omega)
              have x3 : decide ((zb : Int) < (m : Int)) = true := decide_eq_true (by omega)
              have x4 : decide (zb < m) = true := decide_eq_true (by omega)
              have x5 : (za : Int) < (n : Int) := by omega
              have x6 : (zb : Int) < (m : Int) := by omega
              go_wp2_with fail
              go_quiet (fail)
              obtain ⟨w3, hw3⟩ : ∃ w3, w3 = wr.drewN nq := ⟨_, rfl⟩
              rw [← hw3]
              have hd3 : w3 = w1.drewN (k2 + nq) := by rw [hw3, HWR2.out, World.drewN_drewN]
              have hb3 : Below w1.heap.size w1 w3 := by rw [hd3]; exact below_drewN (Below.refl _ _) _
              have hr3 := (hb3.block _ (row_lt HRW.out)).trans HRW.out
              have z0 := cell_of_row w3 S 0 _ _ _ hr3
              have z1 := cell_of_row w3 S 1 _ _ _ hr3
              have z2 := cell_of_row w3 S 2 _ _ _ hr3
              have y0 := frozen_of_row w3 S 0 _ _ hr3
              have y1 := frozen_of_row w3 S 1 _ _ hr3
              have y2 := frozen_of_row w3 S 2 _ _ hr3
              have HR3 := Lib.hid hr3
              have HB3 := Lib.hid (HB1.out.trans (hb3.mono HB1.out.size))
              clear hr3 hb3 hd3 hw3
              go_wp2_with fail
              obtain ⟨w4, hw4⟩ : ∃ w4, w4 = ((w3.setCell ⟨S, 0, none⟩ (.int .i64 (x : Int))).setCell ⟨S, 1, none⟩ (.int .i64 (y : Int))).setCell ⟨S, 2, none⟩ (.int .i64 (t : Int)) := ⟨_, rfl⟩
              obtain ⟨m0, m1, m2, mb⟩ := fin3 HR3.out HS.out HB3.out hw4
              rw [← hw4]
              clear z0 z1 z2 y0 y1 y2 hw4
              refine bodyPost_ret (v := .agg #[.int .i64 (x : Int), .int .i64 (y : Int), .int .i64 (t : Int)]) (by simp [results, Try.results29, go_sem, m0, m1, m2]) rfl ⟨by rw [HV.out], mb⟩
      · have t1 : decide ((0 : Int) < (x : Int)) = true := decide_eq_true (by omega)
        have t2 : decide (0 < x) = true := decide_eq_true (by omega)
        have t3 : decide ((0 : Int) < (y : Int)) = true := decide_eq_true (by omega)
        have t4 : decide (0 < y) = true := decide_eq_true (by omega)
        have t5 : (x : Int) - 1 = (xa : Int) := by omega
        have t6 : (y : Int) - 1 = (ya : Int) := by omega
        have t7 : IntKind.i64.wrap (xa : Int) = (xa : Int) := IntWalk.i64_in _ (by omega)
        have t8 : IntKind.i64.wrap (ya : Int) = (ya : Int) := IntWalk.i64_in _ (by omega)
        have t9 : xa < n := by omega
        have t10 : ya < m := by omega
        have t11 : (xa : Int) < (n : Int) := by omega
        have t12 : (ya : Int) < (m : Int) := by omega
        clear h1 h2 h3 h4
        go_wp2_with fail
        go_quiet (fail)
        go_wp2_with fail
        have HX2 := Lib.hid (And.intro f2 f3)
        clear t1 t2 t3 t4 t5 t6 t7 t8 t9 t10 t11 t12 a0 b0 hne hx hy hlt hs
        go_loopw [9] (fun tv wr2 => ∃ t k2 : Nat, t ≤ L ∧ tv = .int .i64 (t : Int) ∧ wr2 = w1.drewN k2) (fun tv _ => L - (intOf tv).toNat)
        case atStart => exact ⟨0, k + nq, by omega, rfl, by rw [HWR.out, World.drewN_drewN]⟩
        case round =>
          obtain ⟨t, k2, ht, rfl, hwr2⟩ := hrel
          have HP2 := Lib.hid (HP.out k2)
          have HQ2 := Lib.hid (HQ.out k2)
          rw [← hwr2] at HP2 HQ2
          have HWR2 := Lib.hid hwr2
          clear hwr2
          obtain ⟨za, hza⟩ : ∃ za, za = x + t := ⟨_, rfl⟩
          obtain ⟨zb, hzb⟩ : ∃ zb, zb = y + t := ⟨_, rfl⟩
          have s1 : (x : Int) + (t : Int) = (za : Int) := by omega
          have s2 : (y : Int) + (t : Int) = (zb : Int) := by omega
          have s3 : IntKind.i64.wrap (za : Int) = (za : Int) := IntWalk.i64_in _ (by omega)
          have s4 : IntKind.i64.wrap (zb : Int) = (zb : Int) := IntWalk.i64_in _ (by omega)
          by_cases hlt : t < L
          · obtain ⟨u, a0, b0⟩ := (cells_two HP2.out HQ2.out HN.out HM.out (show za < n by omega) (show zb < m by omega)).1 (by rw [hza, hzb]; exact HEQ.out t hlt)
            have x1 : decide ((za : Int) < (n : Int)) = true := decide_eq_true (by omega)
            have x2 : decide (za < n) = true := decide_eq_true (by omega)
            have x3 : decide ((zb : Int) < (m : Int)) = true := decide_eq_true (by omega)
            have x4 : decide (zb < m) = true := decide_eq_true (by omega)
            have x5 : (za : Int) < (n : Int) := by omega
            have x6 : (zb : Int) < (m : Int) := by omega
            have x7 : za < n := by omega
            have x8 : zb < m := by omega
            have HH := Lib.hid (show t + 1 ≤ L by omega)
            clear hza hzb f2 f3 ht
            go_wp2_with fail
            go_quiet (fail)
            go_wp2_with fail
            go_roundw
            case rel => exact ⟨t + 1, k2 + nq, HH.out, by go_num, by rw [HWR2.out, World.drewN_drewN]⟩
            case measure => have := HH.out; simp [intOf]; omega
          · obtain rfl : t = L := by omega
            have hRR : za = n ∨ (za < n ∧ zb = m) ∨ ∃ u v : ByteArray, za < n ∧ zb < m ∧ wr.cell? ⟨g, o + za, none⟩ = some (.string u) ∧ wr.cell? ⟨g', o' + zb, none⟩ = some (.string v) ∧ (u.toList == v.toList) = false := by
              by_cases k1 : za = n
              · exact .inl k1
              · by_cases k2 : zb = m
                · exact .inr (.inl ⟨by omega, k2⟩)
                · have hhi := HHI.out
                  rw [← hza, ← hzb] at hhi
                  rcases hhi with k3 | k3 | k3
                  · exact absurd k3 k1
                  · exact absurd k3 k2
                  · obtain ⟨u, v, a0, b0, e⟩ := (cells_two HP2.out HQ2.out HN.out HM.out (show za < n by omega) (show zb < m by omega)).2 k3
                    exact .inr (.inr ⟨u, v, by omega, by omega, a0, b0, e⟩)
            clear hza hzb f2 f3
            rcases hRR with e1 | ⟨e1, e2⟩ | ⟨u, v, e1, e2, a0, b0, e3⟩
            · have x1 : decide ((za : Int) < (n : Int)) = false := decide_eq_false (by omega)
              have x2 : decide (za < n) = false := decide_eq_false (by omega)
              clear e1
              go_wp2_with fail
              go_quiet (fail)
              obtain ⟨w3, hw3⟩ : ∃ w3, w3 = wr.drewN nq := ⟨_, rfl⟩
              rw [← hw3]
              have hd3 : w3 = w1.drewN (k2 + nq) := by rw [hw3, HWR2.out, World.drewN_drewN]
              have hb3 : Below w1.heap.size w1 w3 := by rw [hd3]; exact below_drewN (Below.refl _ _) _
              have hr3 := (hb3.block _ (row_lt HRW.out)).trans HRW.out
              have z0 := cell_of_row w3 S 0 _ _ _ hr3
              have z1 := cell_of_row w3 S 1 _ _ _ hr3
              have z2 := cell_of_row w3 S 2 _ _ _ hr3
              have y0 := frozen_of_row w3 S 0 _ _ hr3
              have y1 := frozen_of_row w3 S 1 _ _ hr3
              have y2 := frozen_of_row w3 S 2 _ _ hr3
              have HR3 := Lib.hid hr3
              have HB3 := Lib.hid (HB1.out.trans (hb3.mono HB1.out.size))
              clear hr3 hb3 hd3 hw3
              go_wp2_with fail
              obtain ⟨w4, hw4⟩ : ∃ w4, w4 = ((w3.setCell ⟨S, 0, none⟩ (.int .i64 (x : Int))).setCell ⟨S, 1, none⟩ (.int .i64 (y : Int))).setCell ⟨S, 2, none⟩ (.int .i64 (t : Int)) := ⟨_, rfl⟩
              obtain ⟨m0, m1, m2, mb⟩ := fin3 HR3.out HS.out HB3.out hw4
              rw [← hw4]
              clear z0 z1 z2 y0 y1 y2 hw4
              refine bodyPost_ret (v := .agg #[.int .i64 (x : Int), .int .i64 (y : Int), .int .i64 (t : Int)]) (by simp [results, Try.results29, go_sem, m0, m1, m2]) rfl ⟨by rw [HV.out], mb⟩
            · have x1 : decide ((za : Int) < (n : Int)) = true := decide_eq_true (by omega)
              have x2 : decide (za < n) = true := decide_eq_true (by omega)
              have x3 : decide ((zb : Int) < (m : Int)) = false := decide_eq_false (by omega)
              have x4 : decide (zb < m) = false := decide_eq_false (by omega)
              clear e1 e2
              go_wp2_with fail
              go_quiet (fail)
              obtain ⟨w3, hw3⟩ : ∃ w3, w3 = wr.drewN nq := ⟨_, rfl⟩
              rw [← hw3]
              have hd3 : w3 = w1.drewN (k2 + nq) := by rw [hw3, HWR2.out, World.drewN_drewN]
              have hb3 : Below w1.heap.size w1 w3 := by rw [hd3]; exact below_drewN (Below.refl _ _) _
              have hr3 := (hb3.block _ (row_lt HRW.out)).trans HRW.out
              have z0 := cell_of_row w3 S 0 _ _ _ hr3
              have z1 := cell_of_row w3 S 1 _ _ _ hr3
              have z2 := cell_of_row w3 S 2 _ _ _ hr3
              have y0 := frozen_of_row w3 S 0 _ _ hr3
              have y1 := frozen_of_row w3 S 1 _ _ hr3
              have y2 := frozen_of_row w3 S 2 _ _ hr3
              have HR3 := Lib.hid hr3
              have HB3 := Lib.hid (HB1.out.trans (hb3.mono HB1.out.size))
              clear hr3 hb3 hd3 hw3
              go_wp2_with fail
              obtain ⟨w4, hw4⟩ : ∃ w4, w4 = ((w3.setCell ⟨S, 0, none⟩ (.int .i64 (x : Int))).setCell ⟨S, 1, none⟩ (.int .i64 (y : Int))).setCell ⟨S, 2, none⟩ (.int .i64 (t : Int)) := ⟨_, rfl⟩
              obtain ⟨m0, m1, m2, mb⟩ := fin3 HR3.out HS.out HB3.out hw4
              rw [← hw4]
              clear z0 z1 z2 y0 y1 y2 hw4
              refine bodyPost_ret (v := .agg #[.int .i64 (x : Int), .int .i64 (y : Int), .int .i64 (t : Int)]) (by simp [results, Try.results29, go_sem, m0, m1, m2]) rfl ⟨by rw [HV.out], mb⟩
            · have x1 : decide ((za : Int) < (n : Int)) = true := decide_eq_true (by omega)
              have x2 : decide (za < n) = true := decide_eq_true (by omega)
              have x3 : decide ((zb : Int) < (m : Int)) = true := decide_eq_true (by omega)
              have x4 : decide (zb < m) = true := decide_eq_true (by omega)
              have x5 : (za : Int) < (n : Int) := by omega
              have x6 : (zb : Int) < (m : Int) := by omega
              go_wp2_with fail
              go_quiet (fail)
              obtain ⟨w3, hw3⟩ : ∃ w3, w3 = wr.drewN nq := ⟨_, rfl⟩
              rw [← hw3]
              have hd3 : w3 = w1.drewN (k2 + nq) := by rw [hw3, HWR2.out, World.drewN_drewN]
              have hb3 : Below w1.heap.size w1 w3 := by rw [hd3]; exact below_drewN (Below.refl _ _) _
              have hr3 := (hb3.block _ (row_lt HRW.out)).trans HRW.out
              have z0 := cell_of_row w3 S 0 _ _ _ hr3
              have z1 := cell_of_row w3 S 1 _ _ _ hr3
              have z2 := cell_of_row w3 S 2 _ _ _ hr3
              have y0 := frozen_of_row w3 S 0 _ _ hr3
              have y1 := frozen_of_row w3 S 1 _ _ hr3
              have y2 := frozen_of_row w3 S 2 _ _ hr3
              have HR3 := Lib.hid hr3
              have HB3 := Lib.hid (HB1.out.trans (hb3.mono HB1.out.size))
              clear hr3 hb3 hd3 hw3
              go_wp2_with fail
              obtain ⟨w4, hw4⟩ : ∃ w4, w4 = ((w3.setCell ⟨S, 0, none⟩ (.int .i64 (x : Int))).setCell ⟨S, 1, none⟩ (.int .i64 (y : Int))).setCell ⟨S, 2, none⟩ (.int .i64 (t : Int)) := ⟨_, rfl⟩
              obtain ⟨m0, m1, m2, mb⟩ := fin3 HR3.out HS.out HB3.out hw4
              rw [← hw4]
              clear z0 z1 z2 y0 y1 y2 hw4
              refine bodyPost_ret (v := .agg #[.int .i64 (x : Int), .int .i64 (y : Int), .int .i64 (t : Int)]) (by simp [results, Try.results29, go_sem, m0, m1, m2]) rfl ⟨by rw [HV.out], mb⟩
end Go.Proofs.Ytnmebnpldacngaa
