/-
  The lines of one side, or of both: the walk of three's Lines.
-/
import Derived.Test.YtidghjalfbklnaaThSamePk
namespace Go.Proofs.Ytidghjalfbklnaa
open Go.RowKit

set_option maxHeartbeats 4000000 in
set_option maxRecDepth 8000 in
theorem lines_any (gs : List Rg) (p : Option Addr) (c n d : Nat) (w : World) (hn : n = gs.length) (hp : GRw w p gs) (hl : n ≤ 1000000) (hd : d = 1 ∨ d = 2 ∨ d = 3 ∨ d = 0) (hs : (linesL d gs).length ≤ 1000000) :
    Calls Try.prog 28 #[.slice p n c, .int .i64 (d : Int)] w fun e w' => (∃ v, e = .returned v ∧ TOw w' w.heap.size v (linesL d gs)) ∧ Below w.heap.size w w' := by
  have HN := Lib.hid hn
  have HP := Lib.hid hp
  have HS := Lib.hid hs
  obtain ⟨R, hR⟩ : ∃ R, R = linesL d gs := ⟨_, rfl⟩
  have HR := Lib.hid hR
  have HU : Hid (Try.prog.underlying 22 = some (.slice 9)) := Try.underlying22
  rw [← hR]
  clear hn hp hs hR
  go_enter Try.func28, Try.ntmps28
  go_wp2
  go_loopw [10, 5] (fun iv ov wr => ∃ (k L : Nat) (acc : List (List UInt8)) (q : Option Addr) (cap : Nat), k ≤ n ∧ iv = .int .i64 (k : Int) ∧ ov = .slice q L cap ∧ Hid (L = acc.length) ∧ L ≤ 1000000 ∧ Hid (acc = linesL d (gs.take k)) ∧ Hid (TOw wr w.heap.size (.slice q L cap) acc) ∧ Hid (Below w.heap.size w wr)) (fun iv _ _ => n - (intOf iv).toNat)
  case atStart => exact ⟨0, 0, [], none, 0, Nat.zero_le _, rfl, rfl, rfl, Nat.zero_le _, rfl, TOw.nil _ _, Below.refl _ _⟩
  case round =>
    obtain ⟨k, L, acc, q, cap, hk, rfl, rfl, HL, hL, HA, HO, HW⟩ := hrel
    have hws := HW.out.size
    by_cases hlt : k < n
    · have hkl : k < gs.length := by rw [← HN.out]; exact hlt
      obtain ⟨g, o, v0, v1, v2, v3, v4, rfl, hg, a0, a1, a2, a3, a4, hr⟩ := HP.out k hkl
      have tr : ∀ i v, w.cell? ⟨g, i, none⟩ = some v → wr.cell? ⟨g, i, none⟩ = some v := fun i v h => (HW.out.cell (p := ⟨g, i, none⟩) hg).trans h
      replace a0 := tr _ _ a0
      replace a1 := tr _ _ a1
      replace a2 := tr _ _ a2
      replace a3 := tr _ _ a3
      replace a4 := tr _ _ a4
      clear tr
      have HA2 : Hid (acc ++ sideL d gs[k] = linesL d (gs.take (k + 1))) := by show _ = _; rw [linesL_take d hkl, ← HA.out]
      have hle : L + (sideL d gs[k]).length ≤ 1000000 := by
        have h1 := linesL_le d gs (k + 1)
        have h2 := HS.out
        rw [← HA2.out, List.length_append, ← HL.out] at h1
        omega
      obtain ⟨r, hr0⟩ : ∃ r, r = gs[k] := ⟨_, rfl⟩
      rw [← hr0] at hr HA2 hle
      obtain ⟨z, l, ol, bl, tl⟩ := r
      obtain ⟨rfl, ⟨p1, c1, rfl, hc1, s1⟩, ⟨p2, c2, rfl, hc2, s2⟩, ⟨p3, c3, rfl, hc3, s3⟩, ⟨p4, c4, rfl, hc4, s4⟩⟩ := hr
      simp only at *
      have HC := Lib.hid (conflicting_any z (.slice p1 l.length c1) (.slice p2 ol.length c2) (.slice p3 bl.length c3) (.slice p4 tl.length c4))
      obtain ⟨m1, hm1⟩ : ∃ m, m = l.length := ⟨_, rfl⟩
      obtain ⟨m2, hm2⟩ : ∃ m, m = ol.length := ⟨_, rfl⟩
      obtain ⟨m3, hm3⟩ : ∃ m, m = bl.length := ⟨_, rfl⟩
      obtain ⟨m4, hm4⟩ : ∃ m, m = tl.length := ⟨_, rfl⟩
      rw [← hm1] at a1 HC
      rw [← hm2] at a2 HC
      rw [← hm3] at a3 HC
      rw [← hm4] at a4 HC
      have HM1 := Lib.hid hm1
      have HM2 := Lib.hid hm2
      have HM4 := Lib.hid hm4
      have HSR1 := Lib.hid s1
      have HSR2 := Lib.hid s2
      have HSR4 := Lib.hid s4
      clear hm1 hm2 hm3 hm4 s1 s2 s3 s4 hr0 hc1 hc2 hc3 hc4
      go_upto_region 5 with fail
      obtain ⟨E, hE⟩ : ∃ E, E = wr.heap.size := ⟨_, rfl⟩
      obtain ⟨w4, hw4⟩ : ∃ w4, w4 = wr.alloc (.cells #[.int .i64 z, .slice p1 m1 c1, .slice p2 m2 c2, .slice p3 m3 c3, .slice p4 m4 c4] 43) := ⟨_, rfl⟩
      have HBX : Hid (w4.heap[E]? = some (.cells #[.int .i64 z, .slice p1 m1 c1, .slice p2 m2 c2, .slice p3 m3 c3, .slice p4 m4 c4] 43 (0, 0))) := by show _ = _; rw [hw4, hE]; exact heap_alloc_new _ _
      have hbn : Below wr.heap.size wr w4 := by rw [hw4]; exact below_new (Below.refl _ _) _
      have HB4 := Lib.hid hbn
      have HW4 := Lib.hid (HW.out.trans (hbn.mono hws))
      have HO4 := Lib.hid (HO.out.below hbn)
      rw [← hw4, ← hE]
      have HSB1 : Hid (∀ w', Below w.heap.size w w' → SRw w' p1 l) := fun w' hb => HSR1.out.below hb
      have HSB2 : Hid (∀ w', Below w.heap.size w w' → SRw w' p2 ol) := fun w' hb => HSR2.out.below hb
      have HSB4 : Hid (∀ w', Below w.heap.size w w' → SRw w' p4 tl) := fun w' hb => HSR4.out.below hb
      clear hw4 hE a0 a1 a2 a3 a4 hbn HW HO
      have b0 := cell_of_row w4 E 0 _ _ _ HBX.out
      have b1 := cell_of_row w4 E 1 _ _ _ HBX.out
      have b2 := cell_of_row w4 E 2 _ _ _ HBX.out
      have b3 := cell_of_row w4 E 3 _ _ _ HBX.out
      have b4 := cell_of_row w4 E 4 _ _ _ HBX.out
      obtain ⟨B, hB⟩ : ∃ B, B = decide (z = 2) := ⟨_, rfl⟩
      have HC2 : Hid (∀ w, Calls Try.prog 50 #[.agg #[.int .i64 z, .slice p1 m1 c1, .slice p2 m2 c2, .slice p3 m3 c3, .slice p4 m4 c4]] w fun e w' => e = .returned (.bool B) ∧ Below w.heap.size w w') := fun w => by
        have h := HC.out w
        rw [← hB] at h
        exact h
      clear HC
      rcases B with _ | _
      · have hz : ¬ z = 2 := by simpa using hB.symm
        have HAX : Hid (acc ++ l = linesL d (gs.take (k + 1))) := by show _ = _; rw [← HA2.out, sideL, if_neg hz]
        have hlm : L + m1 ≤ 1000000 := by
          rw [sideL, if_neg hz] at hle
          have h1 : L + l.length ≤ 1000000 := hle
          have := HM1.out
          omega
        clear hB hz HA2 hle
        go_upto_region 6 with (go_at_call 50; ((with_reducible refine (HC2.out _).mono ?_); rintro e w5 ⟨rfl, hb5⟩))
        have zz := (hb5.block E (row_lt HBX.out)).trans HBX.out
        have ZZ := Lib.hid zz
        have y1 := cell_of_row w5 E 1 _ _ _ zz
        have HW5 := Lib.hid (HW4.out.trans (hb5.mono HW4.out.size))
        have ho5 := (HO4.out.below hb5).of HL.out
        have hs5 := HW5.out.size
        clear zz b0 b1 b2 b3 b4
        go_wp2_with (at_builtin; refine app_srwT _ rfl _ _ 22 rfl HU.out w.heap.size _ L _ rfl ho5 _ m1 _ _ rfl HM1.out (by first | exact HSB1.out _ HW5.out) (by omega) hs5 ?_; intro v6 w6 ho6 hg6; have ho6' := TOw.app HL.out HM1.out ho6; obtain ⟨g6, cap6, rfl, _⟩ := ho6'.shapeN (n := L + m1) (by rw [List.length_append, ← HM1.out, ← HL.out]); have HO6 := Lib.hid ho6'; have HW6 := Lib.hid (HW5.out.grown hg6 hs5 (fun b hb => (ho5.lt b hb).1)); have zz6 := own_row ho5 ZZ.out (by decide) (row_lt ZZ.out) hg6; clear hg6 ho6 ho6')
        go_roundw
        case rel => exact ⟨k + 1, L + m1, _, g6, cap6, hlt, by go_num, rfl, by show _ = _; rw [List.length_append, ← HM1.out, ← HL.out], by omega, HAX.out, HO6.out, HW6.out⟩
        case measure => simp [intOf]; omega
      · have hz : z = 2 := by simpa using hB.symm
        have hsd : sideL d ⟨z, l, ol, bl, tl⟩ = (if d = 1 ∨ d = 3 then ol else []) ++ (if d = 2 ∨ d = 3 then tl else []) := by rw [sideL, if_pos hz]
        rw [hsd] at hle HA2
        clear hB hz hsd
        rcases hd with hd | hd | hd | hd
        · have HAX : Hid (acc ++ ol = linesL d (gs.take (k + 1))) := by show _ = _; rw [← HA2.out]; simp [hd]
          have hlm : L + m2 ≤ 1000000 := by simp [hd] at hle; have := HM2.out; omega
          have e1 : ((d : Int) == 1) = true := by rw [hd]; rfl
          have e2 : ((d : Int) == 2) = false := by rw [hd]; rfl
          have e3 : ((d : Int) == 3) = false := by rw [hd]; rfl
          clear HA2 hle hd
          go_upto_region 8 with (go_at_call 50; ((with_reducible refine (HC2.out _).mono ?_); rintro e w5 ⟨rfl, hb5⟩))
          have zz := (hb5.block E (row_lt HBX.out)).trans HBX.out
          have ZZ := Lib.hid zz
          have y2 := cell_of_row w5 E 2 _ _ _ zz
          have HW5 := Lib.hid (HW4.out.trans (hb5.mono HW4.out.size))
          have ho5 := (HO4.out.below hb5).of HL.out
          have hs5 := HW5.out.size
          clear zz b0 b1 b2 b3 b4
          go_wp2_with (at_builtin; refine app_srwT _ rfl _ _ 22 rfl HU.out w.heap.size _ L _ rfl ho5 _ m2 _ _ rfl HM2.out (by first | exact HSB2.out _ HW5.out) (by omega) hs5 ?_; intro v6 w6 ho6 hg6; have ho6' := TOw.app HL.out HM2.out ho6; obtain ⟨g6, cap6, rfl, _⟩ := ho6'.shapeN (n := L + m2) (by rw [List.length_append, ← HM2.out, ← HL.out]); have HO6 := Lib.hid ho6'; have HW6 := Lib.hid (HW5.out.grown hg6 hs5 (fun b hb => (ho5.lt b hb).1)); have zz6 := own_row ho5 ZZ.out (by decide) (row_lt ZZ.out) hg6; clear hg6 ho6 ho6')
          go_roundw
          case rel => exact ⟨k + 1, L + m2, _, g6, cap6, hlt, by go_num, rfl, by show _ = _; rw [List.length_append, ← HM2.out, ← HL.out], by omega, HAX.out, HO6.out, HW6.out⟩
          case measure => simp [intOf]; omega
        · have HAX : Hid (acc ++ tl = linesL d (gs.take (k + 1))) := by show _ = _; rw [← HA2.out]; simp [hd]
          have hlm : L + m4 ≤ 1000000 := by simp [hd] at hle; have := HM4.out; omega
          have e1 : ((d : Int) == 1) = false := by rw [hd]; rfl
          have e2 : ((d : Int) == 2) = true := by rw [hd]; rfl
          have e3 : ((d : Int) == 3) = false := by rw [hd]; rfl
          clear HA2 hle hd
          go_upto_region 10 with (go_at_call 50; ((with_reducible refine (HC2.out _).mono ?_); rintro e w5 ⟨rfl, hb5⟩))
          have zz := (hb5.block E (row_lt HBX.out)).trans HBX.out
          have ZZ := Lib.hid zz
          have y4 := cell_of_row w5 E 4 _ _ _ zz
          have HW5 := Lib.hid (HW4.out.trans (hb5.mono HW4.out.size))
          have ho5 := (HO4.out.below hb5).of HL.out
          have hs5 := HW5.out.size
          clear zz b0 b1 b2 b3 b4
          go_wp2_with (at_builtin; refine app_srwT _ rfl _ _ 22 rfl HU.out w.heap.size _ L _ rfl ho5 _ m4 _ _ rfl HM4.out (by first | exact HSB4.out _ HW5.out) (by omega) hs5 ?_; intro v6 w6 ho6 hg6; have ho6' := TOw.app HL.out HM4.out ho6; obtain ⟨g6, cap6, rfl, _⟩ := ho6'.shapeN (n := L + m4) (by rw [List.length_append, ← HM4.out, ← HL.out]); have HO6 := Lib.hid ho6'; have HW6 := Lib.hid (HW5.out.grown hg6 hs5 (fun b hb => (ho5.lt b hb).1)); have zz6 := own_row ho5 ZZ.out (by decide) (row_lt ZZ.out) hg6; clear hg6 ho6 ho6')
          go_roundw
          case rel => exact ⟨k + 1, L + m4, _, g6, cap6, hlt, by go_num, rfl, by show _ = _; rw [List.length_append, ← HM4.out, ← HL.out], by omega, HAX.out, HO6.out, HW6.out⟩
          case measure => simp [intOf]; omega
        · have HAX : Hid ((acc ++ ol) ++ tl = linesL d (gs.take (k + 1))) := by show _ = _; rw [← HA2.out]; simp [hd]
          have hlm : L + m2 + m4 ≤ 1000000 := by simp [hd] at hle; have := HM2.out; have := HM4.out; omega
          have e1 : ((d : Int) == 1) = false := by rw [hd]; rfl
          have e2 : ((d : Int) == 2) = false := by rw [hd]; rfl
          have e3 : ((d : Int) == 3) = true := by rw [hd]; rfl
          clear HA2 hle hd
          go_upto_region 8 with (go_at_call 50; ((with_reducible refine (HC2.out _).mono ?_); rintro e w5 ⟨rfl, hb5⟩))
          have zz := (hb5.block E (row_lt HBX.out)).trans HBX.out
          have ZZ := Lib.hid zz
          have y2 := cell_of_row w5 E 2 _ _ _ zz
          have HW5 := Lib.hid (HW4.out.trans (hb5.mono HW4.out.size))
          have ho5 := (HO4.out.below hb5).of HL.out
          have hs5 := HW5.out.size
          clear zz b0 b1 b2 b3 b4
          go_upto_region 9 with (at_builtin; refine app_srwT _ rfl _ _ 22 rfl HU.out w.heap.size _ L _ rfl ho5 _ m2 _ _ rfl HM2.out (by first | exact HSB2.out _ HW5.out) (by omega) hs5 ?_; intro v6 w6 ho6 hg6; have ho6' := TOw.app HL.out HM2.out ho6; obtain ⟨g6, cap6, rfl, _⟩ := ho6'.shapeN (n := L + m2) (by rw [List.length_append, ← HM2.out, ← HL.out]); have HO6 := Lib.hid ho6'; have HW6 := Lib.hid (HW5.out.grown hg6 hs5 (fun b hb => (ho5.lt b hb).1)); have zz6 := own_row ho5 ZZ.out (by decide) (row_lt ZZ.out) hg6; clear hg6 ho6 ho6')
          have y4 := cell_of_row w6 E 4 _ _ _ zz6
          have HLL : Hid (L + m2 = (acc ++ ol).length) := by show _ = _; rw [List.length_append, ← HM2.out, ← HL.out]
          have ho6 := HO6.out.of HLL.out
          have hs6 := HW6.out.size
          have ZZ := Lib.hid zz6
          obtain ⟨L3, hL3⟩ : ∃ L3, L3 = L + m2 := ⟨_, rfl⟩
          rw [← hL3] at ho6 HLL hlm ⊢
          clear hL3 zz6 ho5 hs5
          go_wp2_with (at_builtin; refine app_srwT _ rfl _ _ 22 rfl HU.out w.heap.size _ L3 _ rfl ho6 _ m4 _ _ rfl HM4.out (by first | exact HSB4.out _ HW6.out) (by omega) hs6 ?_; intro v7 w7 ho7 hg7; have ho7' := TOw.app HLL.out HM4.out ho7; obtain ⟨g7, cap7, rfl, _⟩ := ho7'.shapeN (n := L3 + m4) (by rw [List.length_append, ← HM4.out, ← HLL.out]); have HO7 := Lib.hid ho7'; have HW7 := Lib.hid (HW6.out.grown hg7 hs6 (fun b hb => (ho6.lt b hb).1)); have zz7 := own_row ho6 ZZ.out (by decide) (row_lt ZZ.out) hg7; clear hg7 ho7 ho7')
          go_roundw
          case rel => exact ⟨k + 1, L3 + m4, _, g7, cap7, hlt, by go_num, rfl, by show _ = _; rw [List.length_append, ← HM4.out, ← HLL.out], by omega, HAX.out, HO7.out, HW7.out⟩
          case measure => simp [intOf]; omega
        · have HAX : Hid (acc = linesL d (gs.take (k + 1))) := by show _ = _; rw [← HA2.out]; simp [hd]
          have e1 : ((d : Int) == 1) = false := by rw [hd]; rfl
          have e2 : ((d : Int) == 2) = false := by rw [hd]; rfl
          have e3 : ((d : Int) == 3) = false := by rw [hd]; rfl
          clear HA2 hle hd
          go_upto_region 11 with (go_at_call 50; ((with_reducible refine (HC2.out _).mono ?_); rintro e w5 ⟨rfl, hb5⟩))
          have HW5 := Lib.hid (HW4.out.trans (hb5.mono HW4.out.size))
          have HO5 := Lib.hid (HO4.out.below hb5)
          clear hb5 b0 b1 b2 b3 b4
          go_wp2
          go_roundw
          case rel => exact ⟨k + 1, L, _, q, cap, hlt, by go_num, rfl, HL.out, hL, HAX.out, HO5.out, HW5.out⟩
          case measure => simp [intOf]; omega
    · obtain rfl : k = n := by omega
      have ha := HA.out
      rw [List.take_of_length_le (by have := HN.out; omega), ← HR.out] at ha
      have HAX := Lib.hid ha
      clear ha
      go_wp2
      go_ret
      exact ⟨⟨_, rfl, by rw [← HAX.out]; exact HO.out⟩, HW.out⟩
end Go.Proofs.Ytidghjalfbklnaa
