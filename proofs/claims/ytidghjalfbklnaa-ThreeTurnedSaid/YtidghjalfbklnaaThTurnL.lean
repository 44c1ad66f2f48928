/-
  The walk of the law ThreeTurned.
-/
import Derived.Test.YtidghjalfbklnaaThTurnPPk
import Derived.Test.YtidghjalfbklnaaThSmall
import Derived.Test.YtidghjalfbklnaaDfRowsPk
namespace Go.Proofs.Ytidghjalfbklnaa
open Go.RowKit

section
variable {W : World} {X Y Z : List (List UInt8)} {p q r : Option Addr} {n m l c d e : Nat}
set_option maxHeartbeats 8000000 in
set_option maxRecDepth 10000 in
theorem thTurned_walk (A : SA W X p n c) (B : SA W Y q m d) (C : SA W Z r l e) : Calls Try.prog 7 #[.slice p n c, .slice q m d, .slice r l e] W fun e W' => e = .returned (.bool true) ∧ Below W.heap.size W W' := by
  obtain ⟨sa, hsa⟩ : ∃ sa, sa = smL X := ⟨_, rfl⟩
  obtain ⟨sb, hsb⟩ : ∃ sb, sb = smL Y := ⟨_, rfl⟩
  obtain ⟨sc, hsc⟩ : ∃ sc, sc = smL Z := ⟨_, rfl⟩
  have HS1 := Lib.hid (small_any X p c n sa W A.len A.row A.short hsa (by have := A.few; omega))
  have HS2 := Lib.hid (small_any Y q d m sb W B.len B.row B.short hsb (by have := B.few; omega))
  have HS3 := Lib.hid (small_any Z r e l sc W C.len C.row C.short hsc (by have := C.few; omega))
  have HLV : Hid (∀ w, Below W.heap.size W w → Calls Try.prog 17 #[] w fun e w' => e = .returned (.bool true) ∧ Below W.heap.size W w') := fun w h => lives_inv h
  by_cases hs : sa = true ∧ sb = true ∧ sc = true
  · obtain ⟨rfl, rfl, rfl⟩ := hs
    obtain ⟨hX, hX2⟩ := smL_yes hsa.symm
    obtain ⟨hY, hY2⟩ := smL_yes hsb.symm
    obtain ⟨hZ, hZ2⟩ := smL_yes hsc.symm
    obtain ⟨G, hG⟩ : ∃ G, G = mergeL X Y Z := ⟨_, rfl⟩
    obtain ⟨N, hN⟩ : ∃ N, N = G.length := ⟨_, rfl⟩
    obtain ⟨hsz, hlen⟩ := mergeL_tot hX hY hZ
    rw [← hG] at hsz hlen
    have hNb : N ≤ 1000 := by rw [hN]; exact hlen
    have hM : ∀ (U V : List (List UInt8)) (pu pv : Option Addr) (nu nv cu cv : Nat), SA W U pu nu cu → SA W V pv nv cv → U.length ≤ 60 → V.length ≤ 60 → Hid (∀ w, Below W.heap.size W w → Calls Try.prog 18 #[.slice p n c, .slice pu nu cu, .slice pv nv cv] w fun e w' => (∃ P N' cap, e = .returned (.slice P N' cap) ∧ N' = (mergeL X U V).length ∧ N' ≤ cap ∧ GRw w' P (mergeL X U V)) ∧ Below w.heap.size w w') := fun U V pu pv nu nv cu cv hu hv lu lv w hb =>
      merge_any X U V n c nu cu nv cv p pu pv w A.len hu.len hv.len (A.row.below hb) (hu.row.below hb) (hv.row.below hb) A.cap hu.cap hv.cap (by rw [A.len]; omega) (by rw [hu.len]; omega) (by rw [hv.len]; omega) A.short hu.short hv.short
    have M1 := hM Y Z q r m l d e B C hY hZ
    have M2 := hM Z Y r q l m e d C B hZ hY
    have M3 := hM X Z p r n l c e A C hX hZ
    have M4 := hM Y X q p m n d c B A hY hX
    have M5 := hM Y Y q q m m d d B B hY hY
    have HM1 : Hid (∀ w, Below W.heap.size W w → Calls Try.prog 18 #[.slice p n c, .slice q m d, .slice r l e] w fun e w' => (∃ P cap, e = .returned (.slice P N cap) ∧ GRw w' P G) ∧ Below w.heap.size w w') := fun w hb => (M1.out w hb).mono fun e w' ⟨⟨P, N', cap, he, hn, _, hg⟩, h2⟩ => ⟨⟨P, cap, by rw [he, hn, ← hG, ← hN], by rw [hG]; exact hg⟩, h2⟩
    have HM2 : Hid (∀ w, Below W.heap.size W w → Calls Try.prog 18 #[.slice p n c, .slice r l e, .slice q m d] w fun e w' => (∃ P cap, e = .returned (.slice P N cap) ∧ GRw w' P (G.map swR)) ∧ Below w.heap.size w w') := fun w hb => (M2.out w hb).mono fun e w' ⟨⟨P, N', cap, he, hn, _, hg⟩, h2⟩ => by
      rw [mergeL_sw X Y Z, ← hG] at hn hg
      exact ⟨⟨P, cap, by rw [he, hn, List.length_map, ← hN], hg⟩, h2⟩
    have hK : ∀ (U V L : List (List UInt8)) (pu pv : Option Addr) (nu nv cu cv : Nat), CL (mergeL X U V) L → U.length ≤ 60 → V.length ≤ 60 → Hid (∀ w, Below W.heap.size W w → Calls Try.prog 18 #[.slice p n c, .slice pu nu cu, .slice pv nv cv] w fun e w' => (∃ P N' cap, e = .returned (.slice P N' cap) ∧ N' = (mergeL X U V).length ∧ N' ≤ cap ∧ GRw w' P (mergeL X U V)) ∧ Below w.heap.size w w') →
        Hid (∀ w, Below W.heap.size W w → Calls Try.prog 18 #[.slice p n c, .slice pu nu cu, .slice pv nv cv] w fun e w' => (∃ P N' cap gs, e = .returned (.slice P N' cap) ∧ Hid (N' = gs.length ∧ N' ≤ 1000 ∧ CL gs L ∧ GRw w' P gs)) ∧ Below w.heap.size w w') := fun U V L pu pv nu nv cu cv hcl lu lv h w hb =>
      (h.out w hb).mono fun e w' ⟨⟨P, N', cap, he, hn, _, hg⟩, h2⟩ => ⟨⟨P, N', cap, _, he, hn, by rw [hn]; exact (mergeL_tot hX lu lv).2, hcl, hg⟩, h2⟩
    have HM3 := hK X Z Z p r n l c e (mergeL_base (by omega) (by omega)) hX hZ M3
    have HM4 := hK Y X Y q p m n d c (mergeL_base2 (by omega) (by omega)) hY hX M4
    have HM5 := hK Y Y Y q q m m d d (mergeL_same (by omega) (by omega)) hY hY M5
    have HN := Lib.hid hN
    have HSZ := Lib.hid hsz
    have HZB : Hid (l = Z.length ∧ Z.length ≤ 60 ∧ SRw W r Z) := ⟨C.len, hZ, C.row⟩
    have HYB : Hid (m = Y.length ∧ Y.length ≤ 60 ∧ SRw W q Y) := ⟨B.len, hY, B.row⟩
    have h0 := Below.refl W.heap.size W
    clear hsa hsb hsc hX hX2 hY hY2 hZ hZ2 hG hN hsz hlen hM M1 M2 M3 M4 M5 hK A B C
    go_enter Try.func7, Try.ntmps7
    go_upto_region 4 with (first
      | (go_at_call 16; first
        | ((with_reducible refine HS1.out.mono ?_); rintro e w' ⟨rfl, rfl⟩)
        | ((with_reducible refine HS2.out.mono ?_); rintro e w' ⟨rfl, rfl⟩)
        | ((with_reducible refine HS3.out.mono ?_); rintro e w' ⟨rfl, rfl⟩))
      | (go_at_call 18; ((with_reducible refine (HM1.out _ h0).mono ?_); rintro e w1 ⟨⟨P1, c1, rfl, hg1⟩, hb1⟩)))
    go_upto_region 5 with (go_at_call 18; ((with_reducible refine (HM2.out _ hb1).mono ?_); rintro e w2 ⟨⟨P2, c2, rfl, hg2⟩, hb2⟩))
    have HP := Lib.hid (hg1.below hb2)
    have HQ := Lib.hid hg2
    have HB2 := Lib.hid (hb1.trans (hb2.mono hb1.size))
    clear hg1 hg2 hb1 hb2 h0 HM1 HM2 HS1 HS2 HS3
    go_wp2
    go_loopw [9] (fun iv wr => ∃ k : Nat, k ≤ N ∧ iv = .int .i64 (k : Int) ∧ Hid (Below w2.heap.size w2 wr)) (fun iv _ => N - (intOf iv).toNat)
    case atStart => exact ⟨0, Nat.zero_le _, rfl, Below.refl _ _⟩
    case round =>
      obtain ⟨k, hk, rfl, HW⟩ := hrel
      have hws := HW.out.size
      by_cases hlt : k < N
      · have hkl : k < G.length := by rw [← HN.out]; exact hlt
        obtain ⟨g, o, v0, v1, v2, v3, v4, rfl, hg, a0, a1, a2, a3, a4, hr⟩ := HP.out k hkl
        obtain ⟨h, o2, u0, u1, u2, u3, u4, rfl, hh, b0, b1, b2, b3, b4, hr2⟩ := HQ.out k (by rw [List.length_map]; exact hkl)
        rw [List.getElem_map] at hr2
        have tr : ∀ i v, w2.cell? ⟨g, i, none⟩ = some v → wr.cell? ⟨g, i, none⟩ = some v := fun i v h => (HW.out.cell (p := ⟨g, i, none⟩) hg).trans h
        have tr2 : ∀ i v, w2.cell? ⟨h, i, none⟩ = some v → wr.cell? ⟨h, i, none⟩ = some v := fun i v h' => (HW.out.cell (p := ⟨h, i, none⟩) hh).trans h'
        replace a0 := tr _ _ a0
        replace a1 := tr _ _ a1
        replace a2 := tr _ _ a2
        replace a3 := tr _ _ a3
        replace a4 := tr _ _ a4
        replace b0 := tr2 _ _ b0
        replace b1 := tr2 _ _ b1
        replace b2 := tr2 _ _ b2
        replace b3 := tr2 _ _ b3
        replace b4 := tr2 _ _ b4
        clear tr tr2
        obtain ⟨r, hr0⟩ : ∃ r, r = G[k] := ⟨_, rfl⟩
        have hsr := HSZ.out _ (List.getElem_mem hkl)
        rw [← hr0] at hr hr2 hsr
        obtain ⟨z, l, ol, bl, tl⟩ := r
        obtain ⟨rfl, ⟨p1, c1, rfl, x1, s1⟩, ⟨p2, c2, rfl, x2, s2⟩, ⟨p3, c3, rfl, x3, s3⟩, ⟨p4, c4, rfl, x4, s4⟩⟩ := hr
        obtain ⟨rfl, ⟨q1, d1, rfl, y1, t1⟩, ⟨q2, d2, rfl, y2, t2⟩, ⟨q3, d3, rfl, y3, t3⟩, ⟨q4, d4, rfl, y4, t4⟩⟩ := hr2
        simp only [swR] at *
        have HSM : ∀ (v u : Value) (ls : List (List UInt8)), SlW w2 v ls → SlW w2 u ls → ls.length ≤ 1000000 → Hid (∀ x, Calls Try.prog 27 #[v, u] (wr.drewN x) fun e w'' => e = .returned (.bool true) ∧ ∃ k, w'' = (wr.drewN x).drewN k) := fun v u ls hv hu hl x => by
          obtain ⟨p1, c1, rfl, _, s1⟩ := hv
          obtain ⟨p2, c2, rfl, _, s2⟩ := hu
          have hb := below_drewN HW.out x
          refine (rsame6_any ls ls p1 p2 c1 c2 _ _ (wr.drewN x) rfl rfl (s1.below hb) (s2.below hb) (by omega)).mono fun e w'' ⟨he, hk⟩ => ⟨he.trans (by simp), hk⟩
        have C1 := HSM (.slice p1 l.length c1) (.slice q1 l.length d1) l ⟨p1, c1, rfl, x1, s1⟩ ⟨q1, d1, rfl, y1, t1⟩ hsr.1
        have C2 := HSM (.slice p2 ol.length c2) (.slice q4 ol.length d4) ol ⟨p2, c2, rfl, x2, s2⟩ ⟨q4, d4, rfl, y4, t4⟩ hsr.2.1
        have C3 := HSM (.slice p3 bl.length c3) (.slice q3 bl.length d3) bl ⟨p3, c3, rfl, x3, s3⟩ ⟨q3, d3, rfl, y3, t3⟩ hsr.2.2.1
        have C4 := HSM (.slice p4 tl.length c4) (.slice q2 tl.length d2) tl ⟨p4, c4, rfl, x4, s4⟩ ⟨q2, d2, rfl, y2, t2⟩ hsr.2.2.2
        obtain ⟨m1, hm1⟩ : ∃ m, m = l.length := ⟨_, rfl⟩
        rw [← hm1] at a1 b1 C1
        obtain ⟨m2, hm2⟩ : ∃ m, m = ol.length := ⟨_, rfl⟩
        rw [← hm2] at a2 b4 C2
        obtain ⟨m3, hm3⟩ : ∃ m, m = bl.length := ⟨_, rfl⟩
        rw [← hm3] at a3 b3 C3
        obtain ⟨m4, hm4⟩ : ∃ m, m = tl.length := ⟨_, rfl⟩
        rw [← hm4] at a4 b2 C4
        clear HSM hsr hr0 hm1 hm2 hm3 hm4 x1 x2 x3 x4 y1 y2 y3 y4 s1 s2 s3 s4 t1 t2 t3 t4
        have hgr : g < wr.heap.size := by omega
        have hhr : h < wr.heap.size := by omega
        have hzz : ((z : Int) != z) = false := by simp
        have hkn : (k : Int) < (N : Int) := by omega
        go_upto_region 10 with fail
        refine wp_region_quiet_lit (by kernel_rfl) (by kernel_rfl) ?_
        simp only [List.append_eq, List.cons_append, List.nil_append]
        repeat (go_big_quiet_step ((go_at_call 27; first
          | with_reducible exact Calls.quiet_of (C1.out _)
          | with_reducible exact Calls.quiet_of (C2.out _)
          | with_reducible exact Calls.quiet_of (C3.out _)
          | with_reducible exact Calls.quiet_of (C4.out _))))
        refine wpQuiet_nil ?_
        intro _ hw'
        obtain ⟨nq, hw''⟩ := hw'
        subst hw''
        go_wp2
        go_roundw
        case rel => exact ⟨k + 1, hlt, by go_num, by first | exact below_drewN HW.out _ | exact HW.out⟩
        case measure => simp [intOf]; omega
      · obtain rfl : k = N := by omega
        have hW1 := HB2.out.trans (HW.out.mono HB2.out.size)
        clear HP HQ HSZ HN HW HB2 hws
        go_upto_region 13 with (go_at_call 18; ((with_reducible refine (HM3.out _ hW1).mono ?_); rintro e wa ⟨⟨P3, N3, c3, gs3, rfl, h3⟩, hba⟩))
        have hWa := hW1.trans (hba.mono hW1.size)
        go_upto_region 14 with (go_at_call 18; ((with_reducible refine (HM4.out _ hWa).mono ?_); rintro e wb ⟨⟨P4, N4, c4, gs4, rfl, h4⟩, hbb⟩))
        have hWb := hWa.trans (hbb.mono hWa.size)
        go_upto_region 15 with (go_at_call 18; ((with_reducible refine (HM5.out _ hWb).mono ?_); rintro e wc ⟨⟨P5, N5, c5, gs5, rfl, h5⟩, hbc⟩))
        have hWc := hWb.trans (hbc.mono hWb.size)
        have HZB1 := HZB.out
        have HYB1 := HYB.out
        have g3 : Hid (N3 = gs3.length ∧ N3 ≤ 1000 ∧ CL gs3 Z ∧ GRw wc P3 gs3) := ⟨h3.out.1, h3.out.2.1, h3.out.2.2.1, (h3.out.2.2.2.below hbb).below hbc⟩
        have g4 : Hid (N4 = gs4.length ∧ N4 ≤ 1000 ∧ CL gs4 Y ∧ GRw wc P4 gs4) := ⟨h4.out.1, h4.out.2.1, h4.out.2.2.1, h4.out.2.2.2.below hbc⟩
        have HCg : ∀ (gs : List Rg) (P : Option Addr) (N cap : Nat) (L : List (List UInt8)), Hid (N = gs.length ∧ N ≤ 1000 ∧ CL gs L ∧ GRw wc P gs) → Hid (∀ w', Below wc.heap.size wc w' → Calls Try.prog 21 #[.slice P N cap] w' fun e w'' => e = .returned (.bool true) ∧ Below wc.heap.size wc w'') := fun gs P N cap L h w' hb =>
          (clean_any gs P cap N w' h.out.1 (h.out.2.2.2.below hb) (by have := h.out.2.1; omega)).mono fun e w'' ⟨h1, h2⟩ => ⟨by rw [h1, h.out.2.2.1.clean], hb.trans (h2.mono hb.size)⟩
        have HLg : ∀ (gs : List Rg) (P : Option Addr) (N cap n : Nat) (L : List (List UInt8)), Hid (N = gs.length ∧ N ≤ 1000 ∧ CL gs L ∧ GRw wc P gs) → n = L.length → L.length ≤ 60 → Hid (∀ w', Below wc.heap.size wc w' → Calls Try.prog 28 #[.slice P N cap, .int .i64 0] w' fun e w'' => (∃ p cap, e = .returned (.slice p n cap) ∧ Hid (SRw w'' p L)) ∧ Below wc.heap.size wc w'') := fun gs P N cap n L h hn hl w' hb => by
          have hc := h.out.2.2.1.l
          refine (lines_any gs P cap N 0 w' h.out.1 (h.out.2.2.2.below hb) (by have := h.out.2.1; omega) (.inr (.inr (.inr rfl))) (by rw [hc]; omega)).mono fun e w'' ⟨⟨v, he, ht⟩, h2⟩ => ?_
          rw [hc] at ht
          obtain ⟨p, cap, hv, hs⟩ := ht.shapeN hn
          exact ⟨⟨p, cap, by rw [he, hv], hs⟩, hb.trans (h2.mono hb.size)⟩
        have HSg : ∀ (L : List (List UInt8)) (r : Option Addr) (l e : Nat), l = L.length → L.length ≤ 60 → SRw W r L → Hid (∀ (w' : World) (p : Option Addr) (cap : Nat), Below wc.heap.size wc w' → SRw w' p L → Calls Try.prog 27 #[.slice p l cap, .slice r l e] w' fun e w'' => e = .returned (.bool true) ∧ Below wc.heap.size wc w'') := fun L r l e hl h60 hr w' p cap hb hp =>
          (rsame6_any L L p r cap e l l w' hl hl hp (hr.below (hWc.trans (hb.mono hWc.size))) (by omega)).mono fun e w'' ⟨h1, k, h2⟩ => ⟨by rw [h1, decide_eq_true rfl], by rw [h2]; exact below_drewN hb k⟩
        have C3 := HCg gs3 P3 N3 c3 Z g3
        have C4 := HCg gs4 P4 N4 c4 Y g4
        have C5 := HCg gs5 P5 N5 c5 Y h5
        have L3 := HLg gs3 P3 N3 c3 l Z g3 HZB1.1 HZB1.2.1
        have L4 := HLg gs4 P4 N4 c4 m Y g4 HYB1.1 HYB1.2.1
        have L5 := HLg gs5 P5 N5 c5 m Y h5 HYB1.1 HYB1.2.1
        have S3 := HSg Z r l e HZB1.1 HZB1.2.1 HZB1.2.2
        have S4 := HSg Y q m d HYB1.1 HYB1.2.1 HYB1.2.2
        have HLV2 : Hid (Calls Try.prog 17 #[] wc fun e w' => e = .returned (.bool true) ∧ Below wc.heap.size wc w') := lives_inv (Below.refl _ _)
        have HWC := Lib.hid hWc
        clear HCg HLg HSg hW1 hWa hWb hWc hba hbb hbc h3 h4 h5 g3 g4 HZB HYB HZB1 HYB1 HM3 HM4 HM5 HLV
        go_wp2_with (first
          | (go_at_call 17; ((with_reducible refine HLV2.out.mono ?_); rintro e v0 ⟨rfl, k0⟩))
          | (go_at_call 21; first
            | ((with_reducible refine (C3.out _ k0).mono ?_); rintro e v1 ⟨rfl, k1⟩)
            | ((with_reducible refine (C4.out _ k1).mono ?_); rintro e v2 ⟨rfl, k2⟩)
            | ((with_reducible refine (C5.out _ k2).mono ?_); rintro e v3 ⟨rfl, k3⟩))
          | (go_at_call 28; first
            | ((with_reducible refine (L3.out _ k3).mono ?_); rintro e v4 ⟨⟨p4, d4, rfl, s4⟩, k4⟩)
            | ((with_reducible refine (L4.out _ k5).mono ?_); rintro e v6 ⟨⟨p6, d6, rfl, s6⟩, k6⟩)
            | ((with_reducible refine (L5.out _ k7).mono ?_); rintro e v8 ⟨⟨p8, d8, rfl, s8⟩, k8⟩))
          | (go_at_call 27; first
            | ((with_reducible refine (S3.out _ _ _ k4 s4.out).mono ?_); rintro e v5 ⟨rfl, k5⟩)
            | ((with_reducible refine (S4.out _ _ _ k6 s6.out).mono ?_); rintro e v7 ⟨rfl, k7⟩)
            | ((with_reducible refine (S4.out _ _ _ k8 s8.out).mono ?_); rintro e v9 ⟨rfl, k9⟩)))
        go_ret
        exact ⟨rfl, HWC.out.trans (k9.mono HWC.out.size)⟩
  · clear hsa hsb hsc A B C
    rcases sa with _ | _ <;> rcases sb with _ | _ <;> rcases sc with _ | _
    all_goals try (exact absurd ⟨rfl, rfl, rfl⟩ hs)
    all_goals clear hs
    all_goals go_enter Try.func7, Try.ntmps7
    all_goals go_wp2_with (first
      | (go_at_call 16; first
        | ((with_reducible refine HS1.out.mono ?_); rintro e w' ⟨rfl, rfl⟩)
        | ((with_reducible refine HS2.out.mono ?_); rintro e w' ⟨rfl, rfl⟩)
        | ((with_reducible refine HS3.out.mono ?_); rintro e w' ⟨rfl, rfl⟩))
      | (go_at_call 17; ((with_reducible refine (HLV.out _ (Below.refl _ _)).mono ?_); rintro e w3 ⟨rfl, hb3⟩)))
    all_goals go_ret
    all_goals exact ⟨rfl, hb3⟩
end
end Go.Proofs.Ytidghjalfbklnaa
