/-
  The walk of the reference's Check.
-/
import Derived.Test.YtddmnibioacelaaGreatDoorTrValidPk
namespace Go.Proofs.YtddmnibioacelaaGreatDoor
open Go.RowKit

theorem nms_no {l : List En} {j k : Nat} (h : ∀ e ∈ l.take j, e.n ≠ (l.getD k En.zero).n) (hk : k < l.length) (hj : j = k) : ¬ l[k].n.data.toList ∈ nms l k := by
  subst hj
  rw [mem_nms]
  rintro ⟨e, he, hx⟩
  exact h e he (by rw [getD_en hk]; exact hx)

set_option maxHeartbeats 2000000 in
set_option maxRecDepth 4000 in
theorem trcheck_any (es : List En) (p : Option Addr) (c n : Nat) (w : World) (hn : n = es.length) (hp : NRw w p es) (hl : n ≤ 1024 → Few es) (hn2 : n ≤ 140737488355328) :
    Calls Tryz.prog 89 #[.slice p n c] w fun e w' => e = .returned (.int .i64 (chkT es : Int)) ∧ Below w.heap.size w w' := by
  obtain ⟨R, hR⟩ : ∃ R, R = chkT es := ⟨_, rfl⟩
  rw [← hR]
  by_cases hbig : 1024 < n
  · have HR : Hid (R = 4) := by show _ = _; rw [hR, chkT, if_pos (by omega)]
    clear hR hn hp
    go_enter Tryz.func89, Tryz.ntmps89
    go_wp2
    go_ret
    exact ⟨by rw [HR.out]; rfl, Below.refl _ _⟩
  · have HR : Hid (R = chkFrom es 0) := by show _ = _; rw [hR, chkT, if_neg (by omega)]
    have HL := Lib.hid (hl (by omega))
    have HN := Lib.hid hn
    have HP := Lib.hid hp
    clear hR hl hn hp
    go_enter Tryz.func89, Tryz.ntmps89
    go_wp2
    go_loopw [10] (fun iv wr => ∃ k : Nat, k ≤ n ∧ iv = .int .i64 k ∧ Hid (R = chkFrom es k) ∧ Hid (Below w.heap.size w wr)) (fun iv _ => n - (intOf iv).toNat)
    case atStart => exact ⟨0, by omega, rfl, HR.out, Below.refl _ _⟩
    case round =>
      clear HR
      obtain ⟨k, hk, rfl, HR, HB⟩ := hrel
      by_cases hlt : k < n
      · have hkl : k < es.length := by rw [← HN.out]; exact hlt
        obtain ⟨e, he⟩ : ∃ e, e = es[k] := ⟨_, rfl⟩
        have hfe := HL.out e (by rw [he]; exact List.getElem_mem hkl)
        obtain ⟨g, o, rfl, hg, a0, a1, a2⟩ := HP.out.below HB.out k hkl
        rw [← he] at a0 a1 a2
        obtain ⟨ok, hok⟩ : ∃ ok, ok = okEn e := ⟨_, rfl⟩
        obtain ⟨w2, hw2⟩ : ∃ w2, w2 = wr := ⟨_, rfl⟩
        have HV : Hid (Calls Tryz.prog 111 #[.agg #[.int .i64 e.m, .string e.n, .string e.i]] wr fun x w' => x = .returned (.bool ok) ∧ Below wr.heap.size wr w') := by
          rw [hok]
          exact may_any e wr hfe.1 hfe.2
        rw [he] at hok
        have HE := Lib.hid he
        have HOK := Lib.hid hok
        have HF := Lib.hid hfe
        have HP2 := Lib.hid (HP.out.below HB.out)
        clear hw2 he hok hfe
        rcases ok with _ | _
        · have HX : Hid (R = 1) := by show _ = _; rw [HR.out, chkFrom_bad hkl (by rw [badT_1 hkl HOK.out.symm]; decide), badT_1 hkl HOK.out.symm]
          go_wp2_with (go_at_call 111; ((with_reducible refine HV.out.mono ?_); rintro x w3 ⟨rfl, hb3⟩))
          go_ret
          exact ⟨by rw [HX.out]; rfl, HB.out.trans (hb3.mono HB.out.size)⟩
        · go_upto_region 8 with (go_at_call 111; ((with_reducible refine HV.out.mono ?_); rintro x w3 ⟨rfl, hb3⟩))
          obtain ⟨L, hL⟩ : ∃ L, L = (if 0 < k then lessE (es.getD (k - 1) En.zero) e else true) := ⟨_, rfl⟩
          have HL0 := Lib.hid hL
          have HB3 := Lib.hid (HB.out.trans (hb3.mono HB.out.size))
          have c0 := cell_bel a0 hb3
          have c1 := cell_bel a1 hb3
          have c2 := cell_bel a2 hb3
          have q0 : ∀ x : BelW w3, x.w.cell? ⟨g, o + k * 3, none⟩ = some (.int .i64 e.m) := fun x => cell_bel c0 x.h
          have q1 : ∀ x : BelW w3, x.w.cell? ⟨g, o + k * 3 + 1, none⟩ = some (.string e.n) := fun x => cell_bel c1 x.h
          have q2 : ∀ x : BelW w3, x.w.cell? ⟨g, o + k * 3 + 2, none⟩ = some (.string e.i) := fun x => cell_bel c2 x.h
          have hq : Nonempty (BelW w3) := ⟨⟨w3, Below.refl _ _⟩⟩
          have HP3 := Lib.hid (HP2.out.below hb3)
          have g4 : (0 : Int) ≤ (k : Int) := by omega
          have g5 : (k : Int) < (n : Int) := by omega
          clear HV hL hb3 c0 c1 c2 a0 a1 a2
          go_cut [33] from 19 to 33 (fun b wx => b = .bool (!L) ∧ ∃ x : BelW w3, wx = x.w)
          case first =>
            by_cases hk0 : k = 0
            · have h1 : decide ((0 : Int) < (k : Int)) = false := decide_eq_false (by omega)
              have h2 : decide (0 < k) = false := decide_eq_false (by omega)
              have HLX : Hid (L = true) := by show _ = _; rw [HL0.out, if_neg (by omega)]
              clear hk0 HL0 hk
              refine wp_region_bel (w0 := w3) (Below.refl _ _) (by kernel_rfl) (by kernel_rfl) ?_
              repeat (go_big_quiet_step (fail))
              refine wpQuiet_nil ?_
              rintro _ ⟨x, rfl⟩
              go_wp2_with fail
              go_meet
              exact ⟨by rw [HLX.out]; rfl, x, rfl⟩
            · obtain ⟨j, hj⟩ : ∃ j, j = k - 1 := ⟨_, rfl⟩
              have hkj : k = j + 1 := by omega
              have hjl : j < es.length := by omega
              have h1 : decide ((0 : Int) < (k : Int)) = true := decide_eq_true (by omega)
              have h2 : decide (0 < k) = true := decide_eq_true (by omega)
              have h3 : IntKind.i64.wrap ((k : Int) - 1) = (j : Int) := by rw [IntWalk.i64_in _ (by omega)]; omega
              have h4 : (0 : Int) ≤ (j : Int) := by omega
              have h5 : (j : Int) < (n : Int) := by omega
              have h6 : j < n := by omega
              obtain ⟨g', o', he2, hg3, b0, b1, b2⟩ := HP3.out j hjl
              simp only [Option.some.injEq, Addr.mk.injEq, and_true] at he2
              obtain ⟨rfl, rfl⟩ := he2
              have hfp := HL.out es[j] (List.getElem_mem hjl)
              have HLX : Hid (L = lessE es[j] e) := by show _ = _; rw [HL0.out, if_pos (by omega), show k - 1 = j by omega, getD_en hjl]
              obtain ⟨f, hf⟩ : ∃ f, f = es[j] := ⟨_, rfl⟩
              rw [← hf] at b0 b1 b2 hfp HLX
              have r0 : ∀ x : BelW w3, x.w.cell? ⟨g, o + j * 3, none⟩ = some (.int .i64 f.m) := fun x => cell_bel b0 x.h
              have r1 : ∀ x : BelW w3, x.w.cell? ⟨g, o + j * 3 + 1, none⟩ = some (.string f.n) := fun x => cell_bel b1 x.h
              have r2 : ∀ x : BelW w3, x.w.cell? ⟨g, o + j * 3 + 2, none⟩ = some (.string f.i) := fun x => cell_bel b2 x.h
              have CL := Lib.hid (fun (x : BelW w3) => Calls.bel_class (x := x) (by
                have := trless_any f e x.w (by have := hfp.1; omega) (by have := HF.out.1; omega)
                rw [← HLX.out] at this
                exact this))
              clear hk0 HL0 hk hj hkj hjl hf hfp b0 b1 b2 HLX
              refine wp_region_bel (w0 := w3) (Below.refl _ _) (by kernel_rfl) (by kernel_rfl) ?_
              repeat (go_big_quiet_step ((go_at_call 112; exact CL.out _)))
              refine wpQuiet_nil ?_
              rintro _ ⟨x, rfl⟩
              go_wp2_with fail
              go_meet
              exact ⟨rfl, x, rfl⟩
          case rest =>
            obtain ⟨rfl, x, rfl⟩ := hcut
            have HBX := Lib.hid (HB3.out.trans (x.h.mono HB3.out.size))
            obtain ⟨wx, hwx⟩ : ∃ wx, wx = x.w := ⟨_, rfl⟩
            have HPX := Lib.hid (HP3.out.below x.h)
            rw [← hwx] at HBX HPX ⊢
            clear hwx q0 q1 q2 HP3 hq HP2 HB
            clear x
            rcases L with _ | _
            · have HX : Hid (R = 150) := by
                show _ = _
                have h0 := HL0.out
                by_cases hk0 : 0 < k
                · rw [if_pos hk0] at h0
                  obtain ⟨j, rfl⟩ : ∃ j, k = j + 1 := ⟨k - 1, by omega⟩
                  rw [Nat.add_sub_cancel, getD_en (by omega), HE.out] at h0
                  have h1 := badT_150 hkl HOK.out.symm h0.symm
                  rw [HR.out, chkFrom_bad hkl (by rw [h1]; decide), h1]
                · rw [if_neg hk0] at h0
                  cases h0
              clear HR HL0
              go_wp2_with fail
              go_ret
              exact ⟨by rw [HX.out]; rfl, HBX.out⟩
            · have HLS : Hid (0 < k → lessE (es.getD (k - 1) En.zero) es[k] = true) := fun h => by
                have h0 := HL0.out
                rw [if_pos h, HE.out] at h0
                exact h0.symm
              clear HL0
              go_wp2_with fail
              go_loopw [35] (fun jv wr => ∃ j : Nat, j ≤ k ∧ jv = .int .i64 j ∧ Hid (∀ e ∈ es.take j, e.n ≠ (es.getD k En.zero).n) ∧ Hid (Below wx.heap.size wx wr)) (fun jv _ => k - (intOf jv).toNat)
              case atStart => exact ⟨0, by omega, rfl, fun e he => by simp at he, Below.refl _ _⟩
              case round =>
                obtain ⟨j, hj, rfl, HNO, HJ⟩ := hrel
                have HBJ := Lib.hid (HBX.out.trans (HJ.out.mono HBX.out.size))
                by_cases hjk : j < k
                · have hjl : j < es.length := by omega
                  obtain ⟨g', o', he2, hg3, b0, b1, b2⟩ := HPX.out.below HJ.out j hjl
                  obtain ⟨g2, o2, he3, hg4, d0, d1, d2⟩ := HPX.out.below HJ.out k hkl
                  simp only [Option.some.injEq, Addr.mk.injEq, and_true] at he2 he3
                  obtain ⟨rfl, rfl⟩ := he2
                  obtain ⟨rfl, rfl⟩ := he3
                  rw [← HE.out] at d1
                  have g6 : (0 : Int) ≤ (j : Int) := by omega
                  have g7 : (j : Int) < (n : Int) := by omega
                  have g8 : j < n := by omega
                  obtain ⟨f, hf⟩ : ∃ f, f = es[j] := ⟨_, rfl⟩
                  rw [← hf] at b1
                  have HFJ := Lib.hid hf
                  by_cases hne : f.n = e.n
                  · have hin : es[k].n.data.toList ∈ nms es k := mem_nms.2 ⟨es[j], by rw [List.mem_take_iff_getElem]; exact ⟨j, by omega, rfl⟩, by rw [← HFJ.out, hne, HE.out]⟩
                    have h1 := badT_6 hkl HOK.out.symm HLS.out hin
                    have HX : Hid (R = 6) := by show _ = _; rw [HR.out, chkFrom_bad hkl (by rw [h1]; decide), h1]
                    rw [hne] at b1
                    obtain ⟨t, ht⟩ : ∃ t, t = e.n := ⟨_, rfl⟩
                    rw [← ht] at b1 d1
                    clear HR hin h1 hne hf ht b0 b2 d0 d2 hg3 hg4
                    go_upto_region 13 with fail
                    go_quiet (fail)
                    go_wp2_with fail
                    go_ret
                    exact ⟨by rw [HX.out]; rfl, below_drewN HBJ.out _⟩
                  · have hb : (f.n.toList == e.n.toList) = false := ba_ne hne
                    have HX : Hid (∀ e ∈ es.take (j + 1), e.n ≠ (es.getD k En.zero).n) := fun x hx => by
                      rw [List.take_succ_eq_append_getElem hjl, List.mem_append, List.mem_singleton] at hx
                      rcases hx with hx | rfl
                      · exact HNO.out x hx
                      · rw [← HFJ.out, getD_en hkl, ← HE.out]
                        exact hne
                    obtain ⟨t, ht⟩ : ∃ t, t = e.n := ⟨_, rfl⟩
                    obtain ⟨u, hu⟩ : ∃ u, u = f.n := ⟨_, rfl⟩
                    rw [← ht, ← hu] at hb
                    rw [← hu] at b1
                    rw [← ht] at d1
                    clear HNO hne hf ht hu b0 b2 d0 d2 hg3 hg4
                    go_upto_region 13 with fail
                    go_quiet (fail)
                    go_wp2_with fail
                    go_roundw
                    case rel => exact ⟨j + 1, by omega, by go_num, HX.out, below_drewN HJ.out _⟩
                    case measure => simp [intOf]; omega
                · have hjk2 : j = k := by omega
                  have HR2 : Hid (R = chkFrom es (k + 1)) := by show _ = _; rw [HR.out, chkFrom_step hkl (badT_0 hkl HOK.out.symm HLS.out (nms_no HNO.out hkl hjk2))]
                  clear HR hjk2 HNO
                  go_wp2_with fail
                  go_roundw
                  case rel => exact ⟨k + 1, by omega, by go_num, HR2.out, HBJ.out⟩
                  case measure => simp [intOf]; omega
      · have HX : Hid (R = 0) := by show _ = _; rw [HR.out, chkFrom_end (by have := HN.out; omega)]
        clear HR
        go_wp2_with fail
        go_ret
        exact ⟨by rw [HX.out]; rfl, HB.out⟩
end Go.Proofs.YtddmnibioacelaaGreatDoor
