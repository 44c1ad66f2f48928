/-
  The walks of the reference's Check and Body.
-/
import Derived.Test.YtpkgiojicbdcfaaGreatDoorCmRTagPPk
namespace Go.Proofs.YtpkgiojicbdcfaaGreatDoor
open Go Go.RowKit Go.Maps Go.WideMaps

set_option maxHeartbeats 4000000 in
set_option maxRecDepth 4000 in
theorem rccheck_any (c : Cm) (p : Option Addr) (n cap : Nat) (w : World) (hn : n = c.ps.length) (hp : SRw w p c.ps) (hl : ∀ y ∈ c.ps, y.length ≤ 140737488355328) (hn2 : n ≤ 140737488355328)
    (hs : c.t.size ≤ 140737488355328 ∧ c.a.n.size ≤ 140737488355328 ∧ c.a.m.size ≤ 140737488355328 ∧ c.c.n.size ≤ 140737488355328 ∧ c.c.m.size ≤ 140737488355328 ∧ c.x.size ≤ 140737488355328) :
    Calls Tryz.prog 70 #[.agg #[.string c.t, .slice p n cap, .string c.a.n, .string c.a.m, .int .i64 c.a.t, .int .i64 c.a.z, .string c.c.n, .string c.c.m, .int .i64 c.c.t, .int .i64 c.c.z, .string c.x]] w
      fun e w' => e = .returned (.int .i64 (chkC c : Int)) ∧ Below w.heap.size w w' := by
  obtain ⟨R, hR⟩ : ∃ R, R = chkC c := ⟨_, rfl⟩
  rw [← hR]
  rw [chkC_bad] at hR
  obtain ⟨t, ps, ⟨an, am, aT, az⟩, ⟨cn, cm, cT, cz⟩, x⟩ := c
  simp only at *
  obtain ⟨hs1, hs2, hs3, hs4, hs5, hs6⟩ := hs
  obtain ⟨b1, hb1⟩ : ∃ b, b = isId t := ⟨_, rfl⟩
  obtain ⟨b3, hb3⟩ : ∃ b, b = okPn ⟨an, am, aT, az⟩ := ⟨_, rfl⟩
  obtain ⟨b4, hb4⟩ : ∃ b, b = okPn ⟨cn, cm, cT, cz⟩ := ⟨_, rfl⟩
  obtain ⟨z, hz⟩ : ∃ b, b = x.data.toList.any fun b => b == 0 := ⟨_, rfl⟩
  rw [← hb1, ← hb3, ← hb4, ← hz, ← hn] at hR
  obtain ⟨V, hV⟩ : ∃ V, V = badC b1 b3 b4 z := ⟨_, rfl⟩
  rw [← hV] at hR
  have HR := Lib.hid hR
  have HV := Lib.hid hV
  obtain ⟨w1, hw1⟩ : ∃ w1, w1 = w.alloc (.cells #[.string t, .slice p n cap, .string an, .string am, .int .i64 aT, .int .i64 az, .string cn, .string cm, .int .i64 cT, .int .i64 cz, .string x] 64) := ⟨_, rfl⟩
  have hx := heap_alloc_new w (.cells #[.string t, .slice p n cap, .string an, .string am, .int .i64 aT, .int .i64 az, .string cn, .string cm, .int .i64 cT, .int .i64 cz, .string x] 64)
  rw [← hw1] at hx
  have hbx : Below w.heap.size w w1 := by rw [hw1]; exact below_new (Below.refl _ _) _
  have hlt : w.heap.size < w1.heap.size := row_lt hx
  have HI : Hid (∀ w', Calls Tryz.prog 87 #[.string t] w' fun e w'' => e = .returned (.bool b1) ∧ w' = w'') := fun w' => by rw [hb1]; exact ris_any t w' hs1
  have HA : Hid (∀ w', Below w1.heap.size w1 w' → Calls Tryz.prog 100 #[.agg #[.string an, .string am, .int .i64 aT, .int .i64 az]] w' fun e w'' => e = .returned (.bool b3) ∧ Below w1.heap.size w1 w'') := fun w' hb => by
    rw [hb3]
    exact (rperson_any ⟨an, am, aT, az⟩ w' hs2 hs3).mono fun e w'' ⟨he, hw⟩ => ⟨he, hb.trans (hw.mono hb.size)⟩
  have HC : Hid (∀ w', Below w1.heap.size w1 w' → Calls Tryz.prog 100 #[.agg #[.string cn, .string cm, .int .i64 cT, .int .i64 cz]] w' fun e w'' => e = .returned (.bool b4) ∧ Below w1.heap.size w1 w'') := fun w' hb => by
    rw [hb4]
    exact (rperson_any ⟨cn, cm, cT, cz⟩ w' hs4 hs5).mono fun e w'' ⟨he, hw⟩ => ⟨he, hb.trans (hw.mono hb.size)⟩
  have HZ : Hid (∀ w', Below w1.heap.size w1 w' → Calls Tryz.prog 101 #[.string x] w' fun e w'' => e = .returned (.bool z) ∧ Below w1.heap.size w1 w'') := fun w' hb => by
    rw [hz]
    exact (rzero_any x w' hs6).mono fun e w'' ⟨he, hw⟩ => ⟨he, hb.trans (hw.mono hb.size)⟩
  have HP := Lib.hid (hp.below hbx)
  have HN := Lib.hid hn
  have HL := Lib.hid hl
  have HX := Lib.hid hx
  have HLT := Lib.hid hlt
  have HBX := Lib.hid hbx
  have HW1 := Lib.hid hw1
  have hb0 := Below.refl w1.heap.size w1
  obtain ⟨x0, x1, x2, x3, x4, x5, x6, x7, x8, x9, x10⟩ := cm_at hx
  clear hR hV hn hp hl hs1 hs2 hs3 hs4 hs5 hs6 hb1 hb3 hb4 hz hw1 hx hbx hlt
  go_enter Tryz.func70, Tryz.ntmps70
  go_upto_region 1 with fail
  rw [← HW1.out]
  go_cut [3] from 7 to 27 (fun v wx => v = .bool V ∧ Hid (Below w1.heap.size w1 wx))
  case first =>
    clear HR
    rcases b1 with _ | _
    · have HQ : Hid (V = true) := by show _ = _; rw [HV.out, badC]; simp
      clear HV
      go_wp2_with (first
      | (go_at_call 87; ((with_reducible refine (HI.out _).mono ?_); rintro e wa ⟨rfl, rfl⟩))
      | (go_at_call 100; first
        | ((with_reducible refine (HA.out _ hb0).mono ?_); rintro e wc ⟨rfl, hb2⟩; obtain ⟨z0, z1, z2, z3, z4, z5, z6, z7, z8, z9, z10⟩ := cm_at ((hb2.block _ HLT.out).trans HX.out))
        | ((with_reducible refine (HC.out _ hb2).mono ?_); rintro e wd ⟨rfl, hb3⟩; obtain ⟨u0, u1, u2, u3, u4, u5, u6, u7, u8, u9, u10⟩ := cm_at ((hb3.block _ HLT.out).trans HX.out)))
      | (go_at_call 101; ((with_reducible refine (HZ.out _ hb3).mono ?_); rintro e we ⟨rfl, hb4⟩)))
      go_meet
      exact ⟨by rw [HQ.out], hb0⟩
    rcases b3 with _ | _
    · have HQ : Hid (V = true) := by show _ = _; rw [HV.out, badC]; simp
      clear HV
      go_wp2_with (first
      | (go_at_call 87; ((with_reducible refine (HI.out _).mono ?_); rintro e wa ⟨rfl, rfl⟩))
      | (go_at_call 100; first
        | ((with_reducible refine (HA.out _ hb0).mono ?_); rintro e wc ⟨rfl, hb2⟩; obtain ⟨z0, z1, z2, z3, z4, z5, z6, z7, z8, z9, z10⟩ := cm_at ((hb2.block _ HLT.out).trans HX.out))
        | ((with_reducible refine (HC.out _ hb2).mono ?_); rintro e wd ⟨rfl, hb3⟩; obtain ⟨u0, u1, u2, u3, u4, u5, u6, u7, u8, u9, u10⟩ := cm_at ((hb3.block _ HLT.out).trans HX.out)))
      | (go_at_call 101; ((with_reducible refine (HZ.out _ hb3).mono ?_); rintro e we ⟨rfl, hb4⟩)))
      go_meet
      exact ⟨by rw [HQ.out], hb2⟩
    rcases b4 with _ | _
    · have HQ : Hid (V = true) := by show _ = _; rw [HV.out, badC]; simp
      clear HV
      go_wp2_with (first
      | (go_at_call 87; ((with_reducible refine (HI.out _).mono ?_); rintro e wa ⟨rfl, rfl⟩))
      | (go_at_call 100; first
        | ((with_reducible refine (HA.out _ hb0).mono ?_); rintro e wc ⟨rfl, hb2⟩; obtain ⟨z0, z1, z2, z3, z4, z5, z6, z7, z8, z9, z10⟩ := cm_at ((hb2.block _ HLT.out).trans HX.out))
        | ((with_reducible refine (HC.out _ hb2).mono ?_); rintro e wd ⟨rfl, hb3⟩; obtain ⟨u0, u1, u2, u3, u4, u5, u6, u7, u8, u9, u10⟩ := cm_at ((hb3.block _ HLT.out).trans HX.out)))
      | (go_at_call 101; ((with_reducible refine (HZ.out _ hb3).mono ?_); rintro e we ⟨rfl, hb4⟩)))
      go_meet
      exact ⟨by rw [HQ.out], hb3⟩
    have HQ : Hid (V = z) := by show _ = _; rw [HV.out, badC]; simp
    clear HV
    rcases z with _ | _
    · go_wp2_with (first
      | (go_at_call 87; ((with_reducible refine (HI.out _).mono ?_); rintro e wa ⟨rfl, rfl⟩))
      | (go_at_call 100; first
        | ((with_reducible refine (HA.out _ hb0).mono ?_); rintro e wc ⟨rfl, hb2⟩; obtain ⟨z0, z1, z2, z3, z4, z5, z6, z7, z8, z9, z10⟩ := cm_at ((hb2.block _ HLT.out).trans HX.out))
        | ((with_reducible refine (HC.out _ hb2).mono ?_); rintro e wd ⟨rfl, hb3⟩; obtain ⟨u0, u1, u2, u3, u4, u5, u6, u7, u8, u9, u10⟩ := cm_at ((hb3.block _ HLT.out).trans HX.out)))
      | (go_at_call 101; ((with_reducible refine (HZ.out _ hb3).mono ?_); rintro e we ⟨rfl, hb4⟩)))
      go_meet
      exact ⟨by rw [HQ.out], hb4⟩
    · go_wp2_with (first
      | (go_at_call 87; ((with_reducible refine (HI.out _).mono ?_); rintro e wa ⟨rfl, rfl⟩))
      | (go_at_call 100; first
        | ((with_reducible refine (HA.out _ hb0).mono ?_); rintro e wc ⟨rfl, hb2⟩; obtain ⟨z0, z1, z2, z3, z4, z5, z6, z7, z8, z9, z10⟩ := cm_at ((hb2.block _ HLT.out).trans HX.out))
        | ((with_reducible refine (HC.out _ hb2).mono ?_); rintro e wd ⟨rfl, hb3⟩; obtain ⟨u0, u1, u2, u3, u4, u5, u6, u7, u8, u9, u10⟩ := cm_at ((hb3.block _ HLT.out).trans HX.out)))
      | (go_at_call 101; ((with_reducible refine (HZ.out _ hb3).mono ?_); rintro e we ⟨rfl, hb4⟩)))
      go_meet
      exact ⟨by rw [HQ.out], hb4⟩
  case rest =>
    obtain ⟨rfl, HB1⟩ := hcut
    clear HV HI HA HC HZ hb0 x0 x1 x2 x3 x4 x5 x6 x7 x8 x9 x10
    go_wp2_with fail
    go_loopw [3, 4] (fun bv iv wr => ∃ k : Nat, k ≤ n ∧ iv = .int .i64 (k : Int) ∧ bv = .bool (V || !(allId (ps.take k))) ∧ Hid (Below w1.heap.size w1 wr)) (fun _ iv _ => n - (intOf iv).toNat)
    case atStart => exact ⟨0, by omega, rfl, by simp [allId], HB1.out⟩
    case round =>
      clear HB1
      obtain ⟨k, hk, rfl, rfl, HB⟩ := hrel
      obtain ⟨c0, c1, c2, c3, c4, c5, c6, c7, c8, c9, c10⟩ := cm_at ((HB.out.block _ HLT.out).trans HX.out)
      clear c0 c2 c3 c4 c5 c6 c7 c8 c9
      by_cases hlt : k < n
      · have hkl : k < ps.length := by rw [← HN.out]; exact hlt
        have hd := allId_next hkl
        obtain ⟨U, hU⟩ : ∃ U, U = (V || !(allId (ps.take k))) := ⟨_, rfl⟩
        obtain ⟨b, hb⟩ : ∃ b, b = isId (str ps[k]) := ⟨_, rfl⟩
        have HU : Hid ((V || !(allId (ps.take (k + 1)))) = (U || !b)) := by show _ = _; rw [hd, hU, hb, Bool.not_and, Bool.or_assoc]
        rw [← hU]
        obtain ⟨y, hy⟩ : ∃ y, y = str ps[k] := ⟨_, rfl⟩
        have hys : y.size ≤ 140737488355328 := by rw [hy, str_size]; exact HL.out _ (List.getElem_mem hkl)
        have HI : Hid (∀ w', Calls Tryz.prog 87 #[.string y] w' fun e w'' => e = .returned (.bool b) ∧ w' = w'') := fun w' => by rw [hb, ← hy]; exact ris_any y w' hys
        obtain ⟨g, o, rfl, hg, a0⟩ := HP.out.below HB.out k hkl
        rw [← hy] at a0
        clear hU hd hb hy hkl
        rcases U with _ | _
        · rcases b with _ | _
          · have HY : Hid ((V || !(allId (ps.take (k + 1)))) = true) := by show _ = _; rw [HU.out]; rfl
            clear HU
            go_wp2_with (go_at_call 87; ((with_reducible refine (HI.out _).mono ?_); rintro e wa ⟨rfl, rfl⟩))
            go_roundw
            case rel => exact ⟨k + 1, by omega, by go_num, by rw [HY.out], HB.out⟩
            case measure => simp [intOf]; omega
          · have HY : Hid ((V || !(allId (ps.take (k + 1)))) = false) := by show _ = _; rw [HU.out]; rfl
            clear HU
            go_wp2_with (go_at_call 87; ((with_reducible refine (HI.out _).mono ?_); rintro e wa ⟨rfl, rfl⟩))
            go_roundw
            case rel => exact ⟨k + 1, by omega, by go_num, by rw [HY.out], HB.out⟩
            case measure => simp [intOf]; omega
        · have HY : Hid ((V || !(allId (ps.take (k + 1)))) = true) := by show _ = _; rw [HU.out]; rfl
          clear HU
          go_wp2_with fail
          go_roundw
          case rel => exact ⟨k + 1, by omega, by go_num, by rw [HY.out], HB.out⟩
          case measure => simp [intOf]; omega
      · obtain rfl : k = n := by omega
        have htk : ps.take k = ps := by rw [HN.out]; exact List.take_length
        rw [htk]
        clear htk
        obtain ⟨U, hU⟩ : ∃ U, U = (V || !(allId ps)) := ⟨_, rfl⟩
        rw [← hU]
        have HR2 : Hid (R = if U = true then 1 else if 4096 < x.size ∨ 8 < k then 4 else if ps.Nodup then 0 else 6) := by show _ = _; rw [HR.out, hU]
        clear hU HR
        rcases U with _ | _
        case true =>
          have HQ : Hid (R = 1) := by show _ = _; rw [HR2.out, if_pos rfl]
          clear HR2
          go_wp2_with fail
          go_ret
          exact ⟨by rw [HQ.out]; rfl, HBX.out.trans (HB.out.mono HBX.out.size)⟩
        case false =>
          by_cases h1 : 4096 < x.size
          · have HQ : Hid (R = 4) := by show _ = _; rw [HR2.out, if_neg (by decide), if_pos (.inl h1)]
            have g1 : (4096 : Int) < (x.size : Int) := by omega
            clear HR2 h1
            go_wp2_with fail
            go_ret
            exact ⟨by rw [HQ.out]; rfl, HBX.out.trans (HB.out.mono HBX.out.size)⟩
          have g1 : ¬ (4096 : Int) < (x.size : Int) := by omega
          by_cases h2 : 8 < k
          · have HQ : Hid (R = 4) := by show _ = _; rw [HR2.out, if_neg (by decide), if_pos (.inr h2)]
            have g2 : (8 : Int) < (k : Int) := by omega
            clear HR2 h1 h2
            go_wp2_with fail
            go_ret
            exact ⟨by rw [HQ.out]; rfl, HBX.out.trans (HB.out.mono HBX.out.size)⟩
          have g2 : ¬ (8 : Int) < (k : Int) := by omega
          have HR3 : Hid (R = if ps.Nodup then 0 else 6) := by show _ = _; rw [HR2.out, if_neg (by decide), if_neg (by omega)]
          have hk8 : k ≤ 8 := by omega
          clear HR2 h1 h2 hlt hn2 hk
          go_wp2_with fail
          clear c1 c10 g1 g2
          go_loopw [5] (fun iv wx => ∃ i : Nat, i ≤ k ∧ iv = .int .i64 (i : Int) ∧ Hid ((ps.take i).Nodup) ∧ Hid (Below w1.heap.size w1 wx)) (fun iv _ => k - (intOf iv).toNat)
          case atStart => exact ⟨0, by omega, rfl, List.nodup_nil, HB.out⟩
          case round =>
            clear HB
            obtain ⟨i, hi, rfl, HD, HB⟩ := hrel
            obtain ⟨c0, c1, c2, c3, c4, c5, c6, c7, c8, c9, c10⟩ := cm_at ((HB.out.block _ HLT.out).trans HX.out)
            clear c0 c2 c3 c4 c5 c6 c7 c8 c9 c10
            by_cases hlt : i < k
            · have hil : i < ps.length := by rw [← HN.out]; exact hlt
              go_wp2_with fail
              clear c1
              go_loopw [6] (fun jv wx => ∃ j : Nat, j ≤ i ∧ jv = .int .i64 (j : Int) ∧ Hid (ps[i] ∉ ps.take j) ∧ Hid (Below w1.heap.size w1 wx)) (fun jv _ => i - (intOf jv).toNat)
              case atStart => exact ⟨0, by omega, rfl, by show _ ∉ _; simp, HB.out⟩
              case round =>
                clear HB
                obtain ⟨j, hj, rfl, HJ, HB⟩ := hrel
                obtain ⟨c0, c1, c2, c3, c4, c5, c6, c7, c8, c9, c10⟩ := cm_at ((HB.out.block _ HLT.out).trans HX.out)
                clear c0 c2 c3 c4 c5 c6 c7 c8 c9 c10
                by_cases hji : j < i
                · have hjl : j < ps.length := by omega
                  have hjk : j < k := by omega
                  have hpx := HP.out.below HB.out
                  obtain ⟨g, o, rfl, hg, a0⟩ := hpx i hil
                  obtain ⟨g2, o2, hpe, hg2, b0⟩ := hpx j hjl
                  simp only [Option.some.injEq, Addr.mk.injEq, and_true] at hpe
                  obtain ⟨rfl, rfl⟩ := hpe
                  clear hpx
                  by_cases he : ps[i] = ps[j]
                  · have HQ : Hid (R = 6) := by show _ = _; rw [HR3.out, if_neg (nodup_not hil hji he)]
                    obtain ⟨y, hy⟩ : ∃ y, y = str ps[i] := ⟨_, rfl⟩
                    rw [← he, ← hy] at b0
                    rw [← hy] at a0
                    clear hy hg hg2 he hjl HJ HD HR3
                    go_wp2
                    go_quiet (fail)
                    go_wp2
                    go_ret
                    exact ⟨by rw [HQ.out]; rfl, HBX.out.trans ((below_drewN HB.out _).mono HBX.out.size)⟩
                  · have hne := str_neC he
                    have HJ2 : Hid (ps[i] ∉ ps.take (j + 1)) := notin_next hjl HJ.out he
                    obtain ⟨y, hy⟩ : ∃ y, y = str ps[i] := ⟨_, rfl⟩
                    obtain ⟨u, hu⟩ : ∃ u, u = str ps[j] := ⟨_, rfl⟩
                    rw [← hu] at b0 hne
                    rw [← hy] at a0 hne
                    clear hy hu hg hg2 he hjl HJ
                    go_wp2
                    go_quiet (fail)
                    go_wp2
                    go_roundw
                    case rel => exact ⟨j + 1, by omega, by go_num, HJ2.out, below_drewN HB.out _⟩
                    case measure => simp [intOf]; omega
                · obtain rfl : j = i := by omega
                  have HD2 : Hid ((ps.take (j + 1)).Nodup) := nodup_next hil HD.out HJ.out
                  clear HJ HD
                  go_wp2_with fail
                  go_roundw
                  case rel => exact ⟨j + 1, by omega, by go_num, HD2.out, HB.out⟩
                  case measure => simp [intOf]; omega
            · obtain rfl : i = k := by omega
              have HQ : Hid (R = 0) := by
                show _ = _
                have := HD.out
                rw [HN.out, List.take_length] at this
                rw [HR3.out, if_pos this]
              clear HR3 HD
              go_wp2_with fail
              go_ret
              exact ⟨by rw [HQ.out]; rfl, HBX.out.trans (HB.out.mono HBX.out.size)⟩

set_option maxHeartbeats 4000000 in
set_option maxRecDepth 4000 in
theorem rcbody_any (c : Cm) (p : Option Addr) (n cap : Nat) (w : World) (hn : n = c.ps.length) (hp : SRw w p c.ps) (hl : ∀ y ∈ c.ps, y.length ≤ 140737488355328) (hn2 : n ≤ 140737488355328)
    (hs : c.t.size ≤ 140737488355328 ∧ c.a.n.size ≤ 140737488355328 ∧ c.a.m.size ≤ 140737488355328 ∧ c.c.n.size ≤ 140737488355328 ∧ c.c.m.size ≤ 140737488355328 ∧ c.x.size ≤ 140737488355328) :
    Calls Tryz.prog 37 #[.agg #[.string c.t, .slice p n cap, .string c.a.n, .string c.a.m, .int .i64 c.a.t, .int .i64 c.a.z, .string c.c.n, .string c.c.m, .int .i64 c.c.t, .int .i64 c.c.z, .string c.x]] w
      fun e w' => e = .returned (.tuple #[.string (str (bodyC c)), .int .i64 (chkC c : Int)]) ∧ Below w.heap.size w w' := by
  have hck := fun w' (hb : SRw w' p c.ps) => rccheck_any c p n cap w' hn hb hl hn2 hs
  obtain ⟨C, hC⟩ : ∃ C, C = chkC c := ⟨_, rfl⟩
  obtain ⟨R, hR⟩ : ∃ R, R = str (bodyC c) := ⟨_, rfl⟩
  have hok := @chkC_ok c
  rw [← hC] at hck hok ⊢
  rw [← hR]
  unfold bodyC at hR
  rw [← hC] at hR
  obtain ⟨t, ps, ⟨an, am, aT, az⟩, ⟨cn, cm, cT, cz⟩, x⟩ := c
  simp only at hn hp hl hs hck hok
  obtain ⟨w1, hw1⟩ : ∃ w1, w1 = w.alloc (.cells #[.string t, .slice p n cap, .string an, .string am, .int .i64 aT, .int .i64 az, .string cn, .string cm, .int .i64 cT, .int .i64 cz, .string x] 64) := ⟨_, rfl⟩
  have hx := heap_alloc_new w (.cells #[.string t, .slice p n cap, .string an, .string am, .int .i64 aT, .int .i64 az, .string cn, .string cm, .int .i64 cT, .int .i64 cz, .string x] 64)
  rw [← hw1] at hx
  have hbx : Below w.heap.size w w1 := by rw [hw1]; exact below_new (Below.refl _ _) _
  have HCK := Lib.hid (hck w1 (hp.below hbx))
  have HBX := Lib.hid hbx
  have HW1 := Lib.hid hw1
  have HX := Lib.hid hx
  obtain ⟨x0, x1, x2, x3, x4, x5, x6, x7, x8, x9, x10⟩ := cm_at hx
  by_cases h0 : C = 0
  case neg =>
    have HQ : Hid (R = ⟨#[]⟩) := by show _ = _; rw [hR, if_neg h0]; rfl
    have g0 : ((C : Int) != 0) = true := by simp; omega
    clear hck hok hR hw1 hx hbx h0 hn hp hl hs hC
    go_enter Tryz.func37, Tryz.ntmps37
    go_upto_region 1 with fail
    rw [← HW1.out]
    go_wp2_with (go_at_call 70; ((with_reducible refine (HCK.out).mono ?_); rintro e w2 ⟨rfl, hb2⟩))
    go_ret2
    exact ⟨by rw [HQ.out]; rfl, HBX.out.trans (hb2.mono HBX.out.size)⟩
  have g0 : ((C : Int) != 0) = false := by simp [h0]
  obtain ⟨ho, hx4, hn8, -⟩ := hok h0
  obtain ⟨i1, i2, i3, i4, -⟩ := okC_parts ho
  simp only at i1 i2 i3 i4 hx4 hn8
  have ht40 : t.size ≤ 40 := by rw [isId_size i1]; exact Nat.le_refl _
  obtain ⟨A, hA⟩ : ∃ A, A = whoL ⟨an, am, aT, az⟩ := ⟨_, rfl⟩
  obtain ⟨K, hK⟩ : ∃ K, K = whoL ⟨cn, cm, cT, cz⟩ := ⟨_, rfl⟩
  have hA1 : A.size ≤ 157 := by rw [hA]; exact whoL_size i3
  have hK1 : K.size ≤ 157 := by rw [hK]; exact whoL_size i4
  obtain ⟨l1, hl1⟩ : ∃ l1, l1 = (⟨#[116, 114, 101, 101, 32]⟩ : ByteArray) ++ t ++ ⟨#[10]⟩ := ⟨_, rfl⟩
  have hl1s : l1.size ≤ 46 := by rw [hl1]; simp only [ByteArray.size_append]; show 5 + t.size + 1 ≤ 46; omega
  have HR : Hid (∀ h : ByteArray, h.data.toList = l1.data.toList ++ (ps.take n).flatMap (lineL wPar) → h ++ (⟨#[97, 117, 116, 104, 111, 114, 32]⟩ : ByteArray) ++ A ++ ⟨#[10, 99, 111, 109, 109, 105, 116, 116, 101, 114, 32]⟩ ++ K ++ ⟨#[10, 10]⟩ ++ x = R) := fun h hh => by
    rw [hR, if_pos h0, encC]
    refine ba_ext ?_
    rw [List.take_of_length_le (by omega)] at hh
    rw [str_list]
    simp only [app_list, hh, hl1, hA, hK, lineL, wTree, wAut, wCom]
    simp
  have pa := okPn_parts i3
  have pc := okPn_parts i4
  simp only at pa pc
  have HA : Hid (∀ w', Calls Tryz.prog 71 #[.agg #[.string an, .string am, .int .i64 aT, .int .i64 az]] w' fun e w'' => e = .returned (.string A) ∧ Below w'.heap.size w' w'') := fun w' => by
    rw [hA]
    exact rfmt_any ⟨an, am, aT, az⟩ w' hs.2.1 hs.2.2.1 (by simp only; omega) (by simp only; omega) (by simp only; omega)
  have HK : Hid (∀ w', Calls Tryz.prog 71 #[.agg #[.string cn, .string cm, .int .i64 cT, .int .i64 cz]] w' fun e w'' => e = .returned (.string K) ∧ Below w'.heap.size w' w'') := fun w' => by
    rw [hK]
    exact rfmt_any ⟨cn, cm, cT, cz⟩ w' hs.2.2.2.1 hs.2.2.2.2.1 (by simp only; omega) (by simp only; omega) (by simp only; omega)
  have HP := Lib.hid (hp.below hbx)
  have HN := Lib.hid hn
  have HID : Hid (∀ y ∈ ps, isId (str y) = true) := fun y hy => allId_mem i2 hy
  obtain ⟨B, hB⟩ : ∃ B, B = w.heap.size := ⟨_, rfl⟩
  have HBE := Lib.hid hB
  rw [← hB] at HX x0 x1 x2 x3 x4 x5 x6 x7 x8 x9 x10
  have hnn : n ≤ 8 := by omega
  have HC0 := Lib.hid h0
  have HL1 := Lib.hid hl1
  clear hck hok hR hw1 hx hbx h0 hn hp hl hs hC ho hn8 i1 i2 i3 i4 hA hK hl1 pa pc hn2 hB
  go_enter Tryz.func37, Tryz.ntmps37
  go_upto_region 1 with fail
  rw [← HW1.out, ← HBE.out]
  go_upto_region 5 with (go_at_call 70; ((with_reducible refine (HCK.out).mono ?_); rintro e w2 ⟨rfl, hb2⟩; obtain ⟨y0, y1, y2, y3, y4, y5, y6, y7, y8, y9, y10⟩ := cm_at ((hb2.block _ (row_lt HX.out)).trans HX.out)))
  have HB2 := Lib.hid hb2
  rw [← HL1.out]
  clear x0 x1 x2 x3 x4 x5 x6 x7 x8 x9 x10 y0 y2 y3 y4 y5 y6 y7 y8 y9 y10 HCK HL1 hb2
  go_wp2_with fail
  go_loopw [5, 6] (fun hv iv wr => ∃ (k : Nat) (h : ByteArray), k ≤ n ∧ iv = .int .i64 (k : Int) ∧ hv = .string h ∧ h.size ≤ 46 + 48 * k ∧ Hid (h.data.toList = l1.data.toList ++ (ps.take k).flatMap (lineL wPar)) ∧ Hid (Below w1.heap.size w1 wr)) (fun _ iv _ => n - (intOf iv).toNat)
  case atStart => exact ⟨0, l1, by omega, rfl, rfl, by omega, by show _ = _; simp, HB2.out⟩
  case round =>
    obtain ⟨k, h, hk, rfl, rfl, hh, HH, HB⟩ := hrel
    obtain ⟨c0, c1, c2, c3, c4, c5, c6, c7, c8, c9, c10⟩ := cm_at ((HB.out.block _ (row_lt HX.out)).trans HX.out)
    by_cases hlt : k < n
    · have hkl : k < ps.length := by rw [← HN.out]; exact hlt
      obtain ⟨y, hy⟩ : ∃ y, y = str ps[k] := ⟨_, rfl⟩
      have hy40 : y.size ≤ 40 := by rw [hy, isId_size (HID.out _ (List.getElem_mem hkl))]; exact Nat.le_refl _
      have hyl : y.data.toList = ps[k] := by rw [hy]; rfl
      obtain ⟨g, o, rfl, hg, a0⟩ := HP.out.below HB.out k hkl
      rw [← hy] at a0
      have HH2 : Hid ((h ++ (⟨#[112, 97, 114, 101, 110, 116, 32]⟩ : ByteArray) ++ y ++ ⟨#[10]⟩).data.toList = l1.data.toList ++ (ps.take (k + 1)).flatMap (lineL wPar)) := by
        show _ = _
        rw [flat_next hkl, ← hyl]
        simp only [app_list, HH.out, lineL, wPar]
        simp
      have hs2 : (h ++ (⟨#[112, 97, 114, 101, 110, 116, 32]⟩ : ByteArray) ++ y ++ ⟨#[10]⟩).size ≤ 46 + 48 * (k + 1) := by
        simp only [ByteArray.size_append]
        show h.size + 7 + y.size + 1 ≤ _
        omega
      clear hy hyl hkl c0 c2 c3 c4 c5 c6 c7 c8 c9 c10
      go_wp2_with fail
      go_roundw
      case rel => exact ⟨k + 1, _, by omega, by go_num, rfl, hs2, HH2.out, HB.out⟩
      case measure => simp [intOf]; omega
    obtain rfl : k = n := by omega
    have HQ := Lib.hid (HR.out h HH.out)
    have hq : Nonempty (BelW wr) := ⟨⟨wr, Below.refl _ _⟩⟩
    have k2 : ∀ y : BelW wr, y.w.cell? ⟨B, 2, none⟩ = some (.string an) := fun y => cell_bel c2 y.h
    have k3 : ∀ y : BelW wr, y.w.cell? ⟨B, 3, none⟩ = some (.string am) := fun y => cell_bel c3 y.h
    have k4 : ∀ y : BelW wr, y.w.cell? ⟨B, 4, none⟩ = some (.int .i64 aT) := fun y => cell_bel c4 y.h
    have k5 : ∀ y : BelW wr, y.w.cell? ⟨B, 5, none⟩ = some (.int .i64 az) := fun y => cell_bel c5 y.h
    have k6 : ∀ y : BelW wr, y.w.cell? ⟨B, 6, none⟩ = some (.string cn) := fun y => cell_bel c6 y.h
    have k7 : ∀ y : BelW wr, y.w.cell? ⟨B, 7, none⟩ = some (.string cm) := fun y => cell_bel c7 y.h
    have k8 : ∀ y : BelW wr, y.w.cell? ⟨B, 8, none⟩ = some (.int .i64 cT) := fun y => cell_bel c8 y.h
    have k9 : ∀ y : BelW wr, y.w.cell? ⟨B, 9, none⟩ = some (.int .i64 cz) := fun y => cell_bel c9 y.h
    have k10 : ∀ y : BelW wr, y.w.cell? ⟨B, 10, none⟩ = some (.string x) := fun y => cell_bel c10 y.h
    have HAq : Hid (∀ y : BelW wr, Calls Tryz.prog 71 #[.agg #[.string an, .string am, .int .i64 aT, .int .i64 az]] y.w fun e w'' => e = .returned (.string A) ∧ ∃ z : BelW wr, w'' = z.w) := fun y => Calls.bel_class (HA.out _)
    have HKq : Hid (∀ y : BelW wr, Calls Tryz.prog 71 #[.agg #[.string cn, .string cm, .int .i64 cT, .int .i64 cz]] y.w fun e w'' => e = .returned (.string K) ∧ ∃ z : BelW wr, w'' = z.w) := fun y => Calls.bel_class (HK.out _)
    clear c0 c2 c3 c4 c5 c6 c7 c8 c9 c10 HA HK HR HH
    go_upto_region 9 with fail
    refine wp_region_bel (w0 := wr) (Below.refl _ _) (by kernel_rfl) (by kernel_rfl) ?_
    repeat (go_big_quiet_step (first
      | (go_at_call 71; first | (with_reducible exact HAq.out _) | (with_reducible exact HKq.out _))))
    refine wpQuiet_nil ?_
    rintro _ ⟨z, rfl⟩
    have HZ := Lib.hid (HB.out.trans (z.h.mono HB.out.size))
    obtain ⟨wz, hwz⟩ : ∃ wz, wz = z.w := ⟨_, rfl⟩
    rw [← hwz] at HZ ⊢
    clear k2 k3 k4 k5 k6 k7 k8 k9 k10 hwz z
    go_wp2_with fail
    go_ret2
    exact ⟨by rw [HC0.out, ← HQ.out]; rfl, HBX.out.trans (HZ.out.mono HBX.out.size)⟩
end Go.Proofs.YtpkgiojicbdcfaaGreatDoor
