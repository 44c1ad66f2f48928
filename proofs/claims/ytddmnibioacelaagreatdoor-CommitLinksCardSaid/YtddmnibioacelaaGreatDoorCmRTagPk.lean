/-
  The walks of the reference's CheckTag and TagBody.
-/
import Derived.Test.YtddmnibioacelaaGreatDoorCmRTagPPk
import Derived.Test.YtddmnibioacelaaGreatDoorIdRDigit
import Derived.Test.YtddmnibioacelaaGreatDoorIdHexPk
import Derived.Test.YtddmnibioacelaaGreatDoorCmBodyPk
import Derived.BigQuiet
import Derived.Deep.QuietTactic
namespace Go.Proofs.YtddmnibioacelaaGreatDoor
open Go Go.RowKit Go.Maps Go.WideMaps

set_option maxHeartbeats 4000000 in
set_option maxRecDepth 4000 in
theorem rgcheck_any (g : Tg) (w : World)
    (hs : g.o.size ≤ 140737488355328 ∧ g.n.size ≤ 140737488355328 ∧ g.g.n.size ≤ 140737488355328 ∧ g.g.m.size ≤ 140737488355328 ∧ g.x.size ≤ 140737488355328) :
    Calls Tryz.prog 22 #[.agg #[.string g.o, .int .i64 g.k, .string g.n, .string g.g.n, .string g.g.m, .int .i64 g.g.t, .int .i64 g.g.z, .string g.x]] w
      fun e w' => e = .returned (.int .i64 (chkG g : Int)) ∧ Below w.heap.size w w' := by
  obtain ⟨R, hR⟩ : ∃ R, R = chkG g := ⟨_, rfl⟩
  rw [← hR]
  rw [chkG_bad] at hR
  obtain ⟨t, k, n, ⟨an, am, aT, az⟩, x⟩ := g
  simp only at *
  obtain ⟨hs1, hs2, hs3, hs4, hs5⟩ := hs
  obtain ⟨b1, hb1⟩ : ∃ b, b = isId t := ⟨_, rfl⟩
  obtain ⟨b4, hb4⟩ : ∃ b, b = okPn ⟨an, am, aT, az⟩ := ⟨_, rfl⟩
  obtain ⟨z, hz⟩ : ∃ b, b = x.data.toList.any fun b => b == 0 := ⟨_, rfl⟩
  rw [← hb1, ← hb4, ← hz] at hR
  obtain ⟨V, hV⟩ : ∃ V, V = badG b1 k n.size b4 z := ⟨_, rfl⟩
  rw [← hV] at hR
  have HR := Lib.hid hR
  have HV := Lib.hid hV
  obtain ⟨w1, hw1⟩ : ∃ w1, w1 = w.alloc (.cells #[.string t, .int .i64 k, .string n, .string an, .string am, .int .i64 aT, .int .i64 az, .string x] 37) := ⟨_, rfl⟩
  have hx := heap_alloc_new w (.cells #[.string t, .int .i64 k, .string n, .string an, .string am, .int .i64 aT, .int .i64 az, .string x] 37)
  rw [← hw1] at hx
  have hbx : Below w.heap.size w w1 := by rw [hw1]; exact below_new (Below.refl _ _) _
  have hlt : w.heap.size < w1.heap.size := row_lt hx
  have HI : Hid (∀ w', Calls Tryz.prog 40 #[.string t] w' fun e w'' => e = .returned (.bool b1) ∧ w' = w'') := fun w' => by rw [hb1]; exact ris_any t w' hs1
  have HA : Hid (∀ w', Below w1.heap.size w1 w' → Calls Tryz.prog 26 #[.agg #[.string an, .string am, .int .i64 aT, .int .i64 az]] w' fun e w'' => e = .returned (.bool b4) ∧ Below w1.heap.size w1 w'') := fun w' hb => by
    rw [hb4]
    exact (rperson_any ⟨an, am, aT, az⟩ w' hs3 hs4).mono fun e w'' ⟨he, hw⟩ => ⟨he, hb.trans (hw.mono hb.size)⟩
  have HZ : Hid (∀ w', Below w1.heap.size w1 w' → Calls Tryz.prog 41 #[.string x] w' fun e w'' => e = .returned (.bool z) ∧ Below w1.heap.size w1 w'') := fun w' hb => by
    rw [hz]
    exact (rzero_any x w' hs5).mono fun e w'' ⟨he, hw⟩ => ⟨he, hb.trans (hw.mono hb.size)⟩
  have HX := Lib.hid hx
  have HLT := Lib.hid hlt
  have HBX := Lib.hid hbx
  have HW1 := Lib.hid hw1
  have hb0 := Below.refl w1.heap.size w1
  obtain ⟨x0, x1, x2, x3, x4, x5, x6, x7⟩ := tg_at hx
  clear hR hV hs1 hs3 hs4 hs5 hb1 hb4 hz hw1 hx hbx hlt
  go_enter Tryz.func22, Tryz.ntmps22
  go_upto_region 1 with fail
  rw [← HW1.out]
  go_cut [3] from 5 to 41 (fun v wx => v = .bool V ∧ Hid (Below w1.heap.size w1 wx))
  case first =>
    clear HR
    rcases b1 with _ | _
    · have HQ : Hid (V = true) := by show _ = _; rw [HV.out, badG]; simp []
      clear HV
      go_wp2_with (first
            | (go_at_call 40; ((with_reducible refine (HI.out _).mono ?_); rintro e wa ⟨rfl, rfl⟩))
            | (go_at_call 26; ((with_reducible refine (HA.out _ hb0).mono ?_); rintro e wd ⟨rfl, hb3⟩; obtain ⟨u0, u1, u2, u3, u4, u5, u6, u7⟩ := tg_at ((hb3.block _ HLT.out).trans HX.out)))
            | (go_at_call 41; ((with_reducible refine (HZ.out _ hb3).mono ?_); rintro e we ⟨rfl, hb4⟩)))
      go_meet
      exact ⟨by rw [HQ.out], hb0⟩
    by_cases h1 : k < 1
    · have HQ : Hid (V = true) := by show _ = _; rw [HV.out, badG]; simp [h1]
      clear HV
      go_wp2_with (first
            | (go_at_call 40; ((with_reducible refine (HI.out _).mono ?_); rintro e wa ⟨rfl, rfl⟩))
            | (go_at_call 26; ((with_reducible refine (HA.out _ hb0).mono ?_); rintro e wd ⟨rfl, hb3⟩; obtain ⟨u0, u1, u2, u3, u4, u5, u6, u7⟩ := tg_at ((hb3.block _ HLT.out).trans HX.out)))
            | (go_at_call 41; ((with_reducible refine (HZ.out _ hb3).mono ?_); rintro e we ⟨rfl, hb4⟩)))
      go_meet
      exact ⟨by rw [HQ.out], hb0⟩
    by_cases h2 : 4 < k
    · have HQ : Hid (V = true) := by show _ = _; rw [HV.out, badG]; simp [h2]
      clear HV
      go_wp2_with (first
            | (go_at_call 40; ((with_reducible refine (HI.out _).mono ?_); rintro e wa ⟨rfl, rfl⟩))
            | (go_at_call 26; ((with_reducible refine (HA.out _ hb0).mono ?_); rintro e wd ⟨rfl, hb3⟩; obtain ⟨u0, u1, u2, u3, u4, u5, u6, u7⟩ := tg_at ((hb3.block _ HLT.out).trans HX.out)))
            | (go_at_call 41; ((with_reducible refine (HZ.out _ hb3).mono ?_); rintro e we ⟨rfl, hb4⟩)))
      go_meet
      exact ⟨by rw [HQ.out], hb0⟩
    by_cases h3 : n.size < 1
    · have HN : Hid (n.size < 1) := h3
      have g1 : ((n.size : Int) < 1) := by omega
      clear h3
      have HQ : Hid (V = true) := by show _ = _; rw [HV.out, badG]; simp [HN.out]
      clear HV
      go_wp2_with (first
            | (go_at_call 40; ((with_reducible refine (HI.out _).mono ?_); rintro e wa ⟨rfl, rfl⟩))
            | (go_at_call 26; ((with_reducible refine (HA.out _ hb0).mono ?_); rintro e wd ⟨rfl, hb3⟩; obtain ⟨u0, u1, u2, u3, u4, u5, u6, u7⟩ := tg_at ((hb3.block _ HLT.out).trans HX.out)))
            | (go_at_call 41; ((with_reducible refine (HZ.out _ hb3).mono ?_); rintro e we ⟨rfl, hb4⟩)))
      go_meet
      exact ⟨by rw [HQ.out], hb0⟩
    have h3' : ¬ ((n.size : Int) < 1) := by omega
    by_cases h4 : 64 < n.size
    · have HN : Hid (64 < n.size) := h4
      have g1 : (64 < (n.size : Int)) := by omega
      clear h4
      have HQ : Hid (V = true) := by show _ = _; rw [HV.out, badG]; simp [HN.out]
      clear HV
      go_wp2_with (first
            | (go_at_call 40; ((with_reducible refine (HI.out _).mono ?_); rintro e wa ⟨rfl, rfl⟩))
            | (go_at_call 26; ((with_reducible refine (HA.out _ hb0).mono ?_); rintro e wd ⟨rfl, hb3⟩; obtain ⟨u0, u1, u2, u3, u4, u5, u6, u7⟩ := tg_at ((hb3.block _ HLT.out).trans HX.out)))
            | (go_at_call 41; ((with_reducible refine (HZ.out _ hb3).mono ?_); rintro e we ⟨rfl, hb4⟩)))
      go_meet
      exact ⟨by rw [HQ.out], hb0⟩
    have h4' : ¬ (64 < (n.size : Int)) := by omega
    rcases b4 with _ | _
    · have HQ : Hid (V = true) := by show _ = _; rw [HV.out, badG]; simp []
      clear HV
      go_wp2_with (first
            | (go_at_call 40; ((with_reducible refine (HI.out _).mono ?_); rintro e wa ⟨rfl, rfl⟩))
            | (go_at_call 26; ((with_reducible refine (HA.out _ hb0).mono ?_); rintro e wd ⟨rfl, hb3⟩; obtain ⟨u0, u1, u2, u3, u4, u5, u6, u7⟩ := tg_at ((hb3.block _ HLT.out).trans HX.out)))
            | (go_at_call 41; ((with_reducible refine (HZ.out _ hb3).mono ?_); rintro e we ⟨rfl, hb4⟩)))
      go_meet
      exact ⟨by rw [HQ.out], hb3⟩
    have HQ : Hid (V = z) := by show _ = _; rw [HV.out, badG]; simp [h1, h2, h3, h4]
    clear HV
    rcases z with _ | _
    · go_wp2_with (first
      | (go_at_call 40; ((with_reducible refine (HI.out _).mono ?_); rintro e wa ⟨rfl, rfl⟩))
      | (go_at_call 26; ((with_reducible refine (HA.out _ hb0).mono ?_); rintro e wd ⟨rfl, hb3⟩; obtain ⟨u0, u1, u2, u3, u4, u5, u6, u7⟩ := tg_at ((hb3.block _ HLT.out).trans HX.out)))
      | (go_at_call 41; ((with_reducible refine (HZ.out _ hb3).mono ?_); rintro e we ⟨rfl, hb4⟩)))
      go_meet
      exact ⟨by rw [HQ.out]; simp [h1, h2, h3', h4'], hb4⟩
    · go_wp2_with (first
      | (go_at_call 40; ((with_reducible refine (HI.out _).mono ?_); rintro e wa ⟨rfl, rfl⟩))
      | (go_at_call 26; ((with_reducible refine (HA.out _ hb0).mono ?_); rintro e wd ⟨rfl, hb3⟩; obtain ⟨u0, u1, u2, u3, u4, u5, u6, u7⟩ := tg_at ((hb3.block _ HLT.out).trans HX.out)))
      | (go_at_call 41; ((with_reducible refine (HZ.out _ hb3).mono ?_); rintro e we ⟨rfl, hb4⟩)))
      go_meet
      exact ⟨by rw [HQ.out], hb4⟩
  case rest =>
    obtain ⟨rfl, HB1⟩ := hcut
    clear HV HI HA HZ hb0 x0 x1 x2 x3 x4 x5 x6 x7
    have HN0 : Hid (n.size = n.data.toList.length) := (list_len n).symm
    go_wp2_with fail
    go_loopw [3, 4] (fun bv iv wr => ∃ k : Nat, k ≤ n.size ∧ iv = .int .i64 (k : Int) ∧ bv = .bool (V || lowB (n.data.toList.take k)) ∧ Hid (Below w1.heap.size w1 wr)) (fun _ iv _ => n.size - (intOf iv).toNat)
    case atStart => exact ⟨0, by omega, rfl, by simp [lowB], HB1.out⟩
    case round =>
      clear HB1
      obtain ⟨k, hk, rfl, rfl, HB⟩ := hrel
      obtain ⟨c0, c1, c2, c3, c4, c5, c6, c7⟩ := tg_at ((HB.out.block _ HLT.out).trans HX.out)
      by_cases hlt : k < n.size
      · have hd := lowB_next n k hlt
        obtain ⟨U, hU⟩ : ∃ U, U = (V || lowB (n.data.toList.take k)) := ⟨_, rfl⟩
        have HU : Hid ((V || lowB (n.data.toList.take (k + 1))) = (U || decide (n[k].toNat ≤ 32))) := by show _ = _; rw [hd, hU, Bool.or_assoc]
        rw [← hU]
        clear hU hd
        rcases U with _ | _
        · by_cases h0 : n[k].toNat ≤ 32
          · have HY : Hid ((V || lowB (n.data.toList.take (k + 1))) = true) := by show _ = _; rw [HU.out, decide_eq_true h0]; rfl
            have g0 : (n[k].toNat : Int) ≤ 32 := by omega
            clear HU h0
            go_wp2_with fail
            go_roundw
            case rel => exact ⟨k + 1, by omega, by go_num, by rw [HY.out], HB.out⟩
            case measure => simp [intOf]; omega
          · have HY : Hid ((V || lowB (n.data.toList.take (k + 1))) = false) := by show _ = _; rw [HU.out, decide_eq_false h0]; rfl
            have g0 : ¬ (n[k].toNat : Int) ≤ 32 := by omega
            clear HU h0
            go_wp2_with fail
            go_roundw
            case rel => exact ⟨k + 1, by omega, by go_num, by rw [HY.out], HB.out⟩
            case measure => simp [intOf]; omega
        · have HY : Hid ((V || lowB (n.data.toList.take (k + 1))) = true) := by show _ = _; rw [HU.out]; rfl
          clear HU
          go_wp2_with fail
          go_roundw
          case rel => exact ⟨k + 1, by omega, by go_num, by rw [HY.out], HB.out⟩
          case measure => simp [intOf]; omega
      · have hkn : k = n.size := by omega
        have htk : n.data.toList.take k = n.data.toList := by rw [hkn, HN0.out]; exact List.take_length
        rw [htk]
        clear htk
        obtain ⟨U, hU⟩ : ∃ U, U = (V || lowB n.data.toList) := ⟨_, rfl⟩
        rw [← hU]
        have HR2 : Hid (R = if U = true then 1 else if 4096 < x.size then 4 else 0) := by show _ = _; rw [HR.out, hU]
        clear hU HR hkn
        rcases U with _ | _
        · by_cases h1 : 4096 < x.size
          · have HQ : Hid (R = 4) := by show _ = _; rw [HR2.out, if_neg (by decide), if_pos h1]
            have g1 : (4096 : Int) < (x.size : Int) := by omega
            clear HR2 h1
            go_wp2_with fail
            go_ret
            exact ⟨by rw [HQ.out]; rfl, HBX.out.trans (HB.out.mono HBX.out.size)⟩
          · have HQ : Hid (R = 0) := by show _ = _; rw [HR2.out, if_neg (by decide), if_neg h1]
            have g1 : ¬ (4096 : Int) < (x.size : Int) := by omega
            clear HR2 h1
            go_wp2_with fail
            go_ret
            exact ⟨by rw [HQ.out]; rfl, HBX.out.trans (HB.out.mono HBX.out.size)⟩
        · have HQ : Hid (R = 1) := by show _ = _; rw [HR2.out, if_pos rfl]
          clear HR2
          go_wp2_with fail
          go_ret
          exact ⟨by rw [HQ.out]; rfl, HBX.out.trans (HB.out.mono HBX.out.size)⟩

set_option maxHeartbeats 4000000 in
set_option maxRecDepth 4000 in
theorem rgbody_any (g : Tg) (w : World)
    (hs : g.o.size ≤ 140737488355328 ∧ g.n.size ≤ 140737488355328 ∧ g.g.n.size ≤ 140737488355328 ∧ g.g.m.size ≤ 140737488355328 ∧ g.x.size ≤ 140737488355328) :
    Calls Tryz.prog 20 #[.agg #[.string g.o, .int .i64 g.k, .string g.n, .string g.g.n, .string g.g.m, .int .i64 g.g.t, .int .i64 g.g.z, .string g.x]] w
      fun e w' => e = .returned (.tuple #[.string (str (bodyG g)), .int .i64 (chkG g : Int)]) ∧ Below w.heap.size w w' := by
  have hck := fun w' => rgcheck_any g w' hs
  obtain ⟨C, hC⟩ : ∃ C, C = chkG g := ⟨_, rfl⟩
  obtain ⟨R, hR⟩ : ∃ R, R = str (bodyG g) := ⟨_, rfl⟩
  have hok := @chkG_ok g
  rw [← hC] at hck hok ⊢
  rw [← hR]
  unfold bodyG at hR
  rw [← hC] at hR
  obtain ⟨t, k, n, ⟨an, am, aT, az⟩, x⟩ := g
  simp only at hs hck hok
  obtain ⟨w1, hw1⟩ : ∃ w1, w1 = w.alloc (.cells #[.string t, .int .i64 k, .string n, .string an, .string am, .int .i64 aT, .int .i64 az, .string x] 37) := ⟨_, rfl⟩
  have hx := heap_alloc_new w (.cells #[.string t, .int .i64 k, .string n, .string an, .string am, .int .i64 aT, .int .i64 az, .string x] 37)
  rw [← hw1] at hx
  have hbx : Below w.heap.size w w1 := by rw [hw1]; exact below_new (Below.refl _ _) _
  have HCK := Lib.hid (hck w1)
  have HBX := Lib.hid hbx
  have HW1 := Lib.hid hw1
  have HX := Lib.hid hx
  obtain ⟨x0, x1, x2, x3, x4, x5, x6, x7⟩ := tg_at hx
  by_cases h0 : C = 0
  case neg =>
    have HQ : Hid (R = ⟨#[]⟩) := by show _ = _; rw [hR, if_neg h0]; rfl
    have g0 : ((C : Int) != 0) = true := by simp; omega
    clear hck hok hR hw1 hx hbx h0 hs hC
    go_enter Tryz.func20, Tryz.ntmps20
    go_upto_region 1 with fail
    rw [← HW1.out]
    go_wp2_with (go_at_call 22; ((with_reducible refine (HCK.out).mono ?_); rintro e w2 ⟨rfl, hb2⟩))
    go_ret2
    exact ⟨by rw [HQ.out]; rfl, HBX.out.trans (hb2.mono HBX.out.size)⟩
  have g0 : ((C : Int) != 0) = false := by simp [h0]
  obtain ⟨ho, hx4⟩ := hok h0
  obtain ⟨i1, i2, i3, i4, -⟩ := okG_parts ho
  simp only at i1 i2 i3 i4 hx4
  have ht40 : t.size ≤ 40 := by rw [isId_size i1]; exact Nat.le_refl _
  have hn64 := tagN_size i3
  obtain ⟨A, hA⟩ : ∃ A, A = whoL ⟨an, am, aT, az⟩ := ⟨_, rfl⟩
  have hA1 : A.size ≤ 157 := by rw [hA]; exact whoL_size i4
  obtain ⟨W, hW⟩ : ∃ W, W = str (wordL k) := ⟨_, rfl⟩
  have hW1 : W.size ≤ 6 := by rw [hW]; exact wordL_size k
  have HR : Hid ((⟨#[111, 98, 106, 101, 99, 116, 32]⟩ : ByteArray) ++ t ++ ⟨#[10, 116, 121, 112, 101, 32]⟩ ++ W ++ ⟨#[10, 116, 97, 103, 32]⟩ ++ n ++ ⟨#[10, 116, 97, 103, 103, 101, 114, 32]⟩ ++ A ++ ⟨#[10, 10]⟩ ++ x = R) := by
    show _ = _
    rw [hR, if_pos h0, encG]
    refine ba_ext ?_
    rw [str_list]
    simp only [app_list, hA, hW, str_list, lineL, wObj, wTyp, wTag, wTgr]
    simp
  have pa := okPn_parts i4
  simp only at pa
  have HA : Hid (∀ y : BelW w1, Calls Tryz.prog 27 #[.agg #[.string an, .string am, .int .i64 aT, .int .i64 az]] y.w fun e w'' => e = .returned (.string A) ∧ ∃ z : BelW w1, w'' = z.w) := fun y => by
    rw [hA]
    exact Calls.bel_class (rfmt_any ⟨an, am, aT, az⟩ y.w hs.2.2.1 hs.2.2.2.1 (by simp only; omega) (by simp only; omega) (by simp only; omega))
  have HD : Hid (∀ y : BelW w1, Calls Tryz.prog 52 #[.int .i64 k] y.w fun e w'' => e = .returned (.string W) ∧ ∃ z : BelW w1, w'' = z.w) := fun y => by
    rw [hW]
    exact Calls.same_class (rword_any k y.w)
  have k0 : ∀ y : BelW w1, y.w.cell? ⟨w.heap.size, 0, none⟩ = some (.string t) := fun y => cell_bel x0 y.h
  have k1 : ∀ y : BelW w1, y.w.cell? ⟨w.heap.size, 1, none⟩ = some (.int .i64 k) := fun y => cell_bel x1 y.h
  have k2 : ∀ y : BelW w1, y.w.cell? ⟨w.heap.size, 2, none⟩ = some (.string n) := fun y => cell_bel x2 y.h
  have k3 : ∀ y : BelW w1, y.w.cell? ⟨w.heap.size, 3, none⟩ = some (.string an) := fun y => cell_bel x3 y.h
  have k4 : ∀ y : BelW w1, y.w.cell? ⟨w.heap.size, 4, none⟩ = some (.string am) := fun y => cell_bel x4 y.h
  have k5 : ∀ y : BelW w1, y.w.cell? ⟨w.heap.size, 5, none⟩ = some (.int .i64 aT) := fun y => cell_bel x5 y.h
  have k6 : ∀ y : BelW w1, y.w.cell? ⟨w.heap.size, 6, none⟩ = some (.int .i64 az) := fun y => cell_bel x6 y.h
  have k7 : ∀ y : BelW w1, y.w.cell? ⟨w.heap.size, 7, none⟩ = some (.string x) := fun y => cell_bel x7 y.h
  have HC0 := Lib.hid h0
  clear hck hok hR hw1 hx hbx h0 hs hC ho i1 i2 i3 i4 hA hW pa
  go_enter Tryz.func20, Tryz.ntmps20
  go_upto_region 1 with fail
  rw [← HW1.out]
  go_upto_region 4 with (go_at_call 22; ((with_reducible refine (HCK.out).mono ?_); rintro e w2 ⟨rfl, hb2⟩))
  clear x0 x1 x2 x3 x4 x5 x6 x7 HCK
  have hq : Nonempty (BelW w1) := ⟨⟨w1, Below.refl _ _⟩⟩
  refine wp_region_bel (w0 := w1) hb2 (by kernel_rfl) (by kernel_rfl) ?_
  repeat (go_big_quiet_step (first
    | (go_at_call 27; (with_reducible exact HA.out _))
    | (go_at_call 52; (with_reducible exact HD.out _))))
  refine wpQuiet_nil ?_
  rintro _ ⟨z, rfl⟩
  have HZ := Lib.hid z.h
  obtain ⟨wz, hwz⟩ : ∃ wz, wz = z.w := ⟨_, rfl⟩
  rw [← hwz] at HZ ⊢
  clear k0 k1 k2 k3 k4 k5 k6 k7 hwz z
  go_wp2_with fail
  go_ret2
  exact ⟨by rw [HC0.out, ← HR.out]; rfl, HBX.out.trans (HZ.out.mono HBX.out.size)⟩
end Go.Proofs.YtddmnibioacelaaGreatDoor
/-
  The walk of the reference's Same.
-/
namespace Go.Proofs.YtddmnibioacelaaGreatDoor
open Go Go.RowKit Go.Maps Go.WideMaps

theorem drop_eq_iffC {X Y : List (List UInt8)} {k : Nat} (hx : k < X.length) (hy : k < Y.length) : decide (X.drop k = Y.drop k) = (decide (X[k] = Y[k]) && decide (X.drop (k + 1) = Y.drop (k + 1))) := by
  rw [List.drop_eq_getElem_cons hx, List.drop_eq_getElem_cons hy, Bool.eq_iff_iff]
  simp only [decide_eq_true_eq, Bool.and_eq_true, List.cons.injEq]
theorem str_neC {a b : List UInt8} (h : a ≠ b) : ((str a).toList == (str b).toList) = false := by
  rw [ByteArray.toList_eq, ByteArray.toList_eq, str_list, str_list]
  simpa using h

set_option maxHeartbeats 1000000 in
set_option maxRecDepth 4000 in
theorem rsame6C_any (X Y : List (List UInt8)) (p q : Option Addr) (c d n m : Nat) (w : World) (hn : n = X.length) (hm : m = Y.length) (hp : SRw w p X) (hq : SRw w q Y) (hl : n ≤ 1099511627776) :
    Calls Tryz.prog 32 #[.slice p n c, .slice q m d] w fun e w' => e = .returned (.bool (decide (X = Y))) ∧ ∃ k, w' = w.drewN k := by
  obtain ⟨R, hR⟩ : ∃ R, R = decide (X = Y) := ⟨_, rfl⟩
  rw [← hR]
  by_cases hnm : n = m
  · subst hnm
    have HN : Hid (n = X.length) := hn
    have HM : Hid (n = Y.length) := hm
    have HB : Hid (R = decide (X.drop 0 = Y.drop 0)) := hR
    clear hn hm hR
    go_enter Tryz.func32, Tryz.ntmps32
    go_wp2
    go_loopw [5] (fun i wr => ∃ (k m : Nat), k ≤ n ∧ i = .int .i64 k ∧ Hid (R = decide (X.drop k = Y.drop k)) ∧ wr = w.drewN m) (fun i _ => n - (intOf i).toNat)
    case atStart => exact ⟨0, 0, by omega, rfl, HB.out, rfl⟩
    case round =>
      clear HB
      obtain ⟨k, m, hk, rfl, HB, rfl⟩ := hrel
      by_cases hlt : k < n
      · have hx : k < X.length := by rw [← HN.out]; exact hlt
        have hy : k < Y.length := by rw [← HM.out]; exact hlt
        obtain ⟨g, o, rfl, hg, a0⟩ := hp k hx
        obtain ⟨h, o2, rfl, hh, b0⟩ := hq k hy
        have hb := HB.out
        rw [drop_eq_iffC hx hy] at hb
        by_cases he : X[k] = Y[k]
        · rw [decide_eq_true he, Bool.true_and] at hb
          have HR := Lib.hid hb
          obtain ⟨t, ht⟩ : ∃ t, t = str X[k] := ⟨_, rfl⟩
          rw [← he, ← ht] at b0
          rw [← ht] at a0
          clear ht hg hh he hb HB
          go_wp2
          go_quiet (fail)
          go_wp2
          go_roundw
          case rel => exact ⟨k + 1, _, by omega, by go_num, HR.out, rfl⟩
          case measure => simp [intOf]; omega
        · rw [decide_eq_false he, Bool.false_and] at hb
          have HR := Lib.hid hb
          have hne := str_neC he
          obtain ⟨t, ht⟩ : ∃ t, t = str X[k] := ⟨_, rfl⟩
          obtain ⟨u, hu⟩ : ∃ u, u = str Y[k] := ⟨_, rfl⟩
          rw [← hu] at b0 hne
          rw [← ht] at a0 hne
          clear ht hu hg hh he hb HB
          go_wp2
          go_quiet (fail)
          go_wp2
          go_ret
          exact ⟨by rw [HR.out]; rfl, _, World.drewN_drewN _ _ _⟩
      · obtain rfl : k = n := by omega
        have hb := HB.out
        rw [List.drop_of_length_le (by have := HN.out; omega), List.drop_of_length_le (by have := HM.out; omega)] at hb
        have HR : Hid (R = true) := by show _ = _; rw [hb]; simp
        clear hb HB
        go_wp2
        go_ret
        exact ⟨by rw [HR.out]; rfl, m, rfl⟩
  · have HR : Hid (R = false) := by
      show _ = _
      rw [hR]
      exact decide_eq_false fun e => hnm (by rw [hn, hm, e])
    have hnmi : ¬ (n : Int) = (m : Int) := by omega
    clear hR hn hm
    go_enter Tryz.func32, Tryz.ntmps32
    go_wp2
    go_ret
    exact ⟨by rw [HR.out]; rfl, 0, rfl⟩


theorem bal {a b : ByteArray} : a.toList = b.toList ↔ a = b := by
  rw [ByteArray.toList_eq, ByteArray.toList_eq]
  exact ⟨ba_ext, fun h => by rw [h]⟩
set_option maxHeartbeats 4000000 in
set_option maxRecDepth 4000 in
theorem csame_any (c d : Cm) (ap bp : Option Addr) (aN ac bN bc : Nat) (w : World) (ha : aN = c.ps.length) (hb : bN = d.ps.length) (hp : SRw w ap c.ps) (hq : SRw w bp d.ps) (hl : aN ≤ 1099511627776) :
    Calls Tryz.prog 15 #[.agg #[.string c.t, .slice ap aN ac, .string c.a.n, .string c.a.m, .int .i64 c.a.t, .int .i64 c.a.z, .string c.c.n, .string c.c.m, .int .i64 c.c.t, .int .i64 c.c.z, .string c.x], .agg #[.string d.t, .slice bp bN bc, .string d.a.n, .string d.a.m, .int .i64 d.a.t, .int .i64 d.a.z, .string d.c.n, .string d.c.m, .int .i64 d.c.t, .int .i64 d.c.z, .string d.x]] w
      fun e w' => ∃ R, e = .returned (.bool R) ∧ (R = true ↔ c = d) ∧ Below w.heap.size w w' := by
  obtain ⟨aat, aps, ⟨aan, aam, aaT, aaz⟩, ⟨acn, acm, acT, acz⟩, ax⟩ := c
  obtain ⟨bt, bps, ⟨ban, bam, baT, baz⟩, ⟨bcn, bcm, bcT, bcz⟩, bx⟩ := d
  simp only at ha hb hp hq ⊢
  obtain ⟨R, hR⟩ : ∃ R : Bool, R = true ↔ ((⟨aat, aps, ⟨aan, aam, aaT, aaz⟩, ⟨acn, acm, acT, acz⟩, ax⟩ : Cm) = ⟨bt, bps, ⟨ban, bam, baT, baz⟩, ⟨bcn, bcm, bcT, bcz⟩, bx⟩) := by
    by_cases h : ((⟨aat, aps, ⟨aan, aam, aaT, aaz⟩, ⟨acn, acm, acT, acz⟩, ax⟩ : Cm) = ⟨bt, bps, ⟨ban, bam, baT, baz⟩, ⟨bcn, bcm, bcT, bcz⟩, bx⟩)
    · exact ⟨true, by simp [h]⟩
    · exact ⟨false, by simp [h]⟩
  refine Calls.mono (?_ : Calls _ _ _ _ fun e w' => e = .returned (.bool R) ∧ Below w.heap.size w w') fun e w' ⟨h1, h2⟩ => ⟨R, h1, hR, h2⟩
  obtain ⟨D, hD⟩ : ∃ D, D = decide (aps = bps) := ⟨_, rfl⟩
  have HF : Hid ((¬ aat.toList = bt.toList ∨ ¬ aan.toList = ban.toList ∨ ¬ aam.toList = bam.toList ∨ ¬ aaT = baT ∨ ¬ aaz = baz ∨ ¬ acn.toList = bcn.toList ∨ ¬ acm.toList = bcm.toList ∨ ¬ acT = bcT ∨ ¬ acz = bcz ∨ ¬ ax.toList = bx.toList) → R = false) := fun h => by
    rw [← Bool.not_eq_true, hR]
    intro he
    simp only [Cm.mk.injEq, Pn.mk.injEq] at he
    obtain ⟨e1, e2, ⟨e3, e4, e5, e6⟩, ⟨e7, e8, e9, e10⟩, e11⟩ := he
    simp [e1, e3, e4, e5, e6, e7, e8, e9, e10, e11] at h
  have HT : Hid (aat.toList = bt.toList → aan.toList = ban.toList → aam.toList = bam.toList → aaT = baT → aaz = baz → acn.toList = bcn.toList → acm.toList = bcm.toList → acT = bcT → acz = bcz → ax.toList = bx.toList → R = D) := fun e1 e3 e4 e5 e6 e7 e8 e9 e10 e11 => by
    rw [Bool.eq_iff_iff, hR, hD, decide_eq_true_eq]
    rw [bal] at e1 e3 e4 e7 e8 e11
    simp [e1, e3, e4, e5, e6, e7, e8, e9, e10, e11]
  obtain ⟨wA, hwA⟩ : ∃ wA, wA = w.alloc (.cells #[.string aat, .slice ap aN ac, .string aan, .string aam, .int .i64 aaT, .int .i64 aaz, .string acn, .string acm, .int .i64 acT, .int .i64 acz, .string ax] 26) := ⟨_, rfl⟩
  obtain ⟨w1, hw1⟩ : ∃ w1, w1 = wA.alloc (.cells #[.string bt, .slice bp bN bc, .string ban, .string bam, .int .i64 baT, .int .i64 baz, .string bcn, .string bcm, .int .i64 bcT, .int .i64 bcz, .string bx] 26) := ⟨_, rfl⟩
  obtain ⟨A, hA⟩ : ∃ A, A = w.heap.size := ⟨_, rfl⟩
  obtain ⟨B, hB⟩ : ∃ B, B = w.heap.size + 1 := ⟨_, rfl⟩
  have hx : w1.heap[B]? = some (.cells #[.string bt, .slice bp bN bc, .string ban, .string bam, .int .i64 baT, .int .i64 baz, .string bcn, .string bcm, .int .i64 bcT, .int .i64 bcz, .string bx] 26 (0, 0)) := by rw [hw1, hB, show w.heap.size + 1 = wA.heap.size by rw [hwA]; simp]; exact heap_alloc_new wA _
  have hya : wA.heap[A]? = some (.cells #[.string aat, .slice ap aN ac, .string aan, .string aam, .int .i64 aaT, .int .i64 aaz, .string acn, .string acm, .int .i64 acT, .int .i64 acz, .string ax] 26 (0, 0)) := by rw [hwA, hA]; exact heap_alloc_new w _
  have hy : w1.heap[A]? = some (.cells #[.string aat, .slice ap aN ac, .string aan, .string aam, .int .i64 aaT, .int .i64 aaz, .string acn, .string acm, .int .i64 acT, .int .i64 acz, .string ax] 26 (0, 0)) := by rw [hw1]; exact row_alloc hya (row_lt hya)
  have hbx : Below w.heap.size w w1 := by rw [hw1, hwA]; exact below_new (below_new (Below.refl _ _) _) _
  obtain ⟨x0, x1, x2, x3, x4, x5, x6, x7, x8, x9, x10⟩ := cm_at hx
  obtain ⟨y0, y1, y2, y3, y4, y5, y6, y7, y8, y9, y10⟩ := cm_at hy
  have HS : Hid (Calls Tryz.prog 32 #[.slice ap aN ac, .slice bp bN bc] w1 fun e w' => e = .returned (.bool D) ∧ Below w1.heap.size w1 w') :=
    (rsame6C_any aps bps ap bp ac bc aN bN w1 ha hb (hp.below hbx) (hq.below hbx) hl).mono fun e w' ⟨h1, k, h2⟩ => ⟨by rw [h1, hD], by rw [h2]; exact below_drewN (Below.refl _ _) k⟩
  have HBX := Lib.hid hbx
  have HWA := Lib.hid hwA
  have HW1 := Lib.hid hw1
  have HA := Lib.hid hA
  have HB := Lib.hid hB
  clear hx hy hw1 hwA hA hB hya hR hD ha hb hp hq hbx
  go_enter Tryz.func15, Tryz.ntmps15
  go_upto_region 1 with fail
  rw [← HB.out, ← HA.out, ← HWA.out, ← HW1.out]
  go_wp2_with (go_at_call 32; ((with_reducible refine (HS.out).mono ?_); rintro e w2 ⟨rfl, hb2⟩))
  all_goals go_ret
  all_goals first
    | exact ⟨by rw [HT.out (by assumption) (by assumption) (by assumption) (by assumption) (by assumption) (by assumption) (by assumption) (by assumption) (by assumption) (by assumption)]; rfl, HBX.out.trans (hb2.mono HBX.out.size)⟩
    | exact ⟨by rw [show R = false by (first | exact HF.out (.inl (by assumption)) | exact HF.out (.inr (.inl (by assumption))) | exact HF.out (.inr (.inr (.inl (by assumption)))) | exact HF.out (.inr (.inr (.inr (.inl (by assumption))))) | exact HF.out (.inr (.inr (.inr (.inr (.inl (by assumption)))))) | exact HF.out (.inr (.inr (.inr (.inr (.inr (.inl (by assumption))))))) | exact HF.out (.inr (.inr (.inr (.inr (.inr (.inr (.inl (by assumption)))))))) | exact HF.out (.inr (.inr (.inr (.inr (.inr (.inr (.inr (.inl (by assumption))))))))) | exact HF.out (.inr (.inr (.inr (.inr (.inr (.inr (.inr (.inr (.inl (by assumption)))))))))) | exact HF.out (.inr (.inr (.inr (.inr (.inr (.inr (.inr (.inr (.inr (by assumption)))))))))))]; rfl, HBX.out⟩
end Go.Proofs.YtddmnibioacelaaGreatDoor
