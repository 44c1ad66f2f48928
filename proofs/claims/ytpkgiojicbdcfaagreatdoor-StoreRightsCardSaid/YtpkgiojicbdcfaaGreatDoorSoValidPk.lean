/-
  The walk of the program's Valid.
-/
import Derived.Test.YtpkgiojicbdcfaaGreatDoorSoValPk
import Derived.Test.YtpkgiojicbdcfaaGreatDoorSoRowPk
import Derived.BigQuiet
import Derived.Deep.QuietTactic
import Derived.Test.YtpkgiojicbdcfaaGreatDoorSoReachPk
import Derived.Test.YtpkgiojicbdcfaaGreatDoorCmRChk
namespace Go.Proofs.YtpkgiojicbdcfaaGreatDoor
open Go Go.RowKit Go.Maps Go.WideMaps

set_option maxHeartbeats 8000000 in
set_option maxRecDepth 8000 in
theorem svalid_any (l : List It) (p : Option Addr) (n c : Nat) (w : World) (hT : StrTab w) (hO : WoTab w) (hTr : TrTab w) (hK : KTab w) (hn : n = l.length) (hp : ItRw w p l) (hs : ∀ x ∈ l, x.b.size ≤ 140737488355328) (hn2 : n ≤ 140737488355328) :
    Calls Tryz.prog 9 #[.agg #[.slice p n c]] w fun e w' => e = .returned (.bool (rightI l)) ∧ Below w.heap.size w w' := by
  obtain ⟨R, hR⟩ : ∃ R, R = rightI l := ⟨_, rfl⟩
  rw [← hR]
  obtain ⟨w1, hw1⟩ : ∃ w1, w1 = w.alloc (.cells #[.slice p n c] 24) := ⟨_, rfl⟩
  obtain ⟨B, hB⟩ : ∃ B, B = w.heap.size := ⟨_, rfl⟩
  have hx : w1.heap[B]? = some (.cells #[.slice p n c] 24 (0, 0)) := by rw [hw1, hB]; exact heap_alloc_new w _
  have hbx : Below w.heap.size w w1 := by rw [hw1]; exact below_new (Below.refl _ _) _
  have x0 : w1.cell? ⟨B, 0, none⟩ = some (.slice p n c) := cell_of_row _ _ 0 _ _ _ hx
  have HR := Lib.hid hR
  have HN := Lib.hid hn
  have HP := Lib.hid (hp.below hbx)
  have HS := Lib.hid hs
  have HBX := Lib.hid hbx
  have HW1 := Lib.hid hw1
  have HB := Lib.hid hB
  have HTT : Hid (∀ w', Below w1.heap.size w1 w' → StrTab w' ∧ WoTab w' ∧ TrTab w' ∧ KTab w') := fun w' h => ⟨(hT.below hbx).below h, (hO.below hbx).below h, (hTr.below hbx).below h, (hK.below hbx).below h⟩
  clear hR hn hp hs hbx hw1 hB hT hO hTr hK
  by_cases h0 : 65536 < n
  · have HQ : Hid (R = false) := by show _ = _; rw [HR.out]; exact rightI_big (by rw [← HN.out]; exact h0)
    have g0 : (65536 : Int) < (n : Int) := by omega
    clear h0 HR
    go_enter Tryz.func9, Tryz.ntmps9
    go_upto_region 1 with fail
    rw [← HW1.out, ← HB.out]
    go_wp2_with fail
    go_ret
    exact ⟨by rw [HQ.out]; rfl, HBX.out⟩
  have g0 : ¬ (65536 : Int) < (n : Int) := by omega
  have hn3 : n ≤ 65536 := by omega
  clear h0 hn2
  go_enter Tryz.func9, Tryz.ntmps9
  go_upto_region 1 with fail
  rw [← HW1.out, ← HB.out]
  go_wp2_with fail
  clear g0
  go_loopw [13] (fun iv wr => ∃ k : Nat, k ≤ n ∧ iv = .int .i64 (k : Int) ∧ Hid (∀ j, j < k → badI l j = false) ∧ Hid (Below w1.heap.size w1 wr)) (fun iv _ => n - (intOf iv).toNat)
  case atStart => exact ⟨0, by omega, rfl, fun j hj => absurd hj (Nat.not_lt_zero _), Below.refl _ _⟩
  case round =>
    obtain ⟨k, hk, rfl, HJ, HBW⟩ := hrel
    have c0 := cell_bel x0 HBW.out
    by_cases hlt : k < n
    · have hkl : k < l.length := by rw [← HN.out]; exact hlt
      have hpw := HP.out.below HBW.out
      have hbd : badI l k = ((decide (0 < k) && !(ltB (l.getD (k - 1) It.zero).i l[k].i)) || (!(decide ((lnkL l[k].k l[k].b.data.toList).1 = 0)) || !(decide (str (idL l[k].k l[k].b.data.toList) = l[k].i)))) := by rw [badI, getDI_at hkl]
      have hbs := HS.out _ (List.getElem_mem hkl)
      obtain ⟨y, hy⟩ : ∃ y, y = (l.getD (k - 1) It.zero).i := ⟨_, rfl⟩
      have hprev : 0 < k → ∃ g o, p = some ⟨g, o, none⟩ ∧ wr.cell? ⟨g, o + (k - 1) * 3, none⟩ = some (.string y) := fun h => by
        obtain ⟨g, o, h1, -, h2, -⟩ := hpw (k - 1) (by omega)
        exact ⟨g, o, h1, by rw [h2, hy, getDI_at (by omega)]⟩
      obtain ⟨g, o, hpe, hg, a0, a1, a2⟩ := hpw k hkl
      obtain ⟨e, he⟩ : ∃ e, e = l[k] := ⟨_, rfl⟩
      rw [← he] at a0 a1 a2 hbd hbs
      rw [← hy] at hbd
      obtain ⟨id, kd, bd⟩ := e
      simp only at a0 a1 a2 hbd hbs
      obtain ⟨W, hW⟩ : ∃ W, W = (lnkL kd bd.data.toList).1 := ⟨_, rfl⟩
      obtain ⟨D, hD⟩ : ∃ D, D = str (idL kd bd.data.toList) := ⟨_, rfl⟩
      have hwh := fun w' (h : Below w1.heap.size w1 w') => whole_any kd bd w' (HTT.out w' h).1 (HTT.out w' h).2.1 (HTT.out w' h).2.2.1 hbs bytesE_sz
      have hid := fun w' (h : Below w1.heap.size w1 w') => id_any kd bd w' (HTT.out w' h).2.1 (HTT.out w' h).1 (HTT.out w' h).2.2.2 hbs
      have HCT := Lib.hid (fun w' => content_any id kd bd w')
      rw [← hW] at hwh hbd
      rw [← hD] at hid hbd
      subst hpe
      obtain ⟨wI, hwI⟩ : ∃ wI, wI = wr.alloc (.cells #[.string id, .int .i64 kd, .string bd] 39) := ⟨_, rfl⟩
      obtain ⟨E, hE⟩ : ∃ E, E = wr.heap.size := ⟨_, rfl⟩
      have hi : wI.heap[E]? = some (.cells #[.string id, .int .i64 kd, .string bd] 39 (0, 0)) := by rw [hwI, hE]; exact heap_alloc_new _ _
      have hbI : Below wr.heap.size wr wI := by rw [hwI]; exact below_new (Below.refl _ _) _
      obtain ⟨i0, i1, i2⟩ := it_at hi
      have HWI := Lib.hid hwI
      have HE := Lib.hid hE
      clear hwI hE
      go_upto_region 6 with fail
      rw [← HWI.out, ← HE.out]
      go_upto_region 7 with (go_at_call 39; ((with_reducible refine (HCT.out _).mono ?_); rintro e wC ⟨rfl, hbC⟩))
      obtain ⟨wO, hwO⟩ : ∃ wO, wO = wC.alloc (.cells #[.int .i64 kd, .string bd] 29) := ⟨_, rfl⟩
      obtain ⟨O, hO⟩ : ∃ O, O = wC.heap.size := ⟨_, rfl⟩
      have ho : wO.heap[O]? = some (.cells #[.int .i64 kd, .string bd] 29 (0, 0)) := by rw [hwO, hO]; exact heap_alloc_new _ _
      have hbO : Below wI.heap.size wI wO := hbC.trans (by rw [hwO]; exact (below_new (Below.refl _ _) _).mono hbC.size)
      have hbr : Below wr.heap.size wr wO := hbI.trans (hbO.mono hbI.size)
      rw [← hwO, ← hO]
      have k0 : ∀ z : BelW wO, z.w.cell? ⟨E, 0, none⟩ = some (.string id) := fun z => cell_bel (cell_bel i0 hbO) z.h
      have k1 : ∀ z : BelW wO, z.w.cell? ⟨O, 0, none⟩ = some (.int .i64 kd) := fun z => cell_bel (cell_of_row _ _ 0 _ _ _ ho) z.h
      have k2 : ∀ z : BelW wO, z.w.cell? ⟨O, 1, none⟩ = some (.string bd) := fun z => cell_bel (cell_of_row _ _ 1 _ _ _ ho) z.h
      have k3 : ∀ z : BelW wO, z.w.cell? ⟨B, 0, none⟩ = some (.slice (some ⟨g, o, none⟩) n c) := fun z => cell_bel (cell_bel c0 hbr) z.h
      have HWH : Hid (∀ z : BelW wO, Calls Tryz.prog 40 #[.agg #[.int .i64 kd, .string bd]] z.w fun e w'' => e = .returned (.int .i64 (W : Int)) ∧ ∃ z : BelW wO, w'' = z.w) := fun z => Calls.bel_class (hwh z.w (HBW.out.trans ((hbr.trans (z.h.mono hbr.size)).mono HBW.out.size)))
      have HID : Hid (∀ z : BelW wO, Calls Tryz.prog 41 #[.agg #[.int .i64 kd, .string bd]] z.w fun e w'' => e = .returned (.string D) ∧ ∃ z : BelW wO, w'' = z.w) := fun z => Calls.bel_class (hid z.w (HBW.out.trans ((hbr.trans (z.h.mono hbr.size)).mono HBW.out.size)))
      have HBr := Lib.hid (HBW.out.trans (hbr.mono HBW.out.size))
      have hq : Nonempty (BelW wO) := ⟨⟨wO, Below.refl _ _⟩⟩
      have HBD := Lib.hid hbd
      have HKL := Lib.hid hkl
      have k4 : ∀ z : BelW wO, 0 < k → z.w.cell? ⟨g, o + (k - 1) * 3, none⟩ = some (.string y) := fun z h => by
        obtain ⟨g', o', h1, h2⟩ := hprev h
        simp only [Option.some.injEq, Addr.mk.injEq, and_true] at h1
        obtain ⟨rfl, rfl⟩ := h1
        exact cell_bel (cell_bel h2 hbr) z.h
      have HK4 := Lib.hid k4
      clear hwh hid hbd hbs hW hD hy he hprev hpw HWI HE HCT hi hbI hwO hO hbC ho hbO hbr i0 i1 i2 a0 a1 a2 c0 hkl hg k4
      by_cases hk0 : 0 < k
      case pos =>
        have gk : decide ((0 : Int) < (k : Int)) = true := decide_eq_true (by omega)
        have k4 : ∀ z : BelW wO, z.w.cell? ⟨g, o + (k - 1) * 3, none⟩ = some (.string y) := fun z => HK4.out z hk0
        obtain ⟨k', hk'⟩ : ∃ k', k' = k - 1 := ⟨_, rfl⟩
        have ek : (k : Int) - 1 = (k' : Int) := by omega
        have ek2 : IntKind.i64.wrap ((k : Int) - 1) = (k' : Int) := by rw [IntWalk.i64_in _ (by omega)]; omega
        have hk'n : k' < n := by omega
        have hk'i : (k' : Int) < (n : Int) := by omega
        rw [← hk'] at k4
        clear hk'
        cases hlt2 : ltB y id with
        | false =>
          have gl : Op.bytesLess y.toList id.toList = false := hlt2
          have HQ : Hid (R = false) := by
            show _ = _
            rw [HR.out]
            exact rightI_bad HKL.out (by rw [HBD.out, hlt2, decide_eq_true hk0]; rfl)
          clear hlt2
          refine wp_region_bel (w0 := wO) (Below.refl _ _) (by kernel_rfl) (by kernel_rfl) ?_
          repeat (go_big_quiet_step (first
            | (go_at_call 40; (with_reducible exact HWH.out _))
            | (go_at_call 41; (with_reducible exact HID.out _))))
          refine wpQuiet_nil ?_
          rintro _ ⟨z, rfl⟩
          have HZ := Lib.hid z.h
          obtain ⟨wz, hwz⟩ : ∃ wz, wz = z.w := ⟨_, rfl⟩
          rw [← hwz] at HZ ⊢
          clear hwz
          go_wp2_with fail
          go_ret
          exact ⟨by rw [HQ.out]; rfl, HBX.out.trans ((HBr.out.trans (HZ.out.mono HBr.out.size)).mono HBX.out.size)⟩
        | true =>
          have gl : Op.bytesLess y.toList id.toList = true := hlt2
          by_cases hw0 : W = 0
          case neg =>
            have gw : ((W : Int) != 0) = true := by simp; omega
            have HQ : Hid (R = false) := by
              show _ = _
              rw [HR.out]
              exact rightI_bad HKL.out (by rw [HBD.out, decide_eq_false hw0]; simp)
            clear hw0
            refine wp_region_bel (w0 := wO) (Below.refl _ _) (by kernel_rfl) (by kernel_rfl) ?_
            repeat (go_big_quiet_step (first
              | (go_at_call 40; (with_reducible exact HWH.out _))
              | (go_at_call 41; (with_reducible exact HID.out _))))
            refine wpQuiet_nil ?_
            rintro _ ⟨z, rfl⟩
            have HZ := Lib.hid z.h
            obtain ⟨wz, hwz⟩ : ∃ wz, wz = z.w := ⟨_, rfl⟩
            rw [← hwz] at HZ ⊢
            clear hwz
            go_wp2_with fail
            go_ret
            exact ⟨by rw [HQ.out]; rfl, HBX.out.trans ((HBr.out.trans (HZ.out.mono HBr.out.size)).mono HBX.out.size)⟩
          have gw : ((W : Int) != 0) = false := by simp [hw0]
          by_cases hd : D = id
          case neg =>
            have gd : (D.toList == id.toList) = false := by rw [str_dec]; exact decide_eq_false hd
            have HQ : Hid (R = false) := by
              show _ = _
              rw [HR.out]
              exact rightI_bad HKL.out (by rw [HBD.out, decide_eq_false hd]; simp)
            clear hw0 hd
            refine wp_region_bel (w0 := wO) (Below.refl _ _) (by kernel_rfl) (by kernel_rfl) ?_
            repeat (go_big_quiet_step (first
              | (go_at_call 40; (with_reducible exact HWH.out _))
              | (go_at_call 41; (with_reducible exact HID.out _))))
            refine wpQuiet_nil ?_
            rintro _ ⟨z, rfl⟩
            have HZ := Lib.hid z.h
            obtain ⟨wz, hwz⟩ : ∃ wz, wz = z.w := ⟨_, rfl⟩
            rw [← hwz] at HZ ⊢
            clear hwz
            go_wp2_with fail
            go_ret
            exact ⟨by rw [HQ.out]; rfl, HBX.out.trans ((HBr.out.trans (HZ.out.mono HBr.out.size)).mono HBX.out.size)⟩
          have gd : (D.toList == id.toList) = true := by rw [str_dec]; exact decide_eq_true hd
          have HJ2 : Hid (∀ j, j < k + 1 → badI l j = false) := fun j hj => by
            rcases Nat.lt_or_ge j k with h | h
            · exact HJ.out j h
            · obtain rfl : j = k := by omega
              rw [HBD.out, decide_eq_true hw0, decide_eq_true hd]
              simp [*]
          clear hw0 hd
          refine wp_region_bel (w0 := wO) (Below.refl _ _) (by kernel_rfl) (by kernel_rfl) ?_
          repeat (go_big_quiet_step (first
            | (go_at_call 40; (with_reducible exact HWH.out _))
            | (go_at_call 41; (with_reducible exact HID.out _))))
          refine wpQuiet_nil ?_
          rintro _ ⟨z, rfl⟩
          have HZ := Lib.hid z.h
          obtain ⟨wz, hwz⟩ : ∃ wz, wz = z.w := ⟨_, rfl⟩
          rw [← hwz] at HZ ⊢
          clear hwz
          go_wp2_with fail
          go_roundw
          case rel => exact ⟨k + 1, by omega, by go_num, HJ2.out, HBr.out.trans (HZ.out.mono HBr.out.size)⟩
          case measure => simp [intOf]; omega
      case neg =>
        have gk : decide ((0 : Int) < (k : Int)) = false := decide_eq_false (by omega)
        by_cases hw0 : W = 0
        case neg =>
          have gw : ((W : Int) != 0) = true := by simp; omega
          have HQ : Hid (R = false) := by
            show _ = _
            rw [HR.out]
            exact rightI_bad HKL.out (by rw [HBD.out, decide_eq_false hw0]; simp)
          clear hw0
          refine wp_region_bel (w0 := wO) (Below.refl _ _) (by kernel_rfl) (by kernel_rfl) ?_
          repeat (go_big_quiet_step (first
            | (go_at_call 40; (with_reducible exact HWH.out _))
            | (go_at_call 41; (with_reducible exact HID.out _))))
          refine wpQuiet_nil ?_
          rintro _ ⟨z, rfl⟩
          have HZ := Lib.hid z.h
          obtain ⟨wz, hwz⟩ : ∃ wz, wz = z.w := ⟨_, rfl⟩
          rw [← hwz] at HZ ⊢
          clear hwz
          go_wp2_with fail
          go_ret
          exact ⟨by rw [HQ.out]; rfl, HBX.out.trans ((HBr.out.trans (HZ.out.mono HBr.out.size)).mono HBX.out.size)⟩
        have gw : ((W : Int) != 0) = false := by simp [hw0]
        by_cases hd : D = id
        case neg =>
          have gd : (D.toList == id.toList) = false := by rw [str_dec]; exact decide_eq_false hd
          have HQ : Hid (R = false) := by
            show _ = _
            rw [HR.out]
            exact rightI_bad HKL.out (by rw [HBD.out, decide_eq_false hd]; simp)
          clear hw0 hd
          refine wp_region_bel (w0 := wO) (Below.refl _ _) (by kernel_rfl) (by kernel_rfl) ?_
          repeat (go_big_quiet_step (first
            | (go_at_call 40; (with_reducible exact HWH.out _))
            | (go_at_call 41; (with_reducible exact HID.out _))))
          refine wpQuiet_nil ?_
          rintro _ ⟨z, rfl⟩
          have HZ := Lib.hid z.h
          obtain ⟨wz, hwz⟩ : ∃ wz, wz = z.w := ⟨_, rfl⟩
          rw [← hwz] at HZ ⊢
          clear hwz
          go_wp2_with fail
          go_ret
          exact ⟨by rw [HQ.out]; rfl, HBX.out.trans ((HBr.out.trans (HZ.out.mono HBr.out.size)).mono HBX.out.size)⟩
        have gd : (D.toList == id.toList) = true := by rw [str_dec]; exact decide_eq_true hd
        have HJ2 : Hid (∀ j, j < k + 1 → badI l j = false) := fun j hj => by
          rcases Nat.lt_or_ge j k with h | h
          · exact HJ.out j h
          · obtain rfl : j = k := by omega
            rw [HBD.out, decide_eq_true hw0, decide_eq_true hd]
            simp [*]
        clear hw0 hd
        refine wp_region_bel (w0 := wO) (Below.refl _ _) (by kernel_rfl) (by kernel_rfl) ?_
        repeat (go_big_quiet_step (first
          | (go_at_call 40; (with_reducible exact HWH.out _))
          | (go_at_call 41; (with_reducible exact HID.out _))))
        refine wpQuiet_nil ?_
        rintro _ ⟨z, rfl⟩
        have HZ := Lib.hid z.h
        obtain ⟨wz, hwz⟩ : ∃ wz, wz = z.w := ⟨_, rfl⟩
        rw [← hwz] at HZ ⊢
        clear hwz
        go_wp2_with fail
        go_roundw
        case rel => exact ⟨k + 1, by omega, by go_num, HJ2.out, HBr.out.trans (HZ.out.mono HBr.out.size)⟩
        case measure => simp [intOf]; omega
    · obtain rfl : k = n := by omega
      have HQ : Hid (R = true) := by
        show _ = _
        rw [HR.out]
        exact rightI_ok (by rw [← HN.out]; exact hn3) fun j hj => HJ.out j (by rw [HN.out]; exact hj)
      go_wp2_with fail
      go_ret
      exact ⟨by rw [HQ.out]; rfl, HBX.out.trans (HBW.out.mono HBX.out.size)⟩
end Go.Proofs.YtpkgiojicbdcfaaGreatDoor
/-
  The walks of the reference's Same and SameTexts, and of Ids.
-/
namespace Go.Proofs.YtpkgiojicbdcfaaGreatDoor
open Go Go.RowKit

theorem take_moreI {la lb : List It} {k : Nat} (ha : k < la.length) (hb : k < lb.length) (h : la.take k = lb.take k) (he : la[k] = lb[k]) : la.take (k + 1) = lb.take (k + 1) := by
  rw [List.take_succ_eq_append_getElem ha, List.take_succ_eq_append_getElem hb, h, he]

set_option maxHeartbeats 1000000 in
set_option maxRecDepth 4000 in
theorem stsame_any (la lb : List It) (p q : Option Addr) (c d n m : Nat) (B : Bool) (w : World) (hn : n = la.length) (hm : m = lb.length) (hp : ItRw w p la) (hq : ItRw w q lb) (hl : n ≤ 140737488355328) (hl2 : m ≤ 140737488355328) (hB : B = decide (la = lb)) :
    Calls Tryz.prog 14 #[.agg #[.slice p n c], .agg #[.slice q m d]] w fun e w' => e = .returned (.bool B) ∧ Below w.heap.size w w' := by
  obtain ⟨wA, hwA⟩ : ∃ wA, wA = w.alloc (.cells #[.slice p n c] 24) := ⟨_, rfl⟩
  obtain ⟨w1, hw1⟩ : ∃ w1, w1 = wA.alloc (.cells #[.slice q m d] 24) := ⟨_, rfl⟩
  obtain ⟨A, hA⟩ : ∃ A, A = w.heap.size := ⟨_, rfl⟩
  obtain ⟨E, hE⟩ : ∃ E, E = w.heap.size + 1 := ⟨_, rfl⟩
  have hx : w1.heap[E]? = some (.cells #[.slice q m d] 24 (0, 0)) := by rw [hw1, hE, show w.heap.size + 1 = wA.heap.size by rw [hwA]; simp]; exact heap_alloc_new wA _
  have hya : wA.heap[A]? = some (.cells #[.slice p n c] 24 (0, 0)) := by rw [hwA, hA]; exact heap_alloc_new w _
  have hy : w1.heap[A]? = some (.cells #[.slice p n c] 24 (0, 0)) := by rw [hw1]; exact row_alloc hya (row_lt hya)
  have hbx : Below w.heap.size w w1 := by rw [hw1, hwA]; exact below_new (below_new (Below.refl _ _) _) _
  have x0 : w1.cell? ⟨A, 0, none⟩ = some (.slice p n c) := cell_of_row _ _ 0 _ _ _ hy
  have y0 : w1.cell? ⟨E, 0, none⟩ = some (.slice q m d) := cell_of_row _ _ 0 _ _ _ hx
  have hp := hp.below hbx
  have hq := hq.below hbx
  have HBX := Lib.hid hbx
  have HWA := Lib.hid hwA
  have HW1 := Lib.hid hw1
  have HA := Lib.hid hA
  have HE := Lib.hid hE
  clear hwA hw1 hA hE hx hya hy hbx
  by_cases h1 : n = m
  · have HN := Lib.hid hn
    have HM := Lib.hid hm
    have HB := Lib.hid hB
    subst h1
    clear hn hm hB
    go_enter Tryz.func14, Tryz.ntmps14
    go_upto_region 1 with fail
    rw [← HE.out, ← HA.out, ← HWA.out, ← HW1.out]
    go_wp2
    go_loopw [5] (fun i wr => ∃ (k x : Nat), k ≤ n ∧ i = .int .i64 k ∧ wr = w1.drewN x ∧ Hid (la.take k = lb.take k)) (fun i _ => n - (intOf i).toNat)
    case atStart => exact ⟨0, 0, by omega, rfl, rfl, rfl⟩
    case round =>
      obtain ⟨k, x, hk, rfl, rfl, HT⟩ := hrel
      by_cases hlt : k < n
      · have hka : k < la.length := by rw [← HN.out]; omega
        have hkb : k < lb.length := by rw [← HM.out]; omega
        obtain ⟨g, o, rfl, hg, a0, a1, a2⟩ := hp k hka
        obtain ⟨h, o2, rfl, hh, b0, b1, b2⟩ := hq k hkb
        have z0 : (0 : Int) ≤ (k : Int) := by omega
        have z1 : (k : Int) < (n : Int) := by omega
        by_cases he : la[k] = lb[k]
        · have HX : Hid (la.take (k + 1) = lb.take (k + 1)) := take_moreI hka hkb HT.out he
          rw [← he] at b0 b1 b2
          obtain ⟨s, hs⟩ : ∃ s, s = la[k] := ⟨_, rfl⟩
          rw [← hs] at a0 a1 a2 b0 b1 b2
          clear hs he hka hkb hg hh HT
          go_wp2
          go_quiet (fail)
          go_wp2
          go_roundw
          case rel => exact ⟨k + 1, _, by omega, by go_num, by first | rfl | exact World.drewN_drewN _ _ _, HX⟩
          case measure => simp [intOf]; omega
        · have HX : Hid (B = false) := by
            show _ = _
            rw [HB.out]
            refine decide_eq_false fun e => he ?_
            subst e
            rfl
          have hne : ¬ (la[k].i = lb[k].i ∧ la[k].k = lb[k].k ∧ la[k].b = lb[k].b) := fun h => he (by
            obtain ⟨h0, h1, h2⟩ := h
            cases hx : la[k]
            cases hy : lb[k]
            simp_all)
          obtain ⟨s, hs⟩ : ∃ s, s = la[k] := ⟨_, rfl⟩
          obtain ⟨t, ht⟩ : ∃ t, t = lb[k] := ⟨_, rfl⟩
          rw [← hs] at a0 a1 a2 hne
          rw [← ht] at b0 b1 b2 hne
          clear hs ht he hka hkb hg hh HT
          have hfour : ((s.i.toList == t.i.toList) = false ∧ ¬ s.i.toList = t.i.toList) ∨ (s.i = t.i ∧ (s.k == t.k) = false ∧ ¬ s.k = t.k) ∨ (s.i = t.i ∧ s.k = t.k ∧ (s.b.toList == t.b.toList) = false ∧ ¬ s.b.toList = t.b.toList) := by
            by_cases h0 : s.i = t.i
            · by_cases h1 : s.k = t.k
              · have h2 : ¬ s.b = t.b := fun h2 => hne ⟨h0, h1, h2⟩
                have h3 := ba_ne h2
                exact .inr (.inr ⟨h0, h1, h3, by simpa using h3⟩)
              · exact .inr (.inl ⟨h0, by simpa using h1, h1⟩)
            · have h3 := ba_ne h0
              exact .inl ⟨h3, by simpa using h3⟩
          clear hne
          rcases hfour with ⟨k1, k2⟩ | ⟨k0, k1, k2⟩ | ⟨k0, k3, k1, k2⟩
          · go_wp2
            go_quiet (fail)
            go_wp2
            go_ret
            exact ⟨by rw [HX.out]; rfl, HBX.out.trans (Below.mono (by first | exact below_drewN (below_drewN (Below.refl _ _) _) _ | exact below_drewN (Below.refl _ _) _) HBX.out.size)⟩
          · rw [← k0] at b0
            clear k0
            go_wp2
            go_quiet (fail)
            go_wp2
            go_ret
            exact ⟨by rw [HX.out]; rfl, HBX.out.trans (Below.mono (by first | exact below_drewN (below_drewN (Below.refl _ _) _) _ | exact below_drewN (Below.refl _ _) _) HBX.out.size)⟩
          · rw [← k0] at b0
            rw [← k3] at b1
            clear k0 k3
            go_wp2
            go_quiet (fail)
            go_wp2
            go_ret
            exact ⟨by rw [HX.out]; rfl, HBX.out.trans (Below.mono (by first | exact below_drewN (below_drewN (Below.refl _ _) _) _ | exact below_drewN (Below.refl _ _) _) HBX.out.size)⟩
      · obtain rfl : k = n := by omega
        have HX : Hid (B = true) := by
          show _ = _
          rw [HB.out]
          refine decide_eq_true ?_
          have h := HT.out
          rwa [List.take_of_length_le (by rw [← HN.out]; omega), List.take_of_length_le (by rw [← HM.out]; omega)] at h
        go_wp2
        go_ret
        exact ⟨by rw [HX.out]; rfl, HBX.out.trans (Below.mono (by first | exact below_drewN (below_drewN (Below.refl _ _) _) _ | exact below_drewN (Below.refl _ _) _) HBX.out.size)⟩
  · have HB : Hid (B = false) := by
      show _ = _
      rw [hB]
      refine decide_eq_false fun e => h1 ?_
      rw [hn, hm, e]
    have hb : ((n : Int) == (m : Int)) = false := by rw [beq_eq_false_iff_ne]; omega
    clear hn hm hB h1
    go_enter Tryz.func14, Tryz.ntmps14
    go_upto_region 1 with fail
    rw [← HE.out, ← HA.out, ← HWA.out, ← HW1.out]
    go_wp2
    go_ret
    exact ⟨by rw [HB.out]; rfl, HBX.out⟩
theorem drop_eq_iffS {X Y : List (List UInt8)} {k : Nat} (hx : k < X.length) (hy : k < Y.length) : decide (X.drop k = Y.drop k) = (decide (X[k] = Y[k]) && decide (X.drop (k + 1) = Y.drop (k + 1))) := by
  rw [List.drop_eq_getElem_cons hx, List.drop_eq_getElem_cons hy, Bool.eq_iff_iff]
  simp only [decide_eq_true_eq, Bool.and_eq_true, List.cons.injEq]
theorem str_neS {a b : List UInt8} (h : a ≠ b) : ((str a).toList == (str b).toList) = false := by
  rw [ByteArray.toList_eq, ByteArray.toList_eq, str_list, str_list]
  simpa using h

set_option maxHeartbeats 1000000 in
set_option maxRecDepth 4000 in
theorem sametx_any (X Y : List (List UInt8)) (p q : Option Addr) (c d n m : Nat) (w : World) (hn : n = X.length) (hm : m = Y.length) (hp : SRw w p X) (hq : SRw w q Y) (hl : n ≤ 1099511627776) :
    Calls Tryz.prog 18 #[.slice p n c, .slice q m d] w fun e w' => e = .returned (.bool (decide (X = Y))) ∧ ∃ k, w' = w.drewN k := by
  obtain ⟨R, hR⟩ : ∃ R, R = decide (X = Y) := ⟨_, rfl⟩
  rw [← hR]
  by_cases hnm : n = m
  · subst hnm
    have HN : Hid (n = X.length) := hn
    have HM : Hid (n = Y.length) := hm
    have HB : Hid (R = decide (X.drop 0 = Y.drop 0)) := hR
    clear hn hm hR
    go_enter Tryz.func18, Tryz.ntmps18
    go_wp2
    go_loopw [5] (fun i wr => ∃ (k m : Nat), k ≤ n ∧ i = .int .i64 k ∧ Hid (R = decide (X.drop k = Y.drop k)) ∧ wr = w.drewN m) (fun i _ => n - (intOf i).toNat)
    case atStart => exact ⟨0, 0, by omega, rfl, HB.out, rfl⟩
    case round =>
      clear HB
      obtain ⟨k, m, hk, rfl, HB, rfl⟩ := hrel
      by_cases hlt : k < n
      · have hx : k < X.length := by rw [← HN.out]; exact hlt
        have hy : k < Y.length := by rw [← HM.out]; exact hlt
        obtain ⟨g, o, rfl, hg, a0⟩ := hp k hx
        obtain ⟨h, o2, rfl, hh, b0⟩ := hq k hy
        have hb := HB.out
        rw [drop_eq_iffS hx hy] at hb
        by_cases he : X[k] = Y[k]
        · rw [decide_eq_true he, Bool.true_and] at hb
          have HR := Lib.hid hb
          obtain ⟨t, ht⟩ : ∃ t, t = str X[k] := ⟨_, rfl⟩
          rw [← he, ← ht] at b0
          rw [← ht] at a0
          clear ht hg hh he hb HB
          go_wp2
          go_quiet (fail)
          go_wp2
          go_roundw
          case rel => exact ⟨k + 1, _, by omega, by go_num, HR.out, rfl⟩
          case measure => simp [intOf]; omega
        · rw [decide_eq_false he, Bool.false_and] at hb
          have HR := Lib.hid hb
          have hne := str_neS he
          obtain ⟨t, ht⟩ : ∃ t, t = str X[k] := ⟨_, rfl⟩
          obtain ⟨u, hu⟩ : ∃ u, u = str Y[k] := ⟨_, rfl⟩
          rw [← hu] at b0 hne
          rw [← ht] at a0 hne
          clear ht hu hg hh he hb HB
          go_wp2
          go_quiet (fail)
          go_wp2
          go_ret
          exact ⟨by rw [HR.out]; rfl, _, World.drewN_drewN _ _ _⟩
      · obtain rfl : k = n := by omega
        have hb := HB.out
        rw [List.drop_of_length_le (by have := HN.out; omega), List.drop_of_length_le (by have := HM.out; omega)] at hb
        have HR : Hid (R = true) := by show _ = _; rw [hb]; simp
        clear hb HB
        go_wp2
        go_ret
        exact ⟨by rw [HR.out]; rfl, m, rfl⟩
  · have HR : Hid (R = false) := by
      show _ = _
      rw [hR]
      exact decide_eq_false fun e => hnm (by rw [hn, hm, e])
    have hnmi : ¬ (n : Int) = (m : Int) := by omega
    clear hR hn hm
    go_enter Tryz.func18, Tryz.ntmps18
    go_wp2
    go_ret
    exact ⟨by rw [HR.out]; rfl, 0, rfl⟩



/-- The IDs of the items. -/
def idsI (l : List It) : List (List UInt8) := l.map fun e => e.i.data.toList
theorem idsI_take {l : List It} {k : Nat} (h : k < l.length) : idsI (l.take (k + 1)) = idsI (l.take k) ++ [l[k].i.data.toList] := by
  unfold idsI
  rw [List.take_succ_eq_append_getElem h, List.map_append, List.map_singleton]

set_option maxHeartbeats 2000000 in
set_option maxRecDepth 4000 in
theorem ids_any (l : List It) (p : Option Addr) (n c : Nat) (w : World) (hn : n = l.length) (hp : ItRw w p l) (hn2 : n ≤ 65536) :
    Calls Tryz.prog 19 #[.agg #[.slice p n c]] w fun e w' => (∃ v, e = .returned v ∧ SOw w' w.heap.size v (idsI l)) ∧ Below w.heap.size w w' := by
  obtain ⟨w1, hw1⟩ : ∃ w1, w1 = w.alloc (.cells #[.slice p n c] 24) := ⟨_, rfl⟩
  obtain ⟨B, hB⟩ : ∃ B, B = w.heap.size := ⟨_, rfl⟩
  have hx : w1.heap[B]? = some (.cells #[.slice p n c] 24 (0, 0)) := by rw [hw1, hB]; exact heap_alloc_new w _
  have hbx : Below w.heap.size w w1 := by rw [hw1]; exact below_new (Below.refl _ _) _
  have x0 : w1.cell? ⟨B, 0, none⟩ = some (.slice p n c) := cell_of_row _ _ 0 _ _ _ hx
  have HN := Lib.hid hn
  have HP := Lib.hid (hp.below hbx)
  have HBX := Lib.hid hbx
  have HW1 := Lib.hid hw1
  have HB := Lib.hid hB
  clear hn hp hbx hw1 hB hx
  go_enter Tryz.func19, Tryz.ntmps19
  go_upto_region 1 with fail
  rw [← HW1.out, ← HB.out]
  go_wp2_with fail
  go_loopw [3, 9] (fun ov iv wr => ∃ (k : Nat) (os : List (List UInt8)), k ≤ n ∧ iv = .int .i64 (k : Int) ∧ SOw wr w1.heap.size ov os ∧ os.length = k ∧ Hid (os = idsI (l.take k)) ∧ Hid (Below w1.heap.size w1 wr)) (fun _ iv _ => n - (intOf iv).toNat)
  case atStart => exact ⟨0, [], by omega, rfl, SOw.nil _ _, rfl, rfl, Below.refl _ _⟩
  case round =>
    obtain ⟨k, os, hk, rfl, ho, hol, HO, HBW⟩ := hrel
    have c0 := cell_bel x0 HBW.out
    by_cases hlt : k < n
    · have hkl : k < l.length := by rw [← HN.out]; exact hlt
      obtain ⟨e, he⟩ : ∃ e, e = l[k] := ⟨_, rfl⟩
      obtain ⟨g, o, rfl, hg, a0, a1, a2⟩ := HP.out.below HBW.out k hkl
      rw [← he] at a0 a1 a2
      have HO2 : Hid (os ++ [e.i.data.toList] = idsI (l.take (k + 1))) := by show _ = _; rw [idsI_take hkl, ← he, HO.out]
      obtain ⟨i', m', n'⟩ := e
      simp only at a0 a1 a2 HO2
      obtain ⟨w2, hw2⟩ : ∃ w2, w2 = wr.alloc (.cells #[.string i', .int .i64 m', .string n'] 39) := ⟨_, rfl⟩
      obtain ⟨E, hE⟩ : ∃ E, E = wr.heap.size := ⟨_, rfl⟩
      have hrow : w2.heap[E]? = some (.cells #[.string i', .int .i64 m', .string n'] 39 (0, 0)) := by rw [hw2, hE]; exact heap_alloc_new _ _
      have hbx : Below wr.heap.size wr w2 := by rw [hw2]; exact below_new (Below.refl _ _) _
      have e0 : w2.cell? ⟨E, 0, none⟩ = some (.string i') := cell_of_row w2 _ 0 _ _ _ hrow
      have ho2 := ho.below hbx
      have HB2 := Lib.hid (HBW.out.trans (hbx.mono HBW.out.size))
      have hs2 := HB2.out.size
      have HW2 := Lib.hid hw2
      have HE0 := Lib.hid hE
      clear he hw2 hE hrow hbx ho hkl hg
      go_upto_region 5 with fail
      rw [← HW2.out, ← HE0.out]
      go_wp2_with (at_builtin; refine wp_so_one rfl _ _ rfl rfl ho2 i' rfl (by omega) hs2 ?_; intro v4 w4 ho4 hg4; have hb4 := ho2.bel1 HB2.out (Nat.le_refl _) hs2 hg4)
      go_roundw
      case rel => exact ⟨k + 1, _, by omega, by go_num, ho4, by simp [hol], HO2.out, hb4⟩
      case measure => simp [intOf]; omega
    · obtain rfl : k = n := by omega
      have HX : Hid (os = idsI l) := by
        show _ = _
        rw [HO.out, List.take_of_length_le (by have := HN.out; omega)]
      have HOO := Lib.hid ho
      clear ho
      go_wp2_with fail
      go_ret
      refine ⟨⟨_, rfl, ?_⟩, HBX.out.trans (HBW.out.mono HBX.out.size)⟩
      rw [← HX.out]
      exact HOO.out.mono HBX.out.size

set_option maxHeartbeats 2000000 in
set_option maxRecDepth 4000 in
theorem rids_any (l : List It) (p : Option Addr) (n c : Nat) (w : World) (hn : n = l.length) (hp : ItRw w p l) (hn2 : n ≤ 65536) :
    Calls Tryz.prog 20 #[.agg #[.slice p n c]] w fun e w' => (∃ v, e = .returned v ∧ SOw w' w.heap.size v (idsI l)) ∧ Below w.heap.size w w' := by
  obtain ⟨w1, hw1⟩ : ∃ w1, w1 = w.alloc (.cells #[.slice p n c] 24) := ⟨_, rfl⟩
  obtain ⟨B, hB⟩ : ∃ B, B = w.heap.size := ⟨_, rfl⟩
  have hx : w1.heap[B]? = some (.cells #[.slice p n c] 24 (0, 0)) := by rw [hw1, hB]; exact heap_alloc_new w _
  have hbx : Below w.heap.size w w1 := by rw [hw1]; exact below_new (Below.refl _ _) _
  have x0 : w1.cell? ⟨B, 0, none⟩ = some (.slice p n c) := cell_of_row _ _ 0 _ _ _ hx
  have HN := Lib.hid hn
  have HP := Lib.hid (hp.below hbx)
  have HBX := Lib.hid hbx
  have HW1 := Lib.hid hw1
  have HB := Lib.hid hB
  clear hn hp hbx hw1 hB hx
  go_enter Tryz.func20, Tryz.ntmps20
  go_upto_region 1 with fail
  rw [← HW1.out, ← HB.out]
  go_wp2_with fail
  go_loopw [3, 4] (fun ov iv wr => ∃ (k : Nat) (os : List (List UInt8)), k ≤ n ∧ iv = .int .i64 (k : Int) ∧ SOw wr w1.heap.size ov os ∧ os.length = k ∧ Hid (os = idsI (l.take k)) ∧ Hid (Below w1.heap.size w1 wr)) (fun _ iv _ => n - (intOf iv).toNat)
  case atStart => exact ⟨0, [], by omega, rfl, SOw.nil _ _, rfl, rfl, Below.refl _ _⟩
  case round =>
    obtain ⟨k, os, hk, rfl, ho, hol, HO, HBW⟩ := hrel
    have c0 := cell_bel x0 HBW.out
    by_cases hlt : k < n
    · have hkl : k < l.length := by rw [← HN.out]; exact hlt
      obtain ⟨e, he⟩ : ∃ e, e = l[k] := ⟨_, rfl⟩
      obtain ⟨g, o, rfl, hg, a0, a1, a2⟩ := HP.out.below HBW.out k hkl
      rw [← he] at a0 a1 a2
      have HO2 : Hid (os ++ [e.i.data.toList] = idsI (l.take (k + 1))) := by show _ = _; rw [idsI_take hkl, ← he, HO.out]
      obtain ⟨i', m', n'⟩ := e
      simp only at a0 a1 a2 HO2
      have hs2 := HBW.out.size
      clear he hkl hg
      go_wp2_with (at_builtin; refine wp_so_one rfl _ _ rfl rfl ho i' rfl (by omega) hs2 ?_; intro v4 w4 ho4 hg4; have hb4 := ho.bel1 HBW.out (Nat.le_refl _) hs2 hg4)
      go_roundw
      case rel => exact ⟨k + 1, _, by omega, by go_num, ho4, by simp [hol], HO2.out, hb4⟩
      case measure => simp [intOf]; omega
    · obtain rfl : k = n := by omega
      have HX : Hid (os = idsI l) := by
        show _ = _
        rw [HO.out, List.take_of_length_le (by have := HN.out; omega)]
      have HOO := Lib.hid ho
      clear ho
      go_wp2_with fail
      go_ret
      refine ⟨⟨_, rfl, ?_⟩, HBX.out.trans (HBW.out.mono HBX.out.size)⟩
      rw [← HX.out]
      exact HOO.out.mono HBX.out.size
end Go.Proofs.YtpkgiojicbdcfaaGreatDoor
/-
  The walk of the law package's own check.
-/
namespace Go.Proofs.YtpkgiojicbdcfaaGreatDoor
open Go Go.RowKit Go.Maps Go.WideMaps

theorem ItOw.rw2 {w : World} {base : Nat} {v : Value} {l : List It} (h : ItOw w base v l) {n : Nat} (hn : n = l.length) : ∃ p cap, v = .slice p n cap ∧ n ≤ cap ∧ (p = none → cap = 0) ∧ ItRw w p l := by
  subst hn
  obtain ⟨p, cap, hv, hc, hr⟩ := h.rw
  refine ⟨p, cap, hv, hc, fun hp => ?_, hr⟩
  rcases h.2 with ⟨hx, _⟩ | ⟨g, cap', cur, hx, _⟩
  · rw [hv] at hx; injection hx with _ _ h3
  · rw [hv, hp] at hx; cases hx
/-- Put, where it is known what comes of it. -/
theorem put_s {l l' : List It} {k : Int} {b id : ByteArray} (h0 : putC l k b = 0 ∧ putI l k b = l') (hd : putD k b = id) (p : Option Addr) (n m c : Nat) (w : World) (hT : StrTab w) (hO : WoTab w) (hTr : TrTab w) (hK : KTab w) (hn : n = l.length) (hm : m = l'.length) (hnc : n ≤ c) (hpc : p = none → c = 0) (hp : ItRw w p l) (hb : b.size ≤ 140737488355328) (hn2 : n ≤ 1000000) :
    Calls Tryz.prog 12 #[.agg #[.slice p n c], .agg #[.int .i64 k, .string b]] w fun e w' => ∃ p' c', e = .returned (.tuple #[.agg #[.slice p' m c'], .string id, .int .i64 0]) ∧ m ≤ c' ∧ (p' = none → c' = 0) ∧ ItOw w' w.heap.size (.slice p' m c') l' ∧ Below w.heap.size w w' := by
  refine (sput_any l k b p n c w hT hO hTr hK hn hnc hpc hp hb hn2).mono ?_
  rintro e w' ⟨v', he, ho, hb'⟩
  have hs : putS l k b = id := by rw [putS, if_pos h0.1, hd]
  rw [h0.1, hs] at he
  rw [h0.2] at ho
  obtain ⟨p', c', rfl, h1, h2, h3⟩ := ho.rw2 hm
  exact ⟨p', c', he, h1, h2, ho, hb'⟩
/-- What lives holds: the box of the store. -/
structure LvS (w wk : World) (S : Nat) (p : Option Addr) (n c : Nat) (l : List It) : Prop where
  b : Below w.heap.size w wk
  s : wk.heap[S]? = some (.cells #[.slice p n c] 24 (0, 0))
  r : ItRw wk p l
  nc : n ≤ c
  pc : p = none → c = 0
  hS : w.heap.size ≤ S
theorem LvS.below {w wk w' : World} {S : Nat} {p : Option Addr} {n c : Nat} {l : List It} (h : LvS w wk S p n c l) (hb : Below wk.heap.size wk w') : LvS w w' S p n c l := ⟨h.b.trans (hb.mono h.b.size), (hb.block _ (row_lt h.s)).trans h.s, h.r.below hb, h.nc, h.pc, h.hS⟩
theorem LvS.put {w wk w' : World} {S : Nat} {p p' : Option Addr} {n c m c' : Nat} {l l' : List It} (h : LvS w wk S p n c l) (hb : Below wk.heap.size wk w') (ho : ItOw w' wk.heap.size (.slice p' m c') l') (hnc : m ≤ c') (hpc : p' = none → c' = 0) (hm : m = l'.length) : LvS w (w'.setCell ⟨S, 0, none⟩ (.slice p' m c')) S p' m c' l' := by
  have h2 := h.below hb
  have ho2 := ho.put (P := S) (x := .slice p' m c') (ho.apart (row_lt h.s))
  obtain ⟨q, d, he, _, _, hr⟩ := ho2.rw2 hm
  cases he
  exact ⟨h2.b.setCell (p := ⟨S, 0, none⟩) h.hS _, st_set h2.s, hr, hnc, hpc, h.hS⟩
theorem srw_one {w : World} {s : ByteArray} {t : TypeId} : SRw (w.alloc (.cells #[.string s] t)) (some ⟨w.heap.size, 0, none⟩) [s.data.toList] := fun k hk => by
  obtain rfl : k = 0 := by simpa using hk
  exact ⟨w.heap.size, 0, rfl, by simp, cell_of_row _ _ 0 _ _ _ (heap_alloc_new w (.cells #[.string s] t))⟩
theorem srw_two {w : World} {s s2 : ByteArray} {t : TypeId} : SRw (w.alloc (.cells #[.string s, .string s2] t)) (some ⟨w.heap.size, 0, none⟩) [s.data.toList, s2.data.toList] := fun k hk => by
  have hk' : k = 0 ∨ k = 1 := by simp at hk; omega
  rcases hk' with rfl | rfl
  · exact ⟨w.heap.size, 0, rfl, by simp, cell_of_row _ _ 0 _ _ _ (heap_alloc_new w (.cells #[.string s, .string s2] t))⟩
  · exact ⟨w.heap.size, 0, rfl, by simp, cell_of_row _ _ 1 _ _ _ (heap_alloc_new w (.cells #[.string s, .string s2] t))⟩
set_option maxHeartbeats 1000000 in
theorem lperson_any (w : World) : Calls Tryz.prog 38 #[] w fun e w' => e = .returned (.agg #[.string ⟨#[97]⟩, .string ⟨#[97, 64, 98]⟩, .int .i64 5, .int .i64 60]) ∧ Below w.heap.size w w' := by
  go_enter Tryz.func38, Tryz.ntmps38
  go_wp2
  have hr := heap_alloc_new w (.cells #[.string ⟨#[97]⟩, .string ⟨#[97, 64, 98]⟩, .int .i64 5, .int .i64 60] 61)
  have d0 := cell_of_row _ _ 0 _ _ _ hr
  have d1 := cell_of_row _ _ 1 _ _ _ hr
  have d2 := cell_of_row _ _ 2 _ _ _ hr
  have d3 := cell_of_row _ _ 3 _ _ _ hr
  refine bodyPost_ret (v := .agg #[.string ⟨#[97]⟩, .string ⟨#[97, 64, 98]⟩, .int .i64 5, .int .i64 60]) (by simp [results, Tryz.results38, go_sem, d0, d1, d2, d3]) rfl ⟨rfl, below_new (Below.refl _ _) _⟩

set_option maxHeartbeats 16000000 in
set_option maxRecDepth 40000 in
theorem lives_any (w : World) (hT : StrTab w) (hO : WoTab w) (hTr : TrTab w) (hK : KTab w) :
    Calls Tryz.prog 8 #[] w fun e w' => e = .returned (.bool true) ∧ Below w.heap.size w w' := by
  have HTT : Hid (∀ w', Below w.heap.size w w' → StrTab w' ∧ WoTab w' ∧ TrTab w' ∧ KTab w') := fun w' h => ⟨hT.below h, hO.below h, hTr.below h, hK.below h⟩
  have P1 := Lib.hid (put_s so_p1 so_a none 0 1 0 w hT hO hTr hK rfl rfl (Nat.le_refl _) (fun _ => rfl) (ItRw.nil _ _) (by decide) (by decide))
  clear hT hO hTr hK
  go_enter Tryz.func8, Tryz.ntmps8
  go_upto_region 2 with (go_at_call 12; ((refine P1.out.mono ?_); rintro e w1 ⟨p1, c1, rfl, h1, h2, ho1, hb1⟩))
  obtain ⟨wa, hwa⟩ : ∃ wa, wa = w1.alloc (.cells #[.slice p1 1 c1] 24) := ⟨_, rfl⟩
  obtain ⟨S, hS⟩ : ∃ S, S = w1.heap.size := ⟨_, rfl⟩
  have hra : wa.heap[S]? = some (.cells #[.slice p1 1 c1] 24 (0, 0)) := by rw [hwa, hS]; exact heap_alloc_new _ _
  have hba : Below w1.heap.size w1 wa := by rw [hwa]; exact below_new (Below.refl _ _) _
  have hLa : LvS w wa S p1 1 c1 [itA] := ⟨hb1.trans (hba.mono hb1.size), hra, by
    obtain ⟨q, d, he, _, _, hr⟩ := (ho1.below hba).rw2 (n := 1) rfl
    cases he
    exact hr, h1, h2, by rw [hS]; exact hb1.size⟩
  rw [← hwa, ← hS]
  have HLa := Lib.hid hLa
  clear hwa hS hra hba hLa h1 h2 ho1 hb1 P1
  have ta := HTT.out wa HLa.out.b
  have P2 := Lib.hid (put_s so_p2 so_b p1 1 2 c1 wa ta.1 ta.2.1 ta.2.2.1 ta.2.2.2 rfl rfl HLa.out.nc HLa.out.pc HLa.out.r (by decide) (by decide))
  have x0 := (st_at HLa.out.s).1
  clear ta
  go_upto_region 3 with (go_at_call 12; ((refine P2.out.mono ?_); rintro e w2 ⟨p2, c2, rfl, h1, h2, ho2, hb2⟩; obtain ⟨s0, f0⟩ := st_at (HLa.out.below hb2).s))
  have HLb := Lib.hid (HLa.out.put hb2 ho2 h1 h2 rfl)
  obtain ⟨wb, hwb⟩ : ∃ wb, wb = w2.setCell ⟨S, 0, none⟩ (.slice p2 2 c2) := ⟨_, rfl⟩
  rw [← hwb] at HLb ⊢
  clear hwb h1 h2 ho2 hb2 s0 f0 P2 x0
  have HPN := Lib.hid lperson_any
  have hbc : str (bodyC cmS) = bC := by rw [bodyC, if_pos so_chk]; rfl
  have HBD : Hid (∀ w', Calls Tryz.prog 37 #[.agg #[.string iB, .slice none 0 0, .string ⟨#[97]⟩, .string ⟨#[97, 64, 98]⟩, .int .i64 5, .int .i64 60, .string ⟨#[97]⟩, .string ⟨#[97, 64, 98]⟩, .int .i64 5, .int .i64 60, .string ⟨#[120, 10]⟩]] w' fun e w'' => e = .returned (.tuple #[.string bC, .int .i64 0]) ∧ Below w'.heap.size w' w'') := fun w' =>
    (rcbody_any cmS none 0 0 w' rfl (SRw.none _ _) (fun y hy => absurd hy (by simp [cmS])) (by decide) (by decide)).mono fun e w'' ⟨he, hb⟩ => ⟨by rw [he, hbc, so_chk]; rfl, hb⟩
  have hq : Below wb.heap.size wb wb := Below.refl _ _
  go_upto_region 4 with (first
    | (go_at_call 38; ((with_reducible refine (HPN.out _).mono ?_); rintro e w' ⟨rfl, hb'⟩; have hq := hq.trans (hb'.mono hq.size); clear hb'))
    | (go_at_call 37; ((refine (HBD.out _).mono ?_); rintro e wc ⟨rfl, hb'⟩; have hq := hq.trans (hb'.mono hq.size); clear hb')))
  have HLc := Lib.hid (HLb.out.below hq)
  clear hq hbc HBD HPN HLa HLb
  have tc := HTT.out wc HLc.out.b
  have P3 := Lib.hid (put_s so_p3 so_c p2 2 3 c2 wc tc.1 tc.2.1 tc.2.2.1 tc.2.2.2 rfl rfl HLc.out.nc HLc.out.pc HLc.out.r (by rw [so_size]; decide) (by decide))
  have x0 := (st_at HLc.out.s).1
  clear tc
  go_upto_region 5 with (go_at_call 12; ((refine P3.out.mono ?_); rintro e w4 ⟨p3, c3, rfl, h1, h2, ho2, hb2⟩; obtain ⟨s0, f0⟩ := st_at (HLc.out.below hb2).s))
  have HLd := Lib.hid (HLc.out.put hb2 ho2 h1 h2 rfl)
  obtain ⟨wd, hwd⟩ : ∃ wd, wd = w4.setCell ⟨S, 0, none⟩ (.slice p3 3 c3) := ⟨_, rfl⟩
  rw [← hwd] at HLd ⊢
  clear hwd h1 h2 ho2 hb2 s0 f0 P3 x0 HLc
  have hsz : ∀ e ∈ l3S, e.b.size ≤ 1048576 := by
    intro e he
    simp only [List.mem_cons, List.not_mem_nil, or_false] at he
    rcases he with rfl | rfl | rfl
    · show bC.size ≤ _; rw [so_size]; decide
    · decide
    · decide
  have hkw : ∀ e ∈ l3S, (Lit.int .i64 e.k).wf = true := by
    intro e he
    simp only [List.mem_cons, List.not_mem_nil, or_false] at he
    rcases he with rfl | rfl | rfl <;> decide
  have hmk : ∀ (w' : World) (l : List It) (p : Option Addr) (n : Nat), Below w.heap.size w w' → ItRw w' p l → n = l.length → n ≤ 1000 → (∀ e ∈ l, e ∈ l3S) → StOk w' l p n := fun w' l p n hb hr hn hn2 hm => ⟨hn, by omega, fun e he => hsz e (hm e he), fun e he => hkw e (hm e he), hr, (HTT.out w' hb).1, (HTT.out w' hb).2.1, (HTT.out w' hb).2.2.1⟩
  have HMK := Lib.hid hmk
  have HSZ := Lib.hid hsz
  clear hsz hkw hmk
  have x0 := (st_at HLd.out.s).1
  have hbn : Below wd.heap.size wd (wd.alloc (.cells #[.string iC] 9)) := below_new (Below.refl _ _) _
  have HLn := Lib.hid (HLd.out.below hbn)
  have R5 := Lib.hid (sreach_any l3S cS p3 (some ⟨wd.heap.size, 0, none⟩) 3 c3 1 1 _ (HMK.out _ l3S p3 3 HLn.out.b HLn.out.r rfl (by decide) (fun _ h => h)) rfl (srw_one (w := wd) (s := iC) (t := 9)) (by intro x hx; rw [List.mem_singleton] at hx; subst hx; decide) (by decide) (by decide +kernel))
  clear hbn
  go_upto_region 6 with (go_at_call 29; ((refine R5.out.mono ?_); rintro e we ⟨v5, rfl, ho5, hb5⟩))
  obtain ⟨p5, c5, rfl, -⟩ := ho5.rw
  rw [so_r1.2, so_r1.1]
  have HLe := Lib.hid (HLn.out.below hb5)
  clear ho5 hb5 x0 R5 HLn HLd
  -- Only and Reach
  have x0 := (st_at HLe.out.s).1
  have hbn : Below we.heap.size we (we.alloc (.cells #[.string iC] 9)) := below_new (Below.refl _ _) _
  have HLn := Lib.hid (HLe.out.below hbn)
  have hids : ∀ x ∈ cS, x.length ≤ 140737488355328 := by intro x hx; rw [List.mem_singleton] at hx; subst hx; decide
  have hisz : ∀ e ∈ l3S, e.i.size ≤ 140737488355328 := by
    intro e he
    simp only [List.mem_cons, List.not_mem_nil, or_false] at he
    rcases he with rfl | rfl | rfl <;> decide
  have R6 := Lib.hid (sonly_any l3S cS p3 (some ⟨we.heap.size, 0, none⟩) 3 c3 1 1 _ rfl rfl HLn.out.r (srw_one (w := we) (s := iC) (t := 9)) (by decide) (by decide) hisz hids)
  have R7 : Hid (∀ (w' : World) (p6 : Option Addr) (c6 : Nat), Below w.heap.size w w' → ItRw w' p6 [itC] → Calls Tryz.prog 29 #[.agg #[.slice p6 1 c6], .slice (some ⟨w'.heap.size, 0, none⟩) 1 1] (w'.alloc (.cells #[.string iC] 9)) fun e w'' => (∃ v, e = .returned (.tuple #[v, .int .i64 171])) ∧ Below w'.heap.size w' w'') := fun w' p6 c6 hb hr => by
    have hbn' : Below w'.heap.size w' (w'.alloc (.cells #[.string iC] 9)) := below_new (Below.refl _ _) _
    refine (sreach_any [itC] cS p6 (some ⟨w'.heap.size, 0, none⟩) 1 c6 1 1 _ (HMK.out _ [itC] p6 1 (hb.trans (hbn'.mono hb.size)) (hr.below hbn') rfl (by decide) (fun e he => by rw [List.mem_singleton] at he; subst he; simp [l3S])) rfl (srw_one (w := w') (s := iC) (t := 9)) hids (by decide) (by decide +kernel)).mono ?_
    rintro e w'' ⟨v, he, -, hb2⟩
    rw [so_r2.2] at he
    exact ⟨⟨v, he⟩, hbn'.trans (hb2.mono hbn'.size)⟩
  have HIDS := Lib.hid hids
  have HISZ := Lib.hid hisz
  clear hbn hids hisz
  go_upto_region 7 with (first
    | (go_at_call 23; ((refine R6.out.mono ?_); rintro e w6 ⟨v6, rfl, ho6, hb6⟩; rw [so_r2.1] at ho6; obtain ⟨p6, c6, rfl, -, -, hr6⟩ := ho6.rw2 (n := 1) rfl; have HL6 := Lib.hid (HLn.out.below hb6)))
    | (go_at_call 29; ((refine (R7.out w6 p6 c6 HL6.out.b hr6).mono ?_); rintro e w7 ⟨⟨v7, rfl⟩, hb7⟩)))
  have HLf := Lib.hid (HL6.out.below hb7)
  clear ho6 hb6 hr6 hb7 HL6 HLn HLe R6 R7 x0
  -- Get, twice
  have x0 := (st_at HLf.out.s).1
  have G1 := Lib.hid (sget_any l3S iA p3 3 c3 w7 rfl HLf.out.r (by decide))
  rw [so_g.1, so_g.2.1, show itA.k = 1 from rfl, show itA.b = bA from rfl] at G1
  go_upto_region 8 with (go_at_call 15; ((refine G1.out.mono ?_); rintro e w8 ⟨rfl, hb8⟩))
  obtain ⟨wg, hwg⟩ : ∃ wg, wg = w8.alloc (.cells #[.int .i64 1, .string bA] 29) := ⟨_, rfl⟩
  obtain ⟨O, hO⟩ : ∃ O, O = w8.heap.size := ⟨_, rfl⟩
  have ho8 : wg.heap[O]? = some (.cells #[.int .i64 1, .string bA] 29 (0, 0)) := by rw [hwg, hO]; exact heap_alloc_new _ _
  have hbg : Below w8.heap.size w8 wg := by rw [hwg]; exact below_new (Below.refl _ _) _
  rw [← hwg, ← hO]
  have HLg := Lib.hid ((HLf.out.below hb8).below hbg)
  have y1 := (ob_at ho8).2.1
  clear hwg hO hbg hb8 HLf x0 G1 ho8
  have x0 := (st_at HLg.out.s).1
  have G2 := Lib.hid (sget_any l3S ⟨#[120]⟩ p3 3 c3 wg rfl HLg.out.r (by decide))
  rw [so_g.2.2.1] at G2
  obtain ⟨xk, hxk⟩ : ∃ xk, xk = (getI l3S ⟨#[120]⟩).k := ⟨_, rfl⟩
  obtain ⟨xb, hxb⟩ : ∃ xb, xb = (getI l3S ⟨#[120]⟩).b := ⟨_, rfl⟩
  rw [← hxk, ← hxb] at G2
  clear hxk hxb
  go_upto_region 9 with (go_at_call 15; ((refine G2.out.mono ?_); rintro e w9 ⟨rfl, hb9⟩; have y1 := cell_bel y1 hb9))
  obtain ⟨wh, hwh⟩ : ∃ wh, wh = w9.alloc (.cells #[.int .i64 xk, .string xb] 29) := ⟨_, rfl⟩
  have hbh : Below w9.heap.size w9 wh := by rw [hwh]; exact below_new (Below.refl _ _) _
  rw [← hwh]
  have hl := (HLg.out.below hb9).below hbh
  have y1 := cell_bel y1 hbh
  clear hwh hbh HLg G2
  have x0 := (st_at hl.s).1
  have hbn : Below wh.heap.size wh (wh.alloc (.cells #[.string iC, .string iA] 9)) := below_new (Below.refl _ _) _
  have hln := hl.below hbn
  have HYN := Lib.hid (cell_bel y1 hbn)
  have hca : ∀ x ∈ caS, x.length ≤ 140737488355328 := by
    intro x hx
    simp only [List.mem_cons, List.not_mem_nil, or_false] at hx
    rcases hx with rfl | rfl <;> decide
  have R9 := Lib.hid (sonly_any l3S caS p3 (some ⟨wh.heap.size, 0, none⟩) 3 c3 2 2 _ rfl rfl hln.r (srw_two (w := wh) (s := iC) (s2 := iA) (t := 9)) (by decide) (by decide) HISZ.out hca)
  have HLN := Lib.hid hln
  clear hln hbn hca
  have M9 : Hid (∀ (w' : World) (p6 : Option Addr) (c6 : Nat), Below w.heap.size w w' → ItRw w' p6 [itC, itA] → Calls Tryz.prog 31 #[.agg #[.slice p6 2 c6], .slice (some ⟨w'.heap.size, 0, none⟩) 1 1] (w'.alloc (.cells #[.string iC] 9)) fun e w'' => (∃ q d, e = .returned (.slice q 1 d) ∧ SRw w'' q [iB.data.toList]) ∧ Below w'.heap.size w' w'') := fun w' p6 c6 hb hr => by
    have hbn' : Below w'.heap.size w' (w'.alloc (.cells #[.string iC] 9)) := below_new (Below.refl _ _) _
    refine (smissing_any [itC, itA] cS p6 (some ⟨w'.heap.size, 0, none⟩) 2 c6 1 1 _ (HMK.out _ [itC, itA] p6 2 (hb.trans (hbn'.mono hb.size)) (hr.below hbn') rfl (by decide) (fun e he => by simp only [List.mem_cons, List.not_mem_nil, or_false] at he ⊢; rcases he with rfl | rfl <;> simp)) rfl (srw_one (w := w') (s := iC) (t := 9)) HIDS.out (by decide) (by decide +kernel)).mono ?_
    rintro e w'' ⟨v, he, ho, hb2⟩
    rw [so_mi] at ho
    obtain ⟨q, d, rfl, hr2⟩ := ho.rw
    exact ⟨⟨q, d, he, hr2⟩, hbn'.trans (hb2.mono hbn'.size)⟩
  have V9 : Hid (∀ w', LvS w w' S p3 3 c3 l3S → Calls Tryz.prog 9 #[.agg #[.slice p3 3 c3]] w' fun e w'' => e = .returned (.bool true) ∧ Below w'.heap.size w' w'') := fun w' h => by
    have := svalid_any l3S p3 3 c3 w' (HTT.out _ h.b).1 (HTT.out _ h.b).2.1 (HTT.out _ h.b).2.2.1 (HTT.out _ h.b).2.2.2 rfl h.r (fun x hx => Nat.le_trans (HSZ.out x hx) (by decide)) (by decide)
    rw [so_v] at this
    exact this
  have I9 : Hid (∀ w', LvS w w' S p3 3 c3 l3S → Calls Tryz.prog 19 #[.agg #[.slice p3 3 c3]] w' fun e w'' => (∃ q d, e = .returned (.slice q 3 d)) ∧ Below w'.heap.size w' w'') := fun w' h => by
    refine (ids_any l3S p3 3 c3 w' rfl h.r (by decide)).mono ?_
    rintro e w'' ⟨⟨v, he, ho⟩, hb⟩
    obtain ⟨q, d, rfl, -⟩ := ho.rw
    exact ⟨⟨q, d, he⟩, hb⟩
  have B9 : Hid (∀ w', LvS w w' S p3 3 c3 l3S → Calls Tryz.prog 22 #[.agg #[.slice p3 3 c3], .string iB] w' fun e w'' => e = .returned (.bool true) ∧ Below w'.heap.size w' w'') := fun w' h => by
    have := has_any l3S iB p3 3 c3 w' rfl h.r (by decide)
    rw [so_g.2.2.2.1] at this
    exact this
  have E9 : Hid (∀ w', LvS w w' S p3 3 c3 l3S → Calls Tryz.prog 22 #[.agg #[.slice p3 3 c3], .string ⟨#[]⟩] w' fun e w'' => e = .returned (.bool false) ∧ Below w'.heap.size w' w'') := fun w' h => by
    have := has_any l3S ⟨#[]⟩ p3 3 c3 w' rfl h.r (by decide)
    rw [so_g.2.2.2.2] at this
    exact this
  have W9 : Hid (∀ w', LvS w w' S p3 3 c3 l3S → Calls Tryz.prog 33 #[.agg #[.slice p3 3 c3], .slice none 0 0, .slice (some ⟨w'.heap.size, 0, none⟩) 1 1] (w'.alloc (.cells #[.string iC] 9)) fun e w'' => e = .returned (.bool true) ∧ Below w'.heap.size w' w'') := fun w' h => by
    have hbn' : Below w'.heap.size w' (w'.alloc (.cells #[.string iC] 9)) := below_new (Below.refl _ _) _
    have h2 := h.below hbn'
    have := swhole_any l3S [] cS p3 none (some ⟨w'.heap.size, 0, none⟩) 3 c3 0 0 1 1 _ (HMK.out _ l3S p3 3 h2.b h2.r rfl (by decide) (fun _ h => h)) rfl rfl (fun k hk => absurd hk (Nat.not_lt_zero _)) (srw_one (w := w') (s := iC) (t := 9)) (fun x hx => by cases hx) HIDS.out (by decide) (by decide) (by decide +kernel)
    rw [so_w.1] at this
    exact this.mono fun e w'' ⟨he, hb⟩ => ⟨he, hbn'.trans (hb.mono hbn'.size)⟩
  have L9 : Hid (∀ w', LvS w w' S p3 3 c3 l3S → Calls Tryz.prog 27 #[.agg #[.slice p3 3 c3], .agg #[.slice p3 3 c3]] w' fun e w'' => (∃ q d, e = .returned (.agg #[.slice q 0 d])) ∧ Below w'.heap.size w' w'') := fun w' h => by
    refine (sless_any l3S l3S p3 p3 3 c3 3 c3 w' rfl rfl h.r h.r (by decide) (by decide)).mono ?_
    rintro e w'' ⟨v, he, ho, hb⟩
    rw [so_w.2] at ho
    obtain ⟨q, d, rfl, -⟩ := ho.rw2 (n := 0) rfl
    exact ⟨⟨q, d, he⟩, hb⟩
  clear hl y1
  go_upto_region 10 with (first
    | (go_at_call 23; (refine R9.out.mono ?_); rintro e w10 ⟨v10, rfl, ho10, hb10⟩; rw [so_m.1] at ho10; obtain ⟨p10, c10, rfl, -, -, hr10⟩ := ho10.rw2 (n := 2) rfl; have hl := HLN.out.below hb10; have y1 := cell_bel HYN.out hb10; have x0 := (st_at hl.s).1)
    | (go_at_call 31; (refine (M9.out w10 p10 c10 hl.b hr10).mono ?_); rintro e w11 ⟨⟨q11, d11, rfl, hr11⟩, hb'⟩; have hl := hl.below hb'; have x0 := (st_at hl.s).1; have y1 := cell_bel y1 hb'; obtain ⟨g11, o11, rfl, -, z0⟩ := hr11 0 (by decide); have z0 : w11.cell? ⟨g11, o11, none⟩ = some (.string iB) := z0))
  clear R9 M9 HYN HLN hr10 ho10 hr11 HMK HSZ HIDS HISZ HTT
  have HAB : Hid ((bA.toList == [97, 98]) = true) := by show _ = _; rw [show bA = (⟨#[97, 98]⟩ : ByteArray) from rfl, ByteArray.toList_eq]; rfl
  generalize iB = bb at z0 B9 ⊢
  generalize bA = ba at y1 HAB ⊢
  have hab := HAB.out
  have hfld : ∀ (q : Option Addr) (d : Nat) (w' : World), (Instr.field 24 (.agg #[.slice q 0 d]) 0).run Tryz.prog w' = .ok (.slice q 0 d) w' := fun q d w' => by kernel_rfl
  have hbb : (bb.toList == bb.toList) = true := beq_self_eq_true _
  go_step
  simp only [List.append_eq, List.cons_append, List.nil_append]
  go_wp2_with (first
    | (go_at_call 9; (with_reducible refine (V9.out _ hl).mono ?_); rintro e w' ⟨rfl, hb'⟩; have hl := hl.below hb'; have x0 := (st_at hl.s).1; have y1 := cell_bel y1 hb'; have z0 := cell_bel z0 hb')
    | (go_at_call 19; (with_reducible refine (I9.out _ hl).mono ?_); rintro e w' ⟨⟨q12, d12, rfl⟩, hb'⟩; have hl := hl.below hb'; have x0 := (st_at hl.s).1; have y1 := cell_bel y1 hb'; have z0 := cell_bel z0 hb')
    | (go_at_call 22; first
      | ((with_reducible refine (E9.out _ hl).mono ?_); rintro e w' ⟨rfl, hb'⟩; have hl := hl.below hb'; have x0 := (st_at hl.s).1; have y1 := cell_bel y1 hb'; have z0 := cell_bel z0 hb')
      | ((with_reducible refine (B9.out _ hl).mono ?_); rintro e w' ⟨rfl, hb'⟩; have hl := hl.below hb'; have x0 := (st_at hl.s).1; have y1 := cell_bel y1 hb'; have z0 := cell_bel z0 hb'))
    | (go_at_call 33; (with_reducible refine (W9.out _ hl).mono ?_); rintro e w' ⟨rfl, hb'⟩; have hl := hl.below hb'; have x0 := (st_at hl.s).1; have y1 := cell_bel y1 hb'; have z0 := cell_bel z0 hb')
    | (go_at_call 27; (with_reducible refine (L9.out _ hl).mono ?_); rintro e w' ⟨⟨q13, d13, rfl⟩, hb'⟩; have hl := hl.below hb'; have x0 := (st_at hl.s).1; have y1 := cell_bel y1 hb'; have z0 := cell_bel z0 hb'))
  go_ret
  exact ⟨rfl, hl.b⟩
end Go.Proofs.YtpkgiojicbdcfaaGreatDoor
/-
  The walk of the law StoreRights.
-/
namespace Go.Proofs.YtpkgiojicbdcfaaGreatDoor
open Go Go.RowKit Go.Maps Go.WideMaps

set_option maxHeartbeats 4000000 in
set_option maxRecDepth 8000 in
theorem storeRights_walk (l : List It) (p : Option Addr) (n c : Nat) (W : World) (hT : StrTab W) (hO : WoTab W) (hTr : TrTab W) (hK : KTab W) (hn : n = l.length) (hr : ItRw W p l) (hs : ∀ x ∈ l, x.b.size ≤ 140737488355328) (hn2 : n ≤ 140737488355328) :
    Calls Tryz.prog 3 #[.agg #[.slice p n c]] W fun e W' => e = .returned (.bool true) ∧ Below W.heap.size W W' := by
  obtain ⟨w1, hw1⟩ : ∃ w1, w1 = W.alloc (.cells #[.slice p n c] 24) := ⟨_, rfl⟩
  obtain ⟨S, hS⟩ : ∃ S, S = W.heap.size := ⟨_, rfl⟩
  have hx : w1.heap[S]? = some (.cells #[.slice p n c] 24 (0, 0)) := by rw [hw1, hS]; exact heap_alloc_new W _
  have hbx : Below W.heap.size W w1 := by rw [hw1]; exact below_new (Below.refl _ _) _
  obtain ⟨R, hR⟩ : ∃ R, R = rightI l := ⟨_, rfl⟩
  have HLV : Hid (∀ z : BelW w1, Calls Tryz.prog 8 #[] z.w fun e w'' => e = .returned (.bool true) ∧ ∃ y : BelW w1, w'' = y.w) := fun z => Calls.bel_class (lives_any z.w ((hT.below hbx).below z.h) ((hO.below hbx).below z.h) ((hTr.below hbx).below z.h) ((hK.below hbx).below z.h))
  have HV : Hid (∀ z : BelW w1, Calls Tryz.prog 9 #[.agg #[.slice p n c]] z.w fun e w'' => e = .returned (.bool R) ∧ ∃ y : BelW w1, w'' = y.w) := fun z => by
    rw [hR]
    exact Calls.bel_class (svalid_any l p n c z.w ((hT.below hbx).below z.h) ((hO.below hbx).below z.h) ((hTr.below hbx).below z.h) ((hK.below hbx).below z.h) hn ((hr.below hbx).below z.h) hs hn2)
  have HRR : Hid (∀ z : BelW w1, Calls Tryz.prog 10 #[.agg #[.slice p n c]] z.w fun e w'' => e = .returned (.bool R) ∧ ∃ y : BelW w1, w'' = y.w) := fun z => by
    rw [hR]
    exact Calls.bel_class (rright_any l p n c z.w hn ((hr.below hbx).below z.h) hs hn2)
  have HLV0 := Lib.hid (lives_any w1 (hT.below hbx) (hO.below hbx) (hTr.below hbx) (hK.below hbx))
  have x0 := (st_at hx).1
  have k0 : ∀ z : BelW w1, z.w.cell? ⟨S, 0, none⟩ = some (.slice p n c) := fun z => cell_bel x0 z.h
  have HBX := Lib.hid hbx
  have HW1 := Lib.hid hw1
  have HS := Lib.hid hS
  clear hT hO hTr hK hn hr hs hx hbx hw1 hS hR
  go_enter Tryz.func3, Tryz.ntmps3
  by_cases k1 : 80 < n
  · have g1 : (80 : Int) < (n : Int) := by omega
    clear k1
    go_upto_region 1 with fail
    rw [← HW1.out, ← HS.out]
    go_wp2_with (go_at_call 8; ((with_reducible refine HLV0.out.mono ?_); rintro e w2 ⟨rfl, hb2⟩))
    go_ret
    exact ⟨rfl, HBX.out.trans (hb2.mono HBX.out.size)⟩
  have g1 : ¬ (80 : Int) < (n : Int) := by omega
  clear k1
  go_upto_region 1 with fail
  rw [← HW1.out, ← HS.out]
  go_upto_region 3 with fail
  have e1 : (R == R) = true := beq_self_eq_true _
  have hq : Nonempty (BelW w1) := ⟨⟨w1, Below.refl _ _⟩⟩
  refine wp_region_bel (w0 := w1) (Below.refl _ _) (by kernel_rfl) (by kernel_rfl) ?_
  repeat (go_big_quiet_step (first
    | (go_at_call 8; (with_reducible exact HLV.out _))
    | (go_at_call 9; (with_reducible exact HV.out _))
    | (go_at_call 10; (with_reducible exact HRR.out _))))
  refine wpQuiet_nil ?_
  rintro _ ⟨z, rfl⟩
  have HZ := Lib.hid z.h
  obtain ⟨wz, hwz⟩ : ∃ wz, wz = z.w := ⟨_, rfl⟩
  rw [← hwz] at HZ ⊢
  clear hwz
  go_wp2_with fail
  go_ret
  exact ⟨rfl, HBX.out.trans (HZ.out.mono HBX.out.size)⟩
end Go.Proofs.YtpkgiojicbdcfaaGreatDoor
