/-
  The walk of Body.
-/
import Derived.Test.YtddmnibioacelaaGreatDoorCmIdsPk
namespace Go.Proofs.YtddmnibioacelaaGreatDoor
open Go Go.RowKit Go.Maps Go.WideMaps

theorem lineB_list (wd v : ByteArray) : (lineB wd v).data.toList = lineL wd.data.toList v.data.toList := by
  simp [lineB, lineL]
theorem lineB_size (wd v : ByteArray) : (lineB wd v).size = wd.size + v.size + 2 := by
  unfold lineB
  simp only [ByteArray.size_append]
  show wd.size + 1 + v.size + 1 = _
  omega
theorem whoL_size {p : Pn} (h : okPn p = true) : (whoL p).size ≤ 157 := by
  obtain ⟨h1, h2, h3, h4, h5, h6⟩ := okPn_parts h
  have n1 := (nameB_parts h1).2.1
  have n2 := (nameB_parts h2).2.1
  have n3 := itoa_len h3 (by omega)
  rw [list_len] at n1 n2
  unfold whoL
  simp only [ByteArray.size_append, zonL_len]
  show p.n.size + 2 + p.m.size + 2 + (str (Lib.itoa p.t)).size + 1 + 5 ≤ 157
  omega
theorem isId_size {s : ByteArray} (h : isId s = true) : s.size = 40 := by
  simp only [isId, Bool.and_eq_true, decide_eq_true_eq] at h
  exact h.1
theorem allId_mem {l : List (List UInt8)} (h : allId l = true) {y : List UInt8} (hy : y ∈ l) : isId (str y) = true := by
  unfold allId at h
  rw [List.all_eq_true] at h
  exact h y hy
theorem flat_next {l : List (List UInt8)} {k : Nat} (h : k < l.length) : (l.take (k + 1)).flatMap (lineL wPar) = (l.take k).flatMap (lineL wPar) ++ lineL wPar l[k] := by
  rw [List.take_succ_eq_append_getElem h, List.flatMap_append, List.flatMap_cons, List.flatMap_nil, List.append_nil]
theorem chkC_le (c : Cm) : chkC c ≤ 6 := by
  unfold chkC
  repeat' split
  all_goals omega

set_option maxHeartbeats 4000000 in
set_option maxRecDepth 4000 in
theorem cbody_any (c : Cm) (p : Option Addr) (n cap : Nat) (w : World) (hT : StrTab w) (hn : n = c.ps.length) (hp : SRw w p c.ps) (hl : ∀ y ∈ c.ps, y.length ≤ 140737488355328) (hn2 : n ≤ 140737488355328)
    (hs : c.t.size ≤ 140737488355328 ∧ c.a.n.size ≤ 140737488355328 ∧ c.a.m.size ≤ 140737488355328 ∧ c.c.n.size ≤ 140737488355328 ∧ c.c.m.size ≤ 140737488355328) :
    Calls Tryz.prog 10 #[.agg #[.string c.t, .slice p n cap, .string c.a.n, .string c.a.m, .int .i64 c.a.t, .int .i64 c.a.z, .string c.c.n, .string c.c.m, .int .i64 c.c.t, .int .i64 c.c.z, .string c.x]] w
      fun e w' => e = .returned (.tuple #[.string (str (bodyC c)), .int .i64 (chkC c : Int)]) ∧ Below w.heap.size w w' := by
  have hck := fun w' (hb : SRw w' p c.ps) => ccheck_any c p n cap w' hn hb hl hn2 hs
  obtain ⟨C, hC⟩ : ∃ C, C = chkC c := ⟨_, rfl⟩
  obtain ⟨R, hR⟩ : ∃ R, R = str (bodyC c) := ⟨_, rfl⟩
  have hok := @chkC_ok c
  rw [← hC] at hck hok ⊢
  rw [← hR]
  unfold bodyC at hR
  rw [← hC] at hR
  obtain ⟨t, ps, ⟨an, am, aT, az⟩, ⟨cn, cm, cT, cz⟩, x⟩ := c
  simp only at hn hp hl hs hck hok
  obtain ⟨w1, hw1⟩ : ∃ w1, w1 = w.alloc (.cells #[.string t, .slice p n cap, .string an, .string am, .int .i64 aT, .int .i64 az, .string cn, .string cm, .int .i64 cT, .int .i64 cz, .string x] 26) := ⟨_, rfl⟩
  have hx := heap_alloc_new w (.cells #[.string t, .slice p n cap, .string an, .string am, .int .i64 aT, .int .i64 az, .string cn, .string cm, .int .i64 cT, .int .i64 cz, .string x] 26)
  rw [← hw1] at hx
  have hbx : Below w.heap.size w w1 := by rw [hw1]; exact below_new (Below.refl _ _) _
  have HCK := Lib.hid (hck w1 (hp.below hbx))
  have HBX := Lib.hid hbx
  have HW1 := Lib.hid hw1
  have HX := Lib.hid hx
  obtain ⟨x0, x1, x2, x3, x4, x5, x6, x7, x8, x9, x10⟩ := cm_at hx
  by_cases h0 : C = 0
  case neg =>
    have HQ : Hid (R = ⟨#[]⟩) := by show _ = _; rw [hR, if_neg h0]; rfl
    have g0 : ((C : Int) != 0) = true := by simp; omega
    clear hck hok hR hw1 hx hbx h0 hn hp hl hs hT hC
    go_enter Tryz.func10, Tryz.ntmps10
    go_upto_region 1 with fail
    rw [← HW1.out]
    go_wp2_with (go_at_call 12; ((with_reducible refine (HCK.out).mono ?_); rintro e w2 ⟨rfl, hb2⟩))
    go_ret2
    exact ⟨by rw [HQ.out]; rfl, HBX.out.trans (hb2.mono HBX.out.size)⟩
  have g0 : ((C : Int) != 0) = false := by simp [h0]
  obtain ⟨ho, hx4, hn8, -⟩ := hok h0
  obtain ⟨i1, i2, i3, i4, -⟩ := okC_parts ho
  simp only at i1 i2 i3 i4 hx4 hn8
  have ht40 := isId_size i1
  obtain ⟨A, hA⟩ : ∃ A, A = whoL ⟨an, am, aT, az⟩ := ⟨_, rfl⟩
  obtain ⟨K, hK⟩ : ∃ K, K = whoL ⟨cn, cm, cT, cz⟩ := ⟨_, rfl⟩
  have hA1 : A.size ≤ 157 := by rw [hA]; exact whoL_size i3
  have hK1 : K.size ≤ 157 := by rw [hK]; exact whoL_size i4
  obtain ⟨l1, hl1⟩ : ∃ l1, l1 = lineB ⟨#[116, 114, 101, 101]⟩ t := ⟨_, rfl⟩
  obtain ⟨l2, hl2⟩ : ∃ l2, l2 = lineB ⟨#[97, 117, 116, 104, 111, 114]⟩ A := ⟨_, rfl⟩
  obtain ⟨l3, hl3⟩ : ∃ l3, l3 = lineB ⟨#[99, 111, 109, 109, 105, 116, 116, 101, 114]⟩ K := ⟨_, rfl⟩
  have hl1s : l1.size = 46 := by rw [hl1, lineB_size, ht40]; rfl
  have hl2s : l2.size ≤ 200 := by rw [hl2, lineB_size]; show 6 + A.size + 2 ≤ 200; omega
  have hl3s : l3.size ≤ 200 := by rw [hl3, lineB_size]; show 9 + K.size + 2 ≤ 200; omega
  have HR : Hid (∀ h : ByteArray, h.data.toList = l1.data.toList ++ (ps.take n).flatMap (lineL wPar) → h ++ (l2 ++ l3) ++ ⟨#[10]⟩ ++ x = R) := fun h hh => by
    rw [hR, if_pos h0, encC]
    refine ba_ext ?_
    rw [List.take_of_length_le (by omega)] at hh
    rw [str_list]
    simp only [app_list, hh, hl1, hl2, hl3, lineB_list, hA, hK]
    show lineL wTree t.data.toList ++ List.flatMap (lineL wPar) ps ++ (lineL wAut (whoL ⟨an, am, aT, az⟩).data.toList ++ lineL wCom (whoL ⟨cn, cm, cT, cz⟩).data.toList) ++ [10] ++ x.data.toList = _
    simp only [List.append_assoc]
    rfl
  have HL1 : Hid (∀ w', Calls Tryz.prog 34 #[.string ⟨#[116, 114, 101, 101]⟩, .string t] w' fun e w'' => e = .returned (.string l1) ∧ w'' = w') := fun w' => by rw [hl1]; exact line_any _ _ w' (by decide) (by omega)
  have HL2 : Hid (∀ w', Calls Tryz.prog 34 #[.string ⟨#[97, 117, 116, 104, 111, 114]⟩, .string A] w' fun e w'' => e = .returned (.string l2) ∧ w'' = w') := fun w' => by rw [hl2]; exact line_any _ _ w' (by decide) (by omega)
  have HL3 : Hid (∀ w', Calls Tryz.prog 34 #[.string ⟨#[99, 111, 109, 109, 105, 116, 116, 101, 114]⟩, .string K] w' fun e w'' => e = .returned (.string l3) ∧ w'' = w') := fun w' => by rw [hl3]; exact line_any _ _ w' (by decide) (by omega)
  have pa := okPn_parts i3
  have pc := okPn_parts i4
  simp only at pa pc
  have HA : Hid (∀ w', Below w1.heap.size w1 w' → Calls Tryz.prog 25 #[.agg #[.string an, .string am, .int .i64 aT, .int .i64 az]] w' fun e w'' => e = .returned (.string A) ∧ Below w'.heap.size w' w'') := fun w' hb => by
    rw [hA]
    exact fmt_any ⟨an, am, aT, az⟩ w' ((hT.below hbx).below hb) hs.2.1 hs.2.2.1 (by simp only; omega) (by simp only; omega) (by simp only; omega)
  have HK : Hid (∀ w', Below w1.heap.size w1 w' → Calls Tryz.prog 25 #[.agg #[.string cn, .string cm, .int .i64 cT, .int .i64 cz]] w' fun e w'' => e = .returned (.string K) ∧ Below w'.heap.size w' w'') := fun w' hb => by
    rw [hK]
    exact fmt_any ⟨cn, cm, cT, cz⟩ w' ((hT.below hbx).below hb) hs.2.2.2.1 hs.2.2.2.2 (by simp only; omega) (by simp only; omega) (by simp only; omega)
  have HP := Lib.hid (hp.below hbx)
  have HN := Lib.hid hn
  have HID : Hid (∀ y ∈ ps, isId (str y) = true) := fun y hy => allId_mem i2 hy
  obtain ⟨B, hB⟩ : ∃ B, B = w.heap.size := ⟨_, rfl⟩
  have HBE := Lib.hid hB
  rw [← hB] at HX x0 x1 x2 x3 x4 x5 x6 x7 x8 x9 x10
  have hnn : n ≤ 8 := by omega
  have HC0 := Lib.hid h0
  clear hck hok hR hw1 hx hbx h0 hn hp hl hs hT hC ho hn8 i1 i2 i3 i4 hA hK hl1 hl2 hl3 pa pc hn2 hB
  go_enter Tryz.func10, Tryz.ntmps10
  go_upto_region 1 with fail
  rw [← HW1.out, ← HBE.out]
  go_upto_region 5 with (first
    | (go_at_call 12; ((with_reducible refine (HCK.out).mono ?_); rintro e w2 ⟨rfl, hb2⟩; obtain ⟨y0, y1, y2, y3, y4, y5, y6, y7, y8, y9, y10⟩ := cm_at ((hb2.block _ (row_lt HX.out)).trans HX.out)))
    | (go_at_call 34; ((with_reducible refine (HL1.out _).mono ?_); rintro e w3 ⟨rfl, rfl⟩)))
  have HB2 := Lib.hid hb2
  clear x0 x1 x2 x3 x4 x5 x6 x7 x8 x9 x10 y0 y2 y3 y4 y5 y6 y7 y8 y9 y10 HCK HL1 hb2
  go_wp2_with fail
  go_loopw [5, 19] (fun hv iv wr => ∃ (k : Nat) (h : ByteArray), k ≤ n ∧ iv = .int .i64 (k : Int) ∧ hv = .string h ∧ h.size ≤ 46 + 48 * k ∧ Hid (h.data.toList = l1.data.toList ++ (ps.take k).flatMap (lineL wPar)) ∧ Hid (Below w1.heap.size w1 wr)) (fun _ iv _ => n - (intOf iv).toNat)
  case atStart => exact ⟨0, l1, by omega, rfl, rfl, by omega, by show _ = _; simp, HB2.out⟩
  case round =>
    obtain ⟨k, h, hk, rfl, rfl, hh, HH, HB⟩ := hrel
    by_cases hlt : k < n
    · have hkl : k < ps.length := by rw [← HN.out]; exact hlt
      obtain ⟨y, hy⟩ : ∃ y, y = str ps[k] := ⟨_, rfl⟩
      have hy40 : y.size = 40 := by rw [hy]; exact isId_size (HID.out _ (List.getElem_mem hkl))
      have hyl : y.data.toList = ps[k] := by rw [hy]; rfl
      obtain ⟨g, o, rfl, hg, a0⟩ := HP.out.below HB.out k hkl
      rw [← hy] at a0
      obtain ⟨l, hll⟩ : ∃ l, l = lineB ⟨#[112, 97, 114, 101, 110, 116]⟩ y := ⟨_, rfl⟩
      have hls : l.size = 48 := by rw [hll, lineB_size, hy40]; rfl
      have HLN : Hid (∀ w', Calls Tryz.prog 34 #[.string ⟨#[112, 97, 114, 101, 110, 116]⟩, .string y] w' fun e w'' => e = .returned (.string l) ∧ w'' = w') := fun w' => by rw [hll]; exact line_any _ _ w' (by decide) (by omega)
      have HH2 : Hid ((h ++ l).data.toList = l1.data.toList ++ (ps.take (k + 1)).flatMap (lineL wPar)) := by
        show _ = _
        rw [app_list, HH.out, hll, lineB_list, flat_next hkl, hyl, List.append_assoc]
        rfl
      have hs2 : (h ++ l).size ≤ 46 + 48 * (k + 1) := by rw [ByteArray.size_append]; omega
      clear hy hyl hll hkl
      go_wp2_with (go_at_call 34; ((with_reducible refine (HLN.out _).mono ?_); rintro e w3 ⟨rfl, rfl⟩))
      go_roundw
      case rel => exact ⟨k + 1, _, by omega, by go_num, rfl, hs2, HH2.out, HB.out⟩
      case measure => simp [intOf]; omega
    obtain rfl : k = n := by omega
    have HQ : Hid (h ++ (l2 ++ l3) ++ ⟨#[10]⟩ ++ x = R) := HR.out h HH.out
    obtain ⟨c0, c1, c2, c3, c4, c5, c6, c7, c8, c9, c10⟩ := cm_at ((HB.out.block _ (row_lt HX.out)).trans HX.out)
    have hq : Nonempty (BelW wr) := ⟨⟨wr, Below.refl _ _⟩⟩
    have k2 : ∀ y : BelW wr, y.w.cell? ⟨B, 2, none⟩ = some (.string an) := fun y => cell_bel c2 y.h
    have k3 : ∀ y : BelW wr, y.w.cell? ⟨B, 3, none⟩ = some (.string am) := fun y => cell_bel c3 y.h
    have k4 : ∀ y : BelW wr, y.w.cell? ⟨B, 4, none⟩ = some (.int .i64 aT) := fun y => cell_bel c4 y.h
    have k5 : ∀ y : BelW wr, y.w.cell? ⟨B, 5, none⟩ = some (.int .i64 az) := fun y => cell_bel c5 y.h
    have k6 : ∀ y : BelW wr, y.w.cell? ⟨B, 6, none⟩ = some (.string cn) := fun y => cell_bel c6 y.h
    have k7 : ∀ y : BelW wr, y.w.cell? ⟨B, 7, none⟩ = some (.string cm) := fun y => cell_bel c7 y.h
    have k8 : ∀ y : BelW wr, y.w.cell? ⟨B, 8, none⟩ = some (.int .i64 cT) := fun y => cell_bel c8 y.h
    have k9 : ∀ y : BelW wr, y.w.cell? ⟨B, 9, none⟩ = some (.int .i64 cz) := fun y => cell_bel c9 y.h
    have k10 : ∀ y : BelW wr, y.w.cell? ⟨B, 10, none⟩ = some (.string x) := fun y => cell_bel c10 y.h
    have HAq : Hid (∀ y : BelW wr, Calls Tryz.prog 25 #[.agg #[.string an, .string am, .int .i64 aT, .int .i64 az]] y.w fun e w'' => e = .returned (.string A) ∧ ∃ z : BelW wr, w'' = z.w) := fun y => Calls.bel_class (HA.out _ (HB.out.trans (y.h.mono HB.out.size)))
    have HKq : Hid (∀ y : BelW wr, Calls Tryz.prog 25 #[.agg #[.string cn, .string cm, .int .i64 cT, .int .i64 cz]] y.w fun e w'' => e = .returned (.string K) ∧ ∃ z : BelW wr, w'' = z.w) := fun y => Calls.bel_class (HK.out _ (HB.out.trans (y.h.mono HB.out.size)))
    have HL2q : Hid (∀ y : BelW wr, Calls Tryz.prog 34 #[.string ⟨#[97, 117, 116, 104, 111, 114]⟩, .string A] y.w fun e w'' => e = .returned (.string l2) ∧ ∃ z : BelW wr, w'' = z.w) := fun y => Calls.same_class (HL2.out _)
    have HL3q : Hid (∀ y : BelW wr, Calls Tryz.prog 34 #[.string ⟨#[99, 111, 109, 109, 105, 116, 116, 101, 114]⟩, .string K] y.w fun e w'' => e = .returned (.string l3) ∧ ∃ z : BelW wr, w'' = z.w) := fun y => Calls.same_class (HL3.out _)
    clear c0 c1 c2 c3 c4 c5 c6 c7 c8 c9 c10 HA HK HL2 HL3 HR HH
    go_upto_region 10 with fail
    refine wp_region_bel (w0 := wr) (Below.refl _ _) (by kernel_rfl) (by kernel_rfl) ?_
    repeat (go_big_quiet_step (first
      | (go_at_call 25; first | (with_reducible exact HAq.out _) | (with_reducible exact HKq.out _))
      | (go_at_call 34; first | (with_reducible exact HL2q.out _) | (with_reducible exact HL3q.out _))))
    refine wpQuiet_nil ?_
    rintro _ ⟨z, rfl⟩
    have d10 := k10 z
    have HZ := Lib.hid (HB.out.trans (z.h.mono HB.out.size))
    obtain ⟨wz, hwz⟩ : ∃ wz, wz = z.w := ⟨_, rfl⟩
    rw [← hwz] at d10 HZ ⊢
    clear k2 k3 k4 k5 k6 k7 k8 k9 k10 hwz z
    go_wp2_with fail
    go_ret2
    exact ⟨by rw [HC0.out, ← HQ.out]; rfl, HBX.out.trans (HZ.out.mono HBX.out.size)⟩
end Go.Proofs.YtddmnibioacelaaGreatDoor
/-
  Parse's pieces: how long they are; the box of a commit.
-/
namespace Go.Proofs.YtddmnibioacelaaGreatDoor
open Go Go.RowKit Go.Maps Go.WideMaps

theorem cm_row {w : World} {E : Nat} {c0 c1 c2 c3 c4 c5 c6 c7 c8 c9 c10 v0 v1 v2 v3 v4 v5 v6 v7 v8 v9 v10 : Value} (h0 : w.heap[E]? = some (.cells #[c0, c1, c2, c3, c4, c5, c6, c7, c8, c9, c10] 26 (0, 0))) :
    (((((((((((w.setCell ⟨E, 0, none⟩ v0).setCell ⟨E, 1, none⟩ v1).setCell ⟨E, 2, none⟩ v2).setCell ⟨E, 3, none⟩ v3).setCell ⟨E, 4, none⟩ v4).setCell ⟨E, 5, none⟩ v5).setCell ⟨E, 6, none⟩ v6).setCell ⟨E, 7, none⟩ v7).setCell ⟨E, 8, none⟩ v8).setCell ⟨E, 9, none⟩ v9).setCell ⟨E, 10, none⟩ v10).heap[E]? = some (.cells #[v0, v1, v2, v3, v4, v5, v6, v7, v8, v9, v10] 26 (0, 0)) := by
  have h1 : (w.setCell ⟨E, 0, none⟩ v0).heap[E]? = some (.cells #[v0, c1, c2, c3, c4, c5, c6, c7, c8, c9, c10] 26 (0, 0)) := by
    have h := heap_setCell_same w E 0 _ 26 v0 h0
    simp only [List.setIfInBounds_toArray, List.set_cons_zero, List.set_cons_succ] at h
    exact h
  have h2 : ((w.setCell ⟨E, 0, none⟩ v0).setCell ⟨E, 1, none⟩ v1).heap[E]? = some (.cells #[v0, v1, c2, c3, c4, c5, c6, c7, c8, c9, c10] 26 (0, 0)) := by
    have h := heap_setCell_same (w.setCell ⟨E, 0, none⟩ v0) E 1 _ 26 v1 h1
    simp only [List.setIfInBounds_toArray, List.set_cons_zero, List.set_cons_succ] at h
    exact h
  have h3 : (((w.setCell ⟨E, 0, none⟩ v0).setCell ⟨E, 1, none⟩ v1).setCell ⟨E, 2, none⟩ v2).heap[E]? = some (.cells #[v0, v1, v2, c3, c4, c5, c6, c7, c8, c9, c10] 26 (0, 0)) := by
    have h := heap_setCell_same ((w.setCell ⟨E, 0, none⟩ v0).setCell ⟨E, 1, none⟩ v1) E 2 _ 26 v2 h2
    simp only [List.setIfInBounds_toArray, List.set_cons_zero, List.set_cons_succ] at h
    exact h
  have h4 : ((((w.setCell ⟨E, 0, none⟩ v0).setCell ⟨E, 1, none⟩ v1).setCell ⟨E, 2, none⟩ v2).setCell ⟨E, 3, none⟩ v3).heap[E]? = some (.cells #[v0, v1, v2, v3, c4, c5, c6, c7, c8, c9, c10] 26 (0, 0)) := by
    have h := heap_setCell_same (((w.setCell ⟨E, 0, none⟩ v0).setCell ⟨E, 1, none⟩ v1).setCell ⟨E, 2, none⟩ v2) E 3 _ 26 v3 h3
    simp only [List.setIfInBounds_toArray, List.set_cons_zero, List.set_cons_succ] at h
    exact h
  have h5 : (((((w.setCell ⟨E, 0, none⟩ v0).setCell ⟨E, 1, none⟩ v1).setCell ⟨E, 2, none⟩ v2).setCell ⟨E, 3, none⟩ v3).setCell ⟨E, 4, none⟩ v4).heap[E]? = some (.cells #[v0, v1, v2, v3, v4, c5, c6, c7, c8, c9, c10] 26 (0, 0)) := by
    have h := heap_setCell_same ((((w.setCell ⟨E, 0, none⟩ v0).setCell ⟨E, 1, none⟩ v1).setCell ⟨E, 2, none⟩ v2).setCell ⟨E, 3, none⟩ v3) E 4 _ 26 v4 h4
    simp only [List.setIfInBounds_toArray, List.set_cons_zero, List.set_cons_succ] at h
    exact h
  have h6 : ((((((w.setCell ⟨E, 0, none⟩ v0).setCell ⟨E, 1, none⟩ v1).setCell ⟨E, 2, none⟩ v2).setCell ⟨E, 3, none⟩ v3).setCell ⟨E, 4, none⟩ v4).setCell ⟨E, 5, none⟩ v5).heap[E]? = some (.cells #[v0, v1, v2, v3, v4, v5, c6, c7, c8, c9, c10] 26 (0, 0)) := by
    have h := heap_setCell_same (((((w.setCell ⟨E, 0, none⟩ v0).setCell ⟨E, 1, none⟩ v1).setCell ⟨E, 2, none⟩ v2).setCell ⟨E, 3, none⟩ v3).setCell ⟨E, 4, none⟩ v4) E 5 _ 26 v5 h5
    simp only [List.setIfInBounds_toArray, List.set_cons_zero, List.set_cons_succ] at h
    exact h
  have h7 : (((((((w.setCell ⟨E, 0, none⟩ v0).setCell ⟨E, 1, none⟩ v1).setCell ⟨E, 2, none⟩ v2).setCell ⟨E, 3, none⟩ v3).setCell ⟨E, 4, none⟩ v4).setCell ⟨E, 5, none⟩ v5).setCell ⟨E, 6, none⟩ v6).heap[E]? = some (.cells #[v0, v1, v2, v3, v4, v5, v6, c7, c8, c9, c10] 26 (0, 0)) := by
    have h := heap_setCell_same ((((((w.setCell ⟨E, 0, none⟩ v0).setCell ⟨E, 1, none⟩ v1).setCell ⟨E, 2, none⟩ v2).setCell ⟨E, 3, none⟩ v3).setCell ⟨E, 4, none⟩ v4).setCell ⟨E, 5, none⟩ v5) E 6 _ 26 v6 h6
    simp only [List.setIfInBounds_toArray, List.set_cons_zero, List.set_cons_succ] at h
    exact h
  have h8 : ((((((((w.setCell ⟨E, 0, none⟩ v0).setCell ⟨E, 1, none⟩ v1).setCell ⟨E, 2, none⟩ v2).setCell ⟨E, 3, none⟩ v3).setCell ⟨E, 4, none⟩ v4).setCell ⟨E, 5, none⟩ v5).setCell ⟨E, 6, none⟩ v6).setCell ⟨E, 7, none⟩ v7).heap[E]? = some (.cells #[v0, v1, v2, v3, v4, v5, v6, v7, c8, c9, c10] 26 (0, 0)) := by
    have h := heap_setCell_same (((((((w.setCell ⟨E, 0, none⟩ v0).setCell ⟨E, 1, none⟩ v1).setCell ⟨E, 2, none⟩ v2).setCell ⟨E, 3, none⟩ v3).setCell ⟨E, 4, none⟩ v4).setCell ⟨E, 5, none⟩ v5).setCell ⟨E, 6, none⟩ v6) E 7 _ 26 v7 h7
    simp only [List.setIfInBounds_toArray, List.set_cons_zero, List.set_cons_succ] at h
    exact h
  have h9 : (((((((((w.setCell ⟨E, 0, none⟩ v0).setCell ⟨E, 1, none⟩ v1).setCell ⟨E, 2, none⟩ v2).setCell ⟨E, 3, none⟩ v3).setCell ⟨E, 4, none⟩ v4).setCell ⟨E, 5, none⟩ v5).setCell ⟨E, 6, none⟩ v6).setCell ⟨E, 7, none⟩ v7).setCell ⟨E, 8, none⟩ v8).heap[E]? = some (.cells #[v0, v1, v2, v3, v4, v5, v6, v7, v8, c9, c10] 26 (0, 0)) := by
    have h := heap_setCell_same ((((((((w.setCell ⟨E, 0, none⟩ v0).setCell ⟨E, 1, none⟩ v1).setCell ⟨E, 2, none⟩ v2).setCell ⟨E, 3, none⟩ v3).setCell ⟨E, 4, none⟩ v4).setCell ⟨E, 5, none⟩ v5).setCell ⟨E, 6, none⟩ v6).setCell ⟨E, 7, none⟩ v7) E 8 _ 26 v8 h8
    simp only [List.setIfInBounds_toArray, List.set_cons_zero, List.set_cons_succ] at h
    exact h
  have h10 : ((((((((((w.setCell ⟨E, 0, none⟩ v0).setCell ⟨E, 1, none⟩ v1).setCell ⟨E, 2, none⟩ v2).setCell ⟨E, 3, none⟩ v3).setCell ⟨E, 4, none⟩ v4).setCell ⟨E, 5, none⟩ v5).setCell ⟨E, 6, none⟩ v6).setCell ⟨E, 7, none⟩ v7).setCell ⟨E, 8, none⟩ v8).setCell ⟨E, 9, none⟩ v9).heap[E]? = some (.cells #[v0, v1, v2, v3, v4, v5, v6, v7, v8, v9, c10] 26 (0, 0)) := by
    have h := heap_setCell_same (((((((((w.setCell ⟨E, 0, none⟩ v0).setCell ⟨E, 1, none⟩ v1).setCell ⟨E, 2, none⟩ v2).setCell ⟨E, 3, none⟩ v3).setCell ⟨E, 4, none⟩ v4).setCell ⟨E, 5, none⟩ v5).setCell ⟨E, 6, none⟩ v6).setCell ⟨E, 7, none⟩ v7).setCell ⟨E, 8, none⟩ v8) E 9 _ 26 v9 h9
    simp only [List.setIfInBounds_toArray, List.set_cons_zero, List.set_cons_succ] at h
    exact h
  have h11 : (((((((((((w.setCell ⟨E, 0, none⟩ v0).setCell ⟨E, 1, none⟩ v1).setCell ⟨E, 2, none⟩ v2).setCell ⟨E, 3, none⟩ v3).setCell ⟨E, 4, none⟩ v4).setCell ⟨E, 5, none⟩ v5).setCell ⟨E, 6, none⟩ v6).setCell ⟨E, 7, none⟩ v7).setCell ⟨E, 8, none⟩ v8).setCell ⟨E, 9, none⟩ v9).setCell ⟨E, 10, none⟩ v10).heap[E]? = some (.cells #[v0, v1, v2, v3, v4, v5, v6, v7, v8, v9, v10] 26 (0, 0)) := by
    have h := heap_setCell_same ((((((((((w.setCell ⟨E, 0, none⟩ v0).setCell ⟨E, 1, none⟩ v1).setCell ⟨E, 2, none⟩ v2).setCell ⟨E, 3, none⟩ v3).setCell ⟨E, 4, none⟩ v4).setCell ⟨E, 5, none⟩ v5).setCell ⟨E, 6, none⟩ v6).setCell ⟨E, 7, none⟩ v7).setCell ⟨E, 8, none⟩ v8).setCell ⟨E, 9, none⟩ v9) E 10 _ 26 v10 h10
    simp only [List.setIfInBounds_toArray, List.set_cons_zero, List.set_cons_succ] at h
    exact h
  exact h11
theorem cm_frz {w : World} {E : Nat} {v0 v1 v2 v3 v4 v5 v6 v7 v8 v9 v10 : Value} (h : w.heap[E]? = some (.cells #[v0, v1, v2, v3, v4, v5, v6, v7, v8, v9, v10] 26 (0, 0))) :
    w.frozen? ⟨E, 0, none⟩ = false ∧ w.frozen? ⟨E, 1, none⟩ = false ∧ w.frozen? ⟨E, 2, none⟩ = false ∧ w.frozen? ⟨E, 3, none⟩ = false ∧ w.frozen? ⟨E, 4, none⟩ = false ∧ w.frozen? ⟨E, 5, none⟩ = false ∧ w.frozen? ⟨E, 6, none⟩ = false ∧ w.frozen? ⟨E, 7, none⟩ = false ∧ w.frozen? ⟨E, 8, none⟩ = false ∧ w.frozen? ⟨E, 9, none⟩ = false ∧ w.frozen? ⟨E, 10, none⟩ = false := ⟨frozen_of_row _ _ 0 _ _ h, frozen_of_row _ _ 1 _ _ h, frozen_of_row _ _ 2 _ _ h, frozen_of_row _ _ 3 _ _ h, frozen_of_row _ _ 4 _ _ h, frozen_of_row _ _ 5 _ _ h, frozen_of_row _ _ 6 _ _ h, frozen_of_row _ _ 7 _ _ h, frozen_of_row _ _ 8 _ _ h, frozen_of_row _ _ 9 _ _ h, frozen_of_row _ _ 10 _ _ h⟩
theorem set11_below {B E : Nat} {w0 w : World} {v0 v1 v2 v3 v4 v5 v6 v7 v8 v9 v10 : Value} (h : Below B w0 w) (hE : B ≤ E) : Below B w0 (((((((((((w.setCell ⟨E, 0, none⟩ v0).setCell ⟨E, 1, none⟩ v1).setCell ⟨E, 2, none⟩ v2).setCell ⟨E, 3, none⟩ v3).setCell ⟨E, 4, none⟩ v4).setCell ⟨E, 5, none⟩ v5).setCell ⟨E, 6, none⟩ v6).setCell ⟨E, 7, none⟩ v7).setCell ⟨E, 8, none⟩ v8).setCell ⟨E, 9, none⟩ v9).setCell ⟨E, 10, none⟩ v10) :=
  (((((((((((h.setCell (p := ⟨E, 0, none⟩) hE _).setCell (p := ⟨E, 1, none⟩) hE _).setCell (p := ⟨E, 2, none⟩) hE _).setCell (p := ⟨E, 3, none⟩) hE _).setCell (p := ⟨E, 4, none⟩) hE _).setCell (p := ⟨E, 5, none⟩) hE _).setCell (p := ⟨E, 6, none⟩) hE _).setCell (p := ⟨E, 7, none⟩) hE _).setCell (p := ⟨E, 8, none⟩) hE _).setCell (p := ⟨E, 9, none⟩) hE _).setCell (p := ⟨E, 10, none⟩) hE _)
theorem whoR_len (l : List UInt8) : (whoR l).2.n.size ≤ l.length ∧ (whoR l).2.m.size ≤ l.length := by
  have h1 := cutLen_le l [32, 60]
  have h2 := cutLen_le (Lib.cut l [32, 60]).2.1 [62, 32]
  rw [whoR]
  unfold codeW
  split
  · exact ⟨Nat.zero_le _, Nat.zero_le _⟩
  · split
    · exact ⟨Nat.zero_le _, Nat.zero_le _⟩
    · simp only [whoP, str_size, whoN, whoM]
      omega
theorem valV_len (l wd : List UInt8) : (valV l wd).length ≤ l.length := (val_len l wd).1
theorem valR_len (l : List UInt8) : (valR l).length ≤ l.length := (val_len l []).2
theorem parsP_sum : ∀ (n : Nat) (l : List UInt8) (B : Bool) (ps : List (List UInt8)), l.length ≤ n → (parsP l B ps).1.length + (parsP l B ps).2.1.length ≤ ps.length + l.length
  | n, l, B, ps, hn => by
    cases h : Lib.hasPrefix l (wPar ++ [32]) with
    | false => rw [parsP_end h]; exact Nat.le_refl _
    | true =>
      have := valR_lt (has_ne (by decide) h)
      rw [parsP_go h]
      cases n with
      | zero => omega
      | succ n =>
        have := parsP_sum n (valR l) ((B || !(valO l wPar)) || !(isId (str (valV l wPar)))) (ps ++ [valV l wPar]) (by omega)
        simp only [List.length_append, List.length_singleton] at this
        omega
theorem parsP_all : ∀ (n : Nat) (l : List UInt8) (B : Bool) (ps : List (List UInt8)) (M : Nat), l.length ≤ n → l.length ≤ M → (∀ y ∈ ps, y.length ≤ M) → ∀ y ∈ (parsP l B ps).1, y.length ≤ M
  | n, l, B, ps, M, hn, hM, hp => by
    cases h : Lib.hasPrefix l (wPar ++ [32]) with
    | false => rw [parsP_end h]; exact hp
    | true =>
      have h1 := valR_lt (has_ne (by decide) h)
      have h2 := valV_len l wPar
      rw [parsP_go h]
      cases n with
      | zero => omega
      | succ n =>
        refine parsP_all n _ _ _ M (by omega) (by omega) fun y hy => ?_
        rw [List.mem_append, List.mem_singleton] at hy
        rcases hy with hy | rfl
        · exact hp y hy
        · omega
/-- What Parse answers. -/
def ParCR (R : Nat × Cm) (w : World) (e : Ending) (w' : World) : Prop :=
  (∃ p cap, e = .returned (.tuple #[.agg #[.string R.2.t, .slice p R.2.ps.length cap, .string R.2.a.n, .string R.2.a.m, .int .i64 R.2.a.t, .int .i64 R.2.a.z, .string R.2.c.n, .string R.2.c.m, .int .i64 R.2.c.t, .int .i64 R.2.c.z, .string R.2.x], .int .i64 (R.1 : Int)]) ∧ SRw w' p R.2.ps) ∧ Below w.heap.size w w'
theorem parCR_bad {R : Nat × Cm} {w w' : World} {c : Nat} (h : R = (c, Cm.zero)) (hb : Below w.heap.size w w') :
    ParCR R w (.returned (.tuple #[.agg #[.string ⟨#[]⟩, .slice none 0 0, .string ⟨#[]⟩, .string ⟨#[]⟩, .int .i64 0, .int .i64 0, .string ⟨#[]⟩, .string ⟨#[]⟩, .int .i64 0, .int .i64 0, .string ⟨#[]⟩], .int .i64 (c : Int)])) w' := by
  subst h
  exact ⟨⟨none, 0, rfl, SRw.none _ _⟩, hb⟩
/-- How much is left. -/
def restLen (w : World) (b : Nat) : Nat := match w.cell? ⟨b, 0, none⟩ with
  | some (.string s) => s.size
  | _ => 0
theorem restLen_eq {w : World} {b : Nat} {s : ByteArray} {B : Bool} (h : Rd w b s B) : restLen w b = s.size := by
  unfold restLen
  rw [h.at.1]
/-- A parent that is put behind. -/
theorem par_put {w4 w6 : World} {ob : Obj} {b E base g c L : Nat} {v : Value} {ps : List (List UInt8)} {s V : ByteArray} {B : Bool} {v0 v2 v3 v4 v5 v6 v7 v8 v9 v10 : Value}
    (hR : Rd w4 b s B) (hE : w4.heap[E]? = some (.cells #[v0, v, v2, v3, v4, v5, v6, v7, v8, v9, v10] 26 (0, 0))) (ho : SOw w4 base v ps) (hb : b < base) (hEb : E < base) (hne : b ≠ E) (hbase : base ≤ w4.heap.size)
    (ho6 : w6.ownsRow base 9 1 (.slice (some ⟨g, 0, none⟩) (L + 1) c) (L + 1) (strs ps ++ [.string V])) (hL : L = ps.length) (hg6 : (w4.alloc ob).grownBy w6 v.ownBlock) :
    w6.cell? ⟨E, 1, none⟩ = some v ∧ w6.frozen? ⟨E, 1, none⟩ = false ∧ Rd (w6.setCell ⟨E, 1, none⟩ (.slice (some ⟨g, 0, none⟩) (L + 1) c)) b s B ∧
      (w6.setCell ⟨E, 1, none⟩ (.slice (some ⟨g, 0, none⟩) (L + 1) c)).heap[E]? = some (.cells #[v0, .slice (some ⟨g, 0, none⟩) (L + 1) c, v2, v3, v4, v5, v6, v7, v8, v9, v10] 26 (0, 0)) ∧
      SOw (w6.setCell ⟨E, 1, none⟩ (.slice (some ⟨g, 0, none⟩) (L + 1) c)) base (.slice (some ⟨g, 0, none⟩) (L + 1) c) (ps ++ [V.data.toList]) ∧ base ≤ (w6.setCell ⟨E, 1, none⟩ (.slice (some ⟨g, 0, none⟩) (L + 1) c)).heap.size := by
  have hb6 : w6.heap[b]? = w4.heap[b]? := (hg6.block b (by have := hR.lt; simp; omega) (ho.apart hb)).trans (Below.heap_alloc w4 ob b hR.lt)
  have hE6 : w6.heap[E]? = w4.heap[E]? := (hg6.block E (by have := row_lt hE; simp; omega) (ho.apart hEb)).trans (Below.heap_alloc w4 ob E (row_lt hE))
  have hr : w6.heap[E]? = some (.cells #[v0, v, v2, v3, v4, v5, v6, v7, v8, v9, v10] 26 (0, 0)) := hE6.trans hE
  refine ⟨cell_of_row _ _ 1 _ _ _ hr, frozen_of_row _ _ 1 _ _ hr, (Below.heap_setCell _ ⟨E, 1, none⟩ _ b hne).trans (hb6.trans hR), ?_, ?_, ?_⟩
  · have h := heap_setCell_same w6 E 1 _ 26 (.slice (some ⟨g, 0, none⟩) (L + 1) c) hr
    simp only [List.setIfInBounds_toArray, List.set_cons_zero, List.set_cons_succ] at h
    exact h
  · have h7 : SOw w6 base (.slice (some ⟨g, 0, none⟩) (L + 1) c) (ps ++ [V.data.toList]) := by
      unfold SOw
      rw [strs_append, List.length_append, ← hL]
      exact ho6
    exact SOw.grown (b := E) h7 ⟨rfl, rfl, rfl, by simp, fun i _ hi => Below.heap_setCell _ ⟨E, 1, none⟩ _ i (fun e => hi (by rw [e]))⟩ hEb
  · have := hg6.size
    simp at this ⊢
    omega
end Go.Proofs.YtddmnibioacelaaGreatDoor
