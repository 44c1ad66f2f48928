/-
  How long what Body writes is.
-/
import Derived.Test.YtddmnibioacelaaGreatDoorCmTag
import Derived.Test.YtddmnibioacelaaGreatDoorCmLives
import Derived.Test.YtddmnibioacelaaGreatDoorCmRTag
namespace Go.Proofs.YtddmnibioacelaaGreatDoor
open Go Go.RowKit Go.Maps Go.WideMaps

theorem beq_decide (a b : List UInt8) : (a == b) = decide (a = b) := by
  rw [Bool.eq_iff_iff, beq_iff_eq, decide_eq_true_eq]
theorem neq_tt : ∀ w' : World, (binOp BinOp.neq 4 (.bool true) (.bool true)).run Tryz.prog w' = .ok (.bool false) w' := fun w' => by kernel_rfl
theorem lineL_len (wd v : List UInt8) : (lineL wd v).length = wd.length + v.length + 2 := by simp [lineL]; omega
theorem flat_len : ∀ l : List (List UInt8), allId l = true → (l.flatMap (lineL wPar)).length ≤ 48 * l.length
  | [], _ => by simp
  | y :: l, hy => by
    rw [allId, List.all_cons, Bool.and_eq_true] at hy
    have := flat_len l hy.2
    have h40 := isId_size hy.1
    rw [str_size] at h40
    rw [List.flatMap_cons, List.length_append, lineL_len, h40, List.length_cons]
    show 6 + 40 + 2 + _ ≤ _
    omega
theorem encC_len {c : Cm} (h : chkC c = 0) : (encC c).length ≤ 10000 := by
  obtain ⟨ho, hx, hn, -⟩ := chkC_ok h
  obtain ⟨i1, i2, i3, i4, -⟩ := okC_parts ho
  have h1 := isId_size i1
  have h3 := whoL_size i3
  have h4 := whoL_size i4
  have hl : ∀ (wd v : List UInt8), (lineL wd v).length = wd.length + v.length + 2 := fun wd v => by simp [lineL]; omega
  have := flat_len c.ps i2
  unfold encC
  simp only [List.length_append, hl, list_len, List.length_cons]
  show 4 + c.t.size + 2 + (_ + (6 + (whoL c.a).size + 2 + (9 + (whoL c.c).size + 2 + (c.x.size + 1)))) ≤ 10000
  omega
theorem encG_len {g : Tg} (h : chkG g = 0) : (encG g).length ≤ 10000 := by
  obtain ⟨ho, hx⟩ := chkG_ok h
  obtain ⟨i1, i2, i3, i4, -⟩ := okG_parts ho
  have h1 := isId_size i1
  have h2 := wordL_size g.k
  have h3 := tagN_size i3
  have h4 := whoL_size i4
  rw [str_size] at h2
  have hl : ∀ (wd v : List UInt8), (lineL wd v).length = wd.length + v.length + 2 := fun wd v => by simp [lineL]; omega
  unfold encG
  simp only [List.length_append, hl, list_len, List.length_cons]
  show 6 + g.o.size + 2 + (4 + (wordL g.k).length + 2 + (3 + g.n.size + 2 + (6 + (whoL g.g).size + 2 + (g.x.size + 1)))) ≤ 10000
  omega
end Go.Proofs.YtddmnibioacelaaGreatDoor
/-
  The walk of the law CommitTags.
-/
namespace Go.Proofs.YtddmnibioacelaaGreatDoor
open Go Go.RowKit Go.Maps Go.WideMaps

set_option maxHeartbeats 8000000 in
set_option maxRecDepth 8000 in
theorem commitTags_walk (g : Tg) (W : World) (hT : StrTab W) (hO : WoTab W) (hR : TrTab W)
    (hs : g.o.size ≤ 140737488355328 ∧ g.n.size ≤ 140737488355328 ∧ g.g.n.size ≤ 140737488355328 ∧ g.g.m.size ≤ 140737488355328) (hx : g.x.size ≤ 140737488355328) :
    Calls Tryz.prog 5 #[.agg #[.string g.o, .int .i64 g.k, .string g.n, .string g.g.n, .string g.g.m, .int .i64 g.g.t, .int .i64 g.g.z, .string g.x]] W fun e W' => e = .returned (.bool true) ∧ Below W.heap.size W W' := by
  have fB := fun w' h1 h2 => gbody_any g w' h1 h2 hs
  have fC := fun w' h1 => gcheck_any g w' h1 hs
  have fRB := fun w' => rgbody_any g w' ⟨hs.1, hs.2.1, hs.2.2.1, hs.2.2.2, hx⟩
  have fRC := fun w' => rgcheck_any g w' ⟨hs.1, hs.2.1, hs.2.2.1, hs.2.2.2, hx⟩
  have fP := fun (h : chkG g = 0) => parG_enc h
  have fL := fun (h : chkG g = 0) => encG_len h
  obtain ⟨RG, hRG⟩ : ∃ R, R = str (bodyG g) := ⟨_, rfl⟩
  obtain ⟨E, hE⟩ : ∃ E, E = chkG g := ⟨_, rfl⟩
  have uG : E = 0 → RG.data.toList = encG g := fun h => by rw [hRG, str_list, bodyG, if_pos (by rw [← hE]; exact h)]
  rw [← hRG, ← hE] at fB fRB
  rw [← hE] at fC fRC fP fL
  have fPT : E = 0 → ∀ w', StrTab w' → WoTab w' → Calls Tryz.prog 17 #[.string RG] w' (ParGR (0, g) w') := fun h w' h1 h2 => by
    have := gparse_any RG w' h1 h2 (by rw [← list_len, uG h]; exact Nat.le_trans (fL h) (by decide))
    rw [uG h, fP h] at this
    exact this
  clear hRG hE uG fP fL hs hx
  obtain ⟨t, k, n, ⟨an, am, aT, az⟩, x⟩ := g
  simp only at *
  obtain ⟨w1, hw1⟩ : ∃ w1, w1 = W.alloc (.cells #[.string t, .int .i64 k, .string n, .string an, .string am, .int .i64 aT, .int .i64 az, .string x] 37) := ⟨_, rfl⟩
  have hx := heap_alloc_new W (.cells #[.string t, .int .i64 k, .string n, .string an, .string am, .int .i64 aT, .int .i64 az, .string x] 37)
  rw [← hw1] at hx
  have hbx : Below W.heap.size W w1 := by rw [hw1]; exact below_new (Below.refl _ _) _
  have tT := fun w' (hb : Below w1.heap.size w1 w') => (hT.below hbx).below hb
  have tO := fun w' (hb : Below w1.heap.size w1 w') => (hO.below hbx).below hb
  have tR := fun w' (hb : Below w1.heap.size w1 w') => (hR.below hbx).below hb
  have HLV : Hid (∀ w', Below w1.heap.size w1 w' → Calls Tryz.prog 9 #[] w' fun e w'' => e = .returned (.bool true) ∧ Below w1.heap.size w1 w'' ∧ Below w'.heap.size w' w'') := fun w' hb => (clives_any w' (tT w' hb) (tO w' hb) (tR w' hb)).mono fun e w'' ⟨h1, h2⟩ => ⟨h1, hb.trans (h2.mono hb.size), h2⟩
  have HTB : Hid (∀ w', Below w1.heap.size w1 w' → Calls Tryz.prog 19 #[.agg #[.string t, .int .i64 k, .string n, .string an, .string am, .int .i64 aT, .int .i64 az, .string x]] w' fun e w'' => e = .returned (.tuple #[.string RG, .int .i64 (E : Int)]) ∧ Below w1.heap.size w1 w'') := fun w' hb => (fB w' (tT w' hb) (tO w' hb)).mono fun e w'' ⟨h1, h2⟩ => ⟨h1, hb.trans (h2.mono hb.size)⟩
  have HRB : Hid (∀ w', Below w1.heap.size w1 w' → Calls Tryz.prog 20 #[.agg #[.string t, .int .i64 k, .string n, .string an, .string am, .int .i64 aT, .int .i64 az, .string x]] w' fun e w'' => e = .returned (.tuple #[.string RG, .int .i64 (E : Int)]) ∧ Below w1.heap.size w1 w'') := fun w' hb => (fRB w').mono fun e w'' ⟨h1, h2⟩ => ⟨h1, hb.trans (h2.mono hb.size)⟩
  have HTC : Hid (∀ y : BelW w1, Calls Tryz.prog 21 #[.agg #[.string t, .int .i64 k, .string n, .string an, .string am, .int .i64 aT, .int .i64 az, .string x]] y.w fun e w'' => e = .returned (.int .i64 (E : Int)) ∧ ∃ z : BelW w1, w'' = z.w) := fun y => Calls.bel_class (fC y.w (tO y.w y.h))
  have HRC : Hid (∀ y : BelW w1, Calls Tryz.prog 22 #[.agg #[.string t, .int .i64 k, .string n, .string an, .string am, .int .i64 aT, .int .i64 az, .string x]] y.w fun e w'' => e = .returned (.int .i64 (E : Int)) ∧ ∃ z : BelW w1, w'' = z.w) := fun y => Calls.bel_class (fRC y.w)
  have HfPT : Hid (E = 0 → ∀ w', Below w1.heap.size w1 w' → Calls Tryz.prog 17 #[.string RG] w' fun e w'' => e = .returned (.tuple #[.agg #[.string t, .int .i64 k, .string n, .string an, .string am, .int .i64 aT, .int .i64 az, .string x], .int .i64 0]) ∧ Below w1.heap.size w1 w'') := fun h w' hb => (fPT h w' (tT w' hb) (tO w' hb)).mono fun e w'' ⟨h1, h2⟩ => ⟨h1, hb.trans (h2.mono hb.size)⟩
  have HX := Lib.hid hx
  have HBX := Lib.hid hbx
  have HW1 := Lib.hid hw1
  have HB0 := Lib.hid (Below.refl w1.heap.size w1)
  obtain ⟨x0, x1, x2, x3, x4, x5, x6, x7⟩ := tg_at hx
  clear fB fC fRB fRC fPT tT tO tR hT hO hR hx hbx hw1
  by_cases k1 : 5000 < x.size
  · have g1 : (5000 : Int) < (x.size : Int) := by omega
    go_enter Tryz.func5, Tryz.ntmps5
    go_upto_region 1 with fail
    rw [← HW1.out]
    go_wp2_with (go_at_call 9; ((with_reducible refine (HLV.out _ HB0.out).mono ?_); rintro e w2 ⟨rfl, hb2, hc2⟩))
    go_ret
    exact ⟨rfl, HBX.out.trans (hb2.mono HBX.out.size)⟩
  have g1 : ¬ (5000 : Int) < (x.size : Int) := by omega
  go_enter Tryz.func5, Tryz.ntmps5
  go_upto_region 1 with fail
  rw [← HW1.out]
  go_upto_region 4 with (go_at_call 19; ((with_reducible refine (HTB.out _ HB0.out).mono ?_); rintro e w2 ⟨rfl, hb2⟩))
  clear x0 x1 x2 x3 x4 x5 x6 x7
  obtain ⟨y0, y1, y2, y3, y4, y5, y6, y7⟩ := tg_at ((hb2.block _ (row_lt HX.out)).trans HX.out)
  go_upto_region 5 with (go_at_call 20; ((with_reducible refine (HRB.out _ hb2).mono ?_); rintro e w3 ⟨rfl, hb3⟩))
  clear y0 y1 y2 y3 y4 y5 y6 y7
  obtain ⟨z0, z1, z2, z3, z4, z5, z6, z7⟩ := tg_at HX.out
  have k0 : ∀ y : BelW w1, y.w.cell? ⟨W.heap.size, 0, none⟩ = some (.string t) := fun y => cell_bel z0 y.h
  have k1 : ∀ y : BelW w1, y.w.cell? ⟨W.heap.size, 1, none⟩ = some (.int .i64 k) := fun y => cell_bel z1 y.h
  have k2 : ∀ y : BelW w1, y.w.cell? ⟨W.heap.size, 2, none⟩ = some (.string n) := fun y => cell_bel z2 y.h
  have k3 : ∀ y : BelW w1, y.w.cell? ⟨W.heap.size, 3, none⟩ = some (.string an) := fun y => cell_bel z3 y.h
  have k4 : ∀ y : BelW w1, y.w.cell? ⟨W.heap.size, 4, none⟩ = some (.string am) := fun y => cell_bel z4 y.h
  have k5 : ∀ y : BelW w1, y.w.cell? ⟨W.heap.size, 5, none⟩ = some (.int .i64 aT) := fun y => cell_bel z5 y.h
  have k6 : ∀ y : BelW w1, y.w.cell? ⟨W.heap.size, 6, none⟩ = some (.int .i64 az) := fun y => cell_bel z6 y.h
  have k7 : ∀ y : BelW w1, y.w.cell? ⟨W.heap.size, 7, none⟩ = some (.string x) := fun y => cell_bel z7 y.h
  have e1 : ((E : Int) != (E : Int)) = false := bne_self_eq_false _
  have e2 : (RG.toList == RG.toList) = true := beq_self_eq_true _
  have hq : Nonempty (BelW w1) := ⟨⟨w1, Below.refl _ _⟩⟩
  clear z0 z1 z2 z3 z4 z5 z6 z7
  refine wp_region_bel (w0 := w1) hb3 (by kernel_rfl) (by kernel_rfl) ?_
  repeat (go_big_quiet_step (first
    | (go_at_call 21; (with_reducible exact HTC.out _))
    | (go_at_call 22; (with_reducible exact HRC.out _))))
  refine wpQuiet_nil ?_
  rintro _ ⟨z, rfl⟩
  have HZ := Lib.hid z.h
  obtain ⟨wz, hwz⟩ : ∃ wz, wz = z.w := ⟨_, rfl⟩
  rw [← hwz] at HZ ⊢
  clear k0 k1 k2 k3 k4 k5 k6 k7 hwz z e1 e2 hb2 hb3
  by_cases h0 : E = 0
  case neg =>
    have g0 : ((E : Int) != 0) = true := by simp; omega
    clear h0
    go_wp2_with (go_at_call 9; ((with_reducible refine (HLV.out _ HZ.out).mono ?_); rintro e w4 ⟨rfl, hb4, hc4⟩))
    go_ret
    exact ⟨rfl, HBX.out.trans (hb4.mono HBX.out.size)⟩
  have g0 : ((E : Int) != 0) = false := by simp [h0]
  have HPT := Lib.hid (HfPT.out h0)
  clear h0 HfPT
  go_upto_region 10 with (go_at_call 17; ((with_reducible refine (HPT.out _ HZ.out).mono ?_); rintro e wa ⟨rfl, hba⟩))
  obtain ⟨P, hP⟩ : ∃ P, P = wa.heap.size := ⟨_, rfl⟩
  obtain ⟨w5, hw5⟩ : ∃ w5, w5 = wa.alloc (.cells #[.string t, .int .i64 k, .string n, .string an, .string am, .int .i64 aT, .int .i64 az, .string x] 37) := ⟨_, rfl⟩
  have hp5 : w5.heap[P]? = some (.cells #[.string t, .int .i64 k, .string n, .string an, .string am, .int .i64 aT, .int .i64 az, .string x] 37 (0, 0)) := by rw [hw5, hP]; exact heap_alloc_new _ _
  have hb5 : Below w1.heap.size w1 w5 := hba.trans (by rw [hw5]; exact (below_new (Below.refl _ _) _).mono hba.size)
  rw [← hw5, ← hP]
  have HP5 := Lib.hid hp5
  clear hw5 hP hba hp5 HTC HRC HTB HRB HPT
  go_wp2_with (go_at_call 9; ((with_reducible refine (HLV.out _ hb5).mono ?_); rintro e w6 ⟨rfl, hb6, hc6⟩; obtain ⟨u0, u1, u2, u3, u4, u5, u6, u7⟩ := tg_at ((hb6.block _ (row_lt HX.out)).trans HX.out); obtain ⟨v0, v1, v2, v3, v4, v5, v6, v7⟩ := tg_at ((hc6.block _ (row_lt HP5.out)).trans HP5.out)))
  all_goals go_ret
  all_goals first
    | exact ⟨rfl, HBX.out.trans (hb6.mono HBX.out.size)⟩
    | (exfalso; simp_all)
end Go.Proofs.YtddmnibioacelaaGreatDoor
