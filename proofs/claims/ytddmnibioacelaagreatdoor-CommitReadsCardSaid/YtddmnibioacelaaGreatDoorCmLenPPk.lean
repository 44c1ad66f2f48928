/-
  How long what Body writes is.
-/
import Derived.Test.YtddmnibioacelaaGreatDoorCmTag
import Derived.Test.YtddmnibioacelaaGreatDoorCmArgsPk
import Derived.Test.YtddmnibioacelaaGreatDoorCmRPar
import Derived.Test.YtddmnibioacelaaGreatDoorCmRPTag
namespace Go.Proofs.YtddmnibioacelaaGreatDoor
open Go Go.RowKit Go.Maps Go.WideMaps

theorem beq_decide (a b : List UInt8) : (a == b) = decide (a = b) := by
  rw [Bool.eq_iff_iff, beq_iff_eq, decide_eq_true_eq]
theorem neq_tt : ∀ w' : World, (binOp BinOp.neq 4 (.bool true) (.bool true)).run Tryz.prog w' = .ok (.bool false) w' := fun w' => by kernel_rfl
theorem lineL_len (wd v : List UInt8) : (lineL wd v).length = wd.length + v.length + 2 := by simp [lineL]; omega
theorem flat_len : ∀ l : List (List UInt8), allId l = true → (l.flatMap (lineL wPar)).length ≤ 48 * l.length
  | [], _ => by simp
  | y :: l, hy => by
    rw [allId, List.all_cons, Bool.and_eq_true] at hy
    have := flat_len l hy.2
    have h40 := isId_size hy.1
    rw [str_size] at h40
    rw [List.flatMap_cons, List.length_append, lineL_len, h40, List.length_cons]
    show 6 + 40 + 2 + _ ≤ _
    omega
theorem encC_len {c : Cm} (h : chkC c = 0) : (encC c).length ≤ 10000 := by
  obtain ⟨ho, hx, hn, -⟩ := chkC_ok h
  obtain ⟨i1, i2, i3, i4, -⟩ := okC_parts ho
  have h1 := isId_size i1
  have h3 := whoL_size i3
  have h4 := whoL_size i4
  have hl : ∀ (wd v : List UInt8), (lineL wd v).length = wd.length + v.length + 2 := fun wd v => by simp [lineL]; omega
  have := flat_len c.ps i2
  unfold encC
  simp only [List.length_append, hl, list_len, List.length_cons]
  show 4 + c.t.size + 2 + (_ + (6 + (whoL c.a).size + 2 + (9 + (whoL c.c).size + 2 + (c.x.size + 1)))) ≤ 10000
  omega
theorem encG_len {g : Tg} (h : chkG g = 0) : (encG g).length ≤ 10000 := by
  obtain ⟨ho, hx⟩ := chkG_ok h
  obtain ⟨i1, i2, i3, i4, -⟩ := okG_parts ho
  have h1 := isId_size i1
  have h2 := wordL_size g.k
  have h3 := tagN_size i3
  have h4 := whoL_size i4
  rw [str_size] at h2
  have hl : ∀ (wd v : List UInt8), (lineL wd v).length = wd.length + v.length + 2 := fun wd v => by simp [lineL]; omega
  unfold encG
  simp only [List.length_append, hl, list_len, List.length_cons]
  show 6 + g.o.size + 2 + (4 + (wordL g.k).length + 2 + (3 + g.n.size + 2 + (6 + (whoL g.g).size + 2 + (g.x.size + 1)))) ≤ 10000
  omega
end Go.Proofs.YtddmnibioacelaaGreatDoor
/-
  The walk of the law CommitReads.
-/
namespace Go.Proofs.YtddmnibioacelaaGreatDoor
open Go Go.RowKit Go.Maps Go.WideMaps

set_option maxHeartbeats 8000000 in
set_option maxRecDepth 8000 in
theorem commitReads_walk (s : ByteArray) (W : World) (hT : StrTab W) (hO : WoTab W) (hR : TrTab W) (hs : s.size ≤ 140737488355328) :
    Calls Tryz.prog 4 #[.string s] W fun e W' => e = .returned (.bool true) ∧ Below W.heap.size W W' := by
  have tT := fun w' (hb : Below W.heap.size W w') => hT.below hb
  have tO := fun w' (hb : Below W.heap.size W w') => hO.below hb
  have tR := fun w' (hb : Below W.heap.size W w') => hR.below hb
  have HLV : Hid (∀ w', Below W.heap.size W w' → Calls Tryz.prog 9 #[] w' fun e w'' => e = .returned (.bool true) ∧ Below W.heap.size W w'') := fun w' hb => (clives_any w' (tT w' hb) (tO w' hb) (tR w' hb)).mono fun e w'' ⟨h1, h2⟩ => ⟨h1, hb.trans (h2.mono hb.size)⟩
  have HB0 := Lib.hid (Below.refl W.heap.size W)
  by_cases k1 : 8000 < s.size
  · have g1 : (8000 : Int) < (s.size : Int) := by omega
    clear tT tO tR hT hO hR
    go_enter Tryz.func4, Tryz.ntmps4
    go_wp2_with (go_at_call 9; ((with_reducible refine (HLV.out _ HB0.out).mono ?_); rintro e w2 ⟨rfl, hb2⟩))
    go_ret
    exact ⟨rfl, hb2⟩
  have g1 : ¬ (8000 : Int) < (s.size : Int) := by omega
  have hC0 := @parC_back s.data.toList
  have hG0 := @parG_back s.data.toList
  have fP := fun w' h => cparse_any s w' h (by omega)
  have fRP := fun w' => rcparse_any s w' (by omega)
  have fG := fun w' h h' => gparse_any s w' h h' (by omega)
  have fRG := fun w' => rgparse_any s w' (by omega)
  have hlen : ∀ c : Cm, parC s.data.toList = ((parC s.data.toList).1, c) → c.ps.length ≤ 1099511627776 := fun c hc => by
    by_cases h : (parC s.data.toList).1 = 0
    · have := parC_len h
      rw [hc] at this
      exact Nat.le_trans this (by decide)
    · have h2 : c = Cm.zero := by
        have h3 := hc
        unfold parC at h3 h
        split at h3
        · exact (Prod.mk.inj h3).2.symm
        · rename_i hB
          rw [if_neg hB] at h
          split at h3
          · rename_i h0
            rw [if_pos h0] at h
            exact absurd rfl h
          · exact (Prod.mk.inj h3).2.symm
      rw [h2]
      exact Nat.zero_le _
  obtain ⟨⟨EC, c⟩, hqc⟩ : ∃ q, q = parC s.data.toList := ⟨_, rfl⟩
  obtain ⟨⟨EG, g⟩, hqg⟩ : ∃ q, q = parG s.data.toList := ⟨_, rfl⟩
  rw [← hqc] at hC0 fP fRP hlen
  rw [← hqg] at hG0 fG fRG
  simp only at hC0 hG0
  have hl := hlen c rfl
  obtain ⟨N, hN⟩ : ∃ N, N = c.ps.length := ⟨_, rfl⟩
  have hSM := fun w' p q cp cq h1 h2 => (csame_any c c p q N cp N cq w' hN hN h1 h2 (by omega)).mono (R' := fun e w'' => e = .returned (.bool true) ∧ Below w'.heap.size w' w'') fun e w'' ⟨R, h3, h4, h5⟩ => ⟨by rw [h3, h4.mpr rfl], h5⟩
  have fB : EC = 0 → ∀ w' p cap, StrTab w' → SRw w' p c.ps → Calls Tryz.prog 10 #[.agg #[.string c.t, .slice p N cap, .string c.a.n, .string c.a.m, .int .i64 c.a.t, .int .i64 c.a.z, .string c.c.n, .string c.c.m, .int .i64 c.c.t, .int .i64 c.c.z, .string c.x]] w' fun e w'' => e = .returned (.tuple #[.string s, .int .i64 0]) ∧ Below w'.heap.size w' w'' := fun h w' p cap h1 h2 => by
    obtain ⟨q1, q2⟩ := hC0 h
    obtain ⟨p1, p2, p3, p4⟩ := chkC_ok q1
    obtain ⟨r1, r2, r3, r4, -⟩ := okC_parts p1
    have e1 := isId_size r1
    obtain ⟨i1, i2, -⟩ := okPn_parts r3
    obtain ⟨j1, j2, -⟩ := okPn_parts r4
    have s1 := (nameB_parts i1).2.1
    have s2 := (nameB_parts i2).2.1
    have s3 := (nameB_parts j1).2.1
    have s4 := (nameB_parts j2).2.1
    rw [list_len] at s1 s2 s3 s4
    have := cbody_any c p N cap w' h1 hN h2 (fun y hy => by have h40 := isId_size (allId_mem r2 hy); rw [str_size] at h40; omega) (by omega) ⟨by omega, by omega, by omega, by omega, by omega⟩
    rw [q1, show str (bodyC c) = s by rw [bodyC, if_pos q1, q2]; exact ba_ext (str_list _)] at this
    exact this
  have fTB : EG = 0 → ∀ w', StrTab w' → WoTab w' → Calls Tryz.prog 19 #[.agg #[.string g.o, .int .i64 g.k, .string g.n, .string g.g.n, .string g.g.m, .int .i64 g.g.t, .int .i64 g.g.z, .string g.x]] w' fun e w'' => e = .returned (.tuple #[.string s, .int .i64 0]) ∧ Below w'.heap.size w' w'' := fun h w' h1 h2 => by
    obtain ⟨q1, q2⟩ := hG0 h
    obtain ⟨p1, p2⟩ := chkG_ok q1
    obtain ⟨r1, r2, r3, r4, -⟩ := okG_parts p1
    have e1 := isId_size r1
    have e2 := tagN_size r3
    obtain ⟨i1, i2, -⟩ := okPn_parts r4
    have s1 := (nameB_parts i1).2.1
    have s2 := (nameB_parts i2).2.1
    rw [list_len] at s1 s2
    have := gbody_any g w' h1 h2 ⟨by omega, by omega, by omega, by omega⟩
    rw [q1, show str (bodyG g) = s by rw [bodyG, if_pos q1, q2]; exact ba_ext (str_list _)] at this
    exact this
  clear hC0 hG0 hlen hqc hqg hl
  obtain ⟨t, ps, ⟨an, am, aT, az⟩, ⟨cn, cm, cT, cz⟩, x⟩ := c
  obtain ⟨o, k, n, ⟨gn, gm, gT, gz⟩, gx⟩ := g
  simp only at *
  have HP : Hid (∀ w', Below W.heap.size W w' → Calls Tryz.prog 14 #[.string s] w' fun e w'' => (∃ p cap, e = .returned (.tuple #[.agg #[.string t, .slice p N cap, .string an, .string am, .int .i64 aT, .int .i64 az, .string cn, .string cm, .int .i64 cT, .int .i64 cz, .string x], .int .i64 (EC : Int)]) ∧ SRw w'' p ps) ∧ Below W.heap.size W w'') := fun w' hb => (fP w' (tT w' hb)).mono fun e w'' ⟨⟨p, cap, h1, h3⟩, h2⟩ => ⟨⟨p, cap, by rw [h1, hN], h3⟩, hb.trans (h2.mono hb.size)⟩
  have HRP : Hid (∀ w', Below W.heap.size W w' → Calls Tryz.prog 16 #[.string s] w' fun e w'' => (∃ p cap, e = .returned (.tuple #[.agg #[.string t, .slice p N cap, .string an, .string am, .int .i64 aT, .int .i64 az, .string cn, .string cm, .int .i64 cT, .int .i64 cz, .string x], .int .i64 (EC : Int)]) ∧ SRw w'' p ps) ∧ Below W.heap.size W w'' ∧ Below w'.heap.size w' w'') := fun w' hb => (fRP w').mono fun e w'' ⟨⟨p, cap, h1, h3⟩, h2⟩ => ⟨⟨p, cap, by rw [h1, hN], h3⟩, hb.trans (h2.mono hb.size), h2⟩
  have HG : Hid (∀ w', Below W.heap.size W w' → Calls Tryz.prog 17 #[.string s] w' fun e w'' => e = .returned (.tuple #[.agg #[.string o, .int .i64 k, .string n, .string gn, .string gm, .int .i64 gT, .int .i64 gz, .string gx], .int .i64 (EG : Int)]) ∧ Below W.heap.size W w'' ∧ Below w'.heap.size w' w'') := fun w' hb => (fG w' (tT w' hb) (tO w' hb)).mono fun e w'' ⟨h1, h2⟩ => ⟨h1, hb.trans (h2.mono hb.size), h2⟩
  have HRG : Hid (∀ w', Below W.heap.size W w' → Calls Tryz.prog 18 #[.string s] w' fun e w'' => e = .returned (.tuple #[.agg #[.string o, .int .i64 k, .string n, .string gn, .string gm, .int .i64 gT, .int .i64 gz, .string gx], .int .i64 (EG : Int)]) ∧ Below W.heap.size W w'' ∧ Below w'.heap.size w' w'') := fun w' hb => (fRG w').mono fun e w'' ⟨h1, h2⟩ => ⟨h1, hb.trans (h2.mono hb.size), h2⟩
  have HSM : Hid (∀ w' p cp q cq, Below W.heap.size W w' → SRw w' p ps → SRw w' q ps → Calls Tryz.prog 15 #[.agg #[.string t, .slice p N cp, .string an, .string am, .int .i64 aT, .int .i64 az, .string cn, .string cm, .int .i64 cT, .int .i64 cz, .string x], .agg #[.string t, .slice q N cq, .string an, .string am, .int .i64 aT, .int .i64 az, .string cn, .string cm, .int .i64 cT, .int .i64 cz, .string x]] w' fun e w'' => e = .returned (.bool true) ∧ Below W.heap.size W w'' ∧ Below w'.heap.size w' w'') := fun w' p cp q cq hb h1 h2 => (hSM w' p q cp cq h1 h2).mono fun e w'' ⟨h3, h5⟩ => ⟨h3, hb.trans (h5.mono hb.size), h5⟩
  have HBD : Hid (EC = 0 → ∀ w' p cap, Below W.heap.size W w' → SRw w' p ps → Calls Tryz.prog 10 #[.agg #[.string t, .slice p N cap, .string an, .string am, .int .i64 aT, .int .i64 az, .string cn, .string cm, .int .i64 cT, .int .i64 cz, .string x]] w' fun e w'' => e = .returned (.tuple #[.string s, .int .i64 0]) ∧ Below W.heap.size W w'' ∧ Below w'.heap.size w' w'') := fun h w' p cap hb h1 => (fB h w' p cap (tT w' hb) h1).mono fun e w'' ⟨h3, h5⟩ => ⟨h3, hb.trans (h5.mono hb.size), h5⟩
  have HTB : Hid (EG = 0 → ∀ w', Below W.heap.size W w' → Calls Tryz.prog 19 #[.agg #[.string o, .int .i64 k, .string n, .string gn, .string gm, .int .i64 gT, .int .i64 gz, .string gx]] w' fun e w'' => e = .returned (.tuple #[.string s, .int .i64 0]) ∧ Below W.heap.size W w'' ∧ Below w'.heap.size w' w'') := fun h w' hb => (fTB h w' (tT w' hb) (tO w' hb)).mono fun e w'' ⟨h3, h5⟩ => ⟨h3, hb.trans (h5.mono hb.size), h5⟩
  clear fP fRP fG fRG fB fTB hSM hN tT tO tR hT hO hR hs k1
  go_enter Tryz.func4, Tryz.ntmps4
  go_upto_region 4 with (go_at_call 14; ((with_reducible refine (HP.out _ HB0.out).mono ?_); rintro e wa ⟨⟨p1, c1, rfl, hq1⟩, hba⟩))
  obtain ⟨P1, hP1⟩ : ∃ P, P = wa.heap.size := ⟨_, rfl⟩
  obtain ⟨w2, hw2⟩ : ∃ w2, w2 = wa.alloc (.cells #[.string t, .slice p1 N c1, .string an, .string am, .int .i64 aT, .int .i64 az, .string cn, .string cm, .int .i64 cT, .int .i64 cz, .string x] 26) := ⟨_, rfl⟩
  have hx1 : w2.heap[P1]? = some (.cells #[.string t, .slice p1 N c1, .string an, .string am, .int .i64 aT, .int .i64 az, .string cn, .string cm, .int .i64 cT, .int .i64 cz, .string x] 26 (0, 0)) := by rw [hw2, hP1]; exact heap_alloc_new _ _
  have ha2 : Below wa.heap.size wa w2 := by rw [hw2]; exact below_new (Below.refl _ _) _
  have hb2 : Below W.heap.size W w2 := hba.trans (ha2.mono hba.size)
  have hq2 := hq1.below ha2
  rw [← hw2, ← hP1]
  clear hw2 hP1 ha2 hba hq1 HP
  go_upto_region 5 with (go_at_call 16; ((with_reducible refine (HRP.out _ hb2).mono ?_); rintro e wb ⟨⟨p2, c2, rfl, hr1⟩, hbb, hcb⟩))
  obtain ⟨P2, hP2⟩ : ∃ P, P = wb.heap.size := ⟨_, rfl⟩
  obtain ⟨w3, hw3⟩ : ∃ w3, w3 = wb.alloc (.cells #[.string t, .slice p2 N c2, .string an, .string am, .int .i64 aT, .int .i64 az, .string cn, .string cm, .int .i64 cT, .int .i64 cz, .string x] 26) := ⟨_, rfl⟩
  have hy3 : w3.heap[P2]? = some (.cells #[.string t, .slice p2 N c2, .string an, .string am, .int .i64 aT, .int .i64 az, .string cn, .string cm, .int .i64 cT, .int .i64 cz, .string x] 26 (0, 0)) := by rw [hw3, hP2]; exact heap_alloc_new _ _
  have ha3 : Below wb.heap.size wb w3 := by rw [hw3]; exact below_new (Below.refl _ _) _
  have hb3 : Below W.heap.size W w3 := hbb.trans (ha3.mono hbb.size)
  have hr3 := hr1.below ha3
  have hc3 := hcb.trans (ha3.mono hcb.size)
  have hq3 := hq2.below hc3
  have hx3 := (hc3.block _ (row_lt hx1)).trans hx1
  rw [← hw3, ← hP2]
  clear hw3 hP2 ha3 hbb hcb hr1 hq2 hc3 hx1 hb2 HRP
  go_upto_region 6 with (go_at_call 17; ((with_reducible refine (HG.out _ hb3).mono ?_); rintro e wc ⟨rfl, hbc, hcc⟩))
  obtain ⟨P3, hP3⟩ : ∃ P, P = wc.heap.size := ⟨_, rfl⟩
  obtain ⟨w4, hw4⟩ : ∃ w4, w4 = wc.alloc (.cells #[.string o, .int .i64 k, .string n, .string gn, .string gm, .int .i64 gT, .int .i64 gz, .string gx] 37) := ⟨_, rfl⟩
  have hz4 : w4.heap[P3]? = some (.cells #[.string o, .int .i64 k, .string n, .string gn, .string gm, .int .i64 gT, .int .i64 gz, .string gx] 37 (0, 0)) := by rw [hw4, hP3]; exact heap_alloc_new _ _
  have ha4 : Below wc.heap.size wc w4 := by rw [hw4]; exact below_new (Below.refl _ _) _
  have hb4 : Below W.heap.size W w4 := hbc.trans (ha4.mono hbc.size)
  have hc4 := hcc.trans (ha4.mono hcc.size)
  have hr4 := hr3.below hc4
  have hq4 := hq3.below hc4
  have hx4 := (hc4.block _ (row_lt hx3)).trans hx3
  have hy4 := (hc4.block _ (row_lt hy3)).trans hy3
  rw [← hw4, ← hP3]
  clear hw4 hP3 ha4 hbc hcc hr3 hq3 hc4 hx3 hy3 hb3 HG
  go_upto_region 7 with (go_at_call 18; ((with_reducible refine (HRG.out _ hb4).mono ?_); rintro e wd ⟨rfl, hbd, hcd⟩))
  obtain ⟨P4, hP4⟩ : ∃ P, P = wd.heap.size := ⟨_, rfl⟩
  obtain ⟨w5, hw5⟩ : ∃ w5, w5 = wd.alloc (.cells #[.string o, .int .i64 k, .string n, .string gn, .string gm, .int .i64 gT, .int .i64 gz, .string gx] 37) := ⟨_, rfl⟩
  have hu5 : w5.heap[P4]? = some (.cells #[.string o, .int .i64 k, .string n, .string gn, .string gm, .int .i64 gT, .int .i64 gz, .string gx] 37 (0, 0)) := by rw [hw5, hP4]; exact heap_alloc_new _ _
  have ha5 : Below wd.heap.size wd w5 := by rw [hw5]; exact below_new (Below.refl _ _) _
  have hb5 : Below W.heap.size W w5 := hbd.trans (ha5.mono hbd.size)
  have hc5 := hcd.trans (ha5.mono hcd.size)
  have hr5 := hr4.below hc5
  have hq5 := hq4.below hc5
  have hx5 := (hc5.block _ (row_lt hx4)).trans hx4
  have hy5 := (hc5.block _ (row_lt hy4)).trans hy4
  have hz5 := (hc5.block _ (row_lt hz4)).trans hz4
  rw [← hw5, ← hP4]
  have HX5 := Lib.hid hx5
  have HZ5 := Lib.hid hz5
  have HU5 := Lib.hid hu5
  have HQ5 := Lib.hid hq5
  have HR5 := Lib.hid hr5
  obtain ⟨x0, x1, x2, x3, x4, x5, x6, x7, x8, x9, x10⟩ := cm_at hx5
  obtain ⟨y0, y1, y2, y3, y4, y5, y6, y7, y8, y9, y10⟩ := cm_at hy5
  clear hw5 hP4 ha5 hbd hcd hr4 hq4 hc5 hx4 hy4 hz4 hb4 hu5 hx5 hy5 hz5 hr5 hq5 HRG
  have e1 : ((EC : Int) != (EC : Int)) = false := bne_self_eq_false _
  have e2 : ((EG : Int) != (EG : Int)) = false := bne_self_eq_false _
  go_upto_region 9 with (go_at_call 15; ((with_reducible refine (HSM.out _ _ _ _ _ hb5 HQ5.out HR5.out).mono ?_); rintro e w6 ⟨rfl, hb6, hc6⟩; obtain ⟨u0, u1, u2, u3, u4, u5, u6, u7⟩ := tg_at ((hc6.block _ (row_lt HZ5.out)).trans HZ5.out); obtain ⟨v0, v1, v2, v3, v4, v5, v6, v7⟩ := tg_at ((hc6.block _ (row_lt HU5.out)).trans HU5.out)))
  all_goals try (exfalso; simp_all; done)
  have HX6 := Lib.hid ((hc6.block _ (row_lt HX5.out)).trans HX5.out)
  have HZ6 := Lib.hid ((hc6.block _ (row_lt HZ5.out)).trans HZ5.out)
  have HQ6 := Lib.hid (HQ5.out.below hc6)
  clear x0 x1 x2 x3 x4 x5 x6 x7 x8 x9 x10 y0 y1 y2 y3 y4 y5 y6 y7 y8 y9 y10 u0 u1 u2 u3 u4 u5 u6 u7 v0 v1 v2 v3 v4 v5 v6 v7 e1 e2 hb5 hc6 HX5 HZ5 HU5 HQ5 HR5 HSM
  have e2 : (s.toList == s.toList) = true := beq_self_eq_true _
  by_cases h0 : EC = 0
  · have gC : ((EC : Int) == 0) = true := by rw [beq_iff_eq]; omega
    have HB := Lib.hid (HBD.out h0)
    clear h0 HBD
    obtain ⟨x0, x1, x2, x3, x4, x5, x6, x7, x8, x9, x10⟩ := cm_at HX6.out
    go_upto_region 13 with (go_at_call 10; ((with_reducible refine (HB.out _ _ _ hb6 HQ6.out).mono ?_); rintro e w7 ⟨rfl, hb7, hc7⟩))
    have HZ7 := Lib.hid ((hc7.block _ (row_lt HZ6.out)).trans HZ6.out)
    clear x0 x1 x2 x3 x4 x5 x6 x7 x8 x9 x10 HX6 HZ6 HQ6 hc7 HB
    by_cases h1 : EG = 0
    · have gG : ((EG : Int) == 0) = true := by rw [beq_iff_eq]; omega
      have HT := Lib.hid (HTB.out h1)
      clear h1 HTB
      obtain ⟨u0, u1, u2, u3, u4, u5, u6, u7⟩ := tg_at HZ7.out
      go_wp2_with (first
        | (go_at_call 19; ((with_reducible refine (HT.out _ hb7).mono ?_); rintro e w8 ⟨rfl, hb8, hc8⟩))
        | (go_at_call 9; ((with_reducible refine (HLV.out _ hb8).mono ?_); rintro e w9 ⟨rfl, hb9⟩)))
      go_ret
      exact ⟨rfl, hb9⟩
    · have gG : ((EG : Int) == 0) = false := by rw [beq_eq_false_iff_ne]; omega
      clear h1 HTB
      go_wp2_with (go_at_call 9; ((with_reducible refine (HLV.out _ hb7).mono ?_); rintro e w9 ⟨rfl, hb9⟩))
      go_ret
      exact ⟨rfl, hb9⟩
  · have gC : ((EC : Int) == 0) = false := by rw [beq_eq_false_iff_ne]; omega
    clear h0 HBD
    go_upto_region 13 with fail
    by_cases h1 : EG = 0
    · have gG : ((EG : Int) == 0) = true := by rw [beq_iff_eq]; omega
      have HT := Lib.hid (HTB.out h1)
      clear h1 HTB
      obtain ⟨u0, u1, u2, u3, u4, u5, u6, u7⟩ := tg_at HZ6.out
      go_wp2_with (first
        | (go_at_call 19; ((with_reducible refine (HT.out _ hb6).mono ?_); rintro e w8 ⟨rfl, hb8, hc8⟩))
        | (go_at_call 9; ((with_reducible refine (HLV.out _ hb8).mono ?_); rintro e w9 ⟨rfl, hb9⟩)))
      go_ret
      exact ⟨rfl, hb9⟩
    · have gG : ((EG : Int) == 0) = false := by rw [beq_eq_false_iff_ne]; omega
      clear h1 HTB
      go_wp2_with (go_at_call 9; ((with_reducible refine (HLV.out _ hb6).mono ?_); rintro e w9 ⟨rfl, hb9⟩))
      go_ret
      exact ⟨rfl, hb9⟩
end Go.Proofs.YtddmnibioacelaaGreatDoor
