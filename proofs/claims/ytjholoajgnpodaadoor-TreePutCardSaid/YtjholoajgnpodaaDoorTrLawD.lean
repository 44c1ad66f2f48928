/-
  The walk of the law TreePuts.
-/
import Derived.Test.YtjholoajgnpodaaDoorTrLawB
import Derived.Test.YtjholoajgnpodaaDoorTrRPut
import Derived.Test.YtjholoajgnpodaaDoorTrPutP
import Derived.Test.YtjholoajgnpodaaDoorTrSamePk
import Derived.Deep.RegionHeld3
namespace Go.Proofs.YtjholoajgnpodaaDoor
open Go.RowKit

section
variable {W : World}
/-- Below a world, and a row there. -/
theorem NOw.nrw {w : World} {base : Nat} {v : Value} {l : List En} (h : NOw w base v l) : ∃ p c, v = .slice p l.length c ∧ NRw w p l := by
  obtain ⟨p, c, h1, _, h2⟩ := h.rw
  exact ⟨p, c, h1, h2⟩
theorem keepTen {wr w1 w2 : World} {B P Q : Nat} {x1 x2 x3 x4 x5 x6 x7 x8 x9 : Value} (hb : Below w1.heap.size w1 w2)
    (h : Below wr.heap.size wr w1 ∧ w1.cell? ⟨B, 0, none⟩ = some x1 ∧ w1.cell? ⟨B, 1, none⟩ = some x2 ∧ w1.cell? ⟨B, 2, none⟩ = some x3 ∧ w1.cell? ⟨P, 0, none⟩ = some x4 ∧ w1.cell? ⟨P, 1, none⟩ = some x5 ∧ w1.cell? ⟨P, 2, none⟩ = some x6 ∧ w1.cell? ⟨Q, 0, none⟩ = some x7 ∧ w1.cell? ⟨Q, 1, none⟩ = some x8 ∧ w1.cell? ⟨Q, 2, none⟩ = some x9) :
    Below wr.heap.size wr w2 ∧ w2.cell? ⟨B, 0, none⟩ = some x1 ∧ w2.cell? ⟨B, 1, none⟩ = some x2 ∧ w2.cell? ⟨B, 2, none⟩ = some x3 ∧ w2.cell? ⟨P, 0, none⟩ = some x4 ∧ w2.cell? ⟨P, 1, none⟩ = some x5 ∧ w2.cell? ⟨P, 2, none⟩ = some x6 ∧ w2.cell? ⟨Q, 0, none⟩ = some x7 ∧ w2.cell? ⟨Q, 1, none⟩ = some x8 ∧ w2.cell? ⟨Q, 2, none⟩ = some x9 := by
  obtain ⟨h0, h1, h2, h3, h4, h5, h6, h7, h8, h9⟩ := h
  exact ⟨h0.trans (hb.mono h0.size), cell_bel h1 hb, cell_bel h2 hb, cell_bel h3 hb, cell_bel h4 hb, cell_bel h5 hb, cell_bel h6 hb, cell_bel h7 hb, cell_bel h8 hb, cell_bel h9 hb⟩
theorem below_one_drew {w : World} : Below w.heap.size w w.drew := (Below.refl _ _).drew
set_option maxHeartbeats 8000000 in
set_option maxRecDepth 10000 in
theorem treePuts_walk {es : List En} {p : Option Addr} {n c : Nat} (a : En) (s : ByteArray) (A : EA W es p n) (hT : TrTab W) (ha : a.n.size ≤ 140737488355328 ∧ a.i.size ≤ 140737488355328) (hs : s.size ≤ 140737488355328) :
    Calls Tryd.prog 5 #[.slice p n c, .agg #[.int .i64 a.m, .string a.n, .string a.i], .string s] W fun e W' => e = .returned (.bool true) ∧ Below W.heap.size W W' := by
  obtain ⟨w1, hw1⟩ : ∃ w1, w1 = W.alloc (.cells #[.int .i64 a.m, .string a.n, .string a.i] 34) := ⟨_, rfl⟩
  have hbw : Below W.heap.size W w1 := by rw [hw1]; exact below_new (Below.refl _ _) _
  obtain ⟨B, hB⟩ : ∃ B, B = W.heap.size := ⟨_, rfl⟩
  have hr : w1.heap[B]? = some (.cells #[.int .i64 a.m, .string a.n, .string a.i] 34 (0, 0)) := by rw [hw1, hB]; exact heap_alloc_new W _
  obtain ⟨F, hF⟩ : ∃ F, F = fewT es := ⟨_, rfl⟩
  have A1 : EA w1 es p n := ⟨A.len, A.row.below hbw, A.few, A.short⟩
  have HF : Hid (∀ w, Below w1.heap.size w1 w → Calls Tryd.prog 9 #[.slice p n c] w fun e w' => e = .returned (.bool F) ∧ Below w1.heap.size w1 w') := fun w hb => tfew_inv A1 hb F hF
  have HLV : Hid (∀ w, Below w1.heap.size w1 w → Calls Tryd.prog 10 #[] w fun e w' => e = .returned (.bool true) ∧ Below w1.heap.size w1 w') := fun w hb => tlives_inv (hT.below hbw) hb
  have h0 := Below.refl w1.heap.size w1
  have HR := Lib.hid hr
  have HBW := Lib.hid hbw
  have HBW0 := Lib.hid hbw
  have HLV2 : Hid (∀ w, Below w1.heap.size w1 w → Calls Tryd.prog 10 #[] w fun e w' => e = .returned (.bool true) ∧ Below w.heap.size w w') := fun w hb => tlives_any w ((hT.below hbw).below hb)
  have HW := Lib.hid hw1
  have HBE := Lib.hid hB
  obtain ⟨m, t, i⟩ := a
  simp only at HR HW ha
  obtain ⟨z, hz⟩ : ∃ z, z = t.size + s.size := ⟨_, rfl⟩
  have e1 : IntKind.i64.wrap ((t.size : Int) + (s.size : Int)) = (z : Int) := by rw [IntWalk.i64_in _ (by omega)]; omega
  have e1' : (t.size : Int) + (s.size : Int) = (z : Int) := by omega
  have b0 : w1.cell? ⟨B, 0, none⟩ = some (.int .i64 m) := cell_of_row w1 _ 0 _ _ _ HR.out
  have b1 : w1.cell? ⟨B, 1, none⟩ = some (.string t) := cell_of_row w1 _ 1 _ _ _ HR.out
  have b2 : w1.cell? ⟨B, 2, none⟩ = some (.string i) := cell_of_row w1 _ 2 _ _ _ HR.out
  by_cases hgo : F = true ∧ ¬ 500 < z
  · obtain ⟨rfl, hbig⟩ := hgo
    have e2 : decide ((500 : Int) < (z : Int)) = false := decide_eq_false (by omega)
    have e3 : ¬ (500 : Int) < (z : Int) := by omega
    have hlen := (fewT_yes hF.symm).1
    have hn60 : n ≤ 60 := by rw [A.len]; exact hlen
    obtain ⟨fe, hfe⟩ : ∃ fe, fe = (findE es s).getD En.zero := ⟨_, rfl⟩
    obtain ⟨fb, hfb⟩ : ∃ fb, fb = (findE es s).isSome := ⟨_, rfl⟩
    have HF1 : Hid (∀ w, Below w1.heap.size w1 w → Calls Tryd.prog 18 #[.slice p n c, .string s] w fun e w' => e = .returned (.tuple #[.agg #[.int .i64 fe.m, .string fe.n, .string fe.i], .bool fb]) ∧ Below w.heap.size w w') := fun w hb => by
      rw [hfe, hfb]
      exact find_any es s p c n w A.len (A1.row.below hb) A.few
    have HF2 : Hid (∀ w, Below w1.heap.size w1 w → Calls Tryd.prog 19 #[.slice p n c, .string s] w fun e w' => e = .returned (.tuple #[.agg #[.int .i64 fe.m, .string fe.n, .string fe.i], .bool fb]) ∧ Below w.heap.size w w') := fun w hb => by
      rw [hfe, hfb]
      exact trfind_any es s p c n w A.len (A1.row.below hb) A.few
    obtain ⟨L, hL⟩ : ∃ L, L = putE es ⟨m, t, i⟩ := ⟨_, rfl⟩
    obtain ⟨D, hD⟩ : ∃ D, D = dropE es s := ⟨_, rfl⟩
    obtain ⟨M, hM⟩ : ∃ M, M = L.length := ⟨_, rfl⟩
    obtain ⟨N, hN⟩ : ∃ N, N = D.length := ⟨_, rfl⟩
    have hMl : M ≤ 61 := by
      rw [hM, hL]
      have h1 := atE_le (dropE es t) ⟨m, t, i⟩
      have h2 := dropE_le es t
      simp only [putE, List.length_append, List.length_take, List.length_cons, List.length_drop]
      omega
    have hNl : N ≤ 60 := by rw [hN, hD]; exact Nat.le_trans (dropE_le _ _) hlen
    have HP1 : Hid (∀ w, Below w1.heap.size w1 w → Calls Tryd.prog 22 #[.slice p n c, .agg #[.int .i64 m, .string t, .string i]] w fun e w' => ∃ q d, e = .returned (.slice q M d) ∧ NRw w' q L ∧ Below w.heap.size w w') := fun w hb =>
      (put_any es ⟨m, t, i⟩ p c n w A.len (A1.row.below hb) (by omega) ha.1 (fun x hx => (A.short x hx).1)).mono fun e w' ⟨v, h1, h2, h3⟩ => by
        obtain ⟨q, d, rfl, h4⟩ := h2.nrw
        exact ⟨q, d, by rw [h1, hM, hL], by rw [hL]; exact h4, h3⟩
    have HP2 : Hid (∀ w, Below w1.heap.size w1 w → Calls Tryd.prog 23 #[.slice p n c, .agg #[.int .i64 m, .string t, .string i]] w fun e w' => ∃ q d, e = .returned (.slice q M d) ∧ NRw w' q L ∧ Below w.heap.size w w') := fun w hb =>
      (rput_any es ⟨m, t, i⟩ p c n w A.len (A1.row.below hb) (by omega) ha.1 (fun x hx => (A.short x hx).1)).mono fun e w' ⟨v, h1, h2, h3⟩ => by
        obtain ⟨q, d, rfl, h4⟩ := h2.nrw
        exact ⟨q, d, by rw [h1, hM, hL], by rw [hL]; exact h4, h3⟩
    have HD1 : Hid (∀ w, Below w1.heap.size w1 w → Calls Tryd.prog 24 #[.slice p n c, .string s] w fun e w' => ∃ q d, e = .returned (.slice q N d) ∧ NRw w' q D ∧ Below w.heap.size w w') := fun w hb =>
      (drop_any es s p c n w A.len (A1.row.below hb) (by omega)).mono fun e w' ⟨v, h1, h2, h3⟩ => by
        obtain ⟨q, d, rfl, h4⟩ := h2.nrw
        exact ⟨q, d, by rw [h1, hN, hD], by rw [hD]; exact h4, h3⟩
    have HD2 : Hid (∀ w, Below w1.heap.size w1 w → Calls Tryd.prog 25 #[.slice p n c, .string s] w fun e w' => ∃ q d, e = .returned (.slice q N d) ∧ NRw w' q D ∧ Below w.heap.size w w') := fun w hb =>
      (rdrop_any es s p c n w A.len (A1.row.below hb) (by omega)).mono fun e w' ⟨v, h1, h2, h3⟩ => by
        obtain ⟨q, d, rfl, h4⟩ := h2.nrw
        exact ⟨q, d, by rw [h1, hN, hD], by rw [hD]; exact h4, h3⟩
    have HSL : Hid (∀ w q d q' d', NRw w q L → NRw w q' L → Calls Tryd.prog 17 #[.slice q M d, .slice q' M d'] w fun e w' => e = .returned (.bool true) ∧ Below w.heap.size w w') := fun w q d q' d' h1 h2 =>
      (tsame_any L L q q' d d' M M true w hM hM h1 h2 (by omega) (by omega) (by simp)).mono fun e w' ⟨he, k, hk⟩ => ⟨he, by rw [hk]; exact below_drewN (Below.refl _ _) k⟩
    have HSD : Hid (∀ w q d q' d', NRw w q D → NRw w q' D → Calls Tryd.prog 17 #[.slice q N d, .slice q' N d'] w fun e w' => e = .returned (.bool true) ∧ Below w.heap.size w w') := fun w q d q' d' h1 h2 =>
      (tsame_any D D q q' d d' N N true w hN hN h1 h2 (by omega) (by omega) (by simp)).mono fun e w' ⟨he, k, hk⟩ => ⟨he, by rw [hk]; exact below_drewN (Below.refl _ _) k⟩
    have HLE : Hid (∀ (x : En), x ∈ es → ∀ w, (Calls Tryd.prog 20 #[.agg #[.int .i64 x.m, .string x.n, .string x.i], .agg #[.int .i64 m, .string t, .string i]] w fun e w' => e = .returned (.bool (lessE x ⟨m, t, i⟩)) ∧ Below w.heap.size w w') ∧
        (Calls Tryd.prog 21 #[.agg #[.int .i64 x.m, .string x.n, .string x.i], .agg #[.int .i64 m, .string t, .string i]] w fun e w' => e = .returned (.bool (lessE x ⟨m, t, i⟩)) ∧ Below w.heap.size w w') ∧
        (Calls Tryd.prog 20 #[.agg #[.int .i64 m, .string t, .string i], .agg #[.int .i64 x.m, .string x.n, .string x.i]] w fun e w' => e = .returned (.bool (lessE ⟨m, t, i⟩ x)) ∧ Below w.heap.size w w') ∧
        (Calls Tryd.prog 21 #[.agg #[.int .i64 m, .string t, .string i], .agg #[.int .i64 x.m, .string x.n, .string x.i]] w fun e w' => e = .returned (.bool (lessE ⟨m, t, i⟩ x)) ∧ Below w.heap.size w w')) := fun x hx w =>
      ⟨tless_any x ⟨m, t, i⟩ w (A.short x hx).1 ha.1, trless_any x ⟨m, t, i⟩ w (A.short x hx).1 ha.1, tless_any ⟨m, t, i⟩ x w ha.1 (A.short x hx).1, trless_any ⟨m, t, i⟩ x w ha.1 (A.short x hx).1⟩
    have HA := Lib.hid A1.row
    have HN := Lib.hid A.len
    clear hw1 hbw hB hr hF A1 A hT hz ha hs hbig hlen hfe hfb hL hD hM hN
    go_enter Tryd.func5, Tryd.ntmps5
    go_upto_region 1 with fail
    rw [← HBE.out, ← HW.out]
    go_upto_region 3 with (go_at_call 9; ((with_reducible refine (HF.out _ (by assumption)).mono ?_); rintro e w2 ⟨rfl, hb2⟩; have d1 := cell_bel b1 hb2))
    go_upto_region 4 with (go_at_call 18; ((with_reducible refine (HF1.out _ (by assumption)).mono ?_); rintro e w3 ⟨rfl, hb3⟩))
    obtain ⟨P, hP⟩ : ∃ P, P = w3.heap.size := ⟨_, rfl⟩
    obtain ⟨w4, hw4⟩ : ∃ w4, w4 = w3.alloc (.cells #[.int .i64 fe.m, .string fe.n, .string fe.i] 34) := ⟨_, rfl⟩
    have hb4 : Below w1.heap.size w1 w4 := (hb2.trans (hb3.mono hb2.size)).trans (by rw [hw4]; exact below_new (Below.refl _ _) _ |>.mono ((hb2.trans (hb3.mono hb2.size)).size))
    have hr4 : w4.heap[P]? = some (.cells #[.int .i64 fe.m, .string fe.n, .string fe.i] 34 (0, 0)) := by rw [hw4, hP]; exact heap_alloc_new w3 _
    have HR4 := Lib.hid hr4
    rw [← hw4, ← hP]
    clear hr4 hw4 hP hb2 hb3 d1
    go_upto_region 5 with (go_at_call 19; ((with_reducible refine (HF2.out _ (by assumption)).mono ?_); rintro e w5 ⟨rfl, hb5⟩))
    obtain ⟨Q, hQ⟩ : ∃ Q, Q = w5.heap.size := ⟨_, rfl⟩
    obtain ⟨w6, hw6⟩ : ∃ w6, w6 = w5.alloc (.cells #[.int .i64 fe.m, .string fe.n, .string fe.i] 34) := ⟨_, rfl⟩
    have hb56 : Below w4.heap.size w4 w6 := hb5.trans (by rw [hw6]; exact below_new (Below.refl _ _) _ |>.mono hb5.size)
    have hb6 : Below w1.heap.size w1 w6 := hb4.trans (hb56.mono hb4.size)
    have HR6 : Hid (w6.heap[Q]? = some (.cells #[.int .i64 fe.m, .string fe.n, .string fe.i] 34 (0, 0)) ∧ w6.heap[P]? = some (.cells #[.int .i64 fe.m, .string fe.n, .string fe.i] 34 (0, 0)) ∧ w6.heap[B]? = some (.cells #[.int .i64 m, .string t, .string i] 34 (0, 0))) :=
      ⟨by rw [hw6, hQ]; exact heap_alloc_new w5 _, (hb56.block _ (row_lt HR4.out)).trans HR4.out, (hb6.block _ (row_lt HR.out)).trans HR.out⟩
    have HB6 := Lib.hid hb6
    rw [← hw6, ← hQ]
    clear hw6 hQ hb4 hb5 hb56 b0 b1 b2 HR4 HF1 HF2 hb6 h0
    go_upto_region 6 with fail
    go_loopw [39] (fun iv wr => ∃ k : Nat, k ≤ n ∧ iv = .int .i64 (k : Int) ∧ Hid (Below w6.heap.size w6 wr)) (fun iv _ => n - (intOf iv).toNat)
    case atStart => exact ⟨0, by omega, rfl, Below.refl _ _⟩
    case round =>
      obtain ⟨k, hk, rfl, HBW⟩ := hrel
      have HBX : Hid (Below w1.heap.size w1 wr) := HB6.out.trans (HBW.out.mono HB6.out.size)
      by_cases hlt : k < n
      · have hkl : k < es.length := by rw [← HN.out]; exact hlt
        obtain ⟨g, o, rfl, hg, a0, a1, a2⟩ := HA.out.below HBX.out k hkl
        obtain ⟨x, hx⟩ : ∃ x, x = es[k] := ⟨_, rfl⟩
        rw [← hx] at a0 a1 a2
        have hxm : x ∈ es := by rw [hx]; exact List.getElem_mem hkl
        obtain ⟨u, hu⟩ : ∃ u, u = lessE x ⟨m, t, i⟩ := ⟨_, rfl⟩
        obtain ⟨v, hv⟩ : ∃ v, v = lessE ⟨m, t, i⟩ x := ⟨_, rfl⟩
        have HL1 := Lib.hid (fun (y : BelW wr) => Calls.bel_class (x := y) (HLE.out x hxm y.w).1)
        have HL2 := Lib.hid (fun (y : BelW wr) => Calls.bel_class (x := y) (HLE.out x hxm y.w).2.1)
        have HL3 := Lib.hid (fun (y : BelW wr) => Calls.bel_class (x := y) (HLE.out x hxm y.w).2.2.1)
        have HL4 := Lib.hid (fun (y : BelW wr) => Calls.bel_class (x := y) (HLE.out x hxm y.w).2.2.2)
        rw [← hu] at HL1 HL2
        rw [← hv] at HL3 HL4
        obtain ⟨m', t', i'⟩ := x
        simp only at a0 a1 a2 HL1 HL2 HL3 HL4
        have hrB : wr.heap[B]? = some (.cells #[.int .i64 m, .string t, .string i] 34 (0, 0)) := (HBW.out.block _ (row_lt HR6.out.2.2)).trans HR6.out.2.2
        have q0 : ∀ y : BelW wr, y.w.cell? ⟨g, o + k * 3, none⟩ = some (.int .i64 m') := fun y => cell_bel a0 y.h
        have q1 : ∀ y : BelW wr, y.w.cell? ⟨g, o + k * 3 + 1, none⟩ = some (.string t') := fun y => cell_bel a1 y.h
        have q2 : ∀ y : BelW wr, y.w.cell? ⟨g, o + k * 3 + 2, none⟩ = some (.string i') := fun y => cell_bel a2 y.h
        have c0 : ∀ y : BelW wr, y.w.cell? ⟨B, 0, none⟩ = some (.int .i64 m) := fun y => cell_bel (cell_of_row wr _ 0 _ _ _ hrB) y.h
        have c1 : ∀ y : BelW wr, y.w.cell? ⟨B, 1, none⟩ = some (.string t) := fun y => cell_bel (cell_of_row wr _ 1 _ _ _ hrB) y.h
        have c2 : ∀ y : BelW wr, y.w.cell? ⟨B, 2, none⟩ = some (.string i) := fun y => cell_bel (cell_of_row wr _ 2 _ _ _ hrB) y.h
        have z0 : (0 : Int) ≤ (k : Int) := by omega
        have z1 : (k : Int) < (n : Int) := by omega
        have zu : (u != u) = false := by simp
        have zv : (v != v) = false := by simp
        have hq : Nonempty (BelW wr) := ⟨⟨wr, Below.refl _ _⟩⟩
        clear hx hxm hu hv a0 a1 a2 hrB hkl hg
        go_upto_region 8 with fail
        refine wp_region_bel (w0 := wr) (Below.refl _ _) (by kernel_rfl) (by kernel_rfl) ?_
        repeat (go_big_quiet_step (first
          | (go_at_call 20; first | (with_reducible exact HL1.out _) | (with_reducible exact HL3.out _))
          | (go_at_call 21; first | (with_reducible exact HL2.out _) | (with_reducible exact HL4.out _))))
        refine wpQuiet_nil ?_
        rintro _ ⟨x, rfl⟩
        have HBX2 : Hid (Below w6.heap.size w6 x.w) := HBW.out.trans (x.h.mono HBW.out.size)
        clear c0 c1 c2 q0 q1 q2
        go_wp2_with fail
        go_roundw
        case rel => exact ⟨k + 1, by omega, by go_num, HBX2⟩
        case measure => simp [intOf]; omega
      · have hrB : wr.heap[B]? = some (.cells #[.int .i64 m, .string t, .string i] 34 (0, 0)) := (HBW.out.block _ (row_lt HR6.out.2.2)).trans HR6.out.2.2
        have hrP : wr.heap[P]? = some (.cells #[.int .i64 fe.m, .string fe.n, .string fe.i] 34 (0, 0)) := (HBW.out.block _ (row_lt HR6.out.2.1)).trans HR6.out.2.1
        have hrQ : wr.heap[Q]? = some (.cells #[.int .i64 fe.m, .string fe.n, .string fe.i] 34 (0, 0)) := (HBW.out.block _ (row_lt HR6.out.1)).trans HR6.out.1
        have c0 : wr.cell? ⟨B, 0, none⟩ = some (.int .i64 m) := cell_of_row wr _ 0 _ _ _ hrB
        have c1 : wr.cell? ⟨B, 1, none⟩ = some (.string t) := cell_of_row wr _ 1 _ _ _ hrB
        have c2 : wr.cell? ⟨B, 2, none⟩ = some (.string i) := cell_of_row wr _ 2 _ _ _ hrB
        have p0 : wr.cell? ⟨P, 0, none⟩ = some (.int .i64 fe.m) := cell_of_row wr _ 0 _ _ _ hrP
        have p1 : wr.cell? ⟨P, 1, none⟩ = some (.string fe.n) := cell_of_row wr _ 1 _ _ _ hrP
        have p2 : wr.cell? ⟨P, 2, none⟩ = some (.string fe.i) := cell_of_row wr _ 2 _ _ _ hrP
        have r0 : wr.cell? ⟨Q, 0, none⟩ = some (.int .i64 fe.m) := cell_of_row wr _ 0 _ _ _ hrQ
        have r1 : wr.cell? ⟨Q, 1, none⟩ = some (.string fe.n) := cell_of_row wr _ 1 _ _ _ hrQ
        have r2 : wr.cell? ⟨Q, 2, none⟩ = some (.string fe.i) := cell_of_row wr _ 2 _ _ _ hrQ
        clear hrB hrP hrQ
        have HBR := Lib.hid HBX
        clear HBX HB6 HBW HR6 HLE HR HBE HW HA HN
        have HQ1 : Hid (∀ w, (Below wr.heap.size wr w ∧ w.cell? ⟨B, 0, none⟩ = some (.int .i64 m) ∧ w.cell? ⟨B, 1, none⟩ = some (.string t) ∧ w.cell? ⟨B, 2, none⟩ = some (.string i) ∧ w.cell? ⟨P, 0, none⟩ = some (.int .i64 fe.m) ∧ w.cell? ⟨P, 1, none⟩ = some (.string fe.n) ∧ w.cell? ⟨P, 2, none⟩ = some (.string fe.i) ∧ w.cell? ⟨Q, 0, none⟩ = some (.int .i64 fe.m) ∧ w.cell? ⟨Q, 1, none⟩ = some (.string fe.n) ∧ w.cell? ⟨Q, 2, none⟩ = some (.string fe.i)) → Calls Tryd.prog 22 #[.slice p n c, .agg #[.int .i64 m, .string t, .string i]] w fun e w' => ∃ q d, e = .returned (.slice q M d) ∧ NRw w' q L ∧ Below w.heap.size w w') := fun w h => HP1.out w (HBR.out.trans (h.1.mono HBR.out.size))
        have HQ2 : Hid (∀ w, (Below wr.heap.size wr w ∧ w.cell? ⟨B, 0, none⟩ = some (.int .i64 m) ∧ w.cell? ⟨B, 1, none⟩ = some (.string t) ∧ w.cell? ⟨B, 2, none⟩ = some (.string i) ∧ w.cell? ⟨P, 0, none⟩ = some (.int .i64 fe.m) ∧ w.cell? ⟨P, 1, none⟩ = some (.string fe.n) ∧ w.cell? ⟨P, 2, none⟩ = some (.string fe.i) ∧ w.cell? ⟨Q, 0, none⟩ = some (.int .i64 fe.m) ∧ w.cell? ⟨Q, 1, none⟩ = some (.string fe.n) ∧ w.cell? ⟨Q, 2, none⟩ = some (.string fe.i)) → Calls Tryd.prog 23 #[.slice p n c, .agg #[.int .i64 m, .string t, .string i]] w fun e w' => ∃ q d, e = .returned (.slice q M d) ∧ NRw w' q L ∧ Below w.heap.size w w') := fun w h => HP2.out w (HBR.out.trans (h.1.mono HBR.out.size))
        have HQ3 : Hid (∀ w, (Below wr.heap.size wr w ∧ w.cell? ⟨B, 0, none⟩ = some (.int .i64 m) ∧ w.cell? ⟨B, 1, none⟩ = some (.string t) ∧ w.cell? ⟨B, 2, none⟩ = some (.string i) ∧ w.cell? ⟨P, 0, none⟩ = some (.int .i64 fe.m) ∧ w.cell? ⟨P, 1, none⟩ = some (.string fe.n) ∧ w.cell? ⟨P, 2, none⟩ = some (.string fe.i) ∧ w.cell? ⟨Q, 0, none⟩ = some (.int .i64 fe.m) ∧ w.cell? ⟨Q, 1, none⟩ = some (.string fe.n) ∧ w.cell? ⟨Q, 2, none⟩ = some (.string fe.i)) → Calls Tryd.prog 24 #[.slice p n c, .string s] w fun e w' => ∃ q d, e = .returned (.slice q N d) ∧ NRw w' q D ∧ Below w.heap.size w w') := fun w h => HD1.out w (HBR.out.trans (h.1.mono HBR.out.size))
        have HQ4 : Hid (∀ w, (Below wr.heap.size wr w ∧ w.cell? ⟨B, 0, none⟩ = some (.int .i64 m) ∧ w.cell? ⟨B, 1, none⟩ = some (.string t) ∧ w.cell? ⟨B, 2, none⟩ = some (.string i) ∧ w.cell? ⟨P, 0, none⟩ = some (.int .i64 fe.m) ∧ w.cell? ⟨P, 1, none⟩ = some (.string fe.n) ∧ w.cell? ⟨P, 2, none⟩ = some (.string fe.i) ∧ w.cell? ⟨Q, 0, none⟩ = some (.int .i64 fe.m) ∧ w.cell? ⟨Q, 1, none⟩ = some (.string fe.n) ∧ w.cell? ⟨Q, 2, none⟩ = some (.string fe.i)) → Calls Tryd.prog 25 #[.slice p n c, .string s] w fun e w' => ∃ q d, e = .returned (.slice q N d) ∧ NRw w' q D ∧ Below w.heap.size w w') := fun w h => HD2.out w (HBR.out.trans (h.1.mono HBR.out.size))
        have HQ5 : Hid (∀ w, (Below wr.heap.size wr w ∧ w.cell? ⟨B, 0, none⟩ = some (.int .i64 m) ∧ w.cell? ⟨B, 1, none⟩ = some (.string t) ∧ w.cell? ⟨B, 2, none⟩ = some (.string i) ∧ w.cell? ⟨P, 0, none⟩ = some (.int .i64 fe.m) ∧ w.cell? ⟨P, 1, none⟩ = some (.string fe.n) ∧ w.cell? ⟨P, 2, none⟩ = some (.string fe.i) ∧ w.cell? ⟨Q, 0, none⟩ = some (.int .i64 fe.m) ∧ w.cell? ⟨Q, 1, none⟩ = some (.string fe.n) ∧ w.cell? ⟨Q, 2, none⟩ = some (.string fe.i)) → Calls Tryd.prog 10 #[] w fun e w' => e = .returned (.bool true) ∧ Below w.heap.size w w' ∧ Below wr.heap.size wr w') := fun w h => (HLV2.out w (HBR.out.trans (h.1.mono HBR.out.size))).mono fun e w' ⟨h1, h2⟩ => ⟨h1, h2, h.1.trans (h2.mono h.1.size)⟩
        clear HP1 HP2 HD1 HD2 HLV HLV2 HF
        go_upto_region 11 with fail
        go_region_held3 (fun w' => Below wr.heap.size wr w' ∧ w'.cell? ⟨B, 0, none⟩ = some (.int .i64 m) ∧ w'.cell? ⟨B, 1, none⟩ = some (.string t) ∧ w'.cell? ⟨B, 2, none⟩ = some (.string i) ∧ w'.cell? ⟨P, 0, none⟩ = some (.int .i64 fe.m) ∧ w'.cell? ⟨P, 1, none⟩ = some (.string fe.n) ∧ w'.cell? ⟨P, 2, none⟩ = some (.string fe.i) ∧ w'.cell? ⟨Q, 0, none⟩ = some (.int .i64 fe.m) ∧ w'.cell? ⟨Q, 1, none⟩ = some (.string fe.n) ∧ w'.cell? ⟨Q, 2, none⟩ = some (.string fe.i))
          (first
            | exact keepTen hb7 (by assumption)
            | exact keepTen hb6 (by assumption)
            | exact keepTen hb5 (by assumption)
            | exact keepTen hb4 (by assumption)
            | exact keepTen hb3 (by assumption)
            | exact keepTen hb2 (by assumption)
            | exact keepTen hb1 (by assumption)
            | exact keepTen below_one_drew ⟨Below.refl _ _, c0, c1, c2, p0, p1, p2, r0, r1, r2⟩) (first
            | (go_at_call 22; ((with_reducible refine (HQ1.out _ (by assumption)).mono ?_); rintro e v1 ⟨q1, d1, rfl, hn1, hb1⟩))
            | (go_at_call 23; ((with_reducible refine (HQ2.out _ (by assumption)).mono ?_); rintro e v2 ⟨q2, d2, rfl, hn2, hb2⟩; have hn1' := hn1.below hb2))
            | (go_at_call 24; ((with_reducible refine (HQ3.out _ (by assumption)).mono ?_); rintro e v4 ⟨q4, d4, rfl, hn4, hb4⟩))
            | (go_at_call 25; ((with_reducible refine (HQ4.out _ (by assumption)).mono ?_); rintro e v5 ⟨q5, d5, rfl, hn5, hb5⟩; have hn4' := hn4.below hb5))
            | (go_at_call 17; first
              | ((with_reducible refine (HSL.out _ _ _ _ _ hn1' hn2).mono ?_); rintro e v3 ⟨rfl, hb3⟩)
              | ((with_reducible refine (HSD.out _ _ _ _ _ hn4' hn5).mono ?_); rintro e v6 ⟨rfl, hb6⟩))
            | (go_at_call 10; ((with_reducible refine (HQ5.out _ (by assumption)).mono ?_); rintro e v7 ⟨rfl, hb7, hd7⟩)))
        all_goals go_wp2_with fail
        all_goals go_ret
        all_goals exact ⟨rfl, HBW0.out.trans ((HBR.out.trans (hd7.mono HBR.out.size)).mono HBW0.out.size)⟩
  · have e2 : F = true → decide ((500 : Int) < (z : Int)) = true := fun h => decide_eq_true (by have : 500 < z := Decidable.byContradiction fun h2 => hgo ⟨h, h2⟩; omega)
    clear hw1 hbw hB hr hF A1 A hT hz ha hs b0 b2 HR e1' hgo HLV2
    rcases F with _ | _
    · clear e2
      go_enter Tryd.func5, Tryd.ntmps5
      go_upto_region 1 with fail
      rw [← HBE.out, ← HW.out]
      go_wp2_with (first
        | (go_at_call 9; ((with_reducible refine (HF.out _ h0).mono ?_); rintro e w2 ⟨rfl, hb2⟩))
        | (go_at_call 10; ((with_reducible refine (HLV.out _ hb2).mono ?_); rintro e w3 ⟨rfl, hb3⟩)))
      go_ret
      exact ⟨rfl, HBW.out.trans (hb3.mono HBW.out.size)⟩
    · replace e2 := e2 rfl
      go_enter Tryd.func5, Tryd.ntmps5
      go_upto_region 1 with fail
      rw [← HBE.out, ← HW.out]
      go_wp2_with (first
        | (go_at_call 9; ((with_reducible refine (HF.out _ h0).mono ?_); rintro e w2 ⟨rfl, hb2⟩; have d1 := cell_bel b1 hb2))
        | (go_at_call 10; ((with_reducible refine (HLV.out _ hb2).mono ?_); rintro e w3 ⟨rfl, hb3⟩)))
      go_ret
      exact ⟨rfl, HBW.out.trans (hb3.mono HBW.out.size)⟩
end
end Go.Proofs.YtjholoajgnpodaaDoor
