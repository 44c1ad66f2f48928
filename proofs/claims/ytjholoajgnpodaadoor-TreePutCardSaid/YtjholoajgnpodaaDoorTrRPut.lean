/-
  The walk of the reference's Put.
-/
import Derived.Test.YtjholoajgnpodaaDoorTrPut
namespace Go.Proofs.YtjholoajgnpodaaDoor
open Go.RowKit Go.Shelf

theorem atE_next {l : List En} {e : En} {k : Nat} (hk : k < l.length) (hno : ∀ x ∈ l.take k, lessE e x = false) (h : lessE e l[k] = true) : atE l e = k := by
  unfold atE
  have e1 : l = l.take k ++ l[k] :: l.drop (k + 1) := by rw [← List.drop_eq_getElem_cons hk, List.take_append_drop]
  conv => lhs; rw [e1]
  rw [List.takeWhile_append_of_pos (fun x hx => by simp [hno x hx]), List.takeWhile_cons_of_neg (by simp [h]), List.append_nil, List.length_take]
  omega
theorem atE_all {l : List En} {e : En} (hno : ∀ x ∈ l, lessE e x = false) : atE l e = l.length := by
  unfold atE
  congr 1
  induction l with
  | nil => rfl
  | cons a r ih => rw [List.takeWhile_cons_of_pos (by simp [hno a (by simp)]), ih (fun x hx => hno x (by simp [hx]))]
set_option maxHeartbeats 8000000 in
set_option maxRecDepth 4000 in
theorem rput_any (es : List En) (e : En) (p : Option Addr) (c n : Nat) (w : World) (hn : n = es.length) (hp : NRw w p es) (hn2 : n ≤ 65536) (he : e.n.size ≤ 140737488355328) (hs : ∀ x ∈ es, x.n.size ≤ 140737488355328) :
    Calls Tryd.prog 23 #[.slice p n c, .agg #[.int .i64 e.m, .string e.n, .string e.i]] w fun r w' => ∃ v, r = .returned v ∧ NOw w' w.heap.size v (putE es e) ∧ Below w.heap.size w w' := by
  obtain ⟨w1, hw1⟩ : ∃ w1, w1 = w.alloc (.cells #[.int .i64 e.m, .string e.n, .string e.i] 34) := ⟨_, rfl⟩
  have hb1 : Below w.heap.size w w1 := by rw [hw1]; exact below_new (Below.refl _ _) _
  have hs1 : w1.heap.size = w.heap.size + 1 := by rw [hw1]; simp
  have hr : w1.heap[w.heap.size]? = some (.cells #[.int .i64 e.m, .string e.n, .string e.i] 34 (0, 0)) := by rw [hw1]; exact heap_alloc_new w _
  have HDR := Lib.hid (rdrop_any es e.n p c n w1 hn (hp.below hb1) hn2)
  obtain ⟨D, hD⟩ : ∃ D, D = dropE es e.n := ⟨_, rfl⟩
  rw [← hD] at HDR
  rw [putE_ins, ← hD]
  have hdl : D.length ≤ n := by rw [hD, hn]; exact dropE_le _ _
  have hds : ∀ x ∈ D, x.n.size ≤ 140737488355328 := fun x hx => hs x (by rw [hD] at hx; exact (List.mem_filter.1 hx).1)
  obtain ⟨B, hB⟩ : ∃ B, B = w.heap.size := ⟨_, rfl⟩
  have HLS : Hid (∀ x ∈ D, ∀ w, Calls Tryd.prog 21 #[.agg #[.int .i64 e.m, .string e.n, .string e.i], .agg #[.int .i64 x.m, .string x.n, .string x.i]] w fun r w' => r = .returned (.bool (lessE e x)) ∧ Below w.heap.size w w') := fun x hx w => trless_any e x w he (hds x hx)
  obtain ⟨T, hT⟩ : ∃ T, T = atE D e := ⟨_, rfl⟩
  rw [← hT]
  have HT := Lib.hid hT
  rw [← hB] at hr
  have HB := Lib.hid hB
  have HR := Lib.hid hr
  have HW1 := Lib.hid hw1
  have HB1 := Lib.hid hb1
  have HS1 := Lib.hid hs1
  have HDL : Hid (D.length ≤ 65536) := by show _ ≤ _; omega
  obtain ⟨m, t, i⟩ := e
  simp only at HDR HR HW1 HLS
  have c0 : w1.cell? ⟨B, 0, none⟩ = some (.int .i64 m) := cell_of_row w1 _ 0 _ _ _ HR.out
  have c1 : w1.cell? ⟨B, 1, none⟩ = some (.string t) := cell_of_row w1 _ 1 _ _ _ HR.out
  have c2 : w1.cell? ⟨B, 2, none⟩ = some (.string i) := cell_of_row w1 _ 2 _ _ _ HR.out
  clear hn hp hn2 he hs hw1 hb1 hs1 hr hD hdl hds hB hT
  go_enter Tryd.func23, Tryd.ntmps23
  go_upto_region 1 with fail
  rw [← HB.out, ← HW1.out]
  go_upto_region 2 with (go_at_call 25; (with_reducible refine HDR.out.mono ?_); rintro r w2 ⟨v, rfl, ho2, hb2⟩; have HO2 := Lib.hid ho2; have HB2 := Lib.hid hb2; clear ho2 hb2)
  clear c0 c1 c2 HDR
  have hr2 : w2.heap[B]? = some (.cells #[.int .i64 m, .string t, .string i] 34 (0, 0)) := (HB2.out.block _ (row_lt HR.out)).trans HR.out
  have HR2 := Lib.hid hr2
  clear hr2
  rcases now_form HO2.out with ⟨rfl, hD0⟩ | ⟨G, cap, rfl⟩
  · have hT0 : T = 0 := by rw [HT.out, hD0]; rfl
    subst hD0
    subst hT0
    have c0 : w2.cell? ⟨B, 0, none⟩ = some (.int .i64 m) := cell_of_row w2 _ 0 _ _ _ HR2.out
    have c1 : w2.cell? ⟨B, 1, none⟩ = some (.string t) := cell_of_row w2 _ 1 _ _ _ HR2.out
    have c2 : w2.cell? ⟨B, 2, none⟩ = some (.string i) := cell_of_row w2 _ 2 _ _ _ HR2.out
    have HBX : Hid (Below w.heap.size w w2) := HB1.out.trans (HB2.out.mono (by have := HS1.out; omega))
    go_wp2_with fail
    go_loopw [6] (fun iv wr => iv = .int .i64 0 ∧ Hid (Below w2.heap.size w2 wr)) (fun _ _ => 0)
    case atStart => exact ⟨rfl, Below.refl _ _⟩
    case round =>
      obtain ⟨rfl, HBW⟩ := hrel
      clear c0 c1 c2
      have hq : Nonempty (BelW wr) := ⟨⟨wr, Below.refl _ _⟩⟩
      go_upto_region 3 with fail
      refine wp_region_bel (w0 := wr) (Below.refl _ _) (by kernel_rfl) (by kernel_rfl) ?_
      repeat (go_big_quiet_step (fail))
      refine wpQuiet_nil ?_
      rintro _ ⟨x, rfl⟩
      have HBX2 : Hid (Below w2.heap.size w2 x.w) := HBW.out.trans (x.h.mono HBW.out.size)
      have hr3 : x.w.heap[B]? = some (.cells #[.int .i64 m, .string t, .string i] 34 (0, 0)) := (HBX2.out.block _ (row_lt HR2.out)).trans HR2.out
      have c0 : x.w.cell? ⟨B, 0, none⟩ = some (.int .i64 m) := cell_of_row x.w _ 0 _ _ _ hr3
      have c1 : x.w.cell? ⟨B, 1, none⟩ = some (.string t) := cell_of_row x.w _ 1 _ _ _ hr3
      have c2 : x.w.cell? ⟨B, 2, none⟩ = some (.string i) := cell_of_row x.w _ 2 _ _ _ hr3
      have HN0 : Hid (NOw x.w w.heap.size (.slice none 0 0) []) := NOw.nil _ _
      have HBY : Hid (Below w.heap.size w x.w) := HBX.out.trans (HBX2.out.mono HBX.out.size)
      clear hr3
      go_upto_region 7 with (at_builtin; refine wp_no_none rfl _ _ rfl rfl HN0.out rfl ?_)
      go_upto_region 8 with (at_builtin; refine wp_no_one rfl _ _ rfl rfl HN0.out _ m t i rfl rfl (by simp) HBY.out.size ?_; intro v' w4 h1 h2; have HO4 := Lib.hid h1; have HB4 := Lib.hid (HN0.out.bel1 HBY.out (Nat.le_refl _) HBY.out.size h2); clear h1 h2)
      go_wp2_with (at_builtin; refine wp_no_none rfl _ _ rfl rfl HO4.out rfl ?_)
      go_ret
      exact ⟨_, rfl, HO4.out, HB4.out⟩
  · obtain ⟨_, hc2, hb2, hG2⟩ := HO2.out.len
    obtain ⟨z, hz⟩ : ∃ z, z = D.length := ⟨_, rfl⟩
    rw [← hz] at HO2 hc2 ⊢
    have HZ := Lib.hid hz
    have HCB : Hid (z ≤ cap ∧ w1.heap.size ≤ G ∧ G < w2.heap.size ∧ z ≤ 65536) := ⟨hc2, hb2, hG2, by rw [hz]; exact HDL.out⟩
    have HBX : Hid (Below w.heap.size w w2) := HB1.out.trans (HB2.out.mono (by have := HS1.out; omega))
    have hz2 : z ≤ 65536 := HCB.out.2.2.2
    clear hz hc2 hb2 hG2
    go_upto_region 3 with fail
    go_loopw [6] (fun iv wr => ∃ k : Nat, k ≤ z ∧ iv = .int .i64 (k : Int) ∧ Hid (∀ x ∈ D.take k, lessE ⟨m, t, i⟩ x = false) ∧ Hid (Below w2.heap.size w2 wr)) (fun iv _ => z - (intOf iv).toNat)
    case atStart => exact ⟨0, by omega, rfl, fun x hx => by simp at hx, Below.refl _ _⟩
    case round =>
      obtain ⟨k, hk, rfl, HNO, HBW⟩ := hrel
      have hr3 : wr.heap[B]? = some (.cells #[.int .i64 m, .string t, .string i] 34 (0, 0)) := (HBW.out.block _ (row_lt HR2.out)).trans HR2.out
      have HRW := Lib.hid hr3
      have HOW : Hid (NOw wr w1.heap.size (.slice (some ⟨G, 0, none⟩) z cap) D) := HO2.out.below HBW.out
      clear hr3
      by_cases hlt : k < z
      · have hkl : k < D.length := by rw [← HZ.out]; exact hlt
        obtain ⟨a0, a1, a2⟩ := HOW.out.at k hkl
        obtain ⟨x, hx⟩ : ∃ x, x = D[k] := ⟨_, rfl⟩
        rw [← hx] at a0 a1 a2
        have HX := Lib.hid hx
        have HL := Lib.hid (fun (y : BelW wr) => Calls.bel_class (x := y) (HLS.out x (by rw [hx]; exact List.getElem_mem hkl) y.w))
        obtain ⟨b, hb⟩ : ∃ b, b = lessE ⟨m, t, i⟩ x := ⟨_, rfl⟩
        rw [← hb] at HL
        have HPB := Lib.hid hb
        obtain ⟨m', t', i'⟩ := x
        simp only at a0 a1 a2 HL
        have d0 : ∀ y : BelW wr, y.w.cell? ⟨G, k * 3, none⟩ = some (.int .i64 m') := fun y => cell_bel a0 y.h
        have d1 : ∀ y : BelW wr, y.w.cell? ⟨G, k * 3 + 1, none⟩ = some (.string t') := fun y => cell_bel a1 y.h
        have d2 : ∀ y : BelW wr, y.w.cell? ⟨G, k * 3 + 2, none⟩ = some (.string i') := fun y => cell_bel a2 y.h
        have c0 : ∀ y : BelW wr, y.w.cell? ⟨B, 0, none⟩ = some (.int .i64 m) := fun y => cell_bel (cell_of_row wr _ 0 _ _ _ HRW.out) y.h
        have c1 : ∀ y : BelW wr, y.w.cell? ⟨B, 1, none⟩ = some (.string t) := fun y => cell_bel (cell_of_row wr _ 1 _ _ _ HRW.out) y.h
        have c2 : ∀ y : BelW wr, y.w.cell? ⟨B, 2, none⟩ = some (.string i) := fun y => cell_bel (cell_of_row wr _ 2 _ _ _ HRW.out) y.h
        have q0 : (0 : Int) ≤ (k : Int) := by omega
        have q1 : (k : Int) < (z : Int) := by omega
        have q2 : decide ((k : Int) < (z : Int)) = true := decide_eq_true q1
        have q3 : decide (k < z) = true := decide_eq_true hlt
        have hq : Nonempty (BelW wr) := ⟨⟨wr, Below.refl _ _⟩⟩
        clear hx hb a0 a1 a2
        rcases b with _ | _
        · have HNX : Hid (∀ x ∈ D.take (k + 1), lessE ⟨m, t, i⟩ x = false) := fun x hx => by
            rw [List.take_succ_eq_append_getElem hkl, List.mem_append, List.mem_singleton] at hx
            rcases hx with hx | rfl
            · exact HNO.out x hx
            · rw [← HX.out]; exact HPB.out.symm
          go_upto_region 3 with fail
          refine wp_region_bel (w0 := wr) (Below.refl _ _) (by kernel_rfl) (by kernel_rfl) ?_
          repeat (go_big_quiet_step ((go_at_call 21; (with_reducible exact HL.out _))))
          refine wpQuiet_nil ?_
          rintro _ ⟨x, rfl⟩
          have HBX2 : Hid (Below w2.heap.size w2 x.w) := HBW.out.trans (x.h.mono HBW.out.size)
          clear c0 c1 c2 d0 d1 d2
          go_wp2_with fail
          go_roundw
          case rel => exact ⟨k + 1, by omega, by go_num, HNX, HBX2⟩
          case measure => simp [intOf]; omega
        · have HTK : Hid (T = k) := by
            show _ = _
            rw [HT.out]
            exact atE_next hkl HNO.out (by rw [← HX.out]; exact HPB.out.symm)
          have q5 : (k : Int) ≤ (cap : Int) := by have := HCB.out; omega
          have q6 : ¬ cap = k := by have := HCB.out; omega
          have q7 : (k : Int) ≤ (z : Int) := by omega
          go_upto_region 3 with fail
          refine wp_region_bel (w0 := wr) (Below.refl _ _) (by kernel_rfl) (by kernel_rfl) ?_
          repeat (go_big_quiet_step ((go_at_call 21; (with_reducible exact HL.out _))))
          refine wpQuiet_nil ?_
          rintro _ ⟨x, rfl⟩
          have HBX2 : Hid (Below w2.heap.size w2 x.w) := HBW.out.trans (x.h.mono HBW.out.size)
          have hr4 : x.w.heap[B]? = some (.cells #[.int .i64 m, .string t, .string i] 34 (0, 0)) := (HBX2.out.block _ (row_lt HR2.out)).trans HR2.out
          have HR4 := Lib.hid hr4
          have HOX : Hid (NOw x.w w1.heap.size (.slice (some ⟨G, 0, none⟩) z cap) D) := HO2.out.below HBX2.out
          have HN0 : Hid (NOw x.w x.w.heap.size (.slice none 0 0) []) := NOw.nil _ _
          have HS0 : Hid (∀ j u, (ncells (D.take k))[j]? = some u → x.w.cell? ((⟨G, 0, none⟩ : Addr).add j) = some u) := fun j u hu => by
            have := (HOX.out.cut k (by rw [← HZ.out]; omega)).src 0 0 rfl j u (by simpa using hu)
            exact this
          have HM0 : Hid (k = (D.take k).length ∧ ([] : List En).length + k ≤ 1048576) := ⟨by rw [List.length_take, ← HZ.out]; omega, by simp; omega⟩
          clear hr4 c0 c1 c2 d0 d1 d2
          go_upto_region 7 with (at_builtin; refine wp_no_many rfl _ _ rfl rfl HN0.out ⟨G, 0, none⟩ k cap (D.take k) HM0.out.1 rfl HS0.out HM0.out.2 (Nat.le_refl _) ?_; intro v3 w3 h1 h2 _; have HO3 := Lib.hid h1; have HB3 := Lib.hid (app_step0 (Below.refl x.w.heap.size x.w) HN0.out h2 (Nat.le_refl _) (Nat.le_refl _)); clear h1 h2)
          have hr5 : w3.heap[B]? = some (.cells #[.int .i64 m, .string t, .string i] 34 (0, 0)) := (HB3.out.block _ (row_lt HR4.out)).trans HR4.out
          have c0 : w3.cell? ⟨B, 0, none⟩ = some (.int .i64 m) := cell_of_row w3 _ 0 _ _ _ hr5
          have c1 : w3.cell? ⟨B, 1, none⟩ = some (.string t) := cell_of_row w3 _ 1 _ _ _ hr5
          have c2 : w3.cell? ⟨B, 2, none⟩ = some (.string i) := cell_of_row w3 _ 2 _ _ _ hr5
          have HM1 : Hid ((([] : List En) ++ D.take k).length + 1 ≤ 1048576) := by show _ ≤ _; simp; omega
          clear hr5
          go_upto_region 8 with (at_builtin; refine wp_no_one rfl _ _ rfl rfl HO3.out _ m t i rfl rfl HM1.out HB3.out.size ?_; intro v4 w4 h1 h2; have HO4 := Lib.hid h1; have HB4 := Lib.hid (HO3.out.bel1 HB3.out (Nat.le_refl _) HB3.out.size h2); clear h1 h2)
          have HO5 : Hid (NOw w4 w1.heap.size (.slice (some ⟨G, 0, none⟩) z cap) D) := HOX.out.below HB4.out
          have HM2 : Hid (z - k = (D.drop k).length ∧ (([] : List En) ++ D.take k ++ [(⟨m, t, i⟩ : En)]).length + (z - k) ≤ 1048576) := ⟨by rw [List.length_drop, ← HZ.out], by have := HZ.out; simp; omega⟩
          clear c0 c1 c2
          go_wp2_with (at_builtin; refine wp_no_many rfl _ _ rfl rfl HO4.out ⟨G, k * 3, none⟩ (z - k) _ (D.drop k) HM2.out.1 rfl (HO5.out.src k _ rfl) HM2.out.2 HB4.out.size ?_; intro v5 w5 h1 h2 _; have HO6 := Lib.hid h1; have HB6 := Lib.hid (app_step0 HB4.out HO4.out h2 (Nat.le_refl _) HB4.out.size); clear h1 h2)
          go_ret
          have HBZ := HBX.out.trans ((HBX2.out.mono HBX.out.size).trans (HB6.out.mono (Nat.le_trans HBX.out.size HBX2.out.size)))
          refine ⟨_, rfl, ?_, HBZ⟩
          rw [HTK.out]
          have := now_below HO6.out (Nat.le_trans HBX.out.size HBX2.out.size)
          simpa [insE] using this
      · have hkz : k = z := by omega
        have HTK : Hid (T = k) := by
          show _ = _
          rw [HT.out, hkz, HZ.out]
          refine atE_all fun x hx => HNO.out x ?_
          rw [List.take_of_length_le (by rw [← HZ.out]; omega)]
          exact hx
        have q1 : ¬ (k : Int) < (z : Int) := by omega
        have q2 : decide ((k : Int) < (z : Int)) = false := decide_eq_false q1
        have q3 : decide (k < z) = false := decide_eq_false hlt
        have q5 : (k : Int) ≤ (cap : Int) := by have := HCB.out; omega
        have q7 : (k : Int) ≤ (z : Int) := by omega
        have HKZ := Lib.hid hkz
        have hq : Nonempty (BelW wr) := ⟨⟨wr, Below.refl _ _⟩⟩
        clear hkz
        go_upto_region 3 with fail
        refine wp_region_bel (w0 := wr) (Below.refl _ _) (by kernel_rfl) (by kernel_rfl) ?_
        repeat (go_big_quiet_step (fail))
        refine wpQuiet_nil ?_
        rintro _ ⟨x, rfl⟩
        have HBX2 : Hid (Below w2.heap.size w2 x.w) := HBW.out.trans (x.h.mono HBW.out.size)
        have hr4 : x.w.heap[B]? = some (.cells #[.int .i64 m, .string t, .string i] 34 (0, 0)) := (HBX2.out.block _ (row_lt HR2.out)).trans HR2.out
        have HR4 := Lib.hid hr4
        have HOX : Hid (NOw x.w w1.heap.size (.slice (some ⟨G, 0, none⟩) z cap) D) := HO2.out.below HBX2.out
        have HN0 : Hid (NOw x.w x.w.heap.size (.slice none 0 0) []) := NOw.nil _ _
        have HS0 : Hid (∀ j u, (ncells (D.take k))[j]? = some u → x.w.cell? ((⟨G, 0, none⟩ : Addr).add j) = some u) := fun j u hu => by
          have := (HOX.out.cut k (by rw [← HZ.out]; omega)).src 0 0 rfl j u (by simpa using hu)
          exact this
        have HM0 : Hid (k = (D.take k).length ∧ ([] : List En).length + k ≤ 1048576) := ⟨by rw [List.length_take, ← HZ.out]; omega, by simp; omega⟩
        clear hr4
        go_upto_region 7 with (at_builtin; refine wp_no_many rfl _ _ rfl rfl HN0.out ⟨G, 0, none⟩ k cap (D.take k) HM0.out.1 rfl HS0.out HM0.out.2 (Nat.le_refl _) ?_; intro v3 w3 h1 h2 _; have HO3 := Lib.hid h1; have HB3 := Lib.hid (app_step0 (Below.refl x.w.heap.size x.w) HN0.out h2 (Nat.le_refl _) (Nat.le_refl _)); clear h1 h2)
        have hr5 : w3.heap[B]? = some (.cells #[.int .i64 m, .string t, .string i] 34 (0, 0)) := (HB3.out.block _ (row_lt HR4.out)).trans HR4.out
        have c0 : w3.cell? ⟨B, 0, none⟩ = some (.int .i64 m) := cell_of_row w3 _ 0 _ _ _ hr5
        have c1 : w3.cell? ⟨B, 1, none⟩ = some (.string t) := cell_of_row w3 _ 1 _ _ _ hr5
        have c2 : w3.cell? ⟨B, 2, none⟩ = some (.string i) := cell_of_row w3 _ 2 _ _ _ hr5
        have HM1 : Hid ((([] : List En) ++ D.take k).length + 1 ≤ 1048576) := by show _ ≤ _; simp; omega
        clear hr5
        go_upto_region 8 with (at_builtin; refine wp_no_one rfl _ _ rfl rfl HO3.out _ m t i rfl rfl HM1.out HB3.out.size ?_; intro v4 w4 h1 h2; have HO4 := Lib.hid h1; have HB4 := Lib.hid (HO3.out.bel1 HB3.out (Nat.le_refl _) HB3.out.size h2); clear h1 h2)
        have HO5 : Hid (NOw w4 w1.heap.size (.slice (some ⟨G, 0, none⟩) z cap) D) := HOX.out.below HB4.out
        have HM2 : Hid (z - k = (D.drop k).length ∧ (([] : List En) ++ D.take k ++ [(⟨m, t, i⟩ : En)]).length + (z - k) ≤ 1048576) := ⟨by rw [List.length_drop, ← HZ.out], by have := HZ.out; simp; omega⟩
        clear c0 c1 c2
        have HDZ : Hid (D.drop k = []) := by show _ = _; exact List.drop_of_length_le (by rw [← HZ.out, HKZ.out]; omega)
        have HS6 : Hid (∀ (ad : Addr) j u, (ncells (D.drop k))[j]? = some u → w4.cell? (ad.add j) = some u) := fun ad j u hu => by
          rw [HDZ.out] at hu
          simp [ncells] at hu
        by_cases hck : cap = k
        · have HM3 : Hid (0 = (D.drop k).length) := by show _ = _; rw [HDZ.out]; rfl
          have HZK : Hid (z - k = 0) := by show _ = _; have := HKZ.out; omega
          have HZK2 : Hid (cap - k = 0) := by show _ = _; omega
          go_wp2_with (at_builtin; refine wp_no_many rfl _ _ rfl rfl HO4.out ⟨G, 0, none⟩ _ _ (D.drop k) HM2.out.1 rfl (HS6.out _) HM2.out.2 HB4.out.size ?_; intro v5 w5 h1 h2 _; have HO6 := Lib.hid h1; have HB6 := Lib.hid (app_step0 HB4.out HO4.out h2 (Nat.le_refl _) HB4.out.size); clear h1 h2)
          go_ret
          have HBZ := HBX.out.trans ((HBX2.out.mono HBX.out.size).trans (HB6.out.mono (Nat.le_trans HBX.out.size HBX2.out.size)))
          refine ⟨_, rfl, ?_, HBZ⟩
          rw [HTK.out]
          have := now_below HO6.out (Nat.le_trans HBX.out.size HBX2.out.size)
          simpa [insE] using this
        · go_wp2_with (at_builtin; refine wp_no_many rfl _ _ rfl rfl HO4.out ⟨G, k * 3, none⟩ (z - k) _ (D.drop k) HM2.out.1 rfl (HS6.out _) HM2.out.2 HB4.out.size ?_; intro v5 w5 h1 h2 _; have HO6 := Lib.hid h1; have HB6 := Lib.hid (app_step0 HB4.out HO4.out h2 (Nat.le_refl _) HB4.out.size); clear h1 h2)
          go_ret
          have HBZ := HBX.out.trans ((HBX2.out.mono HBX.out.size).trans (HB6.out.mono (Nat.le_trans HBX.out.size HBX2.out.size)))
          refine ⟨_, rfl, ?_, HBZ⟩
          rw [HTK.out]
          have := now_below HO6.out (Nat.le_trans HBX.out.size HBX2.out.size)
          simpa [insE] using this
end Go.Proofs.YtjholoajgnpodaaDoor
