/-
  The walks of Body, of the reference's digits and Body.
-/
import Derived.Test.YtjholoajgnpodaaDoorTrRChk
import Derived.Test.YtjholoajgnpodaaDoorOwBPk
import Derived.Test.YtjholoajgnpodaaDoorIdRaw
namespace Go.Proofs.YtjholoajgnpodaaDoor
open Go.RowKit

theorem rawL_len (l : List UInt8) (n : Nat) : (rawL l n).length = n := by simp [rawL]
theorem wordM_le (m : Int) : (wordM m).length ≤ 7 := by
  unfold wordM
  repeat' split
  all_goals decide
theorem okEn_size {e : En} (h : okEn e = true) : e.n.size ≤ 255 ∧ isId e.i = true ∧ ∃ q : Nat, e.m = (q : Int) ∧ 1 ≤ q ∧ q ≤ 4 := by
  simp only [okEn, isP, Bool.and_eq_true, decide_eq_true_eq] at h
  exact ⟨h.2.2.1.1, h.2.2.2.2, e.m.toNat, by omega, by omega, by omega⟩
theorem encOne_len {e : En} (h : okEn e = true) : (encOne e).length ≤ 300 := by
  have h1 := wordM_le e.m
  have h2 := (okEn_size h).1
  unfold encOne
  simp only [List.length_append, list_len, rawL_len, List.length_singleton]
  omega
theorem encT_next {l : List En} {k : Nat} (h : k < l.length) : encT (l.take (k + 1)) = encT (l.take k) ++ encOne l[k] := by
  unfold encT
  rw [List.take_succ_eq_append_getElem h, List.flatMap_append, List.flatMap_cons, List.flatMap_nil, List.append_nil]
theorem encT_len {l : List En} (h : ∀ e ∈ l, okEn e = true) : ∀ k, k ≤ l.length → (encT (l.take k)).length ≤ 300 * k
  | 0, _ => by simp [encT]
  | k + 1, hk => by
    have ih := encT_len h k (by omega)
    have h1 := encOne_len (h l[k] (List.getElem_mem (by omega)))
    rw [encT_next (by omega), List.length_append]
    omega
theorem chkT_all {l : List En} (h : chkT l = 0) : l.length ≤ 1024 ∧ ∀ e ∈ l, okEn e = true := by
  obtain ⟨h1, h2⟩ := chkT_ok.1 h
  refine ⟨h1, fun e he => ?_⟩
  obtain ⟨k, hk, rfl⟩ := List.mem_iff_getElem.mp he
  have := (badT_ok (h2 k hk)).1
  rwa [getD_en hk] at this
theorem bodyT_ok {l : List En} (h : chkT l = 0) : bodyT l = encT l := if_pos h
theorem bodyT_err {l : List En} (h : chkT l ≠ 0) : bodyT l = [] := if_neg h
theorem TrTab.word {w : World} (h : TrTab w) {q : Nat} (h1 : 1 ≤ q) (h2 : q ≤ 4) : w.cell? ⟨0, q, none⟩ = some (.string (str (wordM q))) := by
  have : q = 1 ∨ q = 2 ∨ q = 3 ∨ q = 4 := by omega
  rcases this with rfl | rfl | rfl | rfl
  · exact h.c1
  · exact h.c2
  · exact h.c3
  · exact h.c4
set_option maxHeartbeats 1000000 in
theorem rdigitsT_any (q : Nat) (w : World) (h1 : 1 ≤ q) (h2 : q ≤ 4) :
    Calls Tryd.prog 30 #[.int .i64 (q : Int)] w fun e w' => e = .returned (.string (str (wordM q))) ∧ w' = w := by
  have : q = 1 ∨ q = 2 ∨ q = 3 ∨ q = 4 := by omega
  rcases this with rfl | rfl | rfl | rfl
  all_goals go_enter Tryd.func30, Tryd.ntmps30
  all_goals go_wp2
  all_goals go_ret
  all_goals exact ⟨rfl, rfl⟩

set_option maxHeartbeats 4000000 in
set_option maxRecDepth 4000 in
theorem tbody_any (es : List En) (p : Option Addr) (c n : Nat) (w : World) (hn : n = es.length) (hp : NRw w p es) (hT : TrTab w) (hl : n ≤ 1024 → Few es) (hn2 : n ≤ 140737488355328) :
    Calls Tryd.prog 11 #[.slice p n c] w fun e w' => e = .returned (.tuple #[.string (str (bodyT es)), .int .i64 (chkT es : Int)]) ∧ Below w.heap.size w w' := by
  have HC := Lib.hid (tcheck_any es p c n w hn hp hT hl hn2)
  obtain ⟨C, hC⟩ : ∃ C, C = chkT es := ⟨_, rfl⟩
  rw [← hC] at HC ⊢
  by_cases h0 : C = 0
  · obtain ⟨hlen, hall⟩ := chkT_all (hC.symm.trans h0)
    obtain ⟨R, hR⟩ : ∃ R, R = str (bodyT es) := ⟨_, rfl⟩
    have HR : Hid (R = str (encT es)) := by show _ = _; rw [hR, bodyT_ok (hC.symm.trans h0)]
    rw [← hR]
    have HN := Lib.hid hn
    have HP := Lib.hid hp
    have HT := Lib.hid hT
    have HA := Lib.hid hall
    have hCz : ((C : Int) != 0) = false := by simp [h0]
    have HC0 := Lib.hid h0
    have hn3 : n ≤ 1024 := by omega
    clear hC h0 hall hR hn hp hT hl hlen
    go_enter Tryd.func11, Tryd.ntmps11
    go_wp2_with (go_at_call 13; ((with_reducible refine HC.out.mono ?_); rintro x w1 ⟨rfl, hb1⟩))
    go_loopw [5, 17] (fun bv iv wr => ∃ (k : Nat) (l : List UInt8), k ≤ n ∧ iv = .int .i64 k ∧ Ow wr w.heap.size bv l ∧ l.length ≤ 300 * k ∧ Hid (l = encT (es.take k)) ∧ Hid (Below w.heap.size w wr)) (fun _ iv _ => n - (intOf iv).toNat)
    case atStart => exact ⟨0, [], by omega, rfl, Ow.nil _ _, by simp, rfl, hb1⟩
    case round =>
      clear hb1
      obtain ⟨k, l, hk, rfl, ho, hll, HL, HB⟩ := hrel
      by_cases hlt : k < n
      · have hkl : k < es.length := by rw [← HN.out]; exact hlt
        obtain ⟨e, he⟩ : ∃ e, e = es[k] := ⟨_, rfl⟩
        have hoke := HA.out e (by rw [he]; exact List.getElem_mem hkl)
        obtain ⟨hns, hid, q, hq, hq1, hq4⟩ := okEn_size hoke
        have hel := encOne_len hoke
        have HT2 : Hid (encT (es.take (k + 1)) = l ++ encOne e) := by show _ = _; rw [encT_next hkl, ← he, ← HL.out]
        obtain ⟨g, o, rfl, hg, a0, a1, a2⟩ := HP.out.below HB.out k hkl
        rw [← he] at a0 a1 a2
        rw [hq] at a0
        obtain ⟨w2, hw2⟩ : ∃ w2, w2 = wr.alloc (.cells #[.int .i64 (q : Int), .string e.n, .string e.i] 34) := ⟨_, rfl⟩
        obtain ⟨E, hE⟩ : ∃ E, E = wr.heap.size := ⟨_, rfl⟩
        have hbx : Below wr.heap.size wr w2 := by rw [hw2]; exact below_new (Below.refl _ _) _
        have hrow : w2.heap[E]? = some (.cells #[.int .i64 (q : Int), .string e.n, .string e.i] 34 (0, 0)) := by rw [hw2, hE]; exact heap_alloc_new _ _
        have hE2 : E < w2.heap.size := by rw [hw2, hE]; simp
        have e2 : w2.cell? ⟨E, 2, none⟩ = some (.string e.i) := cell_of_row w2 _ 2 _ _ _ hrow
        have ho2 := ho.below hbx
        have HW2 := Lib.hid hw2
        have HE0 := Lib.hid hE
        have HB2 := Lib.hid (HB.out.trans (hbx.mono HB.out.size))
        obtain ⟨rw0, hrw⟩ : ∃ r, r = str (rawL e.i.data.toList 20) := ⟨_, rfl⟩
        have hrs : rw0.size = 20 := by rw [hrw, str_size, rawL_len]
        have HRW : Hid (Calls Tryd.prog 28 #[.string e.i] w2 fun x w' => x = .returned (.tuple #[.string rw0, .bool true]) ∧ Below w2.heap.size w2 w') := by
          have := raw_any e.i w2 (by have := hid; simp only [isId, Bool.and_eq_true, decide_eq_true_eq] at this; omega)
          rw [hid, if_pos rfl, ← hrw] at this
          exact this
        obtain ⟨W, hW⟩ : ∃ W, W = str (wordM q) := ⟨_, rfl⟩
        have hWs : W.size ≤ 7 := by rw [hW, str_size]; exact wordM_le _
        have HS : Hid (l ++ W.data.toList ++ e.n.data.toList ++ [0] ++ rw0.data.toList = l ++ encOne e) := by
          show _ = _
          rw [hW, hrw, str_list, str_list, encOne, hq]
          simp only [List.append_assoc]
        have hcw := fun (w' : World) (hb : Below w.heap.size w w') => (HT.out.below hb).word hq1 hq4
        have HCW : Hid (∀ w', Below w.heap.size w w' → w'.cell? ⟨0, q, none⟩ = some (.string W)) := by rw [hW]; exact hcw
        have HRO := Lib.hid hrow
        have hbs := HB.out.size
        have hbs2 := HB2.out.size
        clear hw2 hE hbx hrow he hoke hid hq hel hrw hW hcw ho
        go_upto_region 8 with fail
        rw [← HW2.out, ← HE0.out]
        clear a0 a1 a2
        go_upto_region 9 with (go_at_call 28; ((with_reducible refine HRW.out.mono ?_); rintro x w3 ⟨rfl, hb3⟩))
        have ho3 := ho2.below hb3
        have HB3 := Lib.hid (HB2.out.trans (hb3.mono HB2.out.size))
        have hr3 := (hb3.block E hE2).trans HRO.out
        have hbs3 := HB3.out.size
        have d0 := cell_of_row w3 E 0 _ _ _ hr3
        have d0 : w3.cell? ⟨E, 0, none⟩ = some (.int .i64 (q : Int)) := d0
        have dw := HCW.out w3 HB3.out
        have q0 : (0 : Int) ≤ (q : Int) := by omega
        have q5 : (q : Int) < 5 := by omega
        have HR3 := Lib.hid hr3
        clear hb3 ho2 e2 hr3 HRO HRW
        go_upto_region 10 with (at_builtin; refine wp_ow_str rfl _ _ rfl rfl ho3 W rfl (by omega) hbs3 ?_; intro v4 w4 ho4 hg4)
        have HB4 := Lib.hid (ho3.bel HB3.out (Nat.le_refl _) hbs3 hg4)
        have hr4 := ho3.keep HR3.out (by decide) hg4
        have hbs4 := HB4.out.size
        have d1 := cell_of_row w4 E 1 _ _ _ hr4
        have d1 : w4.cell? ⟨E, 1, none⟩ = some (.string e.n) := d1
        obtain ⟨l4, hl4⟩ : ∃ l4, l4 = l ++ W.data.toList := ⟨_, rfl⟩
        have hll4 : l4.length = l.length + W.size := by rw [hl4, List.length_append, list_len]
        rw [← hl4] at ho4 HS
        have HR4 := Lib.hid hr4
        have HLL4 : l4.length ≤ l.length + 7 := by omega
        clear hg4 ho3 d0 dw hr4 hl4 hll4
        go_upto_region 11 with (at_builtin; refine wp_ow_str rfl _ _ rfl rfl ho4 e.n rfl (by omega) hbs4 ?_; intro v5 w5 ho5 hg5)
        have HB5 := Lib.hid (ho4.bel HB4.out (Nat.le_refl _) hbs4 hg5)
        have hbs5 := HB5.out.size
        obtain ⟨l5, hl5⟩ : ∃ l5, l5 = l4 ++ e.n.data.toList := ⟨_, rfl⟩
        have hll5 : l5.length = l4.length + e.n.size := by rw [hl5, List.length_append, list_len]
        rw [← hl5] at ho5 HS
        have HLL5 : l5.length ≤ l.length + 262 := by omega
        clear hg5 ho4 hl5 hll5 d1
        go_upto_region 12 with (at_builtin; refine wp_ow_one rfl _ _ rfl rfl ho5 0 0 rfl rfl (by omega) hbs5 ?_; intro v6 w6 ho6 hg6)
        have HB6 := Lib.hid (ho5.bel1 HB5.out (Nat.le_refl _) hbs5 hg6)
        have hbs6 := HB6.out.size
        obtain ⟨l6, hl6⟩ : ∃ l6, l6 = l5 ++ [0] := ⟨_, rfl⟩
        have hll6 : l6.length = l5.length + 1 := by rw [hl6, List.length_append, List.length_singleton]
        rw [← hl6] at ho6 HS
        clear hg6 ho5 hl6
        go_wp2_with (at_builtin; refine wp_ow_str rfl _ _ rfl rfl ho6 rw0 rfl (by omega) hbs6 ?_; intro v7 w7 ho7 hg7)
        have HB7 := Lib.hid (ho6.bel HB6.out (Nat.le_refl _) hbs6 hg7)
        have hl7 : (l6 ++ rw0.data.toList).length ≤ 300 * (k + 1) := by rw [List.length_append, list_len]; omega
        go_roundw
        case rel => exact ⟨k + 1, _, by omega, by go_num, ho7, hl7, by show _ = _; rw [HS.out, HT2.out], HB7.out⟩
        case measure => simp [intOf]; omega
      · have hk2 : k = n := by omega
        have HX : Hid (str l = R) := by show _ = _; rw [HR.out, HL.out, List.take_of_length_le (by have := HN.out; omega)]
        have hcv := ho.conv
        clear ho hk2
        go_wp2_with fail
        go_ret2
        exact ⟨by rw [HX.out, HC0.out]; rfl, HB.out⟩
  · have HR : Hid (str (bodyT es) = ⟨#[]⟩) := by show _ = _; rw [bodyT_err (fun h => h0 (hC.trans h))]; rfl
    have hCz : ((C : Int) != 0) = true := by simp; omega
    clear hC h0 hn hp hT hl
    go_enter Tryd.func11, Tryd.ntmps11
    go_wp2_with (go_at_call 13; ((with_reducible refine HC.out.mono ?_); rintro x w1 ⟨rfl, hb1⟩))
    go_ret2
    exact ⟨by rw [HR.out]; rfl, hb1⟩

set_option maxHeartbeats 4000000 in
set_option maxRecDepth 4000 in
theorem trbody_any (es : List En) (p : Option Addr) (c n : Nat) (w : World) (hn : n = es.length) (hp : NRw w p es) (hl : n ≤ 1024 → Few es) (hn2 : n ≤ 140737488355328) :
    Calls Tryd.prog 12 #[.slice p n c] w fun e w' => e = .returned (.tuple #[.string (str (bodyT es)), .int .i64 (chkT es : Int)]) ∧ Below w.heap.size w w' := by
  have HC := Lib.hid (trcheck_any es p c n w hn hp hl hn2)
  obtain ⟨C, hC⟩ : ∃ C, C = chkT es := ⟨_, rfl⟩
  rw [← hC] at HC ⊢
  by_cases h0 : C = 0
  · obtain ⟨hlen, hall⟩ := chkT_all (hC.symm.trans h0)
    obtain ⟨R, hR⟩ : ∃ R, R = str (bodyT es) := ⟨_, rfl⟩
    have HR : Hid (R = str (encT es)) := by show _ = _; rw [hR, bodyT_ok (hC.symm.trans h0)]
    rw [← hR]
    have HN := Lib.hid hn
    have HP := Lib.hid hp
    have HA := Lib.hid hall
    have hCz : ((C : Int) != 0) = false := by simp [h0]
    have HC0 := Lib.hid h0
    have hn3 : n ≤ 1024 := by omega
    clear hC h0 hall hR hn hp hl hlen
    go_enter Tryd.func12, Tryd.ntmps12
    go_wp2_with (go_at_call 14; ((with_reducible refine HC.out.mono ?_); rintro x w1 ⟨rfl, hb1⟩))
    go_loopw [5, 16] (fun bv iv wr => ∃ (k : Nat) (l : List UInt8), k ≤ n ∧ iv = .int .i64 k ∧ Ow wr w.heap.size bv l ∧ l.length ≤ 300 * k ∧ Hid (l = encT (es.take k)) ∧ Hid (Below w.heap.size w wr)) (fun _ iv _ => n - (intOf iv).toNat)
    case atStart => exact ⟨0, [], by omega, rfl, Ow.nil _ _, by simp, rfl, hb1⟩
    case round =>
      clear hb1
      obtain ⟨k, l, hk, rfl, ho, hll, HL, HB⟩ := hrel
      by_cases hlt : k < n
      · have hkl : k < es.length := by rw [← HN.out]; exact hlt
        obtain ⟨e, he⟩ : ∃ e, e = es[k] := ⟨_, rfl⟩
        have hoke := HA.out e (by rw [he]; exact List.getElem_mem hkl)
        obtain ⟨hns, hid, q, hq, hq1, hq4⟩ := okEn_size hoke
        have hel := encOne_len hoke
        have HT2 : Hid (encT (es.take (k + 1)) = l ++ encOne e) := by show _ = _; rw [encT_next hkl, ← he, ← HL.out]
        obtain ⟨g, o, rfl, hg, a0, a1, a2⟩ := HP.out.below HB.out k hkl
        have hg0 : g < w.heap.size := by
          obtain ⟨g', o', he', hg', _⟩ := HP.out k hkl
          simp only [Option.some.injEq, Addr.mk.injEq, and_true] at he'
          rw [he'.1]
          exact hg'
        rw [← he] at a0 a1 a2
        rw [hq] at a0
        obtain ⟨rw0, hrw⟩ : ∃ r, r = str (rawL e.i.data.toList 20) := ⟨_, rfl⟩
        have hrs : rw0.size = 20 := by rw [hrw, str_size, rawL_len]
        have HRW : Hid (Calls Tryd.prog 29 #[.string e.i] wr fun x w' => x = .returned (.tuple #[.string rw0, .bool true]) ∧ Below wr.heap.size wr w') := by
          have := rraw_any e.i wr (by have := hid; simp only [isId, Bool.and_eq_true, decide_eq_true_eq] at this; omega)
          rw [hid, if_pos rfl, ← hrw] at this
          exact this
        obtain ⟨W, hW⟩ : ∃ W, W = str (wordM q) := ⟨_, rfl⟩
        have hWs : W.size ≤ 7 := by rw [hW, str_size]; exact wordM_le _
        have HS : Hid (l ++ W.data.toList ++ e.n.data.toList ++ [0] ++ rw0.data.toList = l ++ encOne e) := by
          show _ = _
          rw [hW, hrw, str_list, str_list, encOne, hq]
          simp only [List.append_assoc]
        have HCW : Hid (∀ w', Calls Tryd.prog 30 #[.int .i64 (q : Int)] w' fun e w'' => e = .returned (.string W) ∧ w'' = w') := fun w' => by
          rw [hW]
          exact rdigitsT_any q w' hq1 hq4
        have HG : Hid (∀ w', Below w.heap.size wr w' → w'.cell? ⟨g, o + k * 3 + 1, none⟩ = some (.string e.n)) := fun w' hb => (hb.cell (p := ⟨g, _, none⟩) hg0).trans a1
        have hbs := HB.out.size
        clear he hoke hid hq hel hrw hW
        go_upto_region 9 with (go_at_call 29; ((with_reducible refine HRW.out.mono ?_); rintro x w3 ⟨rfl, hb3⟩))
        have ho3 := ho.below hb3
        have HR3 : Hid (Below w.heap.size wr w3) := hb3.mono hbs
        have HB3 := Lib.hid (HB.out.trans HR3.out)
        have hbs3 := HB3.out.size
        have d0 := cell_bel a0 hb3
        have q0 : (0 : Int) ≤ (k : Int) := by omega
        have q5 : (k : Int) < (n : Int) := by omega
        clear hb3 ho HRW a0 a1 a2
        go_upto_region 10 with (first
          | (go_at_call 30; ((with_reducible refine (HCW.out _).mono ?_); rintro x w9 ⟨rfl, rfl⟩))
          | (at_builtin; refine wp_ow_str rfl _ _ rfl rfl ho3 W rfl (by omega) hbs3 ?_; intro v4 w4 ho4 hg4))
        have HR4 := Lib.hid (ho3.bel HR3.out (Nat.le_refl _) hbs3 hg4)
        have HB4 := Lib.hid (HB.out.trans HR4.out)
        have hbs4 := HB4.out.size
        have d1 := HG.out w4 HR4.out
        obtain ⟨l4, hl4⟩ : ∃ l4, l4 = l ++ W.data.toList := ⟨_, rfl⟩
        have hll4 : l4.length = l.length + W.size := by rw [hl4, List.length_append, list_len]
        rw [← hl4] at ho4 HS
        have HLL4 : l4.length ≤ l.length + 7 := by omega
        clear hg4 ho3 d0 hl4 hll4
        go_upto_region 11 with (at_builtin; refine wp_ow_str rfl _ _ rfl rfl ho4 e.n rfl (by omega) hbs4 ?_; intro v5 w5 ho5 hg5)
        have HB5 := Lib.hid (ho4.bel HB4.out (Nat.le_refl _) hbs4 hg5)
        have hbs5 := HB5.out.size
        obtain ⟨l5, hl5⟩ : ∃ l5, l5 = l4 ++ e.n.data.toList := ⟨_, rfl⟩
        have hll5 : l5.length = l4.length + e.n.size := by rw [hl5, List.length_append, list_len]
        rw [← hl5] at ho5 HS
        have HLL5 : l5.length ≤ l.length + 262 := by omega
        clear hg5 ho4 hl5 hll5 d1
        go_upto_region 12 with (at_builtin; refine wp_ow_one rfl _ _ rfl rfl ho5 0 0 rfl rfl (by omega) hbs5 ?_; intro v6 w6 ho6 hg6)
        have HB6 := Lib.hid (ho5.bel1 HB5.out (Nat.le_refl _) hbs5 hg6)
        have hbs6 := HB6.out.size
        obtain ⟨l6, hl6⟩ : ∃ l6, l6 = l5 ++ [0] := ⟨_, rfl⟩
        have hll6 : l6.length = l5.length + 1 := by rw [hl6, List.length_append, List.length_singleton]
        rw [← hl6] at ho6 HS
        clear hg6 ho5 hl6
        go_wp2_with (at_builtin; refine wp_ow_str rfl _ _ rfl rfl ho6 rw0 rfl (by omega) hbs6 ?_; intro v7 w7 ho7 hg7)
        have HB7 := Lib.hid (ho6.bel HB6.out (Nat.le_refl _) hbs6 hg7)
        have hl7 : (l6 ++ rw0.data.toList).length ≤ 300 * (k + 1) := by rw [List.length_append, list_len]; omega
        go_roundw
        case rel => exact ⟨k + 1, _, by omega, by go_num, ho7, hl7, by show _ = _; rw [HS.out, HT2.out], HB7.out⟩
        case measure => simp [intOf]; omega
      · have hk2 : k = n := by omega
        have HX : Hid (str l = R) := by show _ = _; rw [HR.out, HL.out, List.take_of_length_le (by have := HN.out; omega)]
        have hcv := ho.conv
        clear ho hk2
        go_wp2_with fail
        go_ret2
        exact ⟨by rw [HX.out, HC0.out]; rfl, HB.out⟩
  · have HR : Hid (str (bodyT es) = ⟨#[]⟩) := by show _ = _; rw [bodyT_err (fun h => h0 (hC.trans h))]; rfl
    have hCz : ((C : Int) != 0) = true := by simp; omega
    clear hC h0 hn hp hl
    go_enter Tryd.func12, Tryd.ntmps12
    go_wp2_with (go_at_call 14; ((with_reducible refine HC.out.mono ?_); rintro x w1 ⟨rfl, hb1⟩))
    go_ret2
    exact ⟨by rw [HR.out]; rfl, hb1⟩
end Go.Proofs.YtjholoajgnpodaaDoor
