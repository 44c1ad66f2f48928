/-
  The walks of the law package's own check of trees: id, few, lives.
-/
import Derived.Test.YtjholoajgnpodaaDoorTrRParse
import Derived.Test.YtjholoajgnpodaaDoorTrSamePk
import Derived.Test.YtjholoajgnpodaaDoorQTail
namespace Go.Proofs.YtjholoajgnpodaaDoor
open Go.RowKit

set_option maxHeartbeats 1000000 in
theorem idC_any (c : UInt8) (z : Int) (hz : z = (c.toNat : Int)) (w : World) :
    Calls Tryd.prog 27 #[.int .u8 z] w fun e w' => e = .returned (.string (idC c)) ∧ Below w.heap.size w w' := by
  obtain ⟨R, hR⟩ : ∃ R, R = idC c := ⟨_, rfl⟩
  rw [← hR]
  have HR := Lib.hid hR
  have HZ := Lib.hid hz
  clear hR hz
  go_enter Tryd.func27, Tryd.ntmps27
  go_wp2_with fail
  go_loopw [3, 4] (fun bv iv wr => ∃ (k : Nat) (l : List UInt8), k ≤ 40 ∧ iv = .int .i64 k ∧ Ow wr w.heap.size bv l ∧ l.length = k ∧ Hid (l = List.replicate k c) ∧ Hid (Below w.heap.size w wr)) (fun _ iv _ => 40 - (intOf iv).toNat)
  case atStart => exact ⟨0, [], by omega, rfl, Ow.nil _ _, rfl, rfl, Below.refl _ _⟩
  case round =>
    obtain ⟨k, l, hk, rfl, ho, hll, HL, HB⟩ := hrel
    have hbs := HB.out.size
    by_cases hlt : k < 40
    · have hb : l.length + 1 ≤ 41 := by omega
      have HLL := Lib.hid hll
      clear hll
      go_wp2_with (at_builtin; refine wp_ow_one rfl _ _ rfl rfl ho c z HZ.out rfl (by omega) hbs ?_; intro v6 w6 ho6 hg6)
      have HB6 := Lib.hid (ho.bel1 HB.out (Nat.le_refl _) hbs hg6)
      go_roundw
      case rel => exact ⟨k + 1, l ++ [c], by omega, by go_num, ho6, by rw [List.length_append, HLL.out]; rfl, by show _ = _; rw [HL.out, List.replicate_succ'], HB6.out⟩
      case measure => simp [intOf]; omega
    · have hk2 : k = 40 := by omega
      have HX : Hid (str l = R) := by show _ = _; rw [HR.out, HL.out, hk2]; rfl
      have hcv := ho.conv
      clear ho hk2 hll
      go_wp2_with fail
      go_ret
      exact ⟨by rw [HX.out]; rfl, HB.out⟩

/-- A list that is small enough. -/
def fewT (l : List En) : Bool := (l.all fun e => decide (e.n.size + e.i.size ≤ 500)) && decide (l.length ≤ 60)
theorem fewT_yes {l : List En} (h : fewT l = true) : l.length ≤ 60 ∧ ∀ e ∈ l, e.n.size + e.i.size ≤ 500 := by
  simp only [fewT, Bool.and_eq_true, List.all_eq_true, decide_eq_true_eq] at h
  exact ⟨h.2, h.1⟩
set_option maxHeartbeats 2000000 in
set_option maxRecDepth 4000 in
theorem tfew_any (es : List En) (p : Option Addr) (c n : Nat) (B : Bool) (w : World) (hn : n = es.length) (hp : NRw w p es) (hn2 : n ≤ 140737488355328) (hs : ∀ e ∈ es, e.n.size ≤ 140737488355328 ∧ e.i.size ≤ 140737488355328) (hB : B = fewT es) :
    Calls Tryd.prog 9 #[.slice p n c] w fun e w' => e = .returned (.bool B) ∧ ∃ k, w' = w.drewN k := by
  have HN := Lib.hid hn
  have HP := Lib.hid hp
  have HS := Lib.hid hs
  have HB := Lib.hid hB
  clear hn hp hs hB
  go_enter Tryd.func9, Tryd.ntmps9
  go_wp2_with fail
  go_loopw [6] (fun iv wr => ∃ k x : Nat, k ≤ n ∧ iv = .int .i64 k ∧ wr = w.drewN x ∧ Hid (∀ e ∈ es.take k, e.n.size + e.i.size ≤ 500)) (fun iv _ => n - (intOf iv).toNat)
  case atStart => exact ⟨0, 0, by omega, rfl, rfl, fun e he => by simp at he⟩
  case round =>
    obtain ⟨k, x, hk, rfl, rfl, HT⟩ := hrel
    by_cases hlt : k < n
    · have hkl : k < es.length := by rw [← HN.out]; omega
      obtain ⟨g, o, rfl, hg, a0, a1, a2⟩ := HP.out k hkl
      obtain ⟨e, he⟩ : ∃ e, e = es[k] := ⟨_, rfl⟩
      have hsz := HS.out e (by rw [he]; exact List.getElem_mem hkl)
      rw [← he] at a0 a1 a2
      obtain ⟨N, hNN⟩ : ∃ N, N = e.n := ⟨_, rfl⟩
      obtain ⟨I, hI⟩ : ∃ I, I = e.i := ⟨_, rfl⟩
      rw [← hNN, ← hI] at hsz
      rw [← hNN] at a1
      rw [← hI] at a2
      obtain ⟨z, hz⟩ : ∃ z, z = N.size + I.size := ⟨_, rfl⟩
      have z0 : (0 : Int) ≤ (k : Int) := by omega
      have z1 : (k : Int) < (n : Int) := by omega
      have z2 : IntKind.i64.wrap ((N.size : Int) + (I.size : Int)) = (z : Int) := by rw [IntWalk.i64_in _ (by omega)]; omega
      by_cases hbig : 500 < z
      · have HX : Hid (B = false) := by
          show _ = _
          rw [HB.out, fewT]
          have : (es.all fun e => decide (e.n.size + e.i.size ≤ 500)) = false := by
            rw [List.all_eq_false]
            exact ⟨es[k], List.getElem_mem hkl, by rw [← he, ← hNN, ← hI, ← hz]; simp; omega⟩
          rw [this]
          rfl
        have z3 : decide ((500 : Int) < (z : Int)) = true := decide_eq_true (by omega)
        have z4 : decide (500 < z) = true := decide_eq_true hbig
        clear he hsz hNN hI hz hkl hg HT a0
        go_wp2_with fail
        go_quiet (fail)
        go_wp2_with fail
        go_ret
        exact ⟨by rw [HX.out]; rfl, _, by first | rfl | exact World.drewN_drewN _ _ _⟩
      · have HX : Hid (∀ e ∈ es.take (k + 1), e.n.size + e.i.size ≤ 500) := fun y hy => by
          rw [List.take_succ_eq_append_getElem hkl, List.mem_append, List.mem_singleton] at hy
          rcases hy with hy | rfl
          · exact HT.out y hy
          · rw [← he, ← hNN, ← hI, ← hz]; omega
        have z3 : decide ((500 : Int) < (z : Int)) = false := decide_eq_false (by omega)
        have z4 : decide (500 < z) = false := decide_eq_false hbig
        clear he hsz hNN hI hz hkl hg HT a0
        go_wp2_with fail
        go_quiet (fail)
        go_wp2_with fail
        go_roundw
        case rel => exact ⟨k + 1, _, by omega, by go_num, by first | rfl | exact World.drewN_drewN _ _ _, HX⟩
        case measure => simp [intOf]; omega
    · obtain rfl : k = n := by omega
      have HX : Hid (B = decide (k ≤ 60)) := by
        show _ = _
        rw [HB.out, fewT, ← HN.out]
        have h := HT.out
        rw [List.take_of_length_le (by rw [← HN.out]; exact Nat.le_refl _)] at h
        have : (es.all fun e => decide (e.n.size + e.i.size ≤ 500)) = true := List.all_eq_true.2 fun e he => decide_eq_true (h e he)
        rw [this, Bool.true_and]
      by_cases h60 : k ≤ 60
      · have HY : Hid (B = true) := by show _ = _; rw [HX.out]; exact decide_eq_true h60
        go_wp2_with fail
        go_ret
        exact ⟨by rw [HY.out]; exact ret_bool (decide_eq_true (by omega)), _, by first | rfl | exact World.drewN_drewN _ _ _⟩
      · have HY : Hid (B = false) := by show _ = _; rw [HX.out]; exact decide_eq_false h60
        go_wp2_with fail
        go_ret
        exact ⟨by rw [HY.out]; exact ret_bool (decide_eq_false (by omega)), _, by first | rfl | exact World.drewN_drewN _ _ _⟩

/-- Two entries in a row that has been laid. -/
theorem two_row {w : World} {E : Nat} (a b : En) (h : w.heap[E]? = some (.cells #[.int .i64 a.m, .string a.n, .string a.i, .int .i64 b.m, .string b.n, .string b.i] 34 (0, 0))) : NRw w (some ⟨E, 0, none⟩) [a, b] := fun k hk => by
  match k, hk with
  | 0, _ => exact ⟨E, 0, rfl, row_lt h, cell_of_row w E 0 _ _ _ h, cell_of_row w E 1 _ _ _ h, cell_of_row w E 2 _ _ _ h⟩
  | 1, _ => exact ⟨E, 0, rfl, row_lt h, cell_of_row w E 3 _ _ _ h, cell_of_row w E 4 _ _ _ h, cell_of_row w E 5 _ _ _ h⟩
theorem few_of {l : List En} (h : ∀ e ∈ l, e.n.size ≤ 1048576 ∧ e.i.size ≤ 140737488355328) : Few l := h
theorem few_two : Few [enA, enB] ∧ Few [enB, enA] := by
  constructor <;> intro e he <;> simp only [List.mem_cons, List.not_mem_nil, or_false] at he <;> rcases he with rfl | rfl <;> decide +kernel

set_option maxHeartbeats 8000000 in
set_option maxRecDepth 10000 in
theorem tlives_any (w : World) (hT : TrTab w) :
    Calls Tryd.prog 10 #[] w fun e w' => e = .returned (.bool true) ∧ Below w.heap.size w w' := by
  have HI1 := Lib.hid (fun w => idC_any 49 49 rfl w)
  have HI2 := Lib.hid (fun w => idC_any 50 50 rfl w)
  obtain ⟨i1, hi1⟩ : ∃ i, i = idC 49 := ⟨_, rfl⟩
  obtain ⟨i2, hi2⟩ : ∃ i, i = idC 50 := ⟨_, rfl⟩
  rw [← hi1] at HI1
  rw [← hi2] at HI2
  have HA : Hid (enA = ⟨1, ⟨#[97, 46, 98]⟩, i1⟩) := by show _ = _; rw [hi1]; rfl
  have HB : Hid (enB = ⟨4, ⟨#[97]⟩, i2⟩) := by show _ = _; rw [hi2]; rfl
  have HT := Lib.hid hT
  clear hT hi1 hi2
  go_enter Tryd.func10, Tryd.ntmps10
  go_upto_region 2 with (go_at_call 27; first
    | ((with_reducible refine (HI1.out _).mono ?_); rintro x w1 ⟨rfl, hb1⟩)
    | ((with_reducible refine (HI2.out _).mono ?_); rintro x w2 ⟨rfl, hb2⟩))
  have hb2' := hb1.trans (hb2.mono hb1.size)
  obtain ⟨E, hE⟩ : ∃ E, E = w2.heap.size := ⟨_, rfl⟩
  obtain ⟨W, hW⟩ : ∃ W, W = w2.alloc (.cells #[.int .i64 1, .string ⟨#[97, 46, 98]⟩, .string i1, .int .i64 4, .string ⟨#[97]⟩, .string i2] 34) := ⟨_, rfl⟩
  have hrow : W.heap[E]? = some (.cells #[.int .i64 1, .string ⟨#[97, 46, 98]⟩, .string i1, .int .i64 4, .string ⟨#[97]⟩, .string i2] 34 (0, 0)) := by rw [hW, hE]; exact heap_alloc_new _ _
  have hbW : Below w.heap.size w W := by rw [hW]; exact below_new hb2' _
  rw [← hW, ← hE]
  have hnr : NRw W (some ⟨E, 0, none⟩) [enA, enB] := two_row enA enB (by rw [HA.out, HB.out]; exact hrow)
  have HNR := Lib.hid hnr
  have HRO := Lib.hid hrow
  have HBW := Lib.hid hbW
  have hEl := row_lt hrow
  obtain ⟨bd, hbd⟩ : ∃ bd, bd = str (bodyT [enA, enB]) := ⟨_, rfl⟩
  have HBD : Hid (Calls Tryd.prog 11 #[.slice (some ⟨E, 0, none⟩) 2 2] W fun e w' => e = .returned (.tuple #[.string bd, .int .i64 0]) ∧ Below W.heap.size W w') := by
    have h := tbody_any [enA, enB] (some ⟨E, 0, none⟩) 2 2 W rfl hnr (HT.out.below hbW) (fun _ => few_two.1) (by decide)
    rw [lv_chk, ← hbd] at h
    exact h
  have hbds : bd.size = 59 := by rw [hbd, str_size]; exact lv_body.1
  have hbdx : bd.extract 0 11 = ⟨#[49, 48, 48, 54, 52, 52, 32, 97, 46, 98, 0]⟩ := ba_ext (by rw [ext_bytes, hbd, str_list]; exact lv_body.2)
  have hbdp : parE bd.data.toList = (0, [enA, enB]) := by rw [hbd, str_list]; exact lv_par
  have HBP := Lib.hid hbdp
  have HBX := Lib.hid hbdx
  have HBS := Lib.hid hbds
  clear hb1 hb2 hb2' hE hW hrow hbW hnr hbd hbds hbdx hbdp HI1 HI2
  go_upto_region 3 with (go_at_call 11; ((with_reducible refine HBD.out.mono ?_); rintro x w3 ⟨rfl, hb3⟩))
  have HB3 := Lib.hid (HBW.out.trans (hb3.mono HBW.out.size))
  have HPA : Hid (Calls Tryd.prog 15 #[.string bd] w3 fun e w' => (∃ p c, e = .returned (.tuple #[.slice p 2 c, .int .i64 0]) ∧ NRw w' p [enA, enB]) ∧ Below w3.heap.size w3 w') :=
    (tparse_any bd w3 (HT.out.below HB3.out) (by rw [HBS.out]; decide)).mono fun e w' ⟨⟨v, he, p, c, hv, _, hn⟩, hb⟩ => by
      rw [HBP.out] at he hv hn
      exact ⟨⟨p, c, by rw [he, hv]; rfl, hn⟩, hb⟩
  have HR3 := Lib.hid ((hb3.block E hEl).trans HRO.out)
  have HN3 := Lib.hid (HNR.out.below hb3)
  have hEl3 : E < w3.heap.size := row_lt HR3.out
  clear hb3 HBD HRO HNR HBP
  go_upto_region 4 with (go_at_call 15; ((with_reducible refine HPA.out.mono ?_); rintro x w4 ⟨⟨p, c, rfl, hnp⟩, hb4⟩))
  have HB4 := Lib.hid (HB3.out.trans (hb4.mono HB3.out.size))
  have hr4 := (hb4.block E hEl3).trans HR3.out
  have HN4 := Lib.hid (HN3.out.below hb4)
  have HNP := Lib.hid hnp
  have cA0 : w4.cell? ⟨E, 0, none⟩ = some (.int .i64 1) := cell_of_row w4 E 0 _ _ _ hr4
  have cA1 : w4.cell? ⟨E, 1, none⟩ = some (.string ⟨#[97, 46, 98]⟩) := cell_of_row w4 E 1 _ _ _ hr4
  have cA2 : w4.cell? ⟨E, 2, none⟩ = some (.string i1) := cell_of_row w4 E 2 _ _ _ hr4
  have cB0 : w4.cell? ⟨E, 3, none⟩ = some (.int .i64 4) := cell_of_row w4 E 3 _ _ _ hr4
  have cB1 : w4.cell? ⟨E, 4, none⟩ = some (.string ⟨#[97]⟩) := cell_of_row w4 E 4 _ _ _ hr4
  have cB2 : w4.cell? ⟨E, 5, none⟩ = some (.string i2) := cell_of_row w4 E 5 _ _ _ hr4
  have kA0 : ∀ y : BelW w4, y.w.cell? ⟨E, 0, none⟩ = some (.int .i64 1) := fun y => cell_bel cA0 y.h
  have kA1 : ∀ y : BelW w4, y.w.cell? ⟨E, 1, none⟩ = some (.string ⟨#[97, 46, 98]⟩) := fun y => cell_bel cA1 y.h
  have kA2 : ∀ y : BelW w4, y.w.cell? ⟨E, 2, none⟩ = some (.string i1) := fun y => cell_bel cA2 y.h
  have kB0 : ∀ y : BelW w4, y.w.cell? ⟨E, 3, none⟩ = some (.int .i64 4) := fun y => cell_bel cB0 y.h
  have kB1 : ∀ y : BelW w4, y.w.cell? ⟨E, 4, none⟩ = some (.string ⟨#[97]⟩) := fun y => cell_bel cB1 y.h
  have kB2 : ∀ y : BelW w4, y.w.cell? ⟨E, 5, none⟩ = some (.string i2) := fun y => cell_bel cB2 y.h
  have HL1 : Hid (∀ x : BelW w4, Calls Tryd.prog 20 #[.agg #[.int .i64 1, .string ⟨#[97, 46, 98]⟩, .string i1], .agg #[.int .i64 4, .string ⟨#[97]⟩, .string i2]] x.w fun e w' => e = .returned (.bool true) ∧ ∃ y : BelW w4, w' = y.w) := fun x => by
    have h := tless_any enA enB x.w (by decide +kernel) (by decide +kernel)
    rw [lv_less.1, HA.out, HB.out] at h
    exact h.mono fun e w' ⟨he, hb2⟩ => ⟨he, ⟨w', x.h.trans (hb2.mono x.h.size)⟩, rfl⟩
  have HL2 : Hid (∀ x : BelW w4, Calls Tryd.prog 20 #[.agg #[.int .i64 4, .string ⟨#[97]⟩, .string i2], .agg #[.int .i64 1, .string ⟨#[97, 46, 98]⟩, .string i1]] x.w fun e w' => e = .returned (.bool false) ∧ ∃ y : BelW w4, w' = y.w) := fun x => by
    have h := tless_any enB enA x.w (by decide +kernel) (by decide +kernel)
    rw [lv_less.2, HA.out, HB.out] at h
    exact h.mono fun e w' ⟨he, hb2⟩ => ⟨he, ⟨w', x.h.trans (hb2.mono x.h.size)⟩, rfl⟩
  have HSM : Hid (∀ x : BelW w4, Calls Tryd.prog 17 #[.slice (some ⟨E, 0, none⟩) 2 2, .slice p 2 c] x.w fun e w' => e = .returned (.bool true) ∧ ∃ y : BelW w4, w' = y.w) := fun x =>
    (tsame_any [enA, enB] [enA, enB] (some ⟨E, 0, none⟩) p 2 c 2 2 true x.w rfl rfl (HN4.out.below x.h) (HNP.out.below x.h) (by decide) (by decide) (by simp)).mono fun e w' ⟨he, k, hk⟩ => ⟨he, ⟨w', by rw [hk]; exact below_drewN x.h k⟩, rfl⟩
  have HCK : Hid (∀ W, Below w4.heap.size w4 W → Calls Tryd.prog 13 #[.slice (some ⟨W.heap.size, 0, none⟩) 2 2] (W.alloc (.cells #[.int .i64 4, .string ⟨#[97]⟩, .string i2, .int .i64 1, .string ⟨#[97, 46, 98]⟩, .string i1] 34)) fun e w' => e = .returned (.int .i64 150) ∧ ∃ y : BelW w4, w' = y.w) := fun W hb => by
    have hb2 : Below w4.heap.size w4 (W.alloc (.cells #[.int .i64 4, .string ⟨#[97]⟩, .string i2, .int .i64 1, .string ⟨#[97, 46, 98]⟩, .string i1] 34)) := below_new hb _
    have h := tcheck_any [enB, enA] (some ⟨W.heap.size, 0, none⟩) 2 2 (W.alloc (.cells #[.int .i64 4, .string ⟨#[97]⟩, .string i2, .int .i64 1, .string ⟨#[97, 46, 98]⟩, .string i1] 34)) rfl (two_row enB enA (by rw [HA.out, HB.out]; exact heap_alloc_new _ _)) (HT.out.below (HB4.out.trans (hb2.mono HB4.out.size))) (fun _ => few_two.2) (by decide)
    rw [lv_chk2] at h
    exact h.mono fun e w' ⟨he, hb3⟩ => ⟨he, ⟨w', hb2.trans (hb3.mono hb2.size)⟩, rfl⟩
  have hq : Nonempty (BelW w4) := ⟨⟨w4, Below.refl _ _⟩⟩
  have hbds := HBS.out
  have hbdx := HBX.out
  have e59 : ((bd.size : Int) == 59) = true := by rw [hbds]; rfl
  have e11 : (11 : Int) ≤ (bd.size : Int) := by rw [hbds]; decide
  have e11n : 11 ≤ bd.size := by rw [hbds]; decide
  clear hb4 hnp hr4 HR3 HN3 HPA HBS hbds
  refine wp_region_bel_tail (w0 := w4) 47 (Below.refl _ _) (by kernel_rfl) (by kernel_rfl) ?_
  simp only [List.take_succ_cons, List.take_zero, List.drop_succ_cons, List.drop_zero]
  repeat (go_big_quiet_step (first
    | (go_at_call 20; first | (with_reducible exact HL1.out _) | (with_reducible exact HL2.out _))
    | (go_at_call 17; with_reducible exact HSM.out _)))
  refine wpQuiet_nil ?_
  rintro _ ⟨x, rfl⟩
  have HX := Lib.hid x.h
  go_wp2_with (go_at_call 13; ((with_reducible refine (HCK.out _ HX.out).mono ?_); rintro e _ ⟨rfl, y, rfl⟩))
  go_ret
  exact ⟨rfl, HB4.out.trans (y.h.mono HB4.out.size)⟩
end Go.Proofs.YtjholoajgnpodaaDoor
