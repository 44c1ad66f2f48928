/-
 The walks of the program's find, content, Get and Has, and of the reference's Get and Has.
-/
import Derived.Test.YtpkgiojicbdcfaaGreatDoorSoRowsPk
import Derived.Test.YtpkgiojicbdcfaaGreatDoorCmNamePk
import Derived.Test.YtpkgiojicbdcfaaGreatDoorObWordPk
import Derived.Test.YtpkgiojicbdcfaaGreatDoorRow
namespace Go.Proofs.YtpkgiojicbdcfaaGreatDoor
open Go Go.RowKit
set_option maxHeartbeats 4000000 in
set_option maxRecDepth 4000 in
theorem bsearch_any (l : List It) (id : ByteArray) (p : Option Addr) (n c : Nat) (w : World) (hn : n = l.length) (hp : ItRw w p l) (hn2 : n ≤ 140737488355328) :
  Calls Tryz.prog 76 #[.slice p n c, .string id, .func (.func 77) #[] #[]] w fun e w' => e = .returned (.tuple #[.int .i64 (atI l id : Int), .bool (hasI l id)]) ∧ Below w.heap.size w w' := by
 obtain ⟨f, hf⟩ : ∃ f : Nat → Bool, f = fun m => ltB (l.getD m It.zero).i id := ⟨_, rfl⟩
 obtain ⟨A, hA⟩ : ∃ A, A = atI l id := ⟨_, rfl⟩
 obtain ⟨H, hH⟩ : ∃ H, H = hasI l id := ⟨_, rfl⟩
 have HA : Hid (A = bsN f 0 n) := by show _ = _; rw [hA, hf, hn]; rfl
 have HH : Hid (H = (decide (A < n) && decide ((l.getD A It.zero).i = id))) := by show _ = _; rw [hH, hA, hn]; rfl
 rw [← hA, ← hH]
 have HF := Lib.hid hf
 have HN := Lib.hid hn
 have eg := Tryz.eg_find
 clear hA hH hf hn
 go_enter Tryz.func76, Tryz.ntmps76
 go_wp2_with fail
 go_loopw [9, 10] (fun lv hv wr => ∃ lo hi : Nat, lo ≤ hi ∧ hi ≤ n ∧ lv = .int .i64 (lo : Int) ∧ hv = .int .i64 (hi : Int) ∧ Hid (A = bsN f lo hi) ∧ Hid (Below w.heap.size w wr)) (fun lv hv _ => (intOf hv).toNat - (intOf lv).toNat)
 case atStart => exact ⟨0, n, by omega, by omega, rfl, rfl, HA.out, Below.refl _ _⟩
 case round =>
  clear HA
  obtain ⟨lo, hi, h1, h2, rfl, rfl, HB, HW⟩ := hrel
  by_cases hlt : lo < hi
  ·obtain ⟨s, hs⟩ : ∃ s, s = lo + hi := ⟨_, rfl⟩
   obtain ⟨m, hm⟩ : ∃ m, m = s / 2 := ⟨_, rfl⟩
   have es : (lo : Int) + (hi : Int) = (s : Int) := by omega
   have es2 : IntKind.i64.wrap ((lo : Int) + (hi : Int)) = (s : Int) := by rw [IntWalk.i64_in _ (by omega)]; omega
   have eu : IntKind.u64.wrap (s : Int) = (s : Int) := IntWalk.u64_in _ (by omega)
   have em : (s : Int) / 2 = (m : Int) := by omega
   have em2 : (s : Int) >>> 1 = (m : Int) := by rw [Int.shiftRight_eq_div_pow]; omega
   have eu2 : IntKind.u64.wrap (m : Int) = (m : Int) := IntWalk.u64_in _ (by omega)
   have ei2 : IntKind.i64.wrap (m : Int) = (m : Int) := IntWalk.i64_in _ (by omega)
   have hml : m < l.length := by have := HN.out; omega
   have hmn : m < n := by omega
   have hmn2 : (m : Int) < (n : Int) := by omega
   obtain ⟨g, o, rfl, hg, a0, a1, a2⟩ := hp.below HW.out m hml
   obtain ⟨y, hy⟩ : ∃ y, y = l[m] := ⟨_, rfl⟩
   rw [← hy] at a0 a1 a2
   have hc := findCmp_any y id wr
   obtain ⟨z, hz⟩ : ∃ z, z = Lib.compareBytes y.i.data.toList id.data.toList := ⟨_, rfl⟩
   have hfm : f m = decide (z < 0) := by
    rw [HF.out, hz, Bool.eq_iff_iff, decide_eq_true_eq, cmp_neg]
    simp only [getI_at hml, ← hy, ltB, ByteArray.toList_eq]
   rw [← hz] at hc
   have HC := Lib.hid hc
   obtain ⟨yi, yk, yb⟩ := y
   simp only at a0 a1 a2 HC
   have hms : (lo + hi) / 2 = m := by rw [hm, hs]
   have b1 : lo ≤ m ∧ m < hi := by omega
   by_cases hb : z < 0
   ·have HB2 : Hid (A = bsN f (m + 1) hi) := by show _ = _; rw [HB.out, bsN_up hlt (by rw [hms, hfm, decide_eq_true hb]), hms]
    clear HB hfm hms hy hg hml hs hm hz hc
    go_wp2_with (go_at_fn 77; (with_reducible refine HC.out.mono ?_); rintro x w3 ⟨rfl, hb3⟩; have HB3 := Lib.hid (HW.out.trans (hb3.mono HW.out.size)))
    go_roundw
    case rel => exact ⟨m + 1, hi, by omega, by omega, by go_num, rfl, HB2.out, HB3.out⟩
    case measure => simp [intOf]; omega
   ·have HB2 : Hid (A = bsN f lo m) := by show _ = _; rw [HB.out, bsN_dn hlt (by rw [hms, hfm, decide_eq_false hb]), hms]
    clear HB hfm hms hy hg hml hs hm hz hc
    go_wp2_with (go_at_fn 77; (with_reducible refine HC.out.mono ?_); rintro x w3 ⟨rfl, hb3⟩; have HB3 := Lib.hid (HW.out.trans (hb3.mono HW.out.size)))
    go_roundw
    case rel => exact ⟨lo, m, by omega, by omega, rfl, rfl, HB2.out, HB3.out⟩
    case measure => simp [intOf]; omega
  ·have HQ : Hid (A = lo) := by show _ = _; rw [HB.out, bsN_end hlt]
   have HH2 : Hid (H = (decide (lo < n) && decide ((l.getD lo It.zero).i = id))) := by show _ = _; rw [HH.out, HQ.out]
   clear HB HH HF
   by_cases hln : lo < n
   ·have hll : lo < l.length := by rw [← HN.out]; exact hln
    obtain ⟨g, o, rfl, hg, a0, a1, a2⟩ := hp.below HW.out lo hll
    obtain ⟨y, hy⟩ : ∃ y, y = l[lo] := ⟨_, rfl⟩
    rw [← hy] at a0 a1 a2
    have hc := findCmp_any y id wr
    obtain ⟨z, hz⟩ : ∃ z, z = Lib.compareBytes y.i.data.toList id.data.toList := ⟨_, rfl⟩
    have HX : Hid (H = decide (z = 0)) := by
     show _ = _
     rw [HH2.out, decide_eq_true hln, getI_at hll, ← hy, Bool.true_and, Bool.eq_iff_iff, decide_eq_true_eq, decide_eq_true_eq, hz, cmp_zero]
     exact ⟨fun h => by rw [h], ba_ext⟩
    rw [← hz] at hc
    have HC := Lib.hid hc
    obtain ⟨yi, yk, yb⟩ := y
    simp only at a0 a1 a2 HC
    have gl2 : (lo : Int) < (n : Int) := by omega
    clear HH2 hy hg hll hz hc
    by_cases hb : z = 0
    ·have HX2 : Hid (H = true) := by show _ = _; rw [HX.out, decide_eq_true hb]
     have gz : (z == 0) = true := by rw [beq_iff_eq]; exact hb
     clear hb HX
     go_wp2_with (go_at_fn 77; (with_reducible refine HC.out.mono ?_); rintro x w3 ⟨rfl, hb3⟩; have HB3 := Lib.hid (HW.out.trans (hb3.mono HW.out.size)))
     go_ret2
     exact ⟨by rw [HQ.out, HX2.out]; rfl, HB3.out⟩
    ·have HX2 : Hid (H = false) := by show _ = _; rw [HX.out, decide_eq_false hb]
     have gz : (z == 0) = false := by rw [beq_eq_false_iff_ne]; exact hb
     clear hb HX
     go_wp2_with (go_at_fn 77; (with_reducible refine HC.out.mono ?_); rintro x w3 ⟨rfl, hb3⟩; have HB3 := Lib.hid (HW.out.trans (hb3.mono HW.out.size)))
     go_ret2
     exact ⟨by rw [HQ.out, HX2.out]; rfl, HB3.out⟩
   ·have HX : Hid (H = false) := by show _ = _; rw [HH2.out, decide_eq_false hln]; rfl
    have gl : ¬ (lo : Int) < (n : Int) := by omega
    clear HH2
    go_wp2_with fail
    go_ret2
    exact ⟨by rw [HQ.out, HX.out]; rfl, HW.out⟩
set_option maxHeartbeats 1000000 in
set_option maxRecDepth 4000 in
theorem find_any (l : List It) (id : ByteArray) (p : Option Addr) (n c : Nat) (w : World) (hn : n = l.length) (hp : ItRw w p l) (hn2 : n ≤ 140737488355328) :
  Calls Tryz.prog 43 #[.agg #[.slice p n c], .string id] w fun e w' => e = .returned (.tuple #[.int .i64 (atI l id : Int), .bool (hasI l id)]) ∧ Below w.heap.size w w' := by
 have hbx : Below w.heap.size w (w.alloc (.cells #[.slice p n c] 24)) := below_new (Below.refl _ _) _
 have hc := bsearch_any l id p n c _ hn (hp.below hbx) hn2
 obtain ⟨A, hA⟩ : ∃ A, A = atI l id := ⟨_, rfl⟩
 obtain ⟨H, hH⟩ : ∃ H, H = hasI l id := ⟨_, rfl⟩
 rw [← hA, ← hH] at hc ⊢
 have HC := Lib.hid hc
 have HBX := Lib.hid hbx
 clear hbx hp hc hA hH hn
 go_enter Tryz.func43, Tryz.ntmps43
 go_wp2_with (go_at_call 76; ((with_reducible refine (HC.out).mono ?_); rintro e w2 ⟨rfl, hb2⟩))
 go_ret2
 exact ⟨rfl, HBX.out.trans (hb2.mono HBX.out.size)⟩
theorem ob_row {w : World} {E : Nat} {c0 c1 v0 v1 : Value} (h0 : w.heap[E]? = some (.cells #[c0, c1] 29 (0, 0))) :
  ((w.setCell ⟨E, 0, none⟩ v0).setCell ⟨E, 1, none⟩ v1).heap[E]? = some (.cells #[v0, v1] 29 (0, 0)) := by
 have h1 : (w.setCell ⟨E, 0, none⟩ v0).heap[E]? = some (.cells #[v0, c1] 29 (0, 0)) := by
  have h := heap_setCell_same w E 0 _ 29 v0 h0
  simp only [List.setIfInBounds_toArray, List.set_cons_zero, List.set_cons_succ] at h
  exact h
 have h := heap_setCell_same (w.setCell ⟨E, 0, none⟩ v0) E 1 _ 29 v1 h1
 simp only [List.setIfInBounds_toArray, List.set_cons_zero, List.set_cons_succ] at h
 exact h
theorem ob_at {w : World} {E : Nat} {v0 v1 : Value} {t : TypeId} (h : w.heap[E]? = some (.cells #[v0, v1] t (0, 0))) : w.cell? ⟨E, 0, none⟩ = some v0 ∧ w.cell? ⟨E, 1, none⟩ = some v1 ∧ w.frozen? ⟨E, 0, none⟩ = false ∧ w.frozen? ⟨E, 1, none⟩ = false :=
 ⟨cell_of_row _ _ 0 _ _ _ h, cell_of_row _ _ 1 _ _ _ h, frozen_of_row _ _ 0 _ _ h, frozen_of_row _ _ 1 _ _ h⟩
theorem set2_below {B E : Nat} {w0 w : World} {v0 v1 : Value} (h : Below B w0 w) (hE : B ≤ E) : Below B w0 ((w.setCell ⟨E, 0, none⟩ v0).setCell ⟨E, 1, none⟩ v1) :=
 ((h.setCell (p := ⟨E, 0, none⟩) hE _).setCell (p := ⟨E, 1, none⟩) hE _)
set_option maxHeartbeats 1000000 in
set_option maxRecDepth 4000 in
theorem content_any (id : ByteArray) (k : Int) (b : ByteArray) (w : World) :
  Calls Tryz.prog 39 #[.agg #[.string id, .int .i64 k, .string b]] w fun e w' => e = .returned (.agg #[.int .i64 k, .string b]) ∧ Below w.heap.size w w' := by
 obtain ⟨w1, hw1⟩ : ∃ w1, w1 = w.alloc (.cells #[.string id, .int .i64 k, .string b] 39) := ⟨_, rfl⟩
 obtain ⟨w2, hw2⟩ : ∃ w2, w2 = w1.alloc (.cells #[.int .i64 0, .string ⟨#[]⟩] 29) := ⟨_, rfl⟩
 obtain ⟨I, hI⟩ : ∃ I, I = w.heap.size := ⟨_, rfl⟩
 obtain ⟨O, hO⟩ : ∃ O, O = w.heap.size + 1 := ⟨_, rfl⟩
 have h1 : w1.heap[I]? = some (.cells #[.string id, .int .i64 k, .string b] 39 (0, 0)) := by rw [hw1, hI]; exact heap_alloc_new _ _
 have h2 : w2.heap[O]? = some (.cells #[.int .i64 0, .string ⟨#[]⟩] 29 (0, 0)) := by rw [hw2, hO, show w.heap.size + 1 = w1.heap.size by rw [hw1]; simp]; exact heap_alloc_new _ _
 have h3 : w2.heap[I]? = some (.cells #[.string id, .int .i64 k, .string b] 39 (0, 0)) := by rw [hw2]; exact row_alloc h1 (row_lt h1)
 have hb : Below w.heap.size w w2 := by rw [hw2, hw1]; exact below_new (below_new (Below.refl _ _) _) _
 obtain ⟨i0, i1, i2⟩ := it_at h3
 obtain ⟨o0, o1, f0, f1⟩ := ob_at h2
 obtain ⟨d0, d1, -, -⟩ := ob_at (ob_row (v0 := .int .i64 k) (v1 := .string b) h2)
 have HB := Lib.hid (set2_below (v0 := .int .i64 k) (v1 := .string b) hb (show w.heap.size ≤ O by omega))
 have HW1 := Lib.hid hw1
 have HW2 := Lib.hid hw2
 have HI := Lib.hid hI
 have HO := Lib.hid hO
 clear hw1 hw2 hI hO h1 h2 h3 hb
 go_enter Tryz.func39, Tryz.ntmps39
 go_upto_region 1 with fail
 rw [← HW1.out, ← HW2.out, ← HO.out, ← HI.out]
 go_wp2_with fail
 refine bodyPost_ret (v := .agg #[.int .i64 k, .string b]) (by simp [results, Tryz.results39, go_sem, d0, d1]) rfl ⟨rfl, HB.out⟩
set_option maxHeartbeats 1000000 in
set_option maxRecDepth 4000 in
theorem has_any (l : List It) (id : ByteArray) (p : Option Addr) (n c : Nat) (w : World) (hn : n = l.length) (hp : ItRw w p l) (hn2 : n ≤ 140737488355328) :
  Calls Tryz.prog 22 #[.agg #[.slice p n c], .string id] w fun e w' => e = .returned (.bool (hasI l id)) ∧ Below w.heap.size w w' := by
 have hbx : Below w.heap.size w (w.alloc (.cells #[.slice p n c] 24)) := below_new (Below.refl _ _) _
 have hc := find_any l id p n c _ hn (hp.below hbx) hn2
 obtain ⟨A, hA⟩ : ∃ A, A = atI l id := ⟨_, rfl⟩
 obtain ⟨H, hH⟩ : ∃ H, H = hasI l id := ⟨_, rfl⟩
 rw [← hA, ← hH] at hc
 rw [← hH]
 have HC := Lib.hid hc
 have HBX := Lib.hid hbx
 clear hbx hp hc hA hH hn
 go_enter Tryz.func22, Tryz.ntmps22
 go_wp2_with (go_at_call 43; ((with_reducible refine (HC.out).mono ?_); rintro e w2 ⟨rfl, hb2⟩))
 go_ret
 exact ⟨rfl, HBX.out.trans (hb2.mono HBX.out.size)⟩
set_option maxHeartbeats 1000000 in
set_option maxRecDepth 4000 in
theorem rhasI_any (l : List It) (id : ByteArray) (p : Option Addr) (n c : Nat) (w : World) (hn : n = l.length) (hp : ItRw w p l) (hn2 : n ≤ 140737488355328) :
  Calls Tryz.prog 59 #[.agg #[.slice p n c], .string id] w fun e w' => e = .returned (.bool (hasI l id)) ∧ Below w.heap.size w w' := by
 have hbx : Below w.heap.size w (w.alloc (.cells #[.slice p n c] 24)) := below_new (Below.refl _ _) _
 have hc := rplace_any l id p n c _ hn (hp.below hbx) hn2
 obtain ⟨A, hA⟩ : ∃ A, A = atI l id := ⟨_, rfl⟩
 obtain ⟨H, hH⟩ : ∃ H, H = hasI l id := ⟨_, rfl⟩
 rw [← hA, ← hH] at hc
 rw [← hH]
 have HC := Lib.hid hc
 have HBX := Lib.hid hbx
 clear hbx hp hc hA hH hn
 go_enter Tryz.func59, Tryz.ntmps59
 go_wp2_with (go_at_call 47; ((with_reducible refine (HC.out).mono ?_); rintro e w2 ⟨rfl, k2, rfl⟩))
 go_ret
 exact ⟨rfl, below_drewN HBX.out _⟩
end Go.Proofs.YtpkgiojicbdcfaaGreatDoor
/-
 The walk of the reference's find.
-/
namespace Go.Proofs.YtpkgiojicbdcfaaGreatDoor
open Go Go.RowKit
def findI (l t : List UInt8) (i : Nat) : Int := if Lib.index (l.drop i) t == -1 then -1 else Lib.index (l.drop i) t + i
theorem findI_past {l t : List UInt8} {i : Nat} (ht : 0 < t.length) (h : l.length < i + t.length) : findI l t i = -1 := by
 have : Lib.index (l.drop i) t = -1 := Lib.index_past (i := 0) (fun e => by rw [e] at ht; simp at ht) (fun _ h => absurd h (Nat.not_lt_zero _)) (by rw [List.length_drop]; omega)
 rw [findI, this]
 rfl
theorem findI_hit {l t : List UInt8} {i : Nat} (h : t.isPrefixOf (l.drop i) = true) : findI l t i = i := by
 have : Lib.index (l.drop i) t = 0 := Lib.index_hit (i := 0) (fun _ h => absurd h (Nat.not_lt_zero _)) (Nat.zero_le _) h
 rw [findI, this]
 simp
theorem findI_next {l t : List UInt8} {i : Nat} (hi : i < l.length) (h : t.isPrefixOf (l.drop i) = false) : findI l t i = findI l t (i + 1) := by
 unfold findI
 have hge := Lib.index_ge (l.drop (i + 1)) t
 rw [List.drop_eq_getElem_cons hi] at h ⊢
 rw [Lib.index, h]
 simp only [Bool.false_eq_true, if_false]
 by_cases hm : Lib.index (l.drop (i + 1)) t = -1
 ·rw [hm]; rfl
 ·have e1 : (Lib.index (l.drop (i + 1)) t == -1) = false := by simpa using hm
  have e2 : (Lib.index (l.drop (i + 1)) t + 1 == -1) = false := by rw [beq_eq_false_iff_ne]; omega
  rw [e1]
  simp only [Bool.false_eq_true, if_false]
  rw [e2]
  simp only [Bool.false_eq_true, if_false]
  omega
theorem ext_pre {s t : ByteArray} {i : Nat} (h : i + t.size ≤ s.size) : t.data.toList.isPrefixOf (s.data.toList.drop i) = (((s.extract i (i + t.size)).toList == t.toList)) := by
 rw [ByteArray.toList_eq, ByteArray.toList_eq, ext_bytes, Nat.add_sub_cancel_left, Bool.eq_iff_iff, List.isPrefixOf_iff_prefix, beq_iff_eq, List.prefix_iff_eq_take, list_len]
 exact ⟨fun h => h.symm, fun h => h.symm⟩
set_option maxHeartbeats 1000000 in
set_option maxRecDepth 4000 in
theorem rfnd_any (s t : ByteArray) (i0 : Nat) (w : World) (ht : 0 < t.size) (ht2 : t.size ≤ 1048576) (hs : s.size ≤ 140737488355328) (hi0 : i0 ≤ 140737488355328) :
  Calls Tryz.prog 120 #[.string s, .string t, .int .i64 (i0 : Int)] w fun e w' => e = .returned (.int .i64 (findI s.data.toList t.data.toList i0)) ∧ w' = w := by
 obtain ⟨R, hR⟩ : ∃ R, R = findI s.data.toList t.data.toList i0 := ⟨_, rfl⟩
 rw [← hR]
 have HR := Lib.hid hR
 clear hR
 go_enter Tryz.func120, Tryz.ntmps120
 go_wp2
 go_loopg [7] (s.size + 1 - i0) (fun g iv wx => ∃ i : Nat, iv = .int .i64 i ∧ i0 ≤ i ∧ (i ≤ s.size + 1 ∨ i = i0) ∧ g = s.size + 1 - i ∧ Hid (R = findI s.data.toList t.data.toList i) ∧ wx = w)
 case atStart => exact ⟨i0, rfl, Nat.le_refl _, .inr rfl, rfl, HR.out, rfl⟩
 case round =>
  obtain ⟨i, rfl, h0, h1, hg, HI, rfl⟩ := hrel
  by_cases hp : s.size < i + t.size
  ·have HQ : Hid (R = -1) := by show _ = _; rw [HI.out]; exact findI_past (by rw [list_len]; exact ht) (by rw [list_len, list_len]; exact hp)
   clear HI HR
   go_wp2
   go_ret
   exact ⟨by rw [HQ.out]; rfl, rfl⟩
  ·have hin : i < s.size := by omega
   have hpre := ext_pre (s := s) (t := t) (i := i) (by omega)
   by_cases he : ((s.extract i (i + t.size)).toList == t.toList) = true
   ·have HQ : Hid (R = i) := by show _ = _; rw [HI.out]; exact findI_hit (hpre.trans he)
    clear HI HR hpre
    go_wp2
    go_ret
    exact ⟨by rw [HQ.out]; rfl, rfl⟩
   ·have he := Bool.eq_false_iff.mpr he
    have HQ : Hid (R = findI s.data.toList t.data.toList (i + 1)) := by show _ = _; rw [HI.out]; exact findI_next (by rw [list_len]; exact hin) (hpre.trans he)
    clear HI HR hpre
    go_wp2
    go_roundg (s.size + 1 - (i + 1))
    case measure => omega
    case rel => exact ⟨i + 1, rfl, by omega, .inl (by omega), rfl, HQ.out, rfl⟩
end Go.Proofs.YtpkgiojicbdcfaaGreatDoor
/-
 The walks of the reference's Value and Digits.
-/
namespace Go.Proofs.YtpkgiojicbdcfaaGreatDoor
open Go Go.RowKit
theorem decFrom_le : ∀ (l : List UInt8) (m v : Nat), Lib.decFrom m l = some v → m ≤ v
 | [], m, v, h => by
  rw [Lib.decFrom, Option.some.injEq] at h
  omega
 | c :: l, m, v, h => by
  rw [Lib.decFrom] at h
  cases hd : Lib.digitVal c with
  | none => rw [hd] at h; cases h
  | some d =>
   rw [hd] at h
   have := decFrom_le l _ v h
   omega
theorem decFrom_step {m v : Nat} {c : UInt8} {l : List UInt8} (h : Lib.decFrom m (c :: l) = some v) : ∃ d, c.toNat = 48 + d ∧ d < 10 ∧ Lib.decFrom (m * 10 + d) l = some v := by
 rw [Lib.decFrom] at h
 cases hd : Lib.digitVal c with
 | none => rw [hd] at h; cases h
 | some d =>
  rw [hd] at h
  obtain ⟨h10, he⟩ := digitVal_lt hd
  exact ⟨d, by rw [he, UInt8.toNat_ofNat']; omega, h10, h⟩
set_option maxHeartbeats 1000000 in
set_option maxRecDepth 4000 in
theorem rvalue_any (s : ByteArray) (v : Nat) (w : World) (hv : Lib.decFrom 0 s.data.toList = some v) (hb : v < 1000000000000000000) (hs : s.size ≤ 1048576) :
  Calls Tryz.prog 142 #[.string s] w fun e w' => e = .returned (.int .i64 (v : Int)) ∧ w' = w := by
 have HV := Lib.hid hv
 clear hv
 go_enter Tryz.func142, Tryz.ntmps142
 go_wp2
 go_loopg [3, 4] s.size (fun g nv iv wx => ∃ (k m : Nat), k + g = s.size ∧ nv = .int .i64 m ∧ iv = .int .i64 k ∧ Hid (Lib.decFrom m (s.data.toList.drop k) = some v) ∧ wx = w)
 case atStart => exact ⟨0, 0, by omega, rfl, rfl, by rw [List.drop_zero]; exact HV.out, rfl⟩
 case round =>
  obtain ⟨k, m, hk, rfl, rfl, HM, rfl⟩ := hrel
  cases gk with
  | zero =>
   obtain rfl : k = s.size := by omega
   have hm : m = v := by
    have := HM.out
    rw [List.drop_of_length_le (by rw [list_len]; exact Nat.le_refl _), Lib.decFrom, Option.some.injEq] at this
    exact this
   subst hm
   go_wp2
   go_ret
   exact ⟨rfl, rfl⟩
  | succ g =>
   have hi : k < s.size := by omega
   have hst := HM.out
   rw [drop_byte s k hi] at hst
   obtain ⟨d, hd, hd10, hn⟩ := decFrom_step hst
   have hle := decFrom_le _ _ _ hn
   have HN := Lib.hid hn
   obtain ⟨x, hx⟩ : ∃ x, x = (s[k]'hi).toNat := ⟨_, rfl⟩
   rw [← hx] at hd
   clear hst hn
   go_wp2
   go_roundg g
   case measure => omega
   case rel => exact ⟨k + 1, m * 10 + d, by omega, congrArg (Value.int .i64) (by omega), rfl, HN.out, rfl⟩
def dgs (l : List UInt8) : Bool := l.all fun c => decide (48 ≤ c.toNat) && decide (c.toNat ≤ 57)
theorem dgs_some : ∀ (l : List UInt8) (m : Nat), (Lib.decFrom m l).isSome = dgs l
 | [], _ => rfl
 | c :: l, m => by
  rw [Lib.decFrom, Lib.digitVal, dgs, List.all_cons]
  by_cases h : 48 ≤ c.toNat ∧ c.toNat ≤ 57
  ·rw [if_pos h, decide_eq_true h.1, decide_eq_true h.2]
   exact dgs_some l _
  ·rw [if_neg h]
   have : (decide (48 ≤ c.toNat) && decide (c.toNat ≤ 57)) = false := by simpa using h
   rw [this]
   rfl
theorem dgs_cons {c : UInt8} {l : List UInt8} (h1 : 48 ≤ c.toNat) (h2 : c.toNat ≤ 57) : dgs (c :: l) = dgs l := by
 rw [dgs, List.all_cons, decide_eq_true h1, decide_eq_true h2]
 rfl
theorem dgs_bad {c : UInt8} {l : List UInt8} (h : c.toNat < 48 ∨ 57 < c.toNat) : dgs (c :: l) = false := by
 rw [dgs, List.all_cons]
 have : (decide (48 ≤ c.toNat) && decide (c.toNat ≤ 57)) = false := by simp; omega
 rw [this]
 rfl
set_option maxHeartbeats 1000000 in
set_option maxRecDepth 4000 in
theorem rdigs_any (s : ByteArray) (w : World) (hs : s.size ≤ 140737488355328) :
  Calls Tryz.prog 141 #[.string s] w fun e w' => e = .returned (.bool (timeB s.data.toList)) ∧ w' = w := by
 obtain ⟨R, hR⟩ : ∃ R, R = timeB s.data.toList := ⟨_, rfl⟩
 have hlen : s.data.toList.length = s.size := list_len s
 rw [← hR]
 by_cases h1 : s.size < 1
 ·have HR : Hid (R = false) := by show _ = _; rw [hR, timeB, numR, if_pos (.inl (by omega))]; rfl
  clear hR hlen
  go_enter Tryz.func141, Tryz.ntmps141
  go_wp2
  go_ret
  exact ⟨by rw [HR.out]; rfl, rfl⟩
 by_cases h2 : 18 < s.size
 ·have HR : Hid (R = false) := by show _ = _; rw [hR, timeB, numR, if_pos (.inr (.inl (by omega)))]; rfl
  clear hR hlen
  go_enter Tryz.func141, Tryz.ntmps141
  go_wp2
  go_ret
  exact ⟨by rw [HR.out]; rfl, rfl⟩
 have h0 : 0 < s.size := by omega
 have hhead : s.data.toList.head? = some s[0] := by
  have := drop_byte s 0 h0
  rw [List.drop_zero] at this
  rw [this]
  rfl
 by_cases h3 : 1 < s.size ∧ s[0] = 48
 ·have HR : Hid (R = false) := by show _ = _; rw [hR, timeB, numR, if_pos (.inr (.inr ⟨by omega, by rw [hhead, h3.2]⟩))]; rfl
  have hx : ((s[0].toNat : Int) == 48) = true := by rw [h3.2]; rfl
  have h31 := h3.1
  clear hR hlen h3 hhead
  go_enter Tryz.func141, Tryz.ntmps141
  go_wp2
  go_ret
  exact ⟨by rw [HR.out]; rfl, rfl⟩
 have HR : Hid (R = dgs (s.data.toList.drop 0)) := by
  show _ = _
  rw [hR, timeB, numR, if_neg, List.drop_zero, dgs_some]
  rintro (h | h | ⟨h, h'⟩)
  ·omega
  ·omega
  ·exact h3 ⟨by omega, by rw [hhead, Option.some.injEq] at h'; exact h'⟩
 have hx : s.size = 1 ∨ (1 < s.size ∧ ((s[0].toNat : Int) == 48) = false) := by
  by_cases h : 1 < s.size
  ·refine .inr ⟨h, ?_⟩
   rw [beq_eq_false_iff_ne]
   intro e
   exact h3 ⟨h, UInt8.toNat_inj.mp (by show _ = 48; omega)⟩
  ·exact .inl (by omega)
 clear hR hlen h3 hhead
 rcases hx with hx | ⟨hx, hx2⟩
 all_goals
  go_enter Tryz.func141, Tryz.ntmps141
  go_wp2
  go_loopg [3] s.size (fun g iv wx => ∃ k : Nat, k + g = s.size ∧ iv = .int .i64 k ∧ Hid (R = dgs (s.data.toList.drop k)) ∧ wx = w)
  case atStart => exact ⟨0, by omega, rfl, HR.out, rfl⟩
  case round =>
   obtain ⟨k, hk, rfl, HM, rfl⟩ := hrel
   cases gk with
   | zero =>
    obtain rfl : k = s.size := by omega
    have HQ : Hid (R = true) := by show _ = _; rw [HM.out, List.drop_of_length_le (by rw [list_len]; exact Nat.le_refl _)]; rfl
    clear HM HR
    go_wp2
    go_ret
    exact ⟨by rw [HQ.out]; rfl, rfl⟩
   | succ g =>
    have hi : k < s.size := by omega
    have hM := HM.out
    rw [drop_byte s k hi] at hM
    by_cases hlo : (s[k]'hi).toNat < 48
    ·have HQ : Hid (R = false) := by show _ = _; rw [hM, dgs_bad (.inl hlo)]
     clear HM HR hM
     go_wp2
     go_ret
     exact ⟨by rw [HQ.out]; rfl, rfl⟩
    by_cases hup : 57 < (s[k]'hi).toNat
    ·have HQ : Hid (R = false) := by show _ = _; rw [hM, dgs_bad (.inr hup)]
     clear HM HR hM
     go_wp2
     go_ret
     exact ⟨by rw [HQ.out]; rfl, rfl⟩
    have HQ : Hid (R = dgs (s.data.toList.drop (k + 1))) := by show _ = _; rw [hM, dgs_cons (by omega) (by omega)]
    clear HM HR hM
    go_wp2
    go_roundg g
    case measure => omega
    case rel => exact ⟨k + 1, by omega, rfl, HQ.out, rfl⟩
end Go.Proofs.YtpkgiojicbdcfaaGreatDoor
/-
  The walk of the reference's zone.
-/
namespace Go.Proofs.YtpkgiojicbdcfaaGreatDoor
open Go Go.RowKit
set_option maxHeartbeats 2000000 in
set_option maxRecDepth 4000 in
theorem rzone_any (s : ByteArray) (w : World) (hs : s.size ≤ 140737488355328) :
    Calls Tryz.prog 140 #[.string s] w fun e w' => e = .returned (.tuple #[.int .i64 (zoneI s.data.toList), .bool (zoneB s.data.toList)]) ∧ w' = w := by
  obtain ⟨I, hI⟩ : ∃ I, I = zoneI s.data.toList := ⟨_, rfl⟩
  obtain ⟨B, hB⟩ : ∃ B, B = zoneB s.data.toList := ⟨_, rfl⟩
  rw [← hI, ← hB]
  have none_case : zonO s.data.toList = none → Hid (I = 0 ∧ B = false) := fun h => ⟨by rw [hI, zoneI, h], by rw [hB, zoneB, h]; rfl⟩
  have some_case : ∀ z, zonO s.data.toList = some z → Hid (I = z ∧ B = true) := fun m h => ⟨by rw [hI, zoneI, h], by rw [hB, zoneB, h]; rfl⟩
  clear hI hB
  by_cases h5 : s.size = 5
  case neg =>
    have HR := none_case (zon_len (by rw [list_len]; exact h5))
    clear none_case some_case
    go_enter Tryz.func140, Tryz.ntmps140
    go_wp2
    go_ret2
    exact ⟨by rw [HR.out.1, HR.out.2]; rfl, rfl⟩
  have hl : s.data.toList = [s[0], s[1], s[2], s[3], s[4]] := by
    have e := drop_byte s 0 (by omega)
    rw [drop_byte s 1 (by omega), drop_byte s 2 (by omega), drop_byte s 3 (by omega), drop_byte s 4 (by omega), show s.data.toList.drop (4 + 1) = [] from List.drop_eq_nil_of_le (by rw [list_len]; omega)] at e
    simpa using e
  have h0 : 0 < s.size := by omega
  by_cases hsg : s[0] = 43 ∨ s[0] = 45
  case neg =>
    have HR := none_case (by rw [hl]; exact zon_sign hsg)
    have n1 : ¬ (s[0].toNat : Int) = 43 := fun e => hsg (.inl (UInt8.toNat_inj.mp (by show _ = 43; omega)))
    have n2 : ¬ (s[0].toNat : Int) = 45 := fun e => hsg (.inr (UInt8.toNat_inj.mp (by show _ = 45; omega)))
    clear none_case some_case hl hsg
    go_enter Tryz.func140, Tryz.ntmps140
    go_wp2
    go_ret2
    exact ⟨by rw [HR.out.1, HR.out.2]; rfl, rfl⟩
  by_cases hz : s = ⟨#[45, 48, 48, 48, 48]⟩
  · have HR := none_case (by rw [hz]; exact zon_zero)
    have he : (s.toList == [45, 48, 48, 48, 48]) = true := by rw [hz, ByteArray.toList_eq]; rfl
    have e45 : s[0] = 45 := by
      have := congrArg ByteArray.data hz
      subst hz
      rfl
    have e0 : ¬ (s[0].toNat : Int) = 43 := by rw [e45]; decide
    have e1 : (s[0].toNat : Int) = 45 := by rw [e45]; rfl
    clear none_case some_case hl hsg hz e45
    go_enter Tryz.func140, Tryz.ntmps140
    go_wp2
    go_ret2
    exact ⟨by rw [HR.out.1, HR.out.2]; rfl, rfl⟩
  have hne : (s.toList == [45, 48, 48, 48, 48]) = false := by
    have e := ba_ne hz
    rw [ByteArray.toList_eq ⟨#[45, 48, 48, 48, 48]⟩] at e
    exact e
  have hx : Hid (((s[0].toNat : Int) = 43) ∨ (¬ (s[0].toNat : Int) = 43 ∧ (s[0].toNat : Int) = 45)) := by
    rcases hsg with e | e
    · exact .inl (by rw [e]; rfl)
    · exact .inr ⟨by rw [e]; decide, by rw [e]; rfl⟩
  have hd1 : s.data.toList.drop 1 = [s[1], s[2], s[3], s[4]] := by rw [hl]; rfl
  obtain ⟨D, hD⟩ : ∃ D, D = dgs (s.data.toList.drop 1) := ⟨_, rfl⟩
  rcases D with _ | _
  · have HR := none_case (by
      rw [hd1] at hD
      rw [hl]
      unfold zonO
      simp only
      split
      · cases h1 : Lib.decFrom 0 [s[1], s[2]] with
        | none => rfl
        | some h =>
          cases h2 : Lib.decFrom 0 [s[3], s[4]] with
          | none => rfl
          | some m =>
            have e4 := dgs_some [s[1], s[2], s[3], s[4]] 0
            rw [dec_four, h1, h2, ← hD] at e4
            cases e4
      · rfl)
    have HD := Lib.hid hD
    clear none_case some_case hl hsg hz hD hd1
    rcases hx.out with e0 | ⟨e0, e1⟩
    all_goals
      go_enter Tryz.func140, Tryz.ntmps140
      go_wp2
      go_loopg [4] 4 (fun g iv wx => ∃ k : Nat, k + g = 5 ∧ 1 ≤ k ∧ iv = .int .i64 k ∧ Hid (false = dgs (s.data.toList.drop k)) ∧ wx = w)
      case atStart => exact ⟨1, rfl, Nat.le_refl _, rfl, HD.out, rfl⟩
      case round =>
        obtain ⟨k, hk, hk1, rfl, HM, rfl⟩ := hrel
        cases gk with
        | zero =>
          obtain rfl : k = 5 := by omega
          have := HM.out
          rw [List.drop_of_length_le (by rw [list_len]; omega)] at this
          cases this
        | succ g =>
          have hi : k < s.size := by omega
          have hM := HM.out
          rw [drop_byte s k hi] at hM
          by_cases hlo : (s[k]'hi).toNat < 48
          · clear HM hM HD
            go_wp2
            go_ret2
            exact ⟨by rw [HR.out.1, HR.out.2]; rfl, rfl⟩
          by_cases hup : 57 < (s[k]'hi).toNat
          · clear HM hM HD
            go_wp2
            go_ret2
            exact ⟨by rw [HR.out.1, HR.out.2]; rfl, rfl⟩
          have HQ : Hid (false = dgs (s.data.toList.drop (k + 1))) := by show _ = _; rw [hM, dgs_cons (by omega) (by omega)]
          clear HM hM HD
          go_wp2
          go_roundg g
          case measure => omega
          case rel => exact ⟨k + 1, by omega, by omega, rfl, HQ.out, rfl⟩
  · rw [hd1] at hD
    have e4 := dgs_some [s[1], s[2], s[3], s[4]] 0
    rw [dec_four, ← hD] at e4
    cases hh : Lib.decFrom 0 [s[1], s[2]] with
    | none => rw [hh] at e4; cases e4
    | some h =>
      cases hm : Lib.decFrom 0 [s[3], s[4]] with
      | none => rw [hh, hm] at e4; cases e4
      | some m =>
        have hb1 := dec_two_lt hh
        have hb2 := dec_two_lt hm
        have HV3 : Hid (∀ w', Calls Tryz.prog 142 #[.string (s.extract 3 5)] w' fun e w'' => e = .returned (.int .i64 (m : Int)) ∧ w'' = w') := fun w' =>
          rvalue_any _ m w' (by rw [ext_bytes, hl]; exact hm) (by omega) (by simp; omega)
        have HV1 : Hid (∀ w', Calls Tryz.prog 142 #[.string (s.extract 1 3)] w' fun e w'' => e = .returned (.int .i64 (h : Int)) ∧ w'' = w') := fun w' =>
          rvalue_any _ h w' (by rw [ext_bytes, hl]; exact hh) (by omega) (by simp; omega)
        have hzn : zonO s.data.toList = if m < 60 then some (zonV s[0] h m) else none := by
          rw [hl]
          unfold zonO
          simp only
          rw [if_pos ⟨hsg, fun e => hz (ba_ext (by rw [hl, e]))⟩, hh, hm]
          rfl
        have HD : Hid (true = dgs (s.data.toList.drop 1)) := by show _ = _; rw [hd1]; exact hD
        have HQ : Hid ((m < 60 → (I = zonV s[0] h m ∧ B = true)) ∧ (¬ m < 60 → (I = 0 ∧ B = false))) := by
          constructor
          · intro hm6
            rw [if_pos hm6] at hzn
            exact (some_case _ hzn).out
          · intro hm6
            rw [if_neg hm6] at hzn
            exact (none_case hzn).out
        have hs45 : (s[0].toNat : Int) = 45 ↔ s[0] = 45 := ⟨fun e => UInt8.toNat_inj.mp (by show _ = 45; omega), fun e => by rw [e]; rfl⟩
        have HS : Hid (zonV s[0] h m = if (s[0].toNat : Int) = 45 then -((60 * h + m : Nat) : Int) else ((60 * h + m : Nat) : Int)) := by
          show _ = _
          rw [zonV]
          by_cases e : s[0] = 45
          · rw [if_pos e, if_pos (hs45.mpr e)]
          · rw [if_neg e, if_neg (fun e' => e (hs45.mp e'))]
        clear none_case some_case hl hsg hz hD hd1 e4 hh hm hzn hs45
        rcases hx.out with e0 | ⟨e0, e1⟩
        all_goals
          go_enter Tryz.func140, Tryz.ntmps140
          go_wp2
          go_loopg [4] 4 (fun g iv wx => ∃ k : Nat, k + g = 5 ∧ 1 ≤ k ∧ iv = .int .i64 k ∧ Hid (true = dgs (s.data.toList.drop k)) ∧ wx = w)
          case atStart => exact ⟨1, rfl, Nat.le_refl _, rfl, HD.out, rfl⟩
          case round =>
            obtain ⟨k, hk, hk1, rfl, HM, rfl⟩ := hrel
            cases gk with
            | zero =>
              obtain rfl : k = 5 := by omega
              clear HM HD
              by_cases hm6 : m < 60
              · have HX := Lib.hid (HQ.out.1 hm6)
                have HS2 := HS.out
                first
                  | (rw [if_pos e1] at HS2
                     have HS3 := Lib.hid HS2
                     clear HQ HS HS2
                     go_wp2_with (go_at_call 142; first
                       | ((with_reducible refine (HV3.out _).mono ?_); rintro e wa ⟨rfl, rfl⟩)
                       | ((with_reducible refine (HV1.out _).mono ?_); rintro e wb ⟨rfl, rfl⟩))
                     go_ret2
                     exact ⟨by rw [HX.out.1, HX.out.2, HS3.out]; exact congrArg Ending.returned (by simp), rfl⟩)
                  | (rw [if_neg (by omega)] at HS2
                     have HS3 := Lib.hid HS2
                     clear HQ HS HS2
                     go_wp2_with (go_at_call 142; first
                       | ((with_reducible refine (HV3.out _).mono ?_); rintro e wa ⟨rfl, rfl⟩)
                       | ((with_reducible refine (HV1.out _).mono ?_); rintro e wb ⟨rfl, rfl⟩))
                     go_ret2
                     exact ⟨by rw [HX.out.1, HX.out.2, HS3.out]; exact congrArg Ending.returned (by simp), rfl⟩)
              · have HX := Lib.hid (HQ.out.2 hm6)
                clear HQ HS
                go_wp2_with (go_at_call 142; first
                  | ((with_reducible refine (HV3.out _).mono ?_); rintro e wa ⟨rfl, rfl⟩)
                  | ((with_reducible refine (HV1.out _).mono ?_); rintro e wb ⟨rfl, rfl⟩))
                go_ret2
                exact ⟨by rw [HX.out.1, HX.out.2]; rfl, rfl⟩
            | succ g =>
              have hi : k < s.size := by omega
              have hM := HM.out
              rw [drop_byte s k hi] at hM
              have hlo : 48 ≤ (s[k]'hi).toNat ∧ (s[k]'hi).toNat ≤ 57 := by
                refine Decidable.byContradiction fun hc => ?_
                rw [dgs_bad (by omega)] at hM
                cases hM
              obtain ⟨hlo, hup⟩ := hlo
              have HQ2 : Hid (true = dgs (s.data.toList.drop (k + 1))) := by show _ = _; rw [hM, dgs_cons hlo hup]
              clear HM hM HD HQ HS
              go_wp2
              go_roundg g
              case measure => omega
              case rel => exact ⟨k + 1, by omega, by omega, rfl, HQ2.out, rfl⟩
end Go.Proofs.YtpkgiojicbdcfaaGreatDoor
