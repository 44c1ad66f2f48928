/-
  The walks of the function that Clean hands to visit, and of Clean.
-/
import Derived.Test.YthfnnbeaggkhkabLnRef
import Derived.Deep.Cut
namespace Go.Proofs.Ythfnnbeaggkhkab
open Go.RowKit

theorem trimR_len (l : List UInt8) : (trimR l).length ≤ l.length := by
  unfold trimR
  rw [List.length_reverse]
  have := (List.dropWhile_sublist (p := sp) (l := l.reverse)).length_le
  rw [List.length_reverse] at this
  exact this
theorem cont_len (l : List UInt8) : (cont l).length ≤ l.length := by
  unfold cont
  split
  · simp
  · exact Nat.le_refl _
theorem trim_len (l : List UInt8) : (trim l).length ≤ l.length := Nat.le_trans (trimR_len _) (cont_len _)
theorem cstep_len (st : List UInt8 × Bool) (x : List UInt8) : (cstep st x).1.length ≤ st.1.length + x.length + 2 := by
  unfold cstep
  split
  · omega
  · split
    · show st.1.length ≤ _
      omega
    · have := trim_len x
      simp only [List.length_append]
      split <;> simp <;> omega
theorem cfold_len (ls : List (List UInt8)) : (cfold ls).1.length ≤ (join ls).length + 2 * ls.length := by
  have h : ∀ (ls : List (List UInt8)) (st : List UInt8 × Bool), (ls.foldl cstep st).1.length ≤ st.1.length + (join ls).length + 2 * ls.length := by
    intro ls
    induction ls with
    | nil => intro st; simp [join]
    | cons x r ih =>
      intro st
      have h1 := ih (cstep st x)
      have h2 := cstep_len st x
      simp only [List.foldl_cons, join, List.flatten_cons, List.length_append, List.length_cons] at h1 ⊢
      omega
  have := h ls ([], false)
  simpa [cfold] using this
theorem cstep_note {st : List UInt8 × Bool} {x : List UInt8} (h : x.head? = some 35) : cstep st x = st := by rw [cstep, if_pos h]
theorem cstep_blank {st : List UInt8 × Bool} {x : List UInt8} (h : x.head? ≠ some 35) (h2 : trim x = []) : cstep st x = (st.1, !st.1.isEmpty) := by rw [cstep, if_neg h, if_pos h2]
theorem cstep_text {st : List UInt8 × Bool} {x : List UInt8} (h : x.head? ≠ some 35) (h2 : trim x ≠ []) : cstep st x = (st.1 ++ (if st.2 = true then [10] else []) ++ trim x ++ [10], false) := by rw [cstep, if_neg h, if_neg h2]
theorem head_at (t : ByteArray) (h : 0 < t.size) : t.data.toList.head? = some t[0] := by
  have := head_drop t 0
  rw [List.drop_zero, dif_pos h] at this
  exact this

/-- What Clean's function keeps: the row that is written, the pending blank line. -/
def JC (W : World) (B : Nat) (l : List UInt8) (g : Bool) (w : World) : Prop := ∃ v, w.heap[B]? = some (.cells #[v] 33 (0, 0)) ∧ w.heap[B + 1]? = some (.cells #[.bool g] 4 (0, 0)) ∧ Ow w (W.heap.size) v l ∧ Below W.heap.size W w

set_option maxHeartbeats 2000000 in
set_option maxRecDepth 4000 in
theorem clean1_note (W : World) (B : Nat) (hB : W.heap.size ≤ B) (l : List UInt8) (g : Bool) (t : ByteArray) (wx : World) (hj : JC W B l g wx) (h0 : 0 < t.size) (h35 : t[0] = 35) :
    Calls Try.prog 34 #[.string t, .pointer (some ⟨B, 0, none⟩), .pointer (some ⟨B + 1, 0, none⟩)] wx fun e w' => e = .returned (.bool true) ∧ JC W B l g w' := by
  have a1 : ((t[0].toNat : Int) == 35) = true := u8_is (n := 35) (by decide) h35
  have HJ := Lib.hid hj
  clear hj h35
  go_enter Try.func34, Try.ntmps34
  go_wp2
  go_ret
  exact ⟨rfl, HJ.out⟩
set_option maxHeartbeats 2000000 in
set_option maxRecDepth 4000 in
theorem clean1_blank (W : World) (B : Nat) (hB : W.heap.size ≤ B) (l : List UInt8) (g : Bool) (t r : ByteArray) (wx : World) (hj : JC W B l g wx) (h0 : 0 < t.size) (hts : t.size ≤ 1048576) (h35 : t[0] ≠ 35) (hr : r.data.toList = trim t.data.toList) (hr0 : r.size = 0) :
    Calls Try.prog 34 #[.string t, .pointer (some ⟨B, 0, none⟩), .pointer (some ⟨B + 1, 0, none⟩)] wx fun e w' => e = .returned (.bool true) ∧ JC W B l (!l.isEmpty) w' := by
  have a1 : ((t[0].toNat : Int) == 35) = false := u8_not (n := 35) (by decide) h35
  have HT : Hid (∀ w, Calls Try.prog 35 #[.string t] w fun e w' => e = .returned (.string r) ∧ w = w') := fun w => trimmed_any t r w h0 (by omega) hr
  have he := empty_true hr0
  obtain ⟨v, h1, h2, ho, hb⟩ := hj
  obtain ⟨p, cap, rfl⟩ := ho.shape
  have c0 : wx.cell? ⟨B, 0, none⟩ = some (.slice p l.length cap) := cell_of_row wx B 0 _ _ _ h1
  have c1 : wx.cell? ⟨B + 1, 0, none⟩ = some (.bool g) := cell_of_row wx (B + 1) 0 _ _ _ h2
  have f1 := frozen_of_row wx (B + 1) 0 _ _ h2
  by_cases hl : l.length = 0
  · have d1 : decide (0 < l.length) = false := decide_eq_false (by omega)
    have HJ : Hid (JC W B l (!l.isEmpty) (wx.setCell ⟨B + 1, 0, none⟩ (.bool false))) :=
      ⟨_, row_set h1 (Nat.ne_of_lt (Nat.lt_succ_self _)), by rw [show (!l.isEmpty) = false by rw [List.eq_nil_of_length_eq_zero hl]; rfl]; exact one_set h2, own_set ho (own_ty ho h2 (by decide)), hb.setCell (Nat.le_trans hB (Nat.le_succ _)) _⟩
    clear h1 h2 ho hb hr hr0 h35
    go_enter Try.func34, Try.ntmps34
    go_wp2_with (go_at_call 35; ((with_reducible refine (HT.out _).mono ?_); rintro e w1 ⟨rfl, rfl⟩))
    go_ret
    exact ⟨rfl, HJ.out⟩
  · have d1 : decide (0 < l.length) = true := decide_eq_true (by omega)
    have d2 : 0 < l.length := by omega
    have HJ : Hid (JC W B l (!l.isEmpty) (wx.setCell ⟨B + 1, 0, none⟩ (.bool true))) :=
      ⟨_, row_set h1 (Nat.ne_of_lt (Nat.lt_succ_self _)), by rw [show (!l.isEmpty) = true by cases l with | nil => simp at hl | cons a b => rfl]; exact one_set h2, own_set ho (own_ty ho h2 (by decide)), hb.setCell (Nat.le_trans hB (Nat.le_succ _)) _⟩
    clear h1 h2 ho hb hr hr0 h35 hl
    go_enter Try.func34, Try.ntmps34
    go_wp2_with (go_at_call 35; ((with_reducible refine (HT.out _).mono ?_); rintro e w1 ⟨rfl, rfl⟩))
    go_ret
    exact ⟨rfl, HJ.out⟩

/-- The row has been written anew. -/
theorem jc_put {W w1 : World} {B : Nat} (hB : W.heap.size ≤ B) {l : List UInt8} {g : Bool} {u v1 : Value} (h1 : w1.heap[B]? = some (.cells #[u] 33 (0, 0))) (h2 : w1.heap[B + 1]? = some (.cells #[.bool g] 4 (0, 0)))
    (ho : Ow w1 (W.heap.size) v1 l) (hb : Below W.heap.size W w1) : JC W B l g (w1.setCell ⟨B, 0, none⟩ v1) :=
  ⟨v1, one_set h1, row_set h2 (by omega), own_set ho (own_ty ho h1 (by decide)), hb.setCell hB _⟩
theorem jc_gap {W w1 : World} {B : Nat} (hB : W.heap.size ≤ B) {l : List UInt8} {g g2 : Bool} (h : JC W B l g w1) : JC W B l g2 (w1.setCell ⟨B + 1, 0, none⟩ (.bool g2)) := by
  obtain ⟨v, h1, h2, ho, hb⟩ := h
  exact ⟨v, row_set h1 (Nat.ne_of_lt (Nat.lt_succ_self _)), one_set h2, own_set ho (own_ty ho h2 (by decide)), hb.setCell (Nat.le_trans hB (Nat.le_succ _)) _⟩
theorem one_u8' (c : Int) : ∀ u ∈ [Value.int .u8 c], u.oneCell' = true := one_u8 c

set_option maxHeartbeats 2000000 in
set_option maxRecDepth 4000 in
theorem clean1_text (W : World) (B : Nat) (hB : W.heap.size ≤ B) (l : List UInt8) (g : Bool) (t r : ByteArray) (wx : World) (hj : JC W B l g wx) (h0 : 0 < t.size) (hts : t.size ≤ 1048576) (hll : l.length ≤ 1099511627776) (h35 : t[0] ≠ 35) (hr : r.data.toList = trim t.data.toList) (hr0 : 0 < r.size) (hrs : r.size ≤ 1048576) :
    Calls Try.prog 34 #[.string t, .pointer (some ⟨B, 0, none⟩), .pointer (some ⟨B + 1, 0, none⟩)] wx fun e w' => e = .returned (.bool true) ∧ JC W B (l ++ (if g = true then [10] else []) ++ r.data.toList ++ [10]) false w' := by
  obtain ⟨i0, hi, hz0, hz1, hz2⟩ := info_parts Try.info5
  have a1 : ((t[0].toNat : Int) == 35) = false := u8_not (n := 35) (by decide) h35
  have HT : Hid (∀ w, Calls Try.prog 35 #[.string t] w fun e w' => e = .returned (.string r) ∧ w = w') := fun w => trimmed_any t r w h0 (by omega) hr
  have he := empty_false hr0
  clear hr hr0 h35
  obtain ⟨Z, hZ⟩ : ∃ Z, Z = l ++ (if g = true then [10] else []) ++ r.data.toList ++ [10] := ⟨_, rfl⟩
  rw [← hZ]
  have HZ := Lib.hid hZ
  clear hZ
  cases g with
  | false =>
    obtain ⟨v, h1, h2, ho, hb⟩ := hj
    obtain ⟨p, cap, rfl⟩ := ho.shape
    have c0 : wx.cell? ⟨B, 0, none⟩ = some (.slice p l.length cap) := cell_of_row wx B 0 _ _ _ h1
    have c1 : wx.cell? ⟨B + 1, 0, none⟩ = some (.bool false) := cell_of_row wx (B + 1) 0 _ _ _ h2
    have f1 := frozen_of_row wx (B + 1) 0 _ _ h2
    have l2 := row_lt h2
    have H1 := Lib.hid h1
    have H2 := Lib.hid h2
    clear h1 h2
    go_enter Try.func34, Try.ntmps34
    go_upto_region 11 with (first | (go_at_call 35; ((with_reducible refine (HT.out _).mono ?_); rintro e w1 ⟨rfl, rfl⟩)) | (at_builtin; refine Lib.wpList_append_own_string _ rfl _ _ 33 9 rfl (W.heap.size) 5 i0 Try.underlying33 Try.underlying9 hi hz0 hz1 hz2 _ l.length (bcells l) rfl ho r rfl (by unfold maxLen; omega) (by omega) (by have := l2; omega) ?_; intro v1 w1 ho1 hg1 _; have ho1 := Ow.add rfl ho1; obtain ⟨M, hL⟩ : ∃ M, M = l ++ r.data.toList := ⟨_, rfl⟩; rw [← hL] at ho1; have HM := Lib.hid hL; clear hL; obtain ⟨p1, cap1, rfl⟩ := ho1.shape; have k1 := own_row ho H1.out (by decide) (by have := l2; simp; omega) hg1; have k2 := own_row ho H2.out (by decide) (by have := l2; simp; omega) hg1; have kc1 : w1.cell? ⟨B, 0, none⟩ = some _ := cell_of_row w1 B 0 _ _ _ k1; have kf1 := frozen_of_row w1 B 0 _ _ k1; have kc2 : w1.cell? ⟨B + 1, 0, none⟩ = some _ := cell_of_row w1 (B + 1) 0 _ _ _ k2; have kf2 := frozen_of_row w1 (B + 1) 0 _ _ k2; have K1 := Lib.hid k1; have K2 := Lib.hid k2; clear k1 k2))
    have hb1 : Below W.heap.size W w1 := below_own hb ho (Nat.le_refl _) hg1
    have HJ1 := Lib.hid (jc_put hB K1.out K2.out ho1 hb1)
    have hrl : M.length ≤ 2199023255552 := by rw [HM.out, List.length_append, list_len]; omega
    clear ho1 hg1 hb1 kc1 kf1 kc2 kf2 K1 K2 ho hb c0 c1 f1 H1 H2
    obtain ⟨wB, hwB⟩ : ∃ wB, wB = w1.setCell ⟨B, 0, none⟩ (.slice p1 M.length cap1) := ⟨_, rfl⟩
    rw [← hwB] at HJ1 ⊢
    clear hwB
    obtain ⟨v3, h31, h32, ho3, hb3⟩ := HJ1.out
    obtain ⟨p3, cap3, rfl⟩ := ho3.shape
    have c30 : wB.cell? ⟨B, 0, none⟩ = some (.slice p3 M.length cap3) := cell_of_row wB B 0 _ _ _ h31
    have l3 := row_lt h32
    have H31 := Lib.hid h31
    have H32 := Lib.hid h32
    clear h31 h32
    unfold Ow at ho3
    go_wp2_with (at_builtin; refine wpList_append_own _ rfl _ _ 33 rfl (W.heap.size) 5 i0 (.int .u8 0) 1 1 Try.underlying33 hi hz0 hz1 hz2 rfl (by decide) _ _ _ rfl (ho3.alloc _) ⟨wB.heap.size, 0, none⟩ 1 1 [.int .u8 10] rfl rfl (new_cell wB _ _) (one_u8 _) (by unfold maxLen; omega) (by omega) (by have := l3; simp; omega) ?_; intro v4 w4 ho4 hg4 _; obtain ⟨g4, cap4, rfl, _, _⟩ := ho4.form (by omega); have k1 := own_row (ho3.alloc _) (row_alloc H31.out (row_lt H31.out)) (by decide) (by have := l3; simp; omega) hg4; have k2 := own_row (ho3.alloc _) (row_alloc H32.out (row_lt H32.out)) (by decide) (by have := l3; simp; omega) hg4; have kc1 : w4.cell? ⟨B, 0, none⟩ = some _ := cell_of_row w4 B 0 _ _ _ k1; have kf1 := frozen_of_row w4 B 0 _ _ k1; have kc2 : w4.cell? ⟨B + 1, 0, none⟩ = some _ := cell_of_row w4 (B + 1) 0 _ _ _ k2; have kf2 := frozen_of_row w4 (B + 1) 0 _ _ k2; have K1 := Lib.hid k1; have K2 := Lib.hid k2; clear k1 k2)
    have hb4 : Below W.heap.size W w4 := below_own (below_new hb3 _) (ho3.alloc _) (Nat.le_refl _) hg4
    have HJ4 := Lib.hid (jc_put hB K1.out K2.out (Ow.one (c := 10) ho4) hb4)
    clear ho4 hg4 hb4 kc1 kf1 kc2 kf2 K1 K2 H31 H32 ho3 hb3 c30
    go_ret
    exact ⟨rfl, by rw [HZ.out, if_neg (by decide), List.append_nil, ← HM.out]; exact HJ4.out⟩
  | true =>
    obtain ⟨v, h1, h2, ho, hb⟩ := hj
    obtain ⟨p, cap, rfl⟩ := ho.shape
    have c0 : wx.cell? ⟨B, 0, none⟩ = some (.slice p l.length cap) := cell_of_row wx B 0 _ _ _ h1
    have c1 : wx.cell? ⟨B + 1, 0, none⟩ = some (.bool true) := cell_of_row wx (B + 1) 0 _ _ _ h2
    have l2 := row_lt h2
    have H1 := Lib.hid h1
    have H2 := Lib.hid h2
    clear h1 h2
    unfold Ow at ho
    go_enter Try.func34, Try.ntmps34
    go_upto_region 9 with (first | (go_at_call 35; ((with_reducible refine (HT.out _).mono ?_); rintro e w1 ⟨rfl, rfl⟩)) | (at_builtin; refine wpList_append_own _ rfl _ _ 33 rfl (W.heap.size) 5 i0 (.int .u8 0) 1 1 Try.underlying33 hi hz0 hz1 hz2 rfl (by decide) _ _ _ rfl (ho.alloc _) ⟨wx.heap.size, 0, none⟩ 1 1 [.int .u8 10] rfl rfl (new_cell wx _ _) (one_u8 _) (by unfold maxLen; omega) (by omega) (by have := l2; simp; omega) ?_; intro v4 w4 ho4 hg4 _; obtain ⟨g4, cap4, rfl, _, _⟩ := ho4.form (by omega); have k1 := own_row (ho.alloc _) (row_alloc H1.out (row_lt H1.out)) (by decide) (by have := l2; simp; omega) hg4; have k2 := own_row (ho.alloc _) (row_alloc H2.out (row_lt H2.out)) (by decide) (by have := l2; simp; omega) hg4; have kc1 : w4.cell? ⟨B, 0, none⟩ = some _ := cell_of_row w4 B 0 _ _ _ k1; have kf1 := frozen_of_row w4 B 0 _ _ k1; have kc2 : w4.cell? ⟨B + 1, 0, none⟩ = some _ := cell_of_row w4 (B + 1) 0 _ _ _ k2; have kf2 := frozen_of_row w4 (B + 1) 0 _ _ k2; have K1 := Lib.hid k1; have K2 := Lib.hid k2; clear k1 k2))
    have hb4 : Below W.heap.size W w4 := below_own (below_new hb _) (ho.alloc _) (Nat.le_refl _) hg4
    have ho5 : Ow w4 (W.heap.size) _ (l ++ [10]) := Ow.one (c := 10) ho4
    have HJ0 := Lib.hid (jc_put hB K1.out K2.out ho5 hb4)
    clear ho4 ho5 hg4 hb4 kc1 kf1 kc2 kf2 K1 K2 H1 H2 ho hb c0 c1
    obtain ⟨wA, hwA⟩ : ∃ wA, wA = w4.setCell ⟨B, 0, none⟩ (.slice (some ⟨g4, 0, none⟩) (l.length + 1) cap4) := ⟨_, rfl⟩
    rw [← hwA] at HJ0 ⊢
    clear hwA
    obtain ⟨L, hL⟩ : ∃ L, L = l ++ [10] := ⟨_, rfl⟩
    rw [← hL] at HJ0
    have hL2 : L.length ≤ 1099511627777 := by rw [hL]; simp; omega
    have HL := Lib.hid hL
    clear hL
    have c1 : wA.cell? ⟨B + 1, 0, none⟩ = some (.bool true) := by obtain ⟨v, h1, h2, ho, hb⟩ := HJ0.out; exact cell_of_row wA (B + 1) 0 _ _ _ h2
    have f1 : wA.frozen? ⟨B + 1, 0, none⟩ = false := by obtain ⟨v, h1, h2, ho, hb⟩ := HJ0.out; exact frozen_of_row wA (B + 1) 0 _ _ h2
    go_upto_region 10 with fail
    obtain ⟨wC, hwC⟩ : ∃ wC, wC = wA.setCell ⟨B + 1, 0, none⟩ (.bool false) := ⟨_, rfl⟩
    have HJC : Hid (JC W B L false wC) := by rw [hwC]; exact jc_gap hB HJ0.out
    rw [← hwC]
    clear hwC c1 f1 HJ0
    obtain ⟨v, h1, h2, ho, hb⟩ := HJC.out
    obtain ⟨p, cap, rfl⟩ := ho.shape
    have c0 : wC.cell? ⟨B, 0, none⟩ = some (.slice p L.length cap) := cell_of_row wC B 0 _ _ _ h1
    have l2 := row_lt h2
    have H1 := Lib.hid h1
    have H2 := Lib.hid h2
    clear h1 h2
    go_upto_region 11 with (at_builtin; refine Lib.wpList_append_own_string _ rfl _ _ 33 9 rfl (W.heap.size) 5 i0 Try.underlying33 Try.underlying9 hi hz0 hz1 hz2 _ L.length (bcells L) rfl ho r rfl (by unfold maxLen; omega) (by omega) (by have := l2; omega) ?_; intro v1 w1 ho1 hg1 _; have ho1 := Ow.add rfl ho1; obtain ⟨M, hL⟩ : ∃ M, M = L ++ r.data.toList := ⟨_, rfl⟩; rw [← hL] at ho1; have HM := Lib.hid hL; clear hL; obtain ⟨p1, cap1, rfl⟩ := ho1.shape; have k1 := own_row ho H1.out (by decide) (by have := l2; simp; omega) hg1; have k2 := own_row ho H2.out (by decide) (by have := l2; simp; omega) hg1; have kc1 : w1.cell? ⟨B, 0, none⟩ = some _ := cell_of_row w1 B 0 _ _ _ k1; have kf1 := frozen_of_row w1 B 0 _ _ k1; have kc2 : w1.cell? ⟨B + 1, 0, none⟩ = some _ := cell_of_row w1 (B + 1) 0 _ _ _ k2; have kf2 := frozen_of_row w1 (B + 1) 0 _ _ k2; have K1 := Lib.hid k1; have K2 := Lib.hid k2; clear k1 k2)
    have hb1 : Below W.heap.size W w1 := below_own hb ho (Nat.le_refl _) hg1
    have HJ1 := Lib.hid (jc_put hB K1.out K2.out ho1 hb1)
    have hrl : M.length ≤ 2199023255552 := by rw [HM.out, List.length_append, list_len]; omega
    clear ho1 hg1 hb1 kc1 kf1 kc2 kf2 K1 K2 ho hb c0 H1 H2 HJC
    obtain ⟨wB, hwB⟩ : ∃ wB, wB = w1.setCell ⟨B, 0, none⟩ (.slice p1 M.length cap1) := ⟨_, rfl⟩
    rw [← hwB] at HJ1 ⊢
    clear hwB
    obtain ⟨v3, h31, h32, ho3, hb3⟩ := HJ1.out
    obtain ⟨p3, cap3, rfl⟩ := ho3.shape
    have c30 : wB.cell? ⟨B, 0, none⟩ = some (.slice p3 M.length cap3) := cell_of_row wB B 0 _ _ _ h31
    have l3 := row_lt h32
    have H31 := Lib.hid h31
    have H32 := Lib.hid h32
    clear h31 h32
    unfold Ow at ho3
    go_wp2_with (at_builtin; refine wpList_append_own _ rfl _ _ 33 rfl (W.heap.size) 5 i0 (.int .u8 0) 1 1 Try.underlying33 hi hz0 hz1 hz2 rfl (by decide) _ _ _ rfl (ho3.alloc _) ⟨wB.heap.size, 0, none⟩ 1 1 [.int .u8 10] rfl rfl (new_cell wB _ _) (one_u8 _) (by unfold maxLen; omega) (by omega) (by have := l3; simp; omega) ?_; intro v4 w4 ho4 hg4 _; obtain ⟨g4, cap4, rfl, _, _⟩ := ho4.form (by omega); have k1 := own_row (ho3.alloc _) (row_alloc H31.out (row_lt H31.out)) (by decide) (by have := l3; simp; omega) hg4; have k2 := own_row (ho3.alloc _) (row_alloc H32.out (row_lt H32.out)) (by decide) (by have := l3; simp; omega) hg4; have kc1 : w4.cell? ⟨B, 0, none⟩ = some _ := cell_of_row w4 B 0 _ _ _ k1; have kf1 := frozen_of_row w4 B 0 _ _ k1; have kc2 : w4.cell? ⟨B + 1, 0, none⟩ = some _ := cell_of_row w4 (B + 1) 0 _ _ _ k2; have kf2 := frozen_of_row w4 (B + 1) 0 _ _ k2; have K1 := Lib.hid k1; have K2 := Lib.hid k2; clear k1 k2)
    have hb4 : Below W.heap.size W w4 := below_own (below_new hb3 _) (ho3.alloc _) (Nat.le_refl _) hg4
    have HJ4 := Lib.hid (jc_put hB K1.out K2.out (Ow.one (c := 10) ho4) hb4)
    clear ho4 hg4 hb4 kc1 kf1 kc2 kf2 K1 K2 H31 H32 ho3 hb3 c30
    go_ret
    exact ⟨rfl, by rw [HZ.out, if_pos trivial, ← HL.out, ← HM.out]; exact HJ4.out⟩

set_option maxHeartbeats 2000000 in
set_option maxRecDepth 4000 in
theorem clean_any (s r : ByteArray) (W : World) (hs : s.size ≤ 1048576) (hr : r.data.toList = clean s.data.toList) :
    Calls Try.prog 26 #[.string s] W fun e w' => e = .returned (.string r) ∧ Below W.heap.size W w' := by
  obtain ⟨i0, hi, hz0, hz1, hz2⟩ := info_parts Try.info5
  have HF : ∀ B, W.heap.size ≤ B → Hid (∀ (done : List (List UInt8)) (t : ByteArray) (wx : World), (fun done w => JC W B (cfold done).1 (cfold done).2 w) done wx → 0 < t.size → t.size ≤ s.size → done.length < s.size → (join done).length + t.size ≤ s.size → Calls Try.prog 34 #[.string t, .pointer (some ⟨B, 0, none⟩), .pointer (some ⟨B + 1, 0, none⟩)] wx fun e w' => e = .returned (.bool ((fun _ => true) t.data.toList)) ∧ (fun done w => JC W B (cfold done).1 (cfold done).2 w) (done ++ [t.data.toList]) w') := by
    intro B hB done t wx hj h0 h1 h2 h3
    have hj' : JC W B (cfold done).1 (cfold done).2 wx := hj
    have hcl := cfold_len done
    show Calls _ _ _ _ fun e w' => e = .returned (.bool true) ∧ JC W B (cfold (done ++ [t.data.toList])).1 (cfold (done ++ [t.data.toList])).2 w'
    rw [cfold_snoc]
    have hh := head_at t h0
    by_cases h35 : t[0] = 35
    · rw [cstep_note (by rw [hh, h35])]
      exact clean1_note W B hB _ _ t wx hj' h0 h35
    · have hh2 : t.data.toList.head? ≠ some 35 := by rw [hh]; simpa using h35
      have htl := trim_len t.data.toList
      rw [list_len] at htl
      obtain ⟨q, hq⟩ : ∃ q, q = str (trim t.data.toList) := ⟨_, rfl⟩
      have hql : q.data.toList = trim t.data.toList := by rw [hq, str_list]
      have hqs : q.size = (trim t.data.toList).length := by rw [hq, str_size]
      by_cases hb : trim t.data.toList = []
      · rw [cstep_blank hh2 hb]
        exact clean1_blank W B hB _ _ t q wx hj' h0 (by omega) h35 hql (by rw [hqs, hb]; rfl)
      · rw [cstep_text hh2 hb, ← hql]
        exact clean1_text W B hB _ _ t q wx hj' h0 (by omega) (by omega) h35 hql (by rw [hqs]; cases h : trim t.data.toList with | nil => exact absurd h hb | cons a b => simp) (by omega)
  have hmf := make_fun Try.prog
  have HN : Hid (str (cfold (split s.data.toList)).1 = r) := ba_ext (by rw [str_list]; exact hr.symm)
  have i1 : IntKind.i64.wrap ((s.size : Int) + 1) = (s.size : Int) + 1 := IntWalk.i64_in _ (by omega)
  clear hr
  go_enter Try.func26, Try.ntmps26
  go_upto_region 2 with (at_make; refine wpList_make_own _ rfl _ _ 33 rfl W.heap.size 5 i0 (.int .u8 0) 1 Try.underlying33 hi hz0 hz1 _ _ _ (s.size + 1) rfl rfl (by omega) (by rw [hz2]; omega) (by unfold maxLen; omega) (Nat.le_refl _) ?_; intro w1 hown1 hgrow1)
  have hb1 : Below W.heap.size W w1 := (Below.refl _ _).grown hgrow1 (Nat.le_refl _) (by simp)
  have ho1 : Ow w1 W.heap.size (.slice (some ⟨W.heap.size, 0, none⟩) 0 (s.size + 1)) [] := hown1
  have hsz := hb1.size
  have HJ0 : Hid (JC W w1.heap.size [] false ((w1.alloc (.cells #[.slice (some ⟨W.heap.size, 0, none⟩) 0 (s.size + 1)] 33)).alloc (.cells #[.bool false] 4))) := by
    refine ⟨_, row_alloc (heap_alloc_new w1 _) (by simp), ?_, (ho1.alloc _).alloc _, (hb1.alloc hsz _).alloc (by simp; omega) _⟩
    have := heap_alloc_new (w1.alloc (.cells #[.slice (some ⟨W.heap.size, 0, none⟩) 0 (s.size + 1)] 33)) (.cells #[.bool false] 4 (0, 0))
    simpa using this
  have HFB := HF w1.heap.size hsz
  clear hown1 hgrow1 ho1 hb1 HF
  go_wp2_with (go_at_call 29; refine (visit_clean s w1.heap.size (w1.heap.size + 1) (fun _ => true) (fun done w => JC W w1.heap.size (cfold done).1 (cfold done).2 w) _ hs HFB HJ0.out).mono ?_; rintro e w2 ⟨rfl, hj⟩; rw [upto_all] at hj; obtain ⟨v, h1, h2, ho, hb⟩ := hj; have c0 : w2.cell? ⟨w1.heap.size, 0, none⟩ = some v := cell_of_row w2 w1.heap.size 0 _ _ _ h1; have hcv : (convert 33 9 v).run Try.prog w2 = .ok (.string r) w2 := by rw [← HN.out]; exact conv_owned (P := Try.prog) 33 9 5 Try.underlying33 Try.underlying5 Try.underlying9 ho)
  go_ret
  exact ⟨rfl, hb⟩
end Go.Proofs.Ythfnnbeaggkhkab
