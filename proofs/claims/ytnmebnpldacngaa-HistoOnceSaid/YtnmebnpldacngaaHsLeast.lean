/-
  The walks of the histogram's least, of the test for a rare line, and of better.
-/
import Derived.Test.YtnmebnpldacngaaHsHist
namespace Go.Proofs.Ytnmebnpldacngaa
open Go.RowKit Go.Maps Go.WideMaps

/-- The smallest frequency of a common line, or 65. -/
def lst65 (a b : List Nat) : Nat := b.foldl (fun m x => if 0 < a.count x then min m (a.count x) else m) 65
theorem lst65_snoc (a b : List Nat) (x : Nat) : lst65 a (b ++ [x]) = if 0 < a.count x then min (lst65 a b) (a.count x) else lst65 a b := by simp [lst65, List.foldl_append]
theorem lst65_le (a : List Nat) : ∀ b, lst65 a b ≤ 65 := by
  intro b
  unfold lst65
  suffices h : ∀ (b : List Nat) (m : Nat), b.foldl (fun m x => if 0 < a.count x then min m (a.count x) else m) m ≤ m from h b 65
  intro b
  induction b with
  | nil => exact fun m => Nat.le_refl _
  | cons x b ih =>
    intro m
    rw [List.foldl_cons]
    refine Nat.le_trans (ih _) ?_
    split <;> omega
/-- What is known of a histogram in memory. -/
structure HsM (w : World) (a : List Nat) (M n : Nat) (D : DataW Unit) : Prop where
  map : Mh w M n D
  is : IsH D a n
  len : n = a.length
  few : n ≤ 1048576
theorem HsM.below {w w' : World} {a : List Nat} {M n : Nat} {D : DataW Unit} (h : HsM w a M n D) (hb : Below w.heap.size w w') : HsM w' a M n D := by
  refine ⟨h.map.kept (row := none) ⟨hb.os, hb.tape, hb.output, hb.size, fun j hj _ => hb.block j hj⟩ (by simp), h.is, h.len, h.few⟩
/-- A look-up of a number in the histogram. -/
theorem HsM.look {w : World} {a : List Nat} {M n : Nat} {D : DataW Unit} (h : HsM w a M n D) (x : Nat) :
    D.atKey (nk x) (en 0 0) = en (a.count x : Nat) (if 0 < a.count x then lastP a x n else 0) := by
  have h1 := h.is.look x
  rw [List.take_of_length_le (by rw [h.len]; exact Nat.le_refl _)] at h1
  rcases h1 with ⟨h0, _, h2⟩ | ⟨h0, _, _, h2⟩
  · rw [h2, if_pos h0]
  · rw [h2, h0]; rfl

theorem ent_count (c l : Int) (w : World) : (Instr.field 80 (.agg #[.int .i64 c, .int .i64 l]) 0).run Try.prog w = .ok (.int .i64 c) w := by kernel_rfl
theorem ent_last (c l : Int) (w : World) : (Instr.field 80 (.agg #[.int .i64 c, .int .i64 l]) 1).run Try.prog w = .ok (.int .i64 l) w := by kernel_rfl
set_option maxHeartbeats 2000000 in
set_option maxRecDepth 4000 in
theorem hleast_any (a b : List Nat) (M n m c L : Nat) (D : DataW Unit) (s : Value) (p : Option Addr) (w : World) (hm : m = b.length) (hp : NRw w p b) (hb : ∀ x ∈ b, x ≤ 1048576) (hh : HsM w a M n D) (hl : m ≤ 1048576) (hL : L = lst65 a b) :
    Calls Try.prog 47 #[.agg #[.map (some M), s], .slice p m c] w fun e w' => e = .returned (.tuple #[.int .i64 L, .bool (decide (L ≤ 64))]) ∧ Below w.heap.size w w' := by
  have HN := Lib.hid hm
  have HP := Lib.hid hp
  have HB := Lib.hid hb
  have HH := Lib.hid hh
  have HL := Lib.hid hL
  clear hm hp hb hh hL
  have hfc := ent_count
  go_enter Try.func47, Try.ntmps47
  go_upto_region 1 with fail
  obtain ⟨w1, hw1⟩ : ∃ w1, w1 = w.alloc (.cells #[.map (some M), s] 76) := ⟨_, rfl⟩
  rw [← hw1]
  obtain ⟨S, hS⟩ : ∃ S, S = w.heap.size := ⟨_, rfl⟩
  rw [← hS]
  have hb1 : Below w.heap.size w w1 := by rw [hw1]; exact below_new (Below.refl _ _) _
  have cm : w1.cell? ⟨S, 0, none⟩ = some (.map (some M)) := by rw [hw1, hS]; exact cell_of_row _ _ 0 _ _ _ (heap_alloc_new w _)
  have HB1 := Lib.hid hb1
  clear hw1 hS hb1
  have hM := (HH.out.below HB1.out).map
  go_wp2_with fail
  go_loopw [6, 12] (fun lv iv wr => ∃ (k l : Nat), k ≤ m ∧ iv = .int .i64 k ∧ lv = .int .i64 l ∧ l ≤ 65 ∧ wr = w1 ∧ Hid (l = lst65 a (b.take k))) (fun _ iv _ => m - (intOf iv).toNat)
  case atStart => exact ⟨0, 65, by omega, rfl, rfl, by omega, rfl, rfl⟩
  case round =>
    obtain ⟨k, l, hk, rfl, rfl, hl65, rfl, HX⟩ := hrel
    by_cases hlt : k < m
    · have hkl : k < b.length := by rw [← HN.out]; exact hlt
      obtain ⟨g, o, rfl, hg, hc⟩ := (HP.out.below HB1.out) k hkl
      have hbx := HB.out _ (List.getElem_mem hkl)
      have hnext : lst65 a (b.take (k + 1)) = if 0 < a.count b[k] then min (lst65 a (b.take k)) (a.count b[k]) else lst65 a (b.take k) := by rw [List.take_succ_eq_append_getElem hkl, lst65_snoc]
      obtain ⟨x, hx⟩ : ∃ x, x = b[k] := ⟨_, rfl⟩
      rw [← hx] at hc hbx hnext
      have hkey := nk_key (x := x) (by omega)
      obtain ⟨K, hK⟩ : ∃ K, K = nk x := ⟨_, rfl⟩
      have hlook := HH.out.look x
      have hcn : a.count x ≤ a.length := List.count_le_length
      rw [← HH.out.len] at hcn
      have hfew := HH.out.few
      obtain ⟨C, hC⟩ : ∃ C, C = a.count x := ⟨_, rfl⟩
      obtain ⟨Z, hZ⟩ : ∃ Z, Z = (if 0 < a.count x then lastP a x n else 0) := ⟨_, rfl⟩
      rw [← hZ] at hlook
      rw [← hC] at hlook hnext hcn
      rw [← hK] at hlook hkey
      have HLK := Lib.hid hlook
      rw [← HX.out] at hnext
      have hC64 : C ≤ 1048576 := by omega
      by_cases h0 : 0 < C
      · rw [if_pos h0] at hnext
        obtain ⟨l', hl'⟩ : ∃ l', l' = min l C := ⟨_, rfl⟩
        rw [← hl'] at hnext
        have hmin : (if C < l then (C : Int) else (l : Int)) = (l' : Int) := by rw [hl']; split <;> omega
        have hl5 : l' ≤ 65 := by omega
        have HNX := Lib.hid hnext.symm
        clear hnext hl' hlook hC hZ hK hx hg HX hcn hkl hfew
        go_wp2_with (at_lookup; refine wpList_look_ent rfl _ _ rfl M n D rfl hM _ _ rfl hkey ?_; intro c0 l0 hat; obtain ⟨rfl, rfl⟩ := en_inj (HLK.out.symm.trans hat); clear hat)
        go_roundw
        case rel => exact ⟨k + 1, l', by omega, by go_num, rfl, hl5, trivial, HNX⟩
        case measure => simp [intOf]; omega
      · rw [if_neg h0] at hnext
        obtain rfl : C = 0 := by omega
        have HNX := Lib.hid hnext.symm
        clear hnext hlook hC hZ hK hx hg HX hcn hkl h0 hC64 hfew
        go_wp2_with (at_lookup; refine wpList_look_ent rfl _ _ rfl M n D rfl hM _ _ rfl hkey ?_; intro c0 l0 hat; obtain ⟨rfl, rfl⟩ := en_inj (HLK.out.symm.trans hat); clear hat)
        go_roundw
        case rel => exact ⟨k + 1, l, by omega, by go_num, rfl, hl65, trivial, HNX⟩
        case measure => simp [intOf]; omega
    · have HX2 : Hid (L = l) := by
        show _ = _
        rw [HL.out, HX.out, List.take_of_length_le (by have := HN.out; omega)]
      clear HX hM cm
      go_wp2_with fail
      go_ret2
      exact ⟨by rw [HX2.out, show decide (l ≤ 64) = decide ((l : Int) ≤ 64) from decide_eq_decide.mpr (by omega)]; rfl, HB1.out⟩

set_option maxHeartbeats 1000000 in
set_option maxRecDepth 4000 in
theorem rare_any (a : List Nat) (M n H B x L : Nat) (R : Bool) (D : DataW Unit) (w : World) (hh : HsM w a M n D) (hx : x ≤ 1048576) (hc : w.cell? ⟨H, 0, none⟩ = some (.map (some M))) (hl : w.cell? ⟨B, 0, none⟩ = some (.int .i64 (L : Int))) (hR : R = decide (a.count x = L)) :
    Calls Try.prog 48 #[.int .i64 (x : Int), .pointer (some ⟨H, 0, none⟩), .pointer (some ⟨B, 0, none⟩)] w fun e w' => e = .returned (.bool R) ∧ w = w' := by
  have hkey := nk_key (x := x) (by omega)
  have hlook := hh.look x
  obtain ⟨K, hK⟩ : ∃ K, K = nk x := ⟨_, rfl⟩
  obtain ⟨C, hC⟩ : ∃ C, C = a.count x := ⟨_, rfl⟩
  obtain ⟨Z, hZ⟩ : ∃ Z, Z = (if 0 < a.count x then lastP a x n else 0) := ⟨_, rfl⟩
  rw [← hZ, ← hC, ← hK] at hlook
  rw [← hK] at hkey
  have HLK := Lib.hid hlook
  have hM := hh.map
  have hfc := ent_count
  have HR : Hid (((C : Int) == (L : Int)) = R) := by
    show _ = _
    rw [hR, ← hC]
    by_cases h : C = L
    · rw [decide_eq_true h, eqN h]
    · rw [decide_eq_false h, neN h]
  clear hlook hK hC hZ hh hR
  go_enter Try.func48, Try.ntmps48
  go_wp2_with (at_lookup; refine wpList_look_ent rfl _ _ rfl M n D rfl hM _ _ rfl hkey ?_; intro c0 l0 hat; obtain ⟨rfl, rfl⟩ := en_inj (HLK.out.symm.trans hat); clear hat)
  go_ret
  exact ⟨ret_bool HR.out, rfl⟩
def Ru.val (r : Ru) : Value := .agg #[.int .i64 (r.a : Int), .int .i64 (r.b : Int), .int .i64 (r.n : Int)]
theorem box6 (w : World) (a b c a' b' c' : Value) (t : TypeId) {W : World} (h : W = (w.alloc (.cells #[a, b, c] t)).alloc (.cells #[a', b', c'] t)) :
    W.cell? ⟨w.heap.size, 0, none⟩ = some a ∧ W.cell? ⟨w.heap.size, 1, none⟩ = some b ∧ W.cell? ⟨w.heap.size, 2, none⟩ = some c ∧ W.cell? ⟨w.heap.size + 1, 0, none⟩ = some a' ∧ W.cell? ⟨w.heap.size + 1, 1, none⟩ = some b' ∧ W.cell? ⟨w.heap.size + 1, 2, none⟩ = some c' ∧ Below w.heap.size w W := by
  have h1 := heap_alloc_new w (.cells #[a, b, c] t)
  have h2 := heap_alloc_new (w.alloc (.cells #[a, b, c] t)) (.cells #[a', b', c'] t)
  rw [show (w.alloc (.cells #[a, b, c] t)).heap.size = w.heap.size + 1 by simp] at h2
  have h3 := row_alloc (o' := .cells #[a', b', c'] t) h1 (row_lt h1)
  rw [← h] at h2 h3
  exact ⟨cell_of_row _ _ 0 _ _ _ h3, cell_of_row _ _ 1 _ _ _ h3, cell_of_row _ _ 2 _ _ _ h3, cell_of_row _ _ 0 _ _ _ h2, cell_of_row _ _ 1 _ _ _ h2, cell_of_row _ _ 2 _ _ _ h2, by rw [h]; exact below_new (below_new (Below.refl _ _) _) _⟩
theorem b3_val (x y : Ru) : (((x.n : Int) != (y.n : Int)) = true ∧ b3 x y = decide ((y.n : Int) < (x.n : Int))) ∨ (((x.n : Int) != (y.n : Int)) = false ∧ ((((x.a : Int) != (y.a : Int)) = true ∧ b3 x y = decide ((x.a : Int) < (y.a : Int))) ∨ (((x.a : Int) != (y.a : Int)) = false ∧ b3 x y = decide ((x.b : Int) < (y.b : Int))))) := by
  unfold b3
  by_cases h1 : x.n = y.n
  · right
    refine ⟨by simp [h1], ?_⟩
    rw [if_neg (by omega)]
    by_cases h2 : x.a = y.a
    · right
      refine ⟨by simp [h2], ?_⟩
      rw [if_neg (by omega)]
      exact decide_eq_decide.mpr (by omega)
    · left
      refine ⟨bne_iff_ne.mpr (by omega), ?_⟩
      rw [if_pos h2]
      exact decide_eq_decide.mpr (by omega)
  · left
    refine ⟨bne_iff_ne.mpr (by omega), ?_⟩
    rw [if_pos h1]
    exact decide_eq_decide.mpr (by omega)
set_option maxHeartbeats 1000000 in
set_option maxRecDepth 4000 in
theorem better_any (x y : Ru) (R : Bool) (w : World) (hR : R = b3 x y) :
    Calls Try.prog 50 #[x.val, y.val] w fun e w' => e = .returned (.bool R) ∧ Below w.heap.size w w' := by
  have hb := b3_val x y
  rw [← hR] at hb
  obtain ⟨xa, xb, xn⟩ := x
  obtain ⟨ya, yb, yn⟩ := y
  simp only [Ru.val] at hb ⊢
  clear hR
  rcases hb with ⟨h1, h2⟩ | ⟨h1, ⟨h2, h3⟩ | ⟨h2, h3⟩⟩
  · have HR := Lib.hid h2.symm
    clear h2
    go_enter Try.func50, Try.ntmps50
    go_upto_region 1 with fail
    obtain ⟨W, hW⟩ : ∃ W, W = (w.alloc (.cells #[.int .i64 xa, .int .i64 xb, .int .i64 xn] 30)).alloc (.cells #[.int .i64 ya, .int .i64 yb, .int .i64 yn] 30) := ⟨_, rfl⟩
    obtain ⟨c0, c1, c2, d0, d1, d2, hb⟩ := box6 _ _ _ _ _ _ _ _ hW
    rw [← hW]
    have HB := Lib.hid hb
    clear hW hb
    go_wp2_with fail
    go_ret
    exact ⟨ret_bool ((decide_eq_decide.mpr (by omega)).trans HR.out), HB.out⟩
  · have HR := Lib.hid h3.symm
    clear h3
    go_enter Try.func50, Try.ntmps50
    go_upto_region 1 with fail
    obtain ⟨W, hW⟩ : ∃ W, W = (w.alloc (.cells #[.int .i64 xa, .int .i64 xb, .int .i64 xn] 30)).alloc (.cells #[.int .i64 ya, .int .i64 yb, .int .i64 yn] 30) := ⟨_, rfl⟩
    obtain ⟨c0, c1, c2, d0, d1, d2, hb⟩ := box6 _ _ _ _ _ _ _ _ hW
    rw [← hW]
    have HB := Lib.hid hb
    clear hW hb
    go_wp2_with fail
    go_ret
    exact ⟨ret_bool ((decide_eq_decide.mpr (by omega)).trans HR.out), HB.out⟩
  · have HR := Lib.hid h3.symm
    clear h3
    go_enter Try.func50, Try.ntmps50
    go_upto_region 1 with fail
    obtain ⟨W, hW⟩ : ∃ W, W = (w.alloc (.cells #[.int .i64 xa, .int .i64 xb, .int .i64 xn] 30)).alloc (.cells #[.int .i64 ya, .int .i64 yb, .int .i64 yn] 30) := ⟨_, rfl⟩
    obtain ⟨c0, c1, c2, d0, d1, d2, hb⟩ := box6 _ _ _ _ _ _ _ _ hW
    rw [← hW]
    have HB := Lib.hid hb
    clear hW hb
    go_wp2_with fail
    go_ret
    exact ⟨ret_bool ((decide_eq_decide.mpr (by omega)).trans HR.out), HB.out⟩
end Go.Proofs.Ytnmebnpldacngaa
