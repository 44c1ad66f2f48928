/-
  The walks of the reference's Count, rare, better.
-/
import Derived.Test.YtnmebnpldacngaaHsLives
namespace Go.Proofs.Ytnmebnpldacngaa
open Go.RowKit

set_option maxHeartbeats 1000000 in
set_option maxRecDepth 4000 in
theorem rcount_any (la : List (List UInt8)) (s : List UInt8) (p : Option Addr) (c n C : Nat) (w : World) (hn : n = la.length) (hp : SRw w p la) (hl : n ≤ 1048576) (hC : C = la.count s) :
    Calls Try.prog 16 #[.slice p n c, .string (str s)] w fun e w' => e = .returned (.int .i64 (C : Int)) ∧ w = w' := by
  have HN := Lib.hid hn
  have HC := Lib.hid hC
  have HP := Lib.hid hp
  obtain ⟨t, ht⟩ : ∃ t, t = str s := ⟨_, rfl⟩
  have HT := Lib.hid ht
  rw [← ht]
  clear hn hC hp ht
  go_enter Try.func16, Try.ntmps16
  go_wp2
  go_loopw [5, 6] (fun cv iv wr => ∃ k x : Nat, k ≤ n ∧ iv = .int .i64 k ∧ cv = .int .i64 x ∧ x ≤ k ∧ wr = w ∧ Hid (x = (la.take k).count s)) (fun _ iv _ => n - (intOf iv).toNat)
  case atStart => exact ⟨0, 0, by omega, rfl, rfl, Nat.le_refl _, rfl, rfl⟩
  case round =>
    obtain ⟨k, x, hk, rfl, rfl, hxk, rfl, HX⟩ := hrel
    by_cases hlt : k < n
    · have hkl : k < la.length := by rw [← HN.out]; exact hlt
      obtain ⟨g, o, rfl, hg, a0⟩ := HP.out k hkl
      have hnx : (la.take (k + 1)).count s = (la.take k).count s + if la[k] = s then 1 else 0 := by rw [List.take_succ_eq_append_getElem hkl, count_snoc]
      by_cases he : la[k] = s
      · rw [if_pos he, ← HX.out] at hnx
        have HNX := Lib.hid hnx.symm
        obtain ⟨e1, -⟩ := str_is he
        obtain ⟨u, hu⟩ : ∃ u, u = str la[k] := ⟨_, rfl⟩
        rw [← hu] at a0 e1
        rw [← HT.out] at e1
        clear hu he hkl hnx HX hg
        go_wp2
        go_roundw
        case rel => exact ⟨k + 1, x + 1, by omega, by go_num, by go_num, by omega, trivial, HNX⟩
        case measure => simp [intOf]; omega
      · rw [if_neg he, ← HX.out, Nat.add_zero] at hnx
        have HNX := Lib.hid hnx.symm
        obtain ⟨e1, -⟩ := str_ne he
        obtain ⟨u, hu⟩ : ∃ u, u = str la[k] := ⟨_, rfl⟩
        rw [← hu] at a0 e1
        rw [← HT.out] at e1
        clear hu he hkl hnx HX hg
        go_wp2
        go_roundw
        case rel => exact ⟨k + 1, x, by omega, by go_num, rfl, by omega, trivial, HNX⟩
        case measure => simp [intOf]; omega
    · have HE : Hid (C = x) := by show _ = _; rw [HC.out, HX.out, List.take_of_length_le (by have := HN.out; omega)]
      clear HX
      go_wp2
      go_ret
      exact ⟨by rw [HE.out]; rfl, rfl⟩
def rrk (a : List (List UInt8)) (i k : Nat) : Nat := ((a.drop i).take k).foldl (fun m x => min m (a.count x)) a.length
theorem rrk_zero (a : List (List UInt8)) (i : Nat) : rrk a i 0 = a.length := by simp [rrk]
theorem rrk_succ (a : List (List UInt8)) (i k : Nat) (h : i + k < a.length) : rrk a i (k + 1) = min (rrk a i k) (a.count a[i + k]) := by
  unfold rrk
  rw [List.take_succ_eq_append_getElem (by rw [List.length_drop]; omega), List.foldl_append, List.foldl_cons, List.foldl_nil, List.getElem_drop]
theorem rrk_le (a : List (List UInt8)) (i k : Nat) : rrk a i k ≤ a.length := by
  unfold rrk
  generalize (a.drop i).take k = l
  generalize a.length = m
  induction l generalizing m with
  | nil => exact Nat.le_refl _
  | cons x l ih => exact Nat.le_trans (ih _) (Nat.min_le_left _ _)
set_option maxHeartbeats 1000000 in
set_option maxRecDepth 4000 in
theorem rrare_any (la : List (List UInt8)) (i l : Nat) (x : Int) (p : Option Addr) (c n R : Nat) (w : World) (hn : n = la.length) (hp : SRw w p la) (hl : n ≤ 1048576) (hi : i + l ≤ n) (hR : R = rrk la i l) :
    Calls Try.prog 30 #[.slice p n c, .agg #[.int .i64 (i : Int), .int .i64 x, .int .i64 (l : Int)]] w fun e w' => e = .returned (.int .i64 (R : Int)) ∧ Below w.heap.size w w' := by
  obtain ⟨w1, hw1⟩ : ∃ w1, w1 = w.alloc (.cells #[.int .i64 (i : Int), .int .i64 x, .int .i64 (l : Int)] 30) := ⟨_, rfl⟩
  obtain ⟨S, hS⟩ : ∃ S, S = w.heap.size := ⟨_, rfl⟩
  have hb1 : Below w.heap.size w w1 := by rw [hw1]; exact below_new (Below.refl _ _) _
  have hrow : w1.heap[S]? = some (.cells #[.int .i64 (i : Int), .int .i64 x, .int .i64 (l : Int)] 30 (0, 0)) := by rw [hw1, hS]; exact heap_alloc_new w _
  have z0 := cell_of_row w1 S 0 _ _ _ hrow
  have z2 := cell_of_row w1 S 2 _ _ _ hrow
  have HP := Lib.hid (hp.below hb1)
  have HB1 := Lib.hid hb1
  have HW1 := Lib.hid hw1
  have HS := Lib.hid hS
  have HN := Lib.hid hn
  have HR := Lib.hid hR
  have HZ := Lib.hid (rrk_zero la i)
  have HCN : Hid (∀ (s : List UInt8) (C : Nat), C = la.count s → Calls Try.prog 16 #[.slice p n c, .string (str s)] w1 fun e w' => e = .returned (.int .i64 (C : Int)) ∧ w1 = w') := fun s C hC => rcount_any la s p c n C w1 hn (hp.below hb1) hl hC
  clear hn hp hR hrow hb1 hw1 hS
  go_enter Try.func30, Try.ntmps30
  go_upto_region 1 with fail
  rw [← HW1.out, ← HS.out]
  go_wp2_with fail
  go_loopw [5, 6] (fun lv iv wr => ∃ k m : Nat, k ≤ l ∧ iv = .int .i64 k ∧ lv = .int .i64 m ∧ m ≤ n ∧ wr = w1 ∧ Hid (m = rrk la i k)) (fun _ iv _ => l - (intOf iv).toNat)
  case atStart => exact ⟨0, n, by omega, rfl, rfl, Nat.le_refl _, rfl, by show _ = _; rw [HZ.out]; exact HN.out⟩
  case round =>
    obtain ⟨k, m, hk, rfl, rfl, hm, rfl, HX⟩ := hrel
    by_cases hlt : k < l
    · have hkl : i + k < la.length := by rw [← HN.out]; omega
      obtain ⟨g, o, rfl, hg, a0⟩ := HP.out (i + k) hkl
      obtain ⟨C, hC⟩ : ∃ C, C = la.count la[i + k] := ⟨_, rfl⟩
      have HC := Lib.hid (HCN.out la[i + k] C hC)
      have hsu := rrk_succ la i k hkl
      rw [← hC, ← HX.out] at hsu
      obtain ⟨M, hM⟩ : ∃ M, M = min m C := ⟨_, rfl⟩
      have hmin : (if C < m then (C : Int) else (m : Int)) = (M : Int) := by split <;> omega
      have hMm : M ≤ m := by omega
      have HNX : Hid (M = rrk la i (k + 1)) := by show _ = _; rw [hsu, hM]
      obtain ⟨z, hz⟩ : ∃ z, z = i + k := ⟨_, rfl⟩
      have hz2 : (i : Int) + (k : Int) = (z : Int) := by omega
      have hz3 : z < n := by omega
      obtain ⟨u, hu⟩ : ∃ u, u = str (la[i + k]'hkl) := ⟨_, rfl⟩
      rw [← hu] at a0 HC
      rw [← hz] at a0
      clear hu hsu hC hM hkl hg hz HX
      go_wp2_with (go_at_call 16; ((with_reducible refine HC.out.mono ?_); rintro e w' ⟨rfl, rfl⟩))
      go_roundw
      case rel => exact ⟨k + 1, M, by omega, by go_num, rfl, by omega, trivial, HNX⟩
      case measure => simp [intOf]; omega
    · obtain rfl : k = l := by omega
      have HE : Hid (R = m) := by show _ = _; rw [HR.out, HX.out]
      clear HX
      go_wp2
      go_ret
      exact ⟨by rw [HE.out]; rfl, HB1.out⟩
theorem rrk_rr (a : List (List UInt8)) (r : Ru) : rrk a r.a r.n = rr a r := by
  have hc : ∀ x : List UInt8, @List.count _ instBEqOfDecidableEq x a = a.count x := fun x => List.countP_congr fun y _ => ⟨fun h => beq_iff_eq.mpr (of_decide_eq_true h), fun h => decide_eq_true (beq_iff_eq.mp h)⟩
  unfold rrk rr
  congr 1
  funext m x
  rw [hc]
theorem bt_val (a : List (List UInt8)) (x y : Ru) (P Q : Nat) (hP : P = rr a x) (hQ : Q = rr a y) : (((P : Int) != (Q : Int)) = true ∧ bt a x y = decide ((P : Int) < (Q : Int))) ∨ (((P : Int) != (Q : Int)) = false ∧ bt a x y = b3 x y) := by
  subst hP hQ
  unfold bt
  by_cases h : rr a x = rr a y
  · right
    exact ⟨by simp [h], by rw [if_neg (by omega)]⟩
  · left
    refine ⟨bne_iff_ne.mpr (by omega), ?_⟩
    rw [if_pos h]
    exact decide_eq_decide.mpr (by omega)
theorem six_below {w w' : World} {S T : Nat} {a b c a' b' c' : Value} (hb : Below w.heap.size w w')
    (h : w.cell? ⟨S, 0, none⟩ = some a ∧ w.cell? ⟨S, 1, none⟩ = some b ∧ w.cell? ⟨S, 2, none⟩ = some c ∧ w.cell? ⟨T, 0, none⟩ = some a' ∧ w.cell? ⟨T, 1, none⟩ = some b' ∧ w.cell? ⟨T, 2, none⟩ = some c') :
    w'.cell? ⟨S, 0, none⟩ = some a ∧ w'.cell? ⟨S, 1, none⟩ = some b ∧ w'.cell? ⟨S, 2, none⟩ = some c ∧ w'.cell? ⟨T, 0, none⟩ = some a' ∧ w'.cell? ⟨T, 1, none⟩ = some b' ∧ w'.cell? ⟨T, 2, none⟩ = some c' := by
  obtain ⟨h1, h2, h3, h4, h5, h6⟩ := h
  exact ⟨(hb.cell (World.block_lt_of_cell? w _ h1)).trans h1, (hb.cell (World.block_lt_of_cell? w _ h2)).trans h2, (hb.cell (World.block_lt_of_cell? w _ h3)).trans h3, (hb.cell (World.block_lt_of_cell? w _ h4)).trans h4, (hb.cell (World.block_lt_of_cell? w _ h5)).trans h5, (hb.cell (World.block_lt_of_cell? w _ h6)).trans h6⟩
set_option maxHeartbeats 2000000 in
set_option maxRecDepth 4000 in
theorem rbetter_any (la : List (List UInt8)) (x y : Ru) (p : Option Addr) (c n : Nat) (R : Bool) (w : World) (hn : n = la.length) (hp : SRw w p la) (hl : n ≤ 1048576) (hx : x.a + x.n ≤ n) (hy : y.a + y.n ≤ n) (hR : R = bt la x y) :
    Calls Try.prog 31 #[.slice p n c, x.val, y.val] w fun e w' => e = .returned (.bool R) ∧ Below w.heap.size w w' := by
  obtain ⟨P, hP⟩ : ∃ P, P = rr la x := ⟨_, rfl⟩
  obtain ⟨Q, hQ⟩ : ∃ Q, Q = rr la y := ⟨_, rfl⟩
  have hbt := bt_val la x y P Q hP hQ
  rw [← hR] at hbt
  have hb := b3_val x y
  have hPn : P ≤ n := by rw [hP, ← rrk_rr, hn]; exact rrk_le _ _ _
  have hQn : Q ≤ n := by rw [hQ, ← rrk_rr, hn]; exact rrk_le _ _ _
  obtain ⟨B3, hB3⟩ : ∃ B3, B3 = b3 x y := ⟨_, rfl⟩
  rw [← hB3] at hb hbt
  obtain ⟨xa, xb, xn⟩ := x
  obtain ⟨ya, yb, yn⟩ := y
  simp only [Ru.val] at hb hx hy ⊢
  obtain ⟨W, hW⟩ : ∃ W, W = (w.alloc (.cells #[.int .i64 xa, .int .i64 xb, .int .i64 xn] 30)).alloc (.cells #[.int .i64 ya, .int .i64 yb, .int .i64 yn] 30) := ⟨_, rfl⟩
  obtain ⟨c0, c1, c2, d0, d1, d2, hbW⟩ := box6 _ _ _ _ _ _ _ _ hW
  have HRX : Hid (∀ w', Below W.heap.size W w' → Calls Try.prog 30 #[.slice p n c, .agg #[.int .i64 (xa : Int), .int .i64 (xb : Int), .int .i64 (xn : Int)]] w' fun e w'' => e = .returned (.int .i64 (P : Int)) ∧ Below w'.heap.size w' w'') := fun w' h' =>
    rrare_any la xa xn xb p c n P w' hn ((hp.below hbW).below h') hl hx (by rw [hP, ← rrk_rr])
  have HRY : Hid (∀ w', Below W.heap.size W w' → Calls Try.prog 30 #[.slice p n c, .agg #[.int .i64 (ya : Int), .int .i64 (yb : Int), .int .i64 (yn : Int)]] w' fun e w'' => e = .returned (.int .i64 (Q : Int)) ∧ Below w'.heap.size w' w'') := fun w' h' =>
    rrare_any la ya yn yb p c n Q w' hn ((hp.below hbW).below h') hl hy (by rw [hQ, ← rrk_rr])
  have HSIX := Lib.hid (And.intro c0 (And.intro c1 (And.intro c2 (And.intro d0 (And.intro d1 d2)))))
  have HBW := Lib.hid hbW
  have HW := Lib.hid hW
  have hi := Below.refl W.heap.size W
  clear hP hQ hR hn hp hx hy hB3 hbW hW
  go_enter Try.func31, Try.ntmps31
  go_upto_region 1 with fail
  rw [← HW.out]
  have HHb := Lib.hid hb
  have HHt := Lib.hid hbt
  clear hb hbt
  go_cut [7, 8] from 9 to 15 (fun a b wx => a = .int .i64 (P : Int) ∧ b = .int .i64 (Q : Int) ∧ Below W.heap.size W wx)
  case first =>
    go_region_with (go_at_call 30; first
      | ((with_reducible refine (HRX.out _ (by first | exact hi | exact hi.drew | exact hi.drew.drew)).mono ?_); rintro e w1 ⟨rfl, hb1⟩; have hx1 : Below W.heap.size W w1 := (by first | exact hb1 | exact hi.drew.trans hb1 | exact hi.drew.drew.trans hb1); obtain ⟨c0, c1, c2, d0, d1, d2⟩ := six_below hx1 HSIX.out)
      | ((with_reducible refine (HRY.out _ (by first | exact hx1 | exact hx1.drew | exact hx1.drew.drew)).mono ?_); rintro e w2 ⟨rfl, hb2⟩; have hb12 : Below W.heap.size W w2 := (by first | exact hx1.trans (hb2.mono hx1.size) | exact hx1.drew.trans (hb2.mono hx1.size) | exact hx1.drew.drew.trans (hb2.mono hx1.size))))
    all_goals go_wp2_with fail
    all_goals go_meet
    all_goals first | exact ⟨rfl, rfl, hb12⟩ | exact ⟨rfl, rfl, hb12.drew⟩ | exact ⟨rfl, rfl, hb12.drew.drew⟩
  case rest =>
    obtain ⟨rfl, rfl, hbx⟩ := hcut
    clear c0 c1 c2 d0 d1 d2
    have hbb := HHb.out
    have hbt := HHt.out
    obtain ⟨c0, c1, c2, d0, d1, d2⟩ := six_below hbx HSIX.out
    have HB := Lib.hid (HBW.out.trans (hbx.mono HBW.out.size))
    clear hbx hi HHb HHt HRX HRY HSIX HBW HW
    rcases hbt with ⟨t1, t2⟩ | ⟨t1, t2⟩
    · have HR := Lib.hid t2.symm
      clear t2 hbb
      go_wp2_with fail
      go_ret
      exact ⟨ret_bool ((decide_eq_decide.mpr (by omega)).trans HR.out), HB.out⟩
    · obtain rfl : R = B3 := t2
      rcases hbb with ⟨h1, h2⟩ | ⟨h1, ⟨h2, h3⟩ | ⟨h2, h3⟩⟩
      · have HR := Lib.hid h2.symm
        clear h2
        go_wp2_with fail
        go_ret
        exact ⟨ret_bool ((decide_eq_decide.mpr (by omega)).trans HR.out), HB.out⟩
      · have HR := Lib.hid h3.symm
        clear h3
        go_wp2_with fail
        go_ret
        exact ⟨ret_bool ((decide_eq_decide.mpr (by omega)).trans HR.out), HB.out⟩
      · have HR := Lib.hid h3.symm
        clear h3
        go_wp2_with fail
        go_ret
        exact ⟨ret_bool ((decide_eq_decide.mpr (by omega)).trans HR.out), HB.out⟩
end Go.Proofs.Ytnmebnpldacngaa
