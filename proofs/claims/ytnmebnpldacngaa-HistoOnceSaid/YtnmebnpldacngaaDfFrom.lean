/-
  The walks of FromRuns and of the function that it makes.
-/
import Derived.Test.YtnmebnpldacngaaDfOf
namespace Go.Proofs.Ytnmebnpldacngaa
open Go.RowKit

abbrev JE (W : World) (base bs bi bj : Nat) (acc : List Ed) (i j : Int) (w : World) : Prop := JB W base bs bi bj 26 44 4 acc.length (ecells acc) i j w
set_option maxHeartbeats 2000000 in
set_option maxRecDepth 4000 in
theorem chg_any (W : World) (base bs bi bj : Nat) (acc : List Ed) (i j a b : Int) (wx : World) (bx : BB W base bs bi bj) (h : JE W base bs bi bj acc i j wx) (hl : acc.length ≤ 1048575)
    (hi0 : 0 ≤ i) (hia : i ≤ a) (hj0 : 0 ≤ j) (hjb : j ≤ b) (ha : a ≤ 9223372036854775807) (hb : b ≤ 9223372036854775807) :
    Calls Try.prog 42 #[.int .i64 a, .int .i64 b, .pointer (some ⟨bi, 0, none⟩), .pointer (some ⟨bj, 0, none⟩), .pointer (some ⟨bs, 0, none⟩)] wx fun e w' => e = .returned (.tuple #[]) ∧ JE W base bs bi bj (chg i j a b acc) i j w' ∧ Kept base 44 wx w' := by
  obtain ⟨i0, hi, hz0, hz1, hz2⟩ := info_parts Try.infoEd
  obtain ⟨c0, c1, f0, f1, f2⟩ := h.cells
  obtain ⟨v, h1, ho⟩ := h.row
  have c2 : wx.cell? ⟨bs, 0, none⟩ = some v := cell_of_row wx bs 0 _ _ _ h1
  have H1 := Lib.hid h1
  have HJ := Lib.hid h
  have hsz := h.size
  have HBX := Lib.hid bx
  have hbl : bs < base := bx.s.2.1
  obtain ⟨L, hL⟩ : ∃ L, L = acc.length := ⟨_, rfl⟩
  have ho' : wx.ownsRow base 44 4 v L (ecells acc) := by rw [hL]; exact ho
  obtain ⟨p, cap, rfl⟩ := EOw.shapeN ho hL
  have hL2 : L ≤ 1048575 := by omega
  have HL := Lib.hid hL
  have HO := Lib.hid ho
  have i5 : IntKind.i64.wrap (a - i) = a - i := IntWalk.i64_in _ (by omega)
  have i6 : IntKind.i64.wrap (b - j) = b - j := IntWalk.i64_in _ (by omega)
  have hc : (¬ (i < a ∨ j < b)) ∨ i < a ∨ (¬ i < a ∧ j < b) := by omega
  clear h1 h bx ho hL hl
  rcases hc with hno | hy
  · have HX : Hid (chg i j a b acc = acc) := if_neg hno
    have n1 : ¬ i < a := fun h => hno (.inl h)
    have n2 : ¬ j < b := fun h => hno (.inr h)
    clear hno
    go_enter Try.func42, Try.ntmps42
    go_wp2
    refine bodyPost_end (results_none rfl _ _ _) rfl ?_
    exact ⟨rfl, by rw [HX.out]; exact HJ.out, fun _ _ _ _ _ h => h⟩
  · have HX : Hid (chg i j a b acc = acc ++ [⟨i, a - i, j, b - j⟩]) := chg_yes (by omega) acc
    rcases hy with h1 | ⟨h1, h2⟩
    all_goals go_enter Try.func42, Try.ntmps42
    all_goals go_wp2_with (at_builtin; refine wpList_append_own _ rfl _ _ 26 rfl base 44 i0 (.agg #[.int .i64 0, .int .i64 0, .int .i64 0, .int .i64 0]) 4 32 Try.underlying26 hi hz0 hz1 hz2 rfl (by decide) _ _ _ rfl (ho'.alloc _) ⟨wx.heap.size, 0, none⟩ 1 1 (Ed.cells ⟨i, a - i, j, b - j⟩) rfl rfl (new_ed wx ⟨i, a - i, j, b - j⟩ _) (ed_one _) (by unfold maxLen; omega) (by omega) (by simp; omega) ?_; intro v1 w1 ho1 hg1 _; have hrow := EOw.push HL.out ho1; obtain ⟨q1, cap1, rfl⟩ := hrow.shapeN (n := L + 1) (by rw [List.length_append, ← HL.out, List.length_singleton]); have k0 := (hg1.block bs (by have := row_lt H1.out; simp; omega) (fun he => by have := (ho'.lt _ he.symm).1; omega)).trans (row_alloc H1.out (row_lt H1.out)); have c4 := cell_of_row w1 bs 0 _ _ _ k0; have f4 := frozen_of_row w1 bs 0 _ _ k0; have HJ1 := Lib.hid (JB.put HBX.out (JB.alloc HJ.out _) (HO.out.alloc _) (row_alloc H1.out (row_lt H1.out)) hg1 hrow); have HK := Lib.hid (kept_alloc (kept_put (v1 := .slice q1 (L + 1) cap1) (HO.out.alloc _) hg1 hbl)); clear ho1 hg1 hrow)
    all_goals refine bodyPost_end (results_none rfl _ _ _) rfl ?_
    all_goals exact ⟨rfl, by rw [HX.out]; exact HJ1.out, HK.out⟩

set_option maxHeartbeats 4000000 in
set_option maxRecDepth 4000 in
theorem from_any (rs : List Rn) (p : Option Addr) (c l : Nat) (n m : Int) (R : List Ed) (w : World) (hle : l = rs.length) (hp : RRw w p rs) (hl : l ≤ 1000000) (hn : n ≤ 9223372036854775807) (hm : m ≤ 9223372036854775807) (hR : R = fromL n m rs) :
    Calls Try.prog 24 #[.int .i64 n, .int .i64 m, .slice p l c] w fun e w' => (∃ v, e = .returned v ∧ EOw w' w.heap.size v R) ∧ Below w.heap.size w w' := by
  have hmf := make_fun Try.prog
  by_cases hneg : n < 0 ∨ m < 0
  · have HX : Hid (R = []) := by show _ = _; rw [hR, fromL, if_pos hneg]
    have hneg' : n < 0 ∨ 0 ≤ n ∧ m < 0 := by omega
    clear hR hneg
    rcases hneg' with h1 | ⟨h1, h2⟩
    · go_enter Try.func24, Try.ntmps24
      go_wp2
      go_ret
      exact ⟨⟨_, rfl, by rw [HX.out]; exact EOw.nil _ _⟩, Below.refl _ _⟩
    · go_enter Try.func24, Try.ntmps24
      go_wp2
      go_ret
      exact ⟨⟨_, rfl, by rw [HX.out]; exact EOw.nil _ _⟩, Below.refl _ _⟩
  · have hn0 : 0 ≤ n := by omega
    have hm0 : 0 ≤ m := by omega
    have HB : Hid (R = ofL n m (rs.drop 0) 0 0 []) := by show _ = _; rw [hR, fromL, if_neg hneg]; rfl
    have HLE := Lib.hid hle
    have HP := Lib.hid hp
    clear hle hp hR hneg
    go_enter Try.func24, Try.ntmps24
    go_upto_region 6 with fail
    obtain ⟨W3, hW3⟩ : ∃ W3, W3 = ((w.alloc (.cells #[.slice none 0 0] 26)).alloc (.cells #[.int .i64 0] 3)).alloc (.cells #[.int .i64 0] 3) := ⟨_, rfl⟩
    obtain ⟨r0, r1, r2, hs3, hb3⟩ := heap3 w _ _ _ hW3
    obtain ⟨bs, hbs⟩ : ∃ bs, bs = w.heap.size := ⟨_, rfl⟩
    obtain ⟨bi, hbi⟩ : ∃ bi, bi = bs + 1 := ⟨_, rfl⟩
    obtain ⟨bj, hbj⟩ : ∃ bj, bj = bi + 1 := ⟨_, rfl⟩
    obtain ⟨base, hbase⟩ : ∃ base, base = bj + 1 := ⟨_, rfl⟩
    rw [← hW3, ← hbs, ← hbi, ← hbj]
    rw [← hbs] at r0 r1 r2 hs3
    rw [← hbi] at r1 r2
    rw [← hbj] at r2
    have HBX : Hid (BB w base bs bi bj) := ⟨by omega, by omega, by omega⟩
    have HWB : Hid (w.heap.size ≤ base) := by show _ ≤ _; omega
    have HJ0 : Hid (JE w base bs bi bj [] 0 0 W3) := ⟨⟨_, r0, World.ownsRow_nil _ _ _ _⟩, r1, r2, by omega, hb3⟩
    clear hW3 r0 r1 r2 hs3 hb3 hbs hbi hbj hbase
    go_wp2
    go_loopw [22] (fun kv wr => ∃ (k : Nat) (i j : Int) (acc : List Ed), k ≤ l ∧ 0 ≤ i ∧ i ≤ n ∧ 0 ≤ j ∧ j ≤ m ∧ kv = .int .i64 k ∧ Hid (acc.length ≤ k) ∧ Hid (JE w base bs bi bj acc i j wr) ∧ Hid (R = ofL n m (rs.drop k) i j acc)) (fun kv _ => l - (intOf kv).toNat)
    case atStart => exact ⟨0, 0, 0, [], by omega, by omega, by omega, by omega, by omega, rfl, Nat.le_refl _, HJ0.out, HB.out⟩
    case round =>
      clear HB HJ0
      obtain ⟨k, i, j, acc, hk, hi0, hin, hj0, hjm, rfl, HL, HJ, HB⟩ := hrel
      obtain ⟨c0, c1, f0, f1, f2⟩ := HJ.out.cells
      have HBE : Hid (base ≤ wr.heap.size) := HJ.out.size
      have hib : wr.heap.size ≠ bi := by have := HBE.out; have := HBX.out.i; omega
      have hjb : wr.heap.size ≠ bj := by have := HBE.out; have := HBX.out.j; omega
      have hib2 : bi ≠ wr.heap.size := Ne.symm hib
      have hbil : bi < wr.heap.size := row_lt HJ.out.pi
      have hbjl : bj < wr.heap.size := row_lt HJ.out.pj
      have hjb2 : bj ≠ wr.heap.size := Ne.symm hjb
      by_cases hlt : k < l
      · have hka : k < rs.length := by rw [← HLE.out]; omega
        obtain ⟨g, o, rfl, hg, a0, a1, a2⟩ := HP.out.now HJ.out.below k hka
        have hX := HB.out
        rw [List.drop_eq_getElem_cons hka] at hX
        obtain ⟨e, he⟩ : ∃ e, e = rs[k] := ⟨_, rfl⟩
        rw [← he] at a0 a1 a2 hX
        obtain ⟨a, b, z⟩ := e
        simp only at a0 a1 a2
        clear he hka HB
        have HF1 : Hid (∀ (w' : World) (B : Bool), B = decide (i ≤ a ∧ a ≤ n ∧ 0 ≤ z ∧ z ≤ n - a) → Calls Try.prog 43 #[.int .i64 a, .int .i64 z, .int .i64 i, .int .i64 n] w' fun e w'' => e = .returned (.bool B) ∧ w'' = w') := fun w' B h => fits_any a z i n B w' hi0 hn h
        have HF2 : Hid (∀ (w' : World) (B : Bool), B = decide (j ≤ b ∧ b ≤ m ∧ 0 ≤ z ∧ z ≤ m - b) → Calls Try.prog 43 #[.int .i64 b, .int .i64 z, .int .i64 j, .int .i64 m] w' fun e w'' => e = .returned (.bool B) ∧ w'' = w') := fun w' B h => fits_any b z j m B w' hj0 hm h
        by_cases hok : okR ⟨a, b, z⟩ i j n m
        · rw [ofL_go hok] at hX
          unfold okR at hok
          simp only at hok hX
          have HC1 := Lib.hid (fun w' => HF1.out w' true (decide_eq_true hok.2.1).symm)
          have HC2 := Lib.hid (fun w' => HF2.out w' true (decide_eq_true hok.2.2).symm)
          obtain ⟨k1, ⟨k2, k3, _, k4⟩, ⟨k5, k6, _, k7⟩⟩ := hok
          have i3 : IntKind.i64.wrap (a + z) = a + z := IntWalk.i64_in _ (by omega)
          have i4 : IntKind.i64.wrap (b + z) = b + z := IntWalk.i64_in _ (by omega)
          have az : 0 ≤ a + z := by omega
          have azn : a + z ≤ n := by omega
          have bz : 0 ≤ b + z := by omega
          have bzm : b + z ≤ m := by omega
          have HX := Lib.hid hX
          have HL2 : Hid ((chg i j a b acc).length ≤ k + 1) := Nat.le_trans (chg_len _ _ _ _ _) (by have := HL.out; omega)
          have HCH : Hid (∀ w', JE w base bs bi bj acc i j w' → Calls Try.prog 42 #[.int .i64 a, .int .i64 b, .pointer (some ⟨bi, 0, none⟩), .pointer (some ⟨bj, 0, none⟩), .pointer (some ⟨bs, 0, none⟩)] w' fun e w'' => e = .returned (.tuple #[]) ∧ JE w base bs bi bj (chg i j a b acc) i j w'' ∧ Kept base 44 w' w'') := fun w' h => chg_any w base bs bi bj acc i j a b w' HBX.out h (by have := HL.out; omega) hi0 k2 hj0 k5 (by omega) (by omega)
          clear hX HF1 HF2
          go_upto_region 12 with (first
            | (go_at_call 43; first
              | ((with_reducible refine (HC1.out _).mono ?_); rintro e w1 ⟨rfl, rfl⟩)
              | ((with_reducible refine (HC2.out _).mono ?_); rintro e w1 ⟨rfl, rfl⟩))
            | (go_at_call 42; ((refine (HCH.out _ (HJ.out.alloc _)).mono ?_); rintro e w2 ⟨rfl, hj2, hk2⟩)))
          have hbx := hk2 wr.heap.size _ 30 (by decide) HBE.out (heap_alloc_new wr _)
          have z0 := cell_of_row w2 _ 0 _ _ _ hbx
          have z1 := cell_of_row w2 _ 1 _ _ _ hbx
          have z2 := cell_of_row w2 _ 2 _ _ _ hbx
          clear c0 c1 f0 f1 f2
          obtain ⟨c0, c1, f0, f1, f2⟩ := hj2.cells
          have HJ2 := Lib.hid hj2
          clear hj2 hk2 hbx a0 a1 a2
          have hij : bi ≠ bj := HBX.out.i.2.2
          have hji : bj ≠ bi := Ne.symm hij
          have HJ3 := Lib.hid (JB.setJ HBX.out (JB.setI HBX.out HJ2.out (a + z)) (b + z))
          go_region
          all_goals go_wp2
          all_goals go_roundw
          case rel => exact ⟨k + 1, _, _, _, by omega, az, azn, bz, bzm, by go_num, HL2.out, HJ3.out.drewN 1, HX.out⟩
          case measure => simp [intOf]; omega
        · rw [ofL_not hok] at hX
          have HX := Lib.hid hX
          unfold okR at hok
          simp only at hok
          have hc : z < 1 ∨ (1 ≤ z ∧ ¬ (i ≤ a ∧ a ≤ n ∧ 0 ≤ z ∧ z ≤ n - a)) ∨ (1 ≤ z ∧ (i ≤ a ∧ a ≤ n ∧ 0 ≤ z ∧ z ≤ n - a) ∧ ¬ (j ≤ b ∧ b ≤ m ∧ 0 ≤ z ∧ z ≤ m - b)) := by omega
          clear hX hok
          rcases hc with h1 | ⟨h1, h2⟩ | ⟨h1, h2, h3⟩
          · clear HF1 HF2
            go_wp2
            go_ret
            exact ⟨⟨_, rfl, by rw [HX.out]; exact EOw.nil _ _⟩, below_new HJ.out.below _⟩
          · have HC1 := Lib.hid (fun w' => HF1.out w' false (decide_eq_false h2).symm)
            clear HF1 HF2 h2
            go_wp2_with (go_at_call 43; go_loud ((with_reducible refine (HC1.out _).mono ?_); rintro e w1 ⟨rfl, rfl⟩))
            go_ret
            exact ⟨⟨_, rfl, by rw [HX.out]; exact EOw.nil _ _⟩, below_new HJ.out.below _⟩
          · have HC1 := Lib.hid (fun w' => HF1.out w' true (decide_eq_true h2).symm)
            have HC2 := Lib.hid (fun w' => HF2.out w' false (decide_eq_false h3).symm)
            clear HF1 HF2 h2 h3
            go_wp2_with (go_at_call 43; first
              | ((with_reducible refine (HC1.out _).mono ?_); rintro e w1 ⟨rfl, rfl⟩)
              | ((with_reducible refine (HC2.out _).mono ?_); rintro e w1 ⟨rfl, rfl⟩))
            go_ret
            exact ⟨⟨_, rfl, by rw [HX.out]; exact EOw.nil _ _⟩, below_new HJ.out.below _⟩
      · obtain rfl : k = l := by omega
        have hX := HB.out
        rw [HLE.out, List.drop_length, ofL] at hX
        have HX := Lib.hid hX
        have HCH : Hid (∀ w', JE w base bs bi bj acc i j w' → Calls Try.prog 42 #[.int .i64 n, .int .i64 m, .pointer (some ⟨bi, 0, none⟩), .pointer (some ⟨bj, 0, none⟩), .pointer (some ⟨bs, 0, none⟩)] w' fun e w'' => e = .returned (.tuple #[]) ∧ JE w base bs bi bj (chg i j n m acc) i j w'' ∧ Kept base 44 w' w'') := fun w' h => chg_any w base bs bi bj acc i j n m w' HBX.out h (by have := HL.out; omega) hi0 hin hj0 hjm hn hm
        clear hX HB
        go_wp2_with (go_at_call 42; ((refine (HCH.out _ HJ.out).mono ?_); rintro e w2 ⟨rfl, hj2, hk2⟩; obtain ⟨v2, h2, ho2⟩ := hj2.row; obtain ⟨p2, cap2, rfl⟩ := EOw.shape ho2; have k2 := cell_of_row w2 bs 0 _ _ _ h2; have HO2 := Lib.hid (EOw.lower ho2 HWB.out); have HB2 := Lib.hid hj2.below; clear hk2 hj2 ho2))
        go_ret
        exact ⟨⟨_, rfl, by rw [HX.out]; exact HO2.out⟩, HB2.out⟩
end Go.Proofs.Ytnmebnpldacngaa
