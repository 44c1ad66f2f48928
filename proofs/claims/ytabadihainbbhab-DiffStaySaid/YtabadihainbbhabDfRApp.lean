/-
  The walk of the reference's Apply.
-/
import Derived.Test.YtabadihainbbhabDfApp
import Derived.Test.YtabadihainbbhabDfRRight
namespace Go.Proofs.Ytabadihainbbhab
open Go.RowKit

theorem own_sets {w : World} {base size n P o : Nat} {e : TypeId} {v u : Value} {xs : List Value} (h : w.ownsRow base e size v n xs) (hne : v.ownBlock ≠ some P) : (w.setCell ⟨P, o, none⟩ u).ownsRow base e size v n xs :=
  h.kept (row := some P) ⟨rfl, rfl, rfl, Nat.le_of_eq (by simp), fun k hk hkP => Below.heap_setCell w _ _ k (fun he => hkP (by rw [he]))⟩ (.inr hne)
theorem tow_box {w : World} {base A : Nat} {v : Value} {l : List (List UInt8)} {c : Array Value} (h : TOw w base v l) (hA : w.heap[A]? = some (.cells c 44 (0, 0))) (x0 x1 x2 x3 : Value) :
    TOw ((((w.setCell ⟨A, 0, none⟩ x0).setCell ⟨A, 1, none⟩ x1).setCell ⟨A, 2, none⟩ x2).setCell ⟨A, 3, none⟩ x3) base v l := by
  have hne := own_ty h hA (by decide)
  exact own_sets (own_sets (own_sets (own_sets h hne) hne) hne) hne

set_option maxHeartbeats 2000000 in
set_option maxRecDepth 4000 in
theorem rapply_any (la lb : List (List UInt8)) (es : List Ed) (p q r : Option Addr) (c d ce n m l : Nat) (R : Option (List (List UInt8))) (w : World) (hn : n = la.length) (hm : m = lb.length) (hle : l = es.length) (hp : SRw w p la) (hq : SRw w q lb) (hr : ERw w r es)
    (hc : n ≤ c) (hd : m ≤ d) (hl : n ≤ 5000) (hl2 : m ≤ 5000) (hl3 : l ≤ 1048576) (hR : R = appL la lb es 0 0 []) :
    Calls Try.prog 15 #[.slice p n c, .slice r l ce, .slice q m d] w (AppPost R w) := by
  have HN := Lib.hid hn
  have HM := Lib.hid hm
  have HLE := Lib.hid hle
  have HP := Lib.hid hp
  have HQ := Lib.hid hq
  have HR := Lib.hid hr
  have HB : Hid (R = appL la lb (es.drop 0) 0 0 []) := hR
  clear hn hm hle hp hq hr hR
  have hu := Try.underlying22
  have HU := Lib.hid hu
  clear hu
  obtain ⟨A, hA⟩ : ∃ A, w.heap.size = A := ⟨_, rfl⟩
  have HA0 : Hid ((w.alloc (.cells #[.int .i64 0, .int .i64 0, .int .i64 0, .int .i64 0] 44)).heap[A]? = some (.cells #[.int .i64 0, .int .i64 0, .int .i64 0, .int .i64 0] 44 (0, 0))) := by
    rw [← hA]
    exact heap_alloc_new w _
  have HB0 : Hid (Below w.heap.size w (w.alloc (.cells #[.int .i64 0, .int .i64 0, .int .i64 0, .int .i64 0] 44))) := below_new (Below.refl _ _) _
  have HA := Lib.hid hA
  go_enter Try.func15, Try.ntmps15
  go_wp2
  clear hA
  go_loopw [15, 9] (fun kv ov wr => ∃ (k i j L : Nat) (out : List (List UInt8)) (g : Option Addr) (cap : Nat), k ≤ l ∧ i ≤ n ∧ j ≤ m ∧ L ≤ i + j ∧ kv = .int .i64 k ∧ ov = .slice g L cap ∧ Hid (wr.heap[A]? = some (.cells #[.int .i64 (i : Int), .int .i64 0, .int .i64 (j : Int), .int .i64 0] 44 (0, 0))) ∧ Hid (L = out.length) ∧ Hid (TOw wr w.heap.size (.slice g L cap) out) ∧ Hid (R = appL la lb (es.drop k) i j out) ∧ Hid (Below w.heap.size w wr)) (fun kv _ _ => l - (intOf kv).toNat)
  case atStart => exact ⟨0, 0, 0, 0, [], none, 0, by omega, by omega, by omega, by omega, rfl, rfl, HA0.out, rfl, TOw.nil _ _, HB.out, HB0.out⟩
  case round =>
    clear HB HA0 HB0
    obtain ⟨k, i, j, L, out, gO, cap, hk, hi, hj, hL, rfl, rfl, HAR, HL, HO, HB, HW⟩ := hrel
    have hws := HW.out.size
    obtain ⟨⟨b0, b1, b2, b3⟩, bf⟩ := row_cells HAR.out
    have hAlt := row_lt HAR.out
    have hAne : A ≠ wr.heap.size := by omega
    by_cases hlt : k < l
    · have hka : k < es.length := by rw [← HLE.out]; omega
      obtain ⟨g, o, rfl, hg, a0, a1, a2, a3⟩ := HR.out.now HW.out k hka
      have hX := HB.out
      rw [drop_ed hka] at hX
      obtain ⟨e, he⟩ : ∃ e, e = es[k] := ⟨_, rfl⟩
      rw [← he] at a0 a1 a2 a3 hX
      obtain ⟨f, dd, t, x⟩ := e
      simp only at a0 a1 a2 a3
      have CF : Hid (∀ w' B', B' = decide (okE ⟨f, dd, t, x⟩ i j n m) → Calls Try.prog 35 #[.agg #[.int .i64 f, .int .i64 dd, .int .i64 t, .int .i64 x], .agg #[.int .i64 (i : Int), .int .i64 0, .int .i64 (j : Int), .int .i64 0], .int .i64 (n : Int), .int .i64 (m : Int)] w' fun e w'' => e = .returned (.bool B') ∧ Below w'.heap.size w' w'') := fun w' B' h =>
        within_any f dd t x i j n m 0 0 B' w' (by omega) (by omega) (by omega) (by omega) h
      clear he hka HB
      by_cases hok : okE ⟨f, dd, t, x⟩ i j n m
      · obtain ⟨F, D, T, X, rfl, rfl, rfl, rfl, h1, h2, h3, h4⟩ := okE_nat hok
        have CF' : Hid (∀ w', Calls Try.prog 35 #[.agg #[.int .i64 (F : Int), .int .i64 (D : Int), .int .i64 (T : Int), .int .i64 (X : Int)], .agg #[.int .i64 (i : Int), .int .i64 0, .int .i64 (j : Int), .int .i64 0], .int .i64 (n : Int), .int .i64 (m : Int)] w' fun e w'' => e = .returned (.bool true) ∧ Below w'.heap.size w' w'') := fun w' => CF.out w' true (decide_eq_true hok).symm
        rw [HN.out, HM.out] at hok
        have ef : (⟨(F : Int), (D : Int), (T : Int), (X : Int)⟩ : Ed).ef = F + D := by unfold Ed.ef; simp only; omega
        have et : (⟨(F : Int), (D : Int), (T : Int), (X : Int)⟩ : Ed).et = T + X := by unfold Ed.et; simp only; omega
        rw [appL_go hok, ef, et] at hX
        simp only [Int.toNat_natCast] at hX
        obtain ⟨I, hI⟩ : ∃ I, I = F + D := ⟨_, rfl⟩
        obtain ⟨J, hJ⟩ : ∃ J, J = T + X := ⟨_, rfl⟩
        have i1 : IntKind.i64.wrap ((F : Int) + (D : Int)) = (I : Int) := by rw [IntWalk.i64_in _ (by omega)]; omega
        have i2 : IntKind.i64.wrap ((T : Int) + (X : Int)) = (J : Int) := by rw [IntWalk.i64_in _ (by omega)]; omega
        have hFc : F ≤ c := by omega
        have hTJ : T ≤ J := by omega
        have hJd : J ≤ d := by omega
        have hJm : J ≤ m := by omega
        have hIn : I ≤ n := by omega
        have hFI : F ≤ I := by omega
        have hFn : F ≤ n := by omega
        have hTm : T ≤ m := by omega
        have HX : Hid (R = appL la lb (es.drop (k + 1)) I J (out ++ (la.drop i).take (F - i) ++ (lb.drop T).take (J - T))) := by
          show _ = _
          rw [hX, ← hI, ← hJ, show J - T = X by omega]
        have HL1 : Hid (F - i = ((la.drop i).take (F - i)).length) := by show _ = _; rw [List.length_take, List.length_drop, ← HN.out]; omega
        have HL2 : Hid (J - T = ((lb.drop T).take (J - T)).length) := by show _ = _; rw [List.length_take, List.length_drop, ← HM.out]; omega
        have HS1 : Hid (∀ w', Below w.heap.size w w' → SRw w' (if c = i then p else p.map (·.add i)) ((la.drop i).take (F - i)) ∧ SRw w' (p.map (·.add i)) ((la.drop i).take (F - i))) := fun w' hb' => ⟨(HP.out.below hb').cutTo i F HN.out hc h1 hFn, (HP.out.below hb').part i _⟩
        have HS2 : Hid (∀ w', Below w.heap.size w w' → SRw w' (if d = T then q else q.map (·.add T)) ((lb.drop T).take (J - T)) ∧ SRw w' (q.map (·.add T)) ((lb.drop T).take (J - T))) := fun w' hb' => ⟨(HQ.out.below hb').cutTo T J HM.out hd hTJ hJm, (HQ.out.below hb').part T _⟩
        clear CF hok hX ef et hI hJ h2 h4
        go_upto_region 10 with (first
          | (go_at_call 35; go_loud ((with_reducible refine (CF'.out _).mono ?_); rintro e w2 ⟨rfl, hb2⟩; have HW2 := Lib.hid ((below_new HW.out _).trans (hb2.mono (by simp; omega))); obtain ⟨⟨z0, z1, z2, z3⟩, zz⟩ := box_four hb2; have HO2 := Lib.hid ((HO.out.below (below_new (Below.refl _ _) _)).below hb2); have ho2 := HO2.out.of HL.out; have hs2 := HW2.out.size; have ZZ := Lib.hid zz; clear zz; have HA2 := Lib.hid (box_keep HAR.out hb2); obtain ⟨⟨u0, u1, u2, u3⟩, uf⟩ := row_cells HA2.out))
          | (at_builtin; refine app_srw _ rfl _ _ 22 rfl HU.out w.heap.size _ L _ rfl ho2 _ (F - i) _ _ rfl HL1.out (by first | exact (HS1.out _ HW2.out).1 | exact (HS1.out _ HW2.out).2) (by omega) hs2 ?_; intro v3 w3 ho3 hg3))
        have ho3' := TOw.app HL.out HL1.out ho3
        obtain ⟨g3, cap3, rfl, _⟩ := ho3'.shapeN (n := L + (F - i)) (by rw [List.length_append, ← HL1.out, ← HL.out])
        have HO3 := Lib.hid ho3'
        have HW3 := Lib.hid (HW2.out.grown hg3 hs2 (fun b hb => (ho2.lt b hb).1))
        have zz3 := own_row ho2 ZZ.out (by decide) (row_lt ZZ.out) hg3
        have HA3 := Lib.hid (own_row ho2 HA2.out (by decide) (row_lt HA2.out) hg3)
        have ZZ3 := Lib.hid zz3
        have y0 := cell_of_row w3 _ 0 _ _ _ zz3
        have y1 := cell_of_row w3 _ 1 _ _ _ zz3
        have y2 := cell_of_row w3 _ 2 _ _ _ zz3
        have y3 := cell_of_row w3 _ 3 _ _ _ zz3
        have hs3 := HW3.out.size
        have HLL : Hid (L + (F - i) = (out ++ (la.drop i).take (F - i)).length) := by show _ = _; rw [List.length_append, ← HL1.out, ← HL.out]
        clear ho3 ho3' hg3 ho2 z0 z1 z2 z3 zz3 a0 a1 a2 a3 b0 b1 b2 b3 bf u0 u1 u2 u3 uf hb2
        have ho4 := HO3.out.of HLL.out
        obtain ⟨L3, hL3⟩ : ∃ L3, L3 = L + (F - i) := ⟨_, rfl⟩
        rw [← hL3] at ho4 HLL ⊢
        have hL4 : L3 ≤ F + j := by omega
        clear hL3
        go_upto_region 11 with (at_builtin; refine app_srw _ rfl _ _ 22 rfl HU.out w.heap.size _ L3 _ rfl ho4 _ (J - T) _ _ rfl HL2.out (by first | exact (HS2.out _ HW3.out).1 | exact (HS2.out _ HW3.out).2) (by omega) hs3 ?_; intro v5 w5 ho5 hg5)
        have ho5' := TOw.app HLL.out HL2.out ho5
        obtain ⟨g5, cap5, rfl, _⟩ := ho5'.shapeN (n := L3 + (J - T)) (by rw [List.length_append, ← HL2.out, ← HLL.out])
        have HO5 := Lib.hid ho5'
        have HW5 := Lib.hid (HW3.out.grown hg5 hs3 (fun b hb => (ho4.lt b hb).1))
        have HA5 := Lib.hid (own_row ho4 HA3.out (by decide) (row_lt HA3.out) hg5)
        have zz5 := own_row ho4 ZZ3.out (by decide) (row_lt ZZ3.out) hg5
        clear y0 y1 y2 y3
        have y0 := cell_of_row w5 _ 0 _ _ _ zz5
        have y1 := cell_of_row w5 _ 1 _ _ _ zz5
        have y2 := cell_of_row w5 _ 2 _ _ _ zz5
        have y3 := cell_of_row w5 _ 3 _ _ _ zz5
        obtain ⟨⟨u0, u1, u2, u3⟩, uf⟩ := row_cells HA5.out
        clear ho5 hg5 ho5' ho4 zz5
        go_wp2
        go_roundw
        case rel => exact ⟨k + 1, I, J, L3 + (J - T), _, g5, cap5, by omega, hIn, hJm, by omega, by go_num, rfl, row4 HA5.out _ _ _ _, by show _ = _; rw [List.length_append, ← HL2.out, ← HLL.out], tow_box HO5.out HA5.out _ _ _ _, HX.out, (((HW5.out.setCell (by have := HA.out; simp; omega) _).setCell (by have := HA.out; simp; omega) _).setCell (by have := HA.out; simp; omega) _).setCell (by have := HA.out; simp; omega) _⟩
        case measure => simp [intOf]; omega
      · have HX : Hid (R = none) := by
          show _ = _
          rw [hX, appL_not (fun h => hok (by rw [← HN.out, ← HM.out] at h; exact h))]
        have CF' : Hid (∀ w', Calls Try.prog 35 #[.agg #[.int .i64 f, .int .i64 dd, .int .i64 t, .int .i64 x], .agg #[.int .i64 (i : Int), .int .i64 0, .int .i64 (j : Int), .int .i64 0], .int .i64 (n : Int), .int .i64 (m : Int)] w' fun e w'' => e = .returned (.bool false) ∧ Below w'.heap.size w' w'') := fun w' => CF.out w' false (decide_eq_false hok).symm
        clear CF hX hok
        go_wp2_with (go_at_call 35; go_loud ((with_reducible refine (CF'.out _).mono ?_); rintro e w2 ⟨rfl, hb2⟩; have HW2 := Lib.hid ((below_new HW.out _).trans (hb2.mono (by simp; omega)))))
        go_ret2
        exact appPost_none HX.out HW2.out
    · obtain rfl : k = l := by omega
      have HX : Hid (R = some (out ++ la.drop i)) := by
        show _ = _
        rw [HB.out, HLE.out, List.drop_length]
        rfl
      have HL1 : Hid (n - i = (la.drop i).length) := by show _ = _; rw [List.length_drop, ← HN.out]
      have HS1 : Hid (SRw wr (if c = i then p else p.map (·.add i)) (la.drop i) ∧ SRw wr (p.map (·.add i)) (la.drop i)) := ⟨(HP.out.below HW.out).cutN i HN.out hc hi, (HP.out.below HW.out).left i⟩
      have ho := HO.out.of HL.out
      clear HB
      go_wp2_with (at_builtin; refine app_srw _ rfl _ _ 22 rfl HU.out w.heap.size _ L _ rfl ho _ (n - i) _ _ rfl HL1.out (by first | exact HS1.out.1 | exact HS1.out.2) (by omega) hws ?_; intro v3 w3 ho3 hg3; have ho3' := TOw.app HL.out HL1.out ho3; obtain ⟨g3, cap3, rfl, _⟩ := ho3'.shapeN (n := L + (n - i)) (by rw [List.length_append, ← HL1.out, ← HL.out]); have HO3 := Lib.hid ho3'; have HW3 := Lib.hid (HW.out.grown hg3 hws (fun b hb => (ho.lt b hb).1)); clear ho3 ho3' hg3)
      all_goals go_ret2
      all_goals exact appPost_some HX.out HW3.out HO3.out
end Go.Proofs.Ytabadihainbbhab
