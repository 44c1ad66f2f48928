/-
  The append of a row of strings, nil or not; the walk of Apply.
-/
import Derived.Test.YthgmiehojblomaaDfValid
import Derived.Test.YthgmiehojblomaaDfInvP
import Derived.Laws.AppendOwn
namespace Go.Proofs.Ythgmiehojblomaa
open Go.RowKit

/-- Nothing is appended of a slice that is nil. -/
theorem app_none (w : World) (base : Nat) (t ty e : TypeId) (i : TypeInfo) (size : Nat) (ht : Try.prog.underlying t = some (.slice e)) (hi : Try.prog.info? e = some i) (v : Value) (n : Nat) (xs : List Value) (ho : w.ownsRow base e size v n xs) (c : Nat) :
    (Builtin.append_ #[t, t] ty #[v, .slice none 0 c]).run Try.prog w = .ok v w := by
  rcases ho.2 with ⟨rfl, rfl⟩ | ⟨g, cap, cur, rfl, _, _, hc, _⟩ <;> simp [Builtin.append_, run_underlying ht, sizeOf, typeInfo, hi, Builtin.lenOf, Builtin.firstCells, storeCells, *]
theorem app_srw (w : World) {ops : Array Oper} {rest : List Oper} {o : Oper} {a : Act} {Q : Exit → Act → World → Prop} (hgd : o.guard = none) (s x : Operand) (t : TypeId)
    (ho : o.op = .call { callee := .builtin .append, args := #[s, x], argTypes := #[t, t] }) (ht : Try.prog.underlying t = some (.slice 9))
    (base : Nat) (v : Value) (n : Nat) (xs : List Value) (hs : a.eval s = v) (hown : w.ownsRow base 9 1 v n xs)
    (p : Option Addr) (m c : Nat) (news : List (List UInt8)) (hx : a.eval x = .slice p m c) (hm : m = news.length) (hr : SRw w p news)
    (hb : n + m ≤ 1048576) (hbase : base ≤ w.heap.size)
    (h : ∀ v' w', w'.ownsRow base 9 1 v' (n + m) (xs ++ strs news) → w.grownBy w' v.ownBlock → wpList Try.prog ops Q rest (a.put o.dst v') w') : wpList Try.prog ops Q (o :: rest) a w := by
  obtain ⟨i0, hi, hz0, hz1, hz2⟩ := info_parts Try.infoStr
  rcases p with _ | ad
  · have h0 : news = [] := by
      cases news with
      | nil => rfl
      | cons y l =>
        obtain ⟨g, o', h1, _⟩ := hr 0 (by simp)
        cases h1
    subst h0
    obtain rfl : m = 0 := hm
    refine wpList_plain hgd fun K hK => ?_
    have hrun := app_none w base t o.type 9 i0 1 ht hi v n xs hown c
    unfold Oper.wp
    simp [execOp, ho, resolve, invoke, builtin, hs, hx, hrun, Result.andThen]
    exact hK _ _ (h v w (by simpa [strs] using hown) ⟨rfl, rfl, rfl, Nat.le_refl _, fun _ _ _ => rfl⟩)
  · refine wpList_append_own w hgd s x t ho base 9 i0 (.string ⟨#[]⟩) 1 16 ht hi hz0 hz1 hz2 rfl (by decide) v n xs hs hown ad m c (strs news) hx (by rw [strs_len, Nat.mul_one, hm]) (fun j u hj => ?_) (strs_one _) (by unfold maxLen; omega) (by omega) hbase (fun v' w' h1 h2 _ => h v' w' h1 h2)
    have hj' : j < news.length := by
      have := (List.getElem?_eq_some_iff.mp hj).1
      rwa [strs_len] at this
    obtain ⟨g, o', h1, _, h2⟩ := hr j hj'
    simp only [Option.some.injEq] at h1
    subst h1
    rw [Addr.add_lit, h2]
    have h3 : (strs news)[j]? = some (Value.string (str news[j])) := by simp [strs, List.getElem?_map, List.getElem?_eq_getElem hj']
    rw [← h3, hj]

/-- A row of strings of the call's own. -/
def TOw (w : World) (base : Nat) (v : Value) (l : List (List UInt8)) : Prop := w.ownsRow base 9 1 v l.length (strs l)
theorem TOw.nil (w : World) (base : Nat) : TOw w base (.slice none 0 0) [] := World.ownsRow_nil w base 9 1
theorem TOw.below {w w' : World} {base : Nat} {v : Value} {l : List (List UInt8)} (h : TOw w base v l) (hb : Below w.heap.size w w') : TOw w' base v l := own_below h hb
theorem TOw.of {w : World} {base n : Nat} {v : Value} {l : List (List UInt8)} (h : TOw w base v l) (hn : n = l.length) : w.ownsRow base 9 1 v n (strs l) := by
  rw [hn]
  exact h
theorem TOw.app {w : World} {base n m : Nat} {v : Value} {l l2 : List (List UInt8)} (hn : n = l.length) (hm : m = l2.length) (h : w.ownsRow base 9 1 v (n + m) (strs l ++ strs l2)) : TOw w base v (l ++ l2) := by
  unfold TOw
  rw [strs_append, List.length_append, ← hn, ← hm]
  exact h
theorem TOw.shapeN {w : World} {base n : Nat} {v : Value} {l : List (List UInt8)} (h : TOw w base v l) (hn : n = l.length) : ∃ p cap, v = .slice p n cap ∧ SRw w p l := by
  rw [hn]
  exact srw_of h
/-- What Apply answers. -/
def AppPost (R : Option (List (List UInt8))) (w : World) (e : Ending) (w' : World) : Prop := Below w.heap.size w w' ∧ match R with
  | none => e = .returned (.tuple #[.slice none 0 0, .int .i64 80])
  | some x => ∃ v, e = .returned (.tuple #[v, .int .i64 0]) ∧ TOw w' w.heap.size v x
theorem appPost_none {R : Option (List (List UInt8))} {w w' : World} (hR : R = none) (hb : Below w.heap.size w w') : AppPost R w (.returned (.tuple #[.slice none 0 0, .int .i64 80])) w' := by
  subst hR
  exact ⟨hb, rfl⟩
theorem appPost_some {R : Option (List (List UInt8))} {x : List (List UInt8)} {v : Value} {w w' : World} (hR : R = some x) (hb : Below w.heap.size w w') (ho : TOw w' w.heap.size v x) : AppPost R w (.returned (.tuple #[v, .int .i64 0])) w' := by
  subst hR
  exact ⟨hb, v, rfl, ho⟩

set_option maxHeartbeats 2000000 in
set_option maxRecDepth 4000 in
theorem apply_any (la lb : List (List UInt8)) (es : List Ed) (p q r : Option Addr) (c d ce n m l : Nat) (R : Option (List (List UInt8))) (w : World) (hn : n = la.length) (hm : m = lb.length) (hle : l = es.length) (hp : SRw w p la) (hq : SRw w q lb) (hr : ERw w r es)
    (hc : n ≤ c) (hd : m ≤ d) (hl : n ≤ 5000) (hl2 : m ≤ 5000) (hl3 : l ≤ 1048576) (hR : R = appL la lb es 0 0 []) :
    Calls Try.prog 17 #[.slice p n c, .slice r l ce, .slice q m d] w (AppPost R w) := by
  have HN := Lib.hid hn
  have HM := Lib.hid hm
  have HLE := Lib.hid hle
  have HP := Lib.hid hp
  have HQ := Lib.hid hq
  have HR := Lib.hid hr
  have HB : Hid (R = appL la lb (es.drop 0) 0 0 []) := hR
  clear hn hm hle hp hq hr hR
  have hu := Try.underlying22
  have HU := Lib.hid hu
  clear hu
  go_enter Try.func17, Try.ntmps17
  go_wp2
  go_loopw [15, 9, 10, 8] (fun kv iv jv ov wr => ∃ (k i j L : Nat) (out : List (List UInt8)) (g : Option Addr) (cap : Nat), k ≤ l ∧ i ≤ n ∧ j ≤ m ∧ L ≤ i + j ∧ kv = .int .i64 k ∧ iv = .int .i64 i ∧ jv = .int .i64 j ∧ ov = .slice g L cap ∧ Hid (L = out.length) ∧ Hid (TOw wr w.heap.size (.slice g L cap) out) ∧ Hid (R = appL la lb (es.drop k) i j out) ∧ Hid (Below w.heap.size w wr)) (fun kv _ _ _ _ => l - (intOf kv).toNat)
  case atStart => exact ⟨0, 0, 0, 0, [], none, 0, by omega, by omega, by omega, by omega, rfl, rfl, rfl, rfl, rfl, TOw.nil _ _, HB.out, Below.refl _ _⟩
  case round =>
    clear HB
    obtain ⟨k, i, j, L, out, gO, cap, hk, hi, hj, hL, rfl, rfl, rfl, rfl, HL, HO, HB, HW⟩ := hrel
    have hws := HW.out.size
    by_cases hlt : k < l
    · have hka : k < es.length := by rw [← HLE.out]; omega
      obtain ⟨g, o, rfl, hg, a0, a1, a2, a3⟩ := HR.out.now HW.out k hka
      have hX := HB.out
      rw [drop_ed hka] at hX
      obtain ⟨e, he⟩ : ∃ e, e = es[k] := ⟨_, rfl⟩
      rw [← he] at a0 a1 a2 a3 hX
      obtain ⟨f, dd, t, x⟩ := e
      simp only at a0 a1 a2 a3
      have CF : Hid (∀ w' B', B' = decide (okE ⟨f, dd, t, x⟩ i j n m) → Calls Try.prog 32 #[.agg #[.int .i64 f, .int .i64 dd, .int .i64 t, .int .i64 x], .int .i64 (i : Int), .int .i64 (j : Int), .int .i64 (n : Int), .int .i64 (m : Int)] w' fun e w'' => e = .returned (.bool B') ∧ Below w'.heap.size w' w'') := fun w' B' h =>
        follows_any ⟨f, dd, t, x⟩ i j n m B' w' (by omega) (by omega) (by omega) (by omega) h
      clear he hka HB
      by_cases hok : okE ⟨f, dd, t, x⟩ i j n m
      · obtain ⟨F, D, T, X, rfl, rfl, rfl, rfl, h1, h2, h3, h4⟩ := okE_nat hok
        have CF' : Hid (∀ w', Calls Try.prog 32 #[.agg #[.int .i64 (F : Int), .int .i64 (D : Int), .int .i64 (T : Int), .int .i64 (X : Int)], .int .i64 (i : Int), .int .i64 (j : Int), .int .i64 (n : Int), .int .i64 (m : Int)] w' fun e w'' => e = .returned (.bool true) ∧ Below w'.heap.size w' w'') := fun w' => CF.out w' true (decide_eq_true hok).symm
        rw [HN.out, HM.out] at hok
        have ef : (⟨(F : Int), (D : Int), (T : Int), (X : Int)⟩ : Ed).ef = F + D := by unfold Ed.ef; simp only; omega
        have et : (⟨(F : Int), (D : Int), (T : Int), (X : Int)⟩ : Ed).et = T + X := by unfold Ed.et; simp only; omega
        rw [appL_go hok, ef, et] at hX
        simp only [Int.toNat_natCast] at hX
        obtain ⟨I, hI⟩ : ∃ I, I = F + D := ⟨_, rfl⟩
        obtain ⟨J, hJ⟩ : ∃ J, J = T + X := ⟨_, rfl⟩
        have i1 : IntKind.i64.wrap ((F : Int) + (D : Int)) = (I : Int) := by rw [IntWalk.i64_in _ (by omega)]; omega
        have i2 : IntKind.i64.wrap ((T : Int) + (X : Int)) = (J : Int) := by rw [IntWalk.i64_in _ (by omega)]; omega
        have hFc : F ≤ c := by omega
        have hTJ : T ≤ J := by omega
        have hJd : J ≤ d := by omega
        have hJm : J ≤ m := by omega
        have hIn : I ≤ n := by omega
        have hFI : F ≤ I := by omega
        have hFn : F ≤ n := by omega
        have hTm : T ≤ m := by omega
        have HX : Hid (R = appL la lb (es.drop (k + 1)) I J (out ++ (la.drop i).take (F - i) ++ (lb.drop T).take (J - T))) := by
          show _ = _
          rw [hX, ← hI, ← hJ, show J - T = X by omega]
        have HL1 : Hid (F - i = ((la.drop i).take (F - i)).length) := by show _ = _; rw [List.length_take, List.length_drop, ← HN.out]; omega
        have HL2 : Hid (J - T = ((lb.drop T).take (J - T)).length) := by show _ = _; rw [List.length_take, List.length_drop, ← HM.out]; omega
        have HS1 : Hid (∀ w', Below w.heap.size w w' → SRw w' (if c = i then p else p.map (·.add i)) ((la.drop i).take (F - i)) ∧ SRw w' (p.map (·.add i)) ((la.drop i).take (F - i))) := fun w' hb' => ⟨(HP.out.below hb').cutTo i F HN.out hc h1 hFn, (HP.out.below hb').part i _⟩
        have HS2 : Hid (∀ w', Below w.heap.size w w' → SRw w' (if d = T then q else q.map (·.add T)) ((lb.drop T).take (J - T)) ∧ SRw w' (q.map (·.add T)) ((lb.drop T).take (J - T))) := fun w' hb' => ⟨(HQ.out.below hb').cutTo T J HM.out hd hTJ hJm, (HQ.out.below hb').part T _⟩
        clear CF hok hX ef et hI hJ h2 h4
        go_upto_region 9 with (first
          | (go_at_call 32; go_loud ((with_reducible refine (CF'.out _).mono ?_); rintro e w2 ⟨rfl, hb2⟩; have HW2 := Lib.hid ((below_new HW.out _).trans (hb2.mono (by simp; omega))); obtain ⟨⟨z0, z1, z2, z3⟩, zz⟩ := box_four hb2; have HO2 := Lib.hid ((HO.out.below (below_new (Below.refl _ _) _)).below hb2); have ho2 := HO2.out.of HL.out; have hs2 := HW2.out.size; have ZZ := Lib.hid zz; clear zz))
          | (at_builtin; refine app_srw _ rfl _ _ 22 rfl HU.out w.heap.size _ L _ rfl ho2 _ (F - i) _ _ rfl HL1.out (by first | exact (HS1.out _ HW2.out).1 | exact (HS1.out _ HW2.out).2) (by omega) hs2 ?_; intro v3 w3 ho3 hg3))
        have ho3' := TOw.app HL.out HL1.out ho3
        obtain ⟨g3, cap3, rfl, _⟩ := ho3'.shapeN (n := L + (F - i)) (by rw [List.length_append, ← HL1.out, ← HL.out])
        have HO3 := Lib.hid ho3'
        have HW3 := Lib.hid (HW2.out.grown hg3 hs2 (fun b hb => (ho2.lt b hb).1))
        have zz3 := own_row ho2 ZZ.out (by decide) (row_lt ZZ.out) hg3
        have y0 := cell_of_row w3 _ 0 _ _ _ zz3
        have y1 := cell_of_row w3 _ 1 _ _ _ zz3
        have y2 := cell_of_row w3 _ 2 _ _ _ zz3
        have y3 := cell_of_row w3 _ 3 _ _ _ zz3
        have hs3 := HW3.out.size
        clear ho3 ho3' hg3 ho2 z0 z1 z2 z3 zz3 a0 a1 a2 a3 hb2
        go_quiet (fail)
        obtain ⟨w4, hw4⟩ : ∃ w4, w4 = w3.drewN nq := ⟨_, rfl⟩
        have HO4 : Hid (TOw w4 w.heap.size (.slice g3 (L + (F - i)) cap3) (out ++ (la.drop i).take (F - i))) := by show TOw _ _ _ _; rw [hw4]; exact HO3.out.below (below_drewN (Below.refl _ _) _)
        have HW4 : Hid (Below w.heap.size w w4) := by show Below _ _ _; rw [hw4]; exact below_drewN HW3.out _
        have y2' : w4.cell? ⟨wr.heap.size, 2, none⟩ = some (.int .i64 (T : Int)) := by rw [hw4]; exact y2
        have HLL : Hid (L + (F - i) = (out ++ (la.drop i).take (F - i)).length) := by show _ = _; rw [List.length_append, ← HL1.out, ← HL.out]
        have ho4 := HO4.out.of HLL.out
        have hs4 := HW4.out.size
        rw [← hw4]
        clear hw4 y0 y1 y2 y3
        obtain ⟨L3, hL3⟩ : ∃ L3, L3 = L + (F - i) := ⟨_, rfl⟩
        rw [← hL3] at ho4 HLL ⊢
        have hL4 : L3 ≤ F + j := by omega
        clear hL3
        go_wp2_with (at_builtin; refine app_srw _ rfl _ _ 22 rfl HU.out w.heap.size _ L3 _ rfl ho4 _ (J - T) _ _ rfl HL2.out (by first | exact (HS2.out _ HW4.out).1 | exact (HS2.out _ HW4.out).2) (by omega) hs4 ?_; intro v5 w5 ho5 hg5; have ho5' := TOw.app HLL.out HL2.out ho5; obtain ⟨g5, cap5, rfl, _⟩ := ho5'.shapeN (n := L3 + (J - T)) (by rw [List.length_append, ← HL2.out, ← HLL.out]); have HO5 := Lib.hid ho5'; have HW5 := Lib.hid (HW4.out.grown hg5 hs4 (fun b hb => (ho4.lt b hb).1)); clear ho5 hg5 ho5')
        go_roundw
        case rel => exact ⟨k + 1, I, J, L3 + (J - T), _, g5, cap5, by omega, hIn, hJm, by omega, by go_num, rfl, rfl, rfl, by show _ = _; rw [List.length_append, ← HL2.out, ← HLL.out], HO5.out, HX.out, HW5.out⟩
        case measure => simp [intOf]; omega
      · have HX : Hid (R = none) := by
          show _ = _
          rw [hX, appL_not (fun h => hok (by rw [← HN.out, ← HM.out] at h; exact h))]
        have CF' : Hid (∀ w', Calls Try.prog 32 #[.agg #[.int .i64 f, .int .i64 dd, .int .i64 t, .int .i64 x], .int .i64 (i : Int), .int .i64 (j : Int), .int .i64 (n : Int), .int .i64 (m : Int)] w' fun e w'' => e = .returned (.bool false) ∧ Below w'.heap.size w' w'') := fun w' => CF.out w' false (decide_eq_false hok).symm
        clear CF hX hok
        go_wp2_with (go_at_call 32; go_loud ((with_reducible refine (CF'.out _).mono ?_); rintro e w2 ⟨rfl, hb2⟩; have HW2 := Lib.hid ((below_new HW.out _).trans (hb2.mono (by simp; omega)))))
        go_ret2
        exact appPost_none HX.out HW2.out
    · obtain rfl : k = l := by omega
      have HX : Hid (R = some (out ++ la.drop i)) := by
        show _ = _
        rw [HB.out, HLE.out, List.drop_length]
        rfl
      have HL1 : Hid (n - i = (la.drop i).length) := by show _ = _; rw [List.length_drop, ← HN.out]
      have HS1 : Hid (SRw wr (if c = i then p else p.map (·.add i)) (la.drop i) ∧ SRw wr (p.map (·.add i)) (la.drop i)) := ⟨(HP.out.below HW.out).cutN i HN.out hc hi, (HP.out.below HW.out).left i⟩
      have ho := HO.out.of HL.out
      clear HB
      go_wp2_with (at_builtin; refine app_srw _ rfl _ _ 22 rfl HU.out w.heap.size _ L _ rfl ho _ (n - i) _ _ rfl HL1.out (by first | exact HS1.out.1 | exact HS1.out.2) (by omega) hws ?_; intro v3 w3 ho3 hg3; have ho3' := TOw.app HL.out HL1.out ho3; obtain ⟨g3, cap3, rfl, _⟩ := ho3'.shapeN (n := L + (n - i)) (by rw [List.length_append, ← HL1.out, ← HL.out]); have HO3 := Lib.hid ho3'; have HW3 := Lib.hid (HW.out.grown hg3 hws (fun b hb => (ho.lt b hb).1)); clear ho3 ho3' hg3)
      all_goals go_ret2
      all_goals exact appPost_some HX.out HW3.out HO3.out
end Go.Proofs.Ythgmiehojblomaa
