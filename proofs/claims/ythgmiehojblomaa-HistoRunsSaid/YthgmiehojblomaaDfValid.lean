/-
  The walk of Valid.
-/
import Derived.Test.YthgmiehojblomaaDfBox4
import Derived.Test.YthgmiehojblomaaDfLeastA
namespace Go.Proofs.Ythgmiehojblomaa
open Go.RowKit

/-- An edit that is right in its place has plain numbers. -/
theorem okE_nat {f d t x : Int} {i j n m : Nat} (h : okE ⟨f, d, t, x⟩ i j n m) : ∃ F D T X : Nat, f = F ∧ d = D ∧ t = T ∧ x = X ∧ i ≤ F ∧ F + D ≤ n ∧ j ≤ T ∧ T + X ≤ m := by
  unfold okE at h
  simp only at h
  exact ⟨f.toNat, d.toNat, t.toNat, x.toNat, by omega, by omega, by omega, by omega, by omega, by omega, by omega, by omega⟩
theorem SRw.cutTo {w : World} {p : Option Addr} {ls : List (List UInt8)} {c n : Nat} (h : SRw w p ls) (i F : Nat) (hn : n = ls.length) (hc : n ≤ c) (hi : i ≤ F) (hF : F ≤ n) : SRw w (if c = i then p else p.map (·.add i)) ((ls.drop i).take (F - i)) := by
  split
  · rw [List.drop_of_length_le (by omega), List.take_nil]
    exact SRw.none _ _
  · exact h.part i _
theorem SRw.cutN {w : World} {p : Option Addr} {ls : List (List UInt8)} {c n : Nat} (h : SRw w p ls) (i : Nat) (hn : n = ls.length) (hc : n ≤ c) (hi : i ≤ n) : SRw w (if c = i then p else p.map (·.add i)) (ls.drop i) := h.cut i (by omega) (by omega)
theorem drop_ed {es : List Ed} {k : Nat} (h : k < es.length) : es.drop k = es[k] :: es.drop (k + 1) := List.drop_eq_getElem_cons h

set_option maxHeartbeats 1000000 in
set_option maxRecDepth 4000 in
theorem valid_any (la lb : List (List UInt8)) (es : List Ed) (p q r : Option Addr) (c d ce n m l : Nat) (B : Bool) (w : World) (hn : n = la.length) (hm : m = lb.length) (hle : l = es.length) (hp : SRw w p la) (hq : SRw w q lb) (hr : ERw w r es)
    (hc : n ≤ c) (hd : m ≤ d) (hl : n ≤ 5000) (hl2 : m ≤ 5000) (hl3 : l ≤ 140737488355328) (hB : B = valL la lb es true 0 0) :
    Calls Try.prog 18 #[.slice p n c, .slice q m d, .slice r l ce] w fun e w' => e = .returned (.bool B) ∧ Below w.heap.size w w' := by
  have HN := Lib.hid hn
  have HM := Lib.hid hm
  have HLE := Lib.hid hle
  have HP := Lib.hid hp
  have HQ := Lib.hid hq
  have HR := Lib.hid hr
  have HB : Hid (B = valL la lb (es.drop 0) (decide (0 = 0)) 0 0) := hB
  clear hn hm hle hp hq hr hB
  go_enter Try.func18, Try.ntmps18
  go_wp2
  go_loopw [13, 7, 8] (fun kv iv jv wr => ∃ k i j : Nat, k ≤ l ∧ i ≤ n ∧ j ≤ m ∧ kv = .int .i64 k ∧ iv = .int .i64 i ∧ jv = .int .i64 j ∧ Hid (B = valL la lb (es.drop k) (decide (k = 0)) i j) ∧ Below w.heap.size w wr) (fun kv _ _ _ => l - (intOf kv).toNat)
  case atStart => exact ⟨0, 0, 0, by omega, by omega, by omega, rfl, rfl, rfl, HB, Below.refl _ _⟩
  case round =>
    clear HB
    obtain ⟨k, i, j, hk, hi, hj, rfl, rfl, rfl, HB, hb⟩ := hrel
    by_cases hlt : k < l
    · have hka : k < es.length := by rw [← HLE.out]; omega
      obtain ⟨g, o, rfl, hg, a0, a1, a2, a3⟩ := HR.out.below hb k hka
      have hX := HB.out
      rw [drop_ed hka] at hX
      obtain ⟨e, he⟩ : ∃ e, e = es[k] := ⟨_, rfl⟩
      rw [← he] at a0 a1 a2 a3 hX
      obtain ⟨f, dd, t, x⟩ := e
      simp only at a0 a1 a2 a3
      have CF : Hid (∀ w' B', B' = decide (okE ⟨f, dd, t, x⟩ i j n m) → Calls Try.prog 32 #[.agg #[.int .i64 f, .int .i64 dd, .int .i64 t, .int .i64 x], .int .i64 (i : Int), .int .i64 (j : Int), .int .i64 (n : Int), .int .i64 (m : Int)] w' fun e w'' => e = .returned (.bool B') ∧ Below w'.heap.size w' w'') := fun w' B' h =>
        follows_any ⟨f, dd, t, x⟩ i j n m B' w' (by omega) (by omega) (by omega) (by omega) h
      clear he hka hg HB
      by_cases hok : okE ⟨f, dd, t, x⟩ i j n m
      · obtain ⟨F, D, T, X, rfl, rfl, rfl, rfl, h1, h2, h3, h4⟩ := okE_nat hok
        have CF' : Hid (∀ w', Calls Try.prog 32 #[.agg #[.int .i64 (F : Int), .int .i64 (D : Int), .int .i64 (T : Int), .int .i64 (X : Int)], .int .i64 (i : Int), .int .i64 (j : Int), .int .i64 (n : Int), .int .i64 (m : Int)] w' fun e w'' => e = .returned (.bool true) ∧ Below w'.heap.size w' w'') := fun w' => CF.out w' true (decide_eq_true hok).symm
        have hok2 := hok
        rw [HN.out, HM.out] at hok2
        have HOK := Lib.hid hok2
        clear CF hok hok2
        by_cases hz : D = 0 ∧ X = 0
        · have HX : Hid (B = false) := by
            show _ = _
            rw [hX, valL_not (fun h => h.2.1 ⟨by show (D : Int) = 0; omega, by show (X : Int) = 0; omega⟩)]
          have d0 : ((D : Int) == 0) = true := by rw [beq_iff_eq]; omega
          have x0 : ((X : Int) == 0) = true := by rw [beq_iff_eq]; omega
          clear hX hz
          go_wp2_with (go_at_call 32; go_loud ((with_reducible refine (CF'.out _).mono ?_); rintro e w2 ⟨rfl, hb2⟩; have hb3 := (below_new hb _).trans (hb2.mono (below_new hb _).size); obtain ⟨⟨z0, z1, z2, z3⟩, zz⟩ := box_four hb2))
          go_ret
          exact ⟨by rw [HX.out]; rfl, hb3⟩
        · have hz' : ((D : Int) == 0) = false ∨ ((D : Int) == 0) = true ∧ ((X : Int) == 0) = false := by
            rw [beq_eq_false_iff_ne, beq_iff_eq, beq_eq_false_iff_ne]
            omega
          have HZ : Hid (¬ ((D : Int) = 0 ∧ (X : Int) = 0)) := by show ¬ _; omega
          have ef : (⟨(F : Int), (D : Int), (T : Int), (X : Int)⟩ : Ed).ef = F + D := by unfold Ed.ef; simp only; omega
          have et : (⟨(F : Int), (D : Int), (T : Int), (X : Int)⟩ : Ed).et = T + X := by unfold Ed.et; simp only; omega
          clear hz
          by_cases hkf : 0 < k ∧ F = i
          · obtain ⟨hk0, hFi⟩ := hkf
            have HX : Hid (B = false) := by
              show _ = _
              rw [hX, valL_not (fun h => h.2.2.1 (decide_eq_false (by omega)) (by show (F : Int) = i; omega))]
            have e1 : decide ((0 : Int) < (k : Int)) = true := decide_eq_true (by omega)
            have e2 : ((F : Int) == (i : Int)) = true := by rw [beq_iff_eq]; omega
            clear hX hFi ef et
            rcases hz' with d0 | ⟨d0, x0⟩
            all_goals go_wp2_with (go_at_call 32; go_loud ((with_reducible refine (CF'.out _).mono ?_); rintro e w2 ⟨rfl, hb2⟩; have hb3 := (below_new hb _).trans (hb2.mono (below_new hb _).size); obtain ⟨⟨z0, z1, z2, z3⟩, zz⟩ := box_four hb2))
            all_goals go_quiet (fail)
            all_goals go_wp2
            all_goals go_ret
            all_goals exact ⟨by rw [HX.out]; rfl, below_drewN hb3 _⟩
          · have hkk : decide (0 < k) = false ∨ decide (0 < k) = true ∧ ((F : Int) == (i : Int)) = false := by
              rw [decide_eq_false_iff_not, decide_eq_true_iff, beq_eq_false_iff_ne]
              omega
            have hok3 : decide (k = 0) = false → (F : Int) ≠ i := fun h => by
              have := of_decide_eq_false h
              omega
            obtain ⟨P, hP⟩ : ∃ P, (if c = i then p else p.map (·.add i)) = P := ⟨_, rfl⟩
            obtain ⟨Q, hQ⟩ : ∃ Q, (if d = j then q else q.map (·.add j)) = Q := ⟨_, rfl⟩
            obtain ⟨B2, hB2⟩ : ∃ B2, B2 = decide ((la.drop i).take (F - i) = (lb.drop j).take (T - j)) := ⟨_, rfl⟩
            have HSAME : Hid (∀ w', Below w.heap.size w w' → ∀ x c' d', Calls Try.prog 33 #[.slice P (F - i) c', .slice Q (T - j) d'] (w'.drewN x) fun e w'' => e = .returned (.bool B2) ∧ ∃ k, w'' = (w'.drewN x).drewN k) := fun w' hb' x c' d' =>
              same_any _ _ P Q c' d' (F - i) (T - j) B2 _ (by rw [List.length_take, List.length_drop, ← HN.out]; omega) (by rw [List.length_take, List.length_drop, ← HM.out]; omega)
                (by rw [← hP]; exact (HP.out.below (below_drewN hb' x)).cutTo i F HN.out hc h1 (by omega)) (by rw [← hQ]; exact (HQ.out.below (below_drewN hb' x)).cutTo j T HM.out hd h3 (by omega)) (by omega) (by omega) hB2
            have i1 : IntKind.i64.wrap ((F : Int) + (D : Int)) = ((F + D : Nat) : Int) := by rw [IntWalk.i64_in _ (by omega)]; omega
            have i2 : IntKind.i64.wrap ((T : Int) + (X : Int)) = ((T + X : Nat) : Int) := by rw [IntWalk.i64_in _ (by omega)]; omega
            have hFc : F ≤ c := by omega
            have hTd : T ≤ d := by omega
            rcases B2 with _ | _
            · have HX : Hid (B = false) := by
                show _ = _
                rw [hX, valL_not (fun h => of_decide_eq_false hB2.symm (by have := h.2.2.2; simp only [Int.toNat_natCast] at this; exact this))]
              clear hX hB2 hok3 ef et
              rcases hkk with e1 | ⟨e1, e2⟩ <;> rcases hz' with d0 | ⟨d0, x0⟩
              all_goals go_wp2_with (go_at_call 32; go_loud ((with_reducible refine (CF'.out _).mono ?_); rintro e w2 ⟨rfl, hb2⟩; have hb3 := (below_new hb _).trans (hb2.mono (below_new hb _).size); obtain ⟨⟨z0, z1, z2, z3⟩, zz⟩ := box_four hb2))
              all_goals go_quiet ((go_at_call 33; go_loud (with_reducible exact Calls.quiet_of (HSAME.out w2 hb3 _ _ _))))
              all_goals go_wp2
              all_goals go_ret
              all_goals exact ⟨by rw [HX.out]; rfl, below_drewN hb3 _⟩
            · have HX : Hid (B = valL la lb (es.drop (k + 1)) (decide (k + 1 = 0)) (F + D) (T + X)) := by
                show _ = _
                rw [hX, valL_go ⟨HOK.out, HZ.out, hok3, by simp only [Int.toNat_natCast]; exact of_decide_eq_true hB2.symm⟩, ef, et]
                rfl
              clear hX hB2 hok3 ef et
              obtain ⟨I, hI⟩ : ∃ I, I = F + D := ⟨_, rfl⟩
              obtain ⟨J, hJ⟩ : ∃ J, J = T + X := ⟨_, rfl⟩
              rw [← hI] at i1 HX
              rw [← hJ] at i2 HX
              have hIn : I ≤ n := by omega
              have hJm : J ≤ m := by omega
              clear hI hJ
              rcases hkk with e1 | ⟨e1, e2⟩ <;> rcases hz' with d0 | ⟨d0, x0⟩
              all_goals go_wp2_with (go_at_call 32; go_loud ((with_reducible refine (CF'.out _).mono ?_); rintro e w2 ⟨rfl, hb2⟩; have hb3 := (below_new hb _).trans (hb2.mono (below_new hb _).size); obtain ⟨⟨z0, z1, z2, z3⟩, zz⟩ := box_four hb2))
              all_goals go_quiet ((go_at_call 33; go_loud (with_reducible exact Calls.quiet_of (HSAME.out w2 hb3 _ _ _))))
              all_goals go_wp2
              all_goals go_quiet (fail)
              all_goals go_wp2
              all_goals go_roundw
              case rel => exact ⟨k + 1, I, J, by omega, hIn, hJm, by go_num, by go_num, by go_num, HX, below_drewN hb3 _⟩
              case measure => simp [intOf]; omega
              case rel => exact ⟨k + 1, I, J, by omega, hIn, hJm, by go_num, by go_num, by go_num, HX, below_drewN hb3 _⟩
              case measure => simp [intOf]; omega
              case rel => exact ⟨k + 1, I, J, by omega, hIn, hJm, by go_num, by go_num, by go_num, HX, below_drewN hb3 _⟩
              case measure => simp [intOf]; omega
              case rel => exact ⟨k + 1, I, J, by omega, hIn, hJm, by go_num, by go_num, by go_num, HX, below_drewN hb3 _⟩
              case measure => simp [intOf]; omega
      · have HX : Hid (B = false) := by
          show _ = _
          rw [hX, valL_not (fun h => hok (by have := h.1; rw [← HN.out, ← HM.out] at this; exact this))]
        have CF' : Hid (∀ w', Calls Try.prog 32 #[.agg #[.int .i64 f, .int .i64 dd, .int .i64 t, .int .i64 x], .int .i64 (i : Int), .int .i64 (j : Int), .int .i64 (n : Int), .int .i64 (m : Int)] w' fun e w'' => e = .returned (.bool false) ∧ Below w'.heap.size w' w'') := fun w' => CF.out w' false (decide_eq_false hok).symm
        clear CF hX hok
        go_wp2_with (go_at_call 32; go_loud ((with_reducible refine (CF'.out _).mono ?_); rintro e w2 ⟨rfl, hb2⟩; have hb3 := (below_new hb _).trans (hb2.mono (below_new hb _).size)))
        go_ret
        exact ⟨by rw [HX.out]; rfl, hb3⟩
    · obtain rfl : k = l := by omega
      obtain ⟨P, hP⟩ : ∃ P, (if c = i then p else p.map (·.add i)) = P := ⟨_, rfl⟩
      obtain ⟨Q, hQ⟩ : ∃ Q, (if d = j then q else q.map (·.add j)) = Q := ⟨_, rfl⟩
      have HX : Hid (B = decide (la.drop i = lb.drop j)) := by
        show _ = _
        rw [HB.out, HLE.out, List.drop_length]
        rfl
      have HSAME : Hid (∀ x c' d', Calls Try.prog 33 #[.slice P (n - i) c', .slice Q (m - j) d'] (wr.drewN x) fun e w'' => e = .returned (.bool B) ∧ ∃ k, w'' = (wr.drewN x).drewN k) := fun x c' d' =>
        same_any _ _ P Q c' d' (n - i) (m - j) B _ (by rw [List.length_drop, ← HN.out]) (by rw [List.length_drop, ← HM.out])
          (by rw [← hP]; exact (HP.out.below (below_drewN hb x)).cutN i HN.out hc hi) (by rw [← hQ]; exact (HQ.out.below (below_drewN hb x)).cutN j HM.out hd hj) (by omega) (by omega) HX.out
      clear HB
      go_wp2
      go_quiet ((go_at_call 33; go_loud (with_reducible exact Calls.quiet_of (HSAME.out _ _ _))))
      go_wp2
      go_ret
      exact ⟨rfl, below_drewN hb _⟩
end Go.Proofs.Ythgmiehojblomaa
