/-
  The walk of the reference's Right.
-/
import Derived.Test.YtabadihainbbhabDfValid
namespace Go.Proofs.Ytabadihainbbhab
open Go.RowKit

theorem box_keep {w w' : World} {A : Nat} {o o' : Obj} (h : w.heap[A]? = some o) (hb : Below (w.alloc o').heap.size (w.alloc o') w') : w'.heap[A]? = some o :=
  (hb.block A (by have := row_lt h; simp; omega)).trans (row_alloc h (row_lt h))
theorem row_cells {w : World} {A : Nat} {a b c d : Value} {t : TypeId} (h : w.heap[A]? = some (.cells #[a, b, c, d] t (0, 0))) :
    (w.cell? ⟨A, 0, none⟩ = some a ∧ w.cell? ⟨A, 1, none⟩ = some b ∧ w.cell? ⟨A, 2, none⟩ = some c ∧ w.cell? ⟨A, 3, none⟩ = some d) ∧ ∀ o, w.frozen? ⟨A, o, none⟩ = false :=
  ⟨⟨cell_of_row w A 0 _ _ _ h, cell_of_row w A 1 _ _ _ h, cell_of_row w A 2 _ _ _ h, cell_of_row w A 3 _ _ _ h⟩, fun o => frozen_of_row w A o _ _ h⟩

set_option maxHeartbeats 4000000 in
set_option maxRecDepth 4000 in
theorem rright_any (la lb : List (List UInt8)) (es : List Ed) (p q r : Option Addr) (c d ce n m l : Nat) (B : Bool) (w : World) (hn : n = la.length) (hm : m = lb.length) (hle : l = es.length) (hp : SRw w p la) (hq : SRw w q lb) (hr : ERw w r es)
    (hc : n ≤ c) (hd : m ≤ d) (hl : n ≤ 5000) (hl2 : m ≤ 5000) (hl3 : l ≤ 140737488355328) (hB : B = valL la lb es true 0 0) :
    Calls Try.prog 17 #[.slice p n c, .slice q m d, .slice r l ce] w fun e w' => e = .returned (.bool B) ∧ Below w.heap.size w w' := by
  have HN := Lib.hid hn
  have HM := Lib.hid hm
  have HLE := Lib.hid hle
  have HP := Lib.hid hp
  have HQ := Lib.hid hq
  have HR := Lib.hid hr
  have HB : Hid (B = valL la lb (es.drop 0) (decide (0 = 0)) 0 0) := hB
  clear hn hm hle hp hq hr hB
  obtain ⟨A, hA⟩ : ∃ A, w.heap.size = A := ⟨_, rfl⟩
  have HA0 : Hid ((w.alloc (.cells #[.int .i64 0, .int .i64 0, .int .i64 0, .int .i64 0] 44)).heap[A]? = some (.cells #[.int .i64 0, .int .i64 0, .int .i64 0, .int .i64 0] 44 (0, 0))) := by
    rw [← hA]
    exact heap_alloc_new w _
  have HB0 : Hid (Below A w (w.alloc (.cells #[.int .i64 0, .int .i64 0, .int .i64 0, .int .i64 0] 44))) := by
    rw [← hA]
    exact below_new (Below.refl _ _) _
  have HA := Lib.hid hA
  rw [hA]
  go_enter Try.func17, Try.ntmps17
  go_wp2
  clear hA
  go_loopw [13] (fun kv wr => ∃ k i j : Nat, k ≤ l ∧ i ≤ n ∧ j ≤ m ∧ kv = .int .i64 k ∧ Hid (wr.heap[A]? = some (.cells #[.int .i64 (i : Int), .int .i64 0, .int .i64 (j : Int), .int .i64 0] 44 (0, 0))) ∧ Hid (B = valL la lb (es.drop k) (decide (k = 0)) i j) ∧ Hid (Below A w wr)) (fun kv _ => l - (intOf kv).toNat)
  case atStart => exact ⟨0, 0, 0, by omega, by omega, by omega, rfl, HA0.out, HB.out, HB0.out⟩
  case round =>
    clear HB HB0 HA0
    obtain ⟨k, i, j, hk, hi, hj, rfl, HAR, HB, HBW⟩ := hrel
    obtain ⟨⟨y0, y1, y2, y3⟩, yf⟩ := row_cells HAR.out
    have hAlt := row_lt HAR.out
    have hAne : A ≠ wr.heap.size := by omega
    have hbw : Below w.heap.size w wr := by rw [HA.out]; exact HBW.out
    by_cases hlt : k < l
    · have hka : k < es.length := by rw [← HLE.out]; omega
      obtain ⟨g, o, rfl, hg, a0, a1, a2, a3⟩ := HR.out.below hbw k hka
      have hX := HB.out
      rw [drop_ed hka] at hX
      obtain ⟨e, he⟩ : ∃ e, e = es[k] := ⟨_, rfl⟩
      rw [← he] at a0 a1 a2 a3 hX
      obtain ⟨f, dd, t, x⟩ := e
      simp only at a0 a1 a2 a3
      have CF : Hid (∀ w' B', B' = decide (okE ⟨f, dd, t, x⟩ i j n m) → Calls Try.prog 35 #[.agg #[.int .i64 f, .int .i64 dd, .int .i64 t, .int .i64 x], .agg #[.int .i64 (i : Int), .int .i64 0, .int .i64 (j : Int), .int .i64 0], .int .i64 (n : Int), .int .i64 (m : Int)] w' fun e w'' => e = .returned (.bool B') ∧ Below w'.heap.size w' w'') := fun w' B' h =>
        within_any f dd t x i j n m 0 0 B' w' (by omega) (by omega) (by omega) (by omega) h
      have HBX : Hid (∀ o', Below A w (wr.alloc o')) := fun o' => by
        have := below_new hbw o'
        rwa [HA.out] at this
      have HAW : Hid (A ≤ wr.heap.size) := Nat.le_of_lt hAlt
      clear he hka hg HB hbw
      by_cases hok : okE ⟨f, dd, t, x⟩ i j n m
      · obtain ⟨F, D, T, X, rfl, rfl, rfl, rfl, h1, h2, h3, h4⟩ := okE_nat hok
        have CF' : Hid (∀ w', Calls Try.prog 35 #[.agg #[.int .i64 (F : Int), .int .i64 (D : Int), .int .i64 (T : Int), .int .i64 (X : Int)], .agg #[.int .i64 (i : Int), .int .i64 0, .int .i64 (j : Int), .int .i64 0], .int .i64 (n : Int), .int .i64 (m : Int)] w' fun e w'' => e = .returned (.bool true) ∧ Below w'.heap.size w' w'') := fun w' => CF.out w' true (decide_eq_true hok).symm
        have hok2 := hok
        rw [HN.out, HM.out] at hok2
        have HOK := Lib.hid hok2
        clear CF hok hok2
        by_cases hz : D = 0 ∧ X = 0
        · have HX : Hid (B = false) := by
            show _ = _
            rw [hX, valL_not (fun h => h.2.1 ⟨by show (D : Int) = 0; omega, by show (X : Int) = 0; omega⟩)]
          have d0 : ((D : Int) == 0) = true := by rw [beq_iff_eq]; omega
          have x0 : ((X : Int) == 0) = true := by rw [beq_iff_eq]; omega
          clear hX hz
          go_wp2_with (go_at_call 35; go_loud ((with_reducible refine (CF'.out _).mono ?_); rintro e w2 ⟨rfl, hb2⟩; have hb3 := Lib.hid ((HBX.out _).trans (hb2.mono (by have := HAW.out; simp; omega))); obtain ⟨⟨z0, z1, z2, z3⟩, zz⟩ := box_four hb2; obtain ⟨⟨u0, u1, u2, u3⟩, uf⟩ := row_cells (box_keep HAR.out hb2)))
          go_ret
          exact ⟨by rw [HX.out]; rfl, hb3.out⟩
        · have hz' : ((D : Int) == 0) = false ∨ ((D : Int) == 0) = true ∧ ((X : Int) == 0) = false := by
            rw [beq_eq_false_iff_ne, beq_iff_eq, beq_eq_false_iff_ne]
            omega
          have HZ : Hid (¬ ((D : Int) = 0 ∧ (X : Int) = 0)) := by show ¬ _; omega
          have ef : (⟨(F : Int), (D : Int), (T : Int), (X : Int)⟩ : Ed).ef = F + D := by unfold Ed.ef; simp only; omega
          have et : (⟨(F : Int), (D : Int), (T : Int), (X : Int)⟩ : Ed).et = T + X := by unfold Ed.et; simp only; omega
          clear hz
          by_cases hkf : 0 < k ∧ F = i
          · obtain ⟨hk0, hFi⟩ := hkf
            have HX : Hid (B = false) := by
              show _ = _
              rw [hX, valL_not (fun h => h.2.2.1 (decide_eq_false (by omega)) (by show (F : Int) = i; omega))]
            have e1 : decide ((0 : Int) < (k : Int)) = true := decide_eq_true (by omega)
            have e2 : ((F : Int) == (i : Int)) = true := by rw [beq_iff_eq]; omega
            clear hX hFi ef et
            rcases hz' with d0 | ⟨d0, x0⟩
            all_goals go_wp2_with (go_at_call 35; go_loud ((with_reducible refine (CF'.out _).mono ?_); rintro e w2 ⟨rfl, hb2⟩; have hb3 := Lib.hid ((HBX.out _).trans (hb2.mono (by have := HAW.out; simp; omega))); obtain ⟨⟨z0, z1, z2, z3⟩, zz⟩ := box_four hb2; obtain ⟨⟨u0, u1, u2, u3⟩, uf⟩ := row_cells (box_keep HAR.out hb2)))
            all_goals go_ret
            all_goals exact ⟨by rw [HX.out]; rfl, hb3.out⟩
          · have hkk : decide (0 < k) = false ∨ decide (0 < k) = true ∧ ((F : Int) == (i : Int)) = false := by
              rw [decide_eq_false_iff_not, decide_eq_true_iff, beq_eq_false_iff_ne]
              omega
            have hok3 : decide (k = 0) = false → (F : Int) ≠ i := fun h => by
              have := of_decide_eq_false h
              omega
            obtain ⟨U, hU⟩ : ∃ U, U = F - i := ⟨_, rfl⟩
            obtain ⟨V, hV⟩ : ∃ V, V = T - j := ⟨_, rfl⟩
            have j1 : IntKind.i64.wrap ((F : Int) - (i : Int)) = (U : Int) := by rw [IntWalk.i64_in _ (by omega)]; omega
            have j2 : IntKind.i64.wrap ((T : Int) - (j : Int)) = (V : Int) := by rw [IntWalk.i64_in _ (by omega)]; omega
            by_cases huv : U = V
            · have b1 : ((U : Int) != (V : Int)) = false := by rw [bne_eq_false_iff_eq]; omega
              obtain ⟨P, hP⟩ : ∃ P, (if c = i then p else p.map (·.add i)) = P := ⟨_, rfl⟩
              obtain ⟨Q, hQ⟩ : ∃ Q, (if d = j then q else q.map (·.add j)) = Q := ⟨_, rfl⟩
              obtain ⟨B2, hB2⟩ : ∃ B2, B2 = decide ((la.drop i).take (F - i) = (lb.drop j).take (T - j)) := ⟨_, rfl⟩
              have HSAME : Hid (∀ w', Below A w w' → ∀ x P' Q' c' d', (P' = P ∨ P' = p.map (·.add i)) → (Q' = Q ∨ Q' = q.map (·.add j)) → Calls Try.prog 20 #[.slice P' (F - i) c', .slice Q' (T - j) d'] (w'.drewN x) fun e w'' => e = .returned (.bool B2) ∧ ∃ k, w'' = (w'.drewN x).drewN k) := fun w' hb' x P' Q' c' d' hP' hQ' => by
                rw [← HA.out] at hb'
                refine rsame_any _ _ P' Q' c' d' (F - i) (T - j) B2 _ (by rw [List.length_take, List.length_drop, ← HN.out]; omega) (by rw [List.length_take, List.length_drop, ← HM.out]; omega) ?_ ?_ (by omega) (by omega) hB2
                · rcases hP' with rfl | rfl
                  · rw [← hP]; exact (HP.out.below (below_drewN hb' x)).cutTo i F HN.out hc h1 (by omega)
                  · exact (HP.out.below (below_drewN hb' x)).part i _
                · rcases hQ' with rfl | rfl
                  · rw [← hQ]; exact (HQ.out.below (below_drewN hb' x)).cutTo j T HM.out hd h3 (by omega)
                  · exact (HQ.out.below (below_drewN hb' x)).part j _
              have i1 : IntKind.i64.wrap ((F : Int) + (D : Int)) = ((F + D : Nat) : Int) := by rw [IntWalk.i64_in _ (by omega)]; omega
              have i2 : IntKind.i64.wrap ((T : Int) + (X : Int)) = ((T + X : Nat) : Int) := by rw [IntWalk.i64_in _ (by omega)]; omega
              have hFc : F ≤ c := by omega
              have hTd : T ≤ d := by omega
              rcases B2 with _ | _
              · have HX : Hid (B = false) := by
                  show _ = _
                  rw [hX, valL_not (fun h => of_decide_eq_false hB2.symm (by have := h.2.2.2; simp only [Int.toNat_natCast] at this; exact this))]
                clear hX hB2 hok3 ef et hU hV huv
                rcases hkk with e1 | ⟨e1, e2⟩ <;> rcases hz' with d0 | ⟨d0, x0⟩
                all_goals go_wp2_with (go_at_call 35; go_loud ((with_reducible refine (CF'.out _).mono ?_); rintro e w2 ⟨rfl, hb2⟩; have hb3 := Lib.hid ((HBX.out _).trans (hb2.mono (by have := HAW.out; simp; omega))); obtain ⟨⟨z0, z1, z2, z3⟩, zz⟩ := box_four hb2; obtain ⟨⟨u0, u1, u2, u3⟩, uf⟩ := row_cells (box_keep HAR.out hb2)))
                all_goals go_quiet ((go_at_call 20; go_loud (with_reducible exact Calls.quiet_of (HSAME.out w2 hb3.out _ _ _ _ _ (by first | exact .inl rfl | exact .inr rfl) (by first | exact .inl rfl | exact .inr rfl)))))
                all_goals go_wp2
                all_goals go_ret
                all_goals exact ⟨by rw [HX.out]; rfl, below_drewN hb3.out _⟩
              · have HX : Hid (B = valL la lb (es.drop (k + 1)) (decide (k + 1 = 0)) (F + D) (T + X)) := by
                  show _ = _
                  rw [hX, valL_go ⟨HOK.out, HZ.out, hok3, by simp only [Int.toNat_natCast]; exact of_decide_eq_true hB2.symm⟩, ef, et]
                  rfl
                clear hX hB2 hok3 ef et hU hV huv
                obtain ⟨I, hI⟩ : ∃ I, I = F + D := ⟨_, rfl⟩
                obtain ⟨J, hJ⟩ : ∃ J, J = T + X := ⟨_, rfl⟩
                rw [← hI] at i1 HX
                rw [← hJ] at i2 HX
                have hIn : I ≤ n := by omega
                have hJm : J ≤ m := by omega
                clear hI hJ
                rcases hkk with e1 | ⟨e1, e2⟩ <;> rcases hz' with d0 | ⟨d0, x0⟩
                all_goals go_wp2_with (go_at_call 35; go_loud ((with_reducible refine (CF'.out _).mono ?_); rintro e w2 ⟨rfl, hb2⟩; have hb3 := Lib.hid ((HBX.out _).trans (hb2.mono (by have := HAW.out; simp; omega))); obtain ⟨⟨z0, z1, z2, z3⟩, zz⟩ := box_four hb2; have hA2 := Lib.hid (box_keep HAR.out hb2); obtain ⟨⟨u0, u1, u2, u3⟩, uf⟩ := row_cells hA2.out))
                all_goals go_quiet ((go_at_call 20; go_loud (with_reducible exact Calls.quiet_of (HSAME.out w2 hb3.out _ _ _ _ _ (by first | exact .inl rfl | exact .inr rfl) (by first | exact .inl rfl | exact .inr rfl)))))
                all_goals go_wp2
                all_goals go_roundw
                case rel => exact ⟨k + 1, I, J, by omega, hIn, hJm, by go_num, row4 (w := w2.drewN _) hA2.out _ _ _ _, HX, ((((below_drewN hb3.out _).setCell (Nat.le_refl _) _).setCell (Nat.le_refl _) _).setCell (Nat.le_refl _) _).setCell (Nat.le_refl _) _⟩
                case measure => simp [intOf]; omega
                case rel => exact ⟨k + 1, I, J, by omega, hIn, hJm, by go_num, row4 (w := w2.drewN _) hA2.out _ _ _ _, HX, ((((below_drewN hb3.out _).setCell (Nat.le_refl _) _).setCell (Nat.le_refl _) _).setCell (Nat.le_refl _) _).setCell (Nat.le_refl _) _⟩
                case measure => simp [intOf]; omega
                case rel => exact ⟨k + 1, I, J, by omega, hIn, hJm, by go_num, row4 (w := w2.drewN _) hA2.out _ _ _ _, HX, ((((below_drewN hb3.out _).setCell (Nat.le_refl _) _).setCell (Nat.le_refl _) _).setCell (Nat.le_refl _) _).setCell (Nat.le_refl _) _⟩
                case measure => simp [intOf]; omega
                case rel => exact ⟨k + 1, I, J, by omega, hIn, hJm, by go_num, row4 (w := w2.drewN _) hA2.out _ _ _ _, HX, ((((below_drewN hb3.out _).setCell (Nat.le_refl _) _).setCell (Nat.le_refl _) _).setCell (Nat.le_refl _) _).setCell (Nat.le_refl _) _⟩
                case measure => simp [intOf]; omega
            · have b1 : ((U : Int) != (V : Int)) = true := by rw [bne_iff_ne]; omega
              have HX : Hid (B = false) := by
                show _ = _
                rw [hX, valL_not (fun h => by have := okV_same h; simp only at this; omega)]
              clear hX hok3 ef et hU hV huv
              rcases hkk with e1 | ⟨e1, e2⟩ <;> rcases hz' with d0 | ⟨d0, x0⟩
              all_goals go_wp2_with (go_at_call 35; go_loud ((with_reducible refine (CF'.out _).mono ?_); rintro e w2 ⟨rfl, hb2⟩; have hb3 := Lib.hid ((HBX.out _).trans (hb2.mono (by have := HAW.out; simp; omega))); obtain ⟨⟨z0, z1, z2, z3⟩, zz⟩ := box_four hb2; obtain ⟨⟨u0, u1, u2, u3⟩, uf⟩ := row_cells (box_keep HAR.out hb2)))
              all_goals go_quiet (fail)
              all_goals go_wp2
              all_goals go_ret
              all_goals exact ⟨by rw [HX.out]; rfl, below_drewN hb3.out _⟩
      · have HX : Hid (B = false) := by
          show _ = _
          rw [hX, valL_not (fun h => hok (by have := h.1; rw [← HN.out, ← HM.out] at this; exact this))]
        have CF' : Hid (∀ w', Calls Try.prog 35 #[.agg #[.int .i64 f, .int .i64 dd, .int .i64 t, .int .i64 x], .agg #[.int .i64 (i : Int), .int .i64 0, .int .i64 (j : Int), .int .i64 0], .int .i64 (n : Int), .int .i64 (m : Int)] w' fun e w'' => e = .returned (.bool false) ∧ Below w'.heap.size w' w'') := fun w' => CF.out w' false (decide_eq_false hok).symm
        clear CF hX hok
        go_wp2_with (go_at_call 35; go_loud ((with_reducible refine (CF'.out _).mono ?_); rintro e w2 ⟨rfl, hb2⟩; have hb3 := Lib.hid ((HBX.out _).trans (hb2.mono (by have := HAW.out; simp; omega)))))
        go_ret
        exact ⟨by rw [HX.out]; rfl, hb3.out⟩
    · obtain rfl : k = l := by omega
      obtain ⟨P, hP⟩ : ∃ P, (if c = i then p else p.map (·.add i)) = P := ⟨_, rfl⟩
      obtain ⟨Q, hQ⟩ : ∃ Q, (if d = j then q else q.map (·.add j)) = Q := ⟨_, rfl⟩
      have HX : Hid (B = decide (la.drop i = lb.drop j)) := by
        show _ = _
        rw [HB.out, HLE.out, List.drop_length]
        rfl
      have HSAME : Hid (∀ x c' d', Calls Try.prog 20 #[.slice P (n - i) c', .slice Q (m - j) d'] (wr.drewN x) fun e w'' => e = .returned (.bool B) ∧ ∃ k, w'' = (wr.drewN x).drewN k) := fun x c' d' =>
        rsame_any _ _ P Q c' d' (n - i) (m - j) B _ (by rw [List.length_drop, ← HN.out]) (by rw [List.length_drop, ← HM.out])
          (by rw [← hP]; exact (HP.out.below (below_drewN hbw x)).cutN i HN.out hc hi) (by rw [← hQ]; exact (HQ.out.below (below_drewN hbw x)).cutN j HM.out hd hj) (by omega) (by omega) HX.out
      clear HB hbw
      go_wp2
      go_quiet ((go_at_call 20; go_loud (with_reducible exact Calls.quiet_of (HSAME.out _ _ _))))
      go_wp2
      go_ret
      exact ⟨rfl, below_drewN HBW.out _⟩
end Go.Proofs.Ytabadihainbbhab
