/-
  The walks of the laws DiffRight and DiffRuns.
-/
import Derived.Test.YtabadihainbbhabDfLawA
namespace Go.Proofs.Ytabadihainbbhab
open Go.RowKit

theorem ofL_len (n m : Int) : ∀ (l : List Rn) (i j : Int) (acc : List Ed), (ofL n m l i j acc).length ≤ acc.length + l.length + 1
  | [], i, j, acc => by
    rw [ofL]
    exact Nat.le_trans (chg_len _ _ _ _ _) (by simp)
  | r :: l, i, j, acc => by
    rw [ofL]
    split
    · refine Nat.le_trans (ofL_len n m l _ _ _) ?_
      have := chg_len i j r.a r.b acc
      simp only [List.length_cons]
      omega
    · simp
theorem fromL_len (n m : Int) (rs : List Rn) : (fromL n m rs).length ≤ rs.length + 1 := by
  unfold fromL
  split
  · simp
  · have := ofL_len n m rs 0 0 []
    simp only [List.length_nil] at this
    omega

theorem appL_len {α : Type} (a b : List α) : ∀ (l : List Ed) (i j : Nat) (out x : List α), i ≤ a.length → j ≤ b.length → appL a b l i j out = some x → x.length ≤ out.length + (a.length - i) + (b.length - j)
  | [], i, j, out, x, hi, hj, h => by
    rw [appL, Option.some.injEq] at h
    rw [← h, List.length_append, List.length_drop]
    omega
  | e :: l, i, j, out, x, hi, hj, h => by
    by_cases hk : okE e i j a.length b.length
    · rw [appL_go hk] at h
      have he := okE_ends hk
      have := appL_len a b l _ _ _ x he.1 he.2.1 h
      rw [List.length_append, List.length_append, List.length_take, List.length_take, List.length_drop, List.length_drop] at this
      unfold okE at hk
      omega
    · rw [appL_not hk] at h
      cases h
theorem apX_len {la lb : List (List UInt8)} {es : List Ed} : (apX (appL la lb es 0 0 [])).length ≤ la.length + lb.length := by
  cases h : appL la lb es 0 0 [] with
  | none => exact Nat.zero_le _
  | some x =>
    have := appL_len la lb es 0 0 [] x (Nat.zero_le _) (Nat.zero_le _) h
    simpa [apX] using this

section
variable {W : World} {la lb : List (List UInt8)} {es : List Ed} {rs : List Rn} {p q r rr : Option Addr} {n m l lr c d ce cr : Nat}
set_option maxHeartbeats 4000000 in
set_option maxRecDepth 4000 in
theorem dfRuns_walk (A : EA W es r l) (B : RA W rs rr lr) (x y : Int) (hx : x ≤ 9223372036854775807) (hy : y ≤ 9223372036854775807) : Calls Try.prog 5 #[.slice r l ce, .int .i64 x, .int .i64 y, .slice rr lr cr] W fun e W' => e = .returned (.bool true) ∧ Below W.heap.size W W' := by
  have HLV := Lib.hid (lives_inv (W := W))
  have hi : Inv W W := Inv.start W
  have hlf := A.few
  have hrf := B.few
  by_cases hbig : 200 < l ∨ 200 < lr
  · have hb : 200 < l ∨ (¬ 200 < l ∧ 200 < lr) := by omega
    clear hbig
    rcases hb with h1 | ⟨h1, h2⟩
    all_goals go_enter Try.func5, Try.ntmps5
    all_goals go_wp2_with (go_at_call 10; ((with_reducible refine (HLV.out _ (by assumption)).mono ?_); rintro e wz ⟨rfl, hbz, hiz⟩))
    all_goals go_ret
    all_goals exact ⟨rfl, hiz⟩
  · have h1 : l ≤ 200 := by omega
    have h2 : lr ≤ 200 := by omega
    clear hbig hlf hrf
    have H1 := Lib.hid (fun (w : World) (hi : Inv W w) => invert_inv (ce := ce) w hi A.len (A.row.below hi) (by omega : l ≤ 1000000))
    have H2 := Lib.hid (fun (w : World) (hi : Inv W w) => back_inv (ce := ce) w hi A.len (A.row.below hi) (by omega : l ≤ 1000000))
    have H3 := Lib.hid (fun (w : World) (hi : Inv W w) => unchanged_inv (x := x) (ce := ce) w hi A.len (A.row.below hi) (by omega : l ≤ 1000000))
    have H4 := Lib.hid (fun (w : World) (hi : Inv W w) => stay_inv (x := x) (ce := ce) w hi A.len (A.row.below hi) (by omega : l ≤ 1000000))
    have H5 := Lib.hid (fun (w : World) (hi : Inv W w) => from_inv (x := x) (y := y) (ce := cr) hx hy rfl w hi B.len (B.row.below hi) (by omega : lr ≤ 1000000))
    have H6 := Lib.hid (fun (w : World) (hi : Inv W w) => of_inv (x := x) (y := y) (ce := cr) hx hy rfl w hi B.len (B.row.below hi) (by omega : lr ≤ 1000000))
    have HL1 : Hid ((es.map Ed.inv).length ≤ 200) := by show _ ≤ _; rw [List.length_map, ← A.len]; exact h1
    have HL2 : Hid ((stL wrap64 x es 0 0 []).length ≤ 201) := by have := stL_len wrap64 x es 0 0 []; have := A.len; simp only [List.length_nil] at *; show _ ≤ _; omega
    have HL3 : Hid ((fromL x y rs).length ≤ 201) := by have := fromL_len x y rs; have := B.len; show _ ≤ _; omega
    obtain ⟨R1, hR1⟩ : ∃ R, R = es.map Ed.inv := ⟨_, rfl⟩
    obtain ⟨R2, hR2⟩ : ∃ R, R = stL wrap64 x es 0 0 [] := ⟨_, rfl⟩
    obtain ⟨R3, hR3⟩ : ∃ R, R = fromL x y rs := ⟨_, rfl⟩
    rw [← hR1] at H1 H2 HL1
    rw [← hR2] at H3 H4 HL2
    rw [← hR3] at H5 H6 HL3
    clear hR1 hR2 hR3
    go_enter Try.func5, Try.ntmps5
    go_wp2_with (first
      | (go_at_call 10; ((with_reducible refine (HLV.out _ (by assumption)).mono ?_); rintro e wz ⟨rfl, hbz, hiz⟩))
      | (go_at_call 21; ((with_reducible refine (H1.out _ (by assumption)).mono ?_); rintro e w1 ⟨⟨g1, L1, cap1, rfl, hL1, hr1⟩, hb1, hi1⟩; have HR1 := Lib.hid (And.intro hL1 hr1); clear hL1 hr1))
      | (go_at_call 22; ((with_reducible refine (H2.out _ (by assumption)).mono ?_); rintro e w2 ⟨⟨g2, L2, cap2, rfl, hL2, hr2⟩, hb2, hi2⟩; have HR2 := Lib.hid (And.intro hL2 hr2); clear hL2 hr2))
      | (go_at_call 24; ((with_reducible refine (H3.out _ (by assumption)).mono ?_); rintro e w3 ⟨⟨g3, L3, cap3, rfl, hL3, hr3⟩, hb3, hi3⟩; have HR3 := Lib.hid (And.intro hL3 hr3); clear hL3 hr3))
      | (go_at_call 25; ((with_reducible refine (H4.out _ (by assumption)).mono ?_); rintro e w4 ⟨⟨g4, L4, cap4, rfl, hL4, hr4⟩, hb4, hi4⟩; have HR4 := Lib.hid (And.intro hL4 hr4); clear hL4 hr4))
      | (go_at_call 26; ((with_reducible refine (H5.out _ (by assumption)).mono ?_); rintro e w5 ⟨⟨g5, L5, cap5, rfl, hL5, hr5⟩, hb5, hi5⟩; have HR5 := Lib.hid (And.intro hL5 hr5); clear hL5 hr5))
      | (go_at_call 27; ((with_reducible refine (H6.out _ (by assumption)).mono ?_); rintro e w6 ⟨⟨g6, L6, cap6, rfl, hL6, hr6⟩, hb6, hi6⟩; have HR6 := Lib.hid (And.intro hL6 hr6); clear hL6 hr6))
      | (go_at_call 23; ((refine (runs_inv (W := W) _ (by assumption) HR3.out.1 HR4.out.1 (HR3.out.2.below hb4) HR4.out.2 (by have := HR3.out.1; have := HL2.out; omega)).mono ?_); rintro e w7 ⟨rfl, hb7, hi7⟩))
      | (go_at_call 11; first
        | ((with_reducible refine (edits_inv (W := W) _ (by assumption) HR5.out.1 HR6.out.1 (HR5.out.2.below hb6) HR6.out.2 (by have := HR5.out.1; have := HL3.out; omega)).mono ?_); rintro e w9 ⟨rfl, hb9, hi9⟩)
        | ((with_reducible refine (edits_inv (W := W) _ (by assumption) HR1.out.1 HR2.out.1 (HR1.out.2.below hb2) HR2.out.2 (by have := HR1.out.1; have := HL1.out; omega)).mono ?_); rintro e w8 ⟨rfl, hb8, hi8⟩)))
    go_ret
    exact ⟨rfl, hiz⟩

set_option maxHeartbeats 4000000 in
set_option maxRecDepth 4000 in
theorem dfRight_walk (A : SA W la p n c) (B : SA W lb q m d) (E : EA W es r l) : Calls Try.prog 4 #[.slice p n c, .slice q m d, .slice r l ce] W fun e W' => e = .returned (.bool true) ∧ Below W.heap.size W W' := by
  obtain ⟨sa, hsa⟩ : ∃ sa, sa = shortB la := ⟨_, rfl⟩
  obtain ⟨sb, hsb⟩ : ∃ sb, sb = shortB lb := ⟨_, rfl⟩
  have HS1 := Lib.hid (short_inv A hsa)
  have HS2 := Lib.hid (short_inv B hsb)
  have HLV := Lib.hid (lives_inv (W := W))
  have hla : sa = true → n ≤ 60 := fun h => by rw [A.len]; exact shortB_len (hsa.symm.trans h)
  have hlb : sb = true → m ≤ 60 := fun h => by rw [B.len]; exact shortB_len (hsb.symm.trans h)
  have hi : Inv W W := Inv.start W
  have hlf := E.few
  clear hsa hsb
  by_cases hgo : sa = true ∧ sb = true ∧ l ≤ 200
  · obtain ⟨rfl, rfl, h3⟩ := hgo
    have h1 := hla rfl
    have h2 := hlb rfl
    clear hla hlb
    obtain ⟨R, hR⟩ : ∃ R, R = appL la lb es 0 0 [] := ⟨_, rfl⟩
    obtain ⟨V, hV⟩ : ∃ V, V = valL la lb es true 0 0 := ⟨_, rfl⟩
    obtain ⟨C, hC⟩ : ∃ C, C = wrap64 (csum es) := ⟨_, rfl⟩
    have H1 := Lib.hid (fun (w : World) (hi : Inv W w) => apply_inv (ce := ce) A B (by omega) (by omega) hR w hi E.len (E.row.below hi) (by omega : l ≤ 1048576))
    have H2 := Lib.hid (fun (w : World) (hi : Inv W w) => rapply_inv (ce := ce) A B (by omega) (by omega) hR w hi E.len (E.row.below hi) (by omega : l ≤ 1048576))
    have H3 := Lib.hid (fun (w : World) (hi : Inv W w) => valid_inv (ce := ce) A B (by omega) (by omega) hV w hi E.len (E.row.below hi) (by omega : l ≤ 1048576))
    have H4 := Lib.hid (fun (w : World) (hi : Inv W w) => right_inv (ce := ce) A B (by omega) (by omega) hV w hi E.len (E.row.below hi) (by omega : l ≤ 1048576))
    have H5 := Lib.hid (fun (w : World) (hi : Inv W w) => cost_inv (ce := ce) hC w hi E.len (E.row.below hi) (by omega : l ≤ 1048576))
    have H6 := Lib.hid (fun (w : World) (hi : Inv W w) => rcost_inv (ce := ce) hC w hi E.len (E.row.below hi) (by omega : l ≤ 1048576))
    have hXL : (apX R).length ≤ 140737488355328 := by rw [hR]; have := apX_len (la := la) (lb := lb) (es := es); have := A.len; have := B.len; omega
    obtain ⟨X, hX⟩ : ∃ X, X = apX R := ⟨_, rfl⟩
    obtain ⟨K, hK⟩ : ∃ K, K = apK R := ⟨_, rfl⟩
    have H1' : Hid (∀ w, Inv W w → Calls Try.prog 14 #[.slice p n c, .slice r l ce, .slice q m d] w fun e w' => (∃ g L cap, e = .returned (.tuple #[.slice g L cap, .int .i64 K]) ∧ L = X.length ∧ SRw w' g X) ∧ Below w.heap.size w w' ∧ Inv W w') := fun w hi => by rw [hX, hK]; exact H1.out w hi
    have H2' : Hid (∀ w, Inv W w → Calls Try.prog 15 #[.slice p n c, .slice r l ce, .slice q m d] w fun e w' => (∃ g L cap, e = .returned (.tuple #[.slice g L cap, .int .i64 K]) ∧ L = X.length ∧ SRw w' g X) ∧ Below w.heap.size w w' ∧ Inv W w') := fun w hi => by rw [hX, hK]; exact H2.out w hi
    rw [← hX] at hXL
    have HXL := Lib.hid hXL
    clear hR hV hC hX hK H1 H2 hXL
    have kk : (K == K) = true := beq_self_eq_true _
    have cc : (C == C) = true := beq_self_eq_true _
    have vv : (V == V) = true := beq_self_eq_true _
    go_enter Try.func4, Try.ntmps4
    go_wp2_with (first
      | (go_at_call 9; first
        | ((with_reducible refine (HS1.out _ (by assumption)).mono ?_); rintro e w' ⟨rfl, rfl⟩)
        | ((with_reducible refine (HS2.out _ (by assumption)).mono ?_); rintro e w' ⟨rfl, rfl⟩))
      | (go_at_call 10; ((with_reducible refine (HLV.out _ (by assumption)).mono ?_); rintro e wz ⟨rfl, hbz, hiz⟩))
      | (go_at_call 14; ((with_reducible refine (H1'.out _ (by assumption)).mono ?_); rintro e w1 ⟨⟨g1, L1, cap1, rfl, hL1, hr1⟩, hb1, hi1⟩; have HR1 := Lib.hid (And.intro hL1 hr1); clear hL1 hr1))
      | (go_at_call 15; ((with_reducible refine (H2'.out _ (by assumption)).mono ?_); rintro e w2 ⟨⟨g2, L2, cap2, rfl, hL2, hr2⟩, hb2, hi2⟩; have HR2 := Lib.hid (And.intro hL2 hr2); have HR1' := Lib.hid (HR1.out.2.below hb2); clear hL2 hr2))
      | (go_at_call 16; ((with_reducible refine (H3.out _ (by assumption)).mono ?_); rintro e w3 ⟨rfl, hb3, hi3⟩))
      | (go_at_call 17; ((with_reducible refine (H4.out _ (by assumption)).mono ?_); rintro e w4 ⟨rfl, hb4, hi4⟩))
      | (go_at_call 18; ((with_reducible refine (H5.out _ (by assumption)).mono ?_); rintro e w5 ⟨rfl, hb5, hi5⟩))
      | (go_at_call 19; ((with_reducible refine (H6.out _ (by assumption)).mono ?_); rintro e w6 ⟨rfl, hb6, hi6⟩))
      | (go_at_call 20; ((refine (same_inv (W := W) _ (by assumption) HR1.out.1 HR2.out.1 ((((HR1'.out.below hb3).below hb4).below hb5).below hb6) ((((HR2.out.2.below hb3).below hb4).below hb5).below hb6) (by have := HR1.out.1; have := HXL.out; omega)).mono ?_); rintro e w7 ⟨rfl, hb7, hi7⟩)))
    go_ret
    exact ⟨rfl, hiz⟩
  · have hc : sa = false ∨ (sa = true ∧ sb = false) ∨ (sa = true ∧ sb = true ∧ 200 < l) := by
      rcases sa with _ | _
      · exact .inl rfl
      · rcases sb with _ | _
        · exact .inr (.inl ⟨rfl, rfl⟩)
        · exact .inr (.inr ⟨rfl, rfl, by have : ¬ l ≤ 200 := fun h => hgo ⟨rfl, rfl, h⟩; omega⟩)
    clear hgo hla hlb
    rcases hc with rfl | ⟨rfl, rfl⟩ | ⟨rfl, rfl, h3⟩
    all_goals go_enter Try.func4, Try.ntmps4
    all_goals go_wp2_with (first
      | (go_at_call 9; first
        | ((with_reducible refine (HS1.out _ (by assumption)).mono ?_); rintro e w' ⟨rfl, rfl⟩)
        | ((with_reducible refine (HS2.out _ (by assumption)).mono ?_); rintro e w' ⟨rfl, rfl⟩))
      | (go_at_call 10; ((with_reducible refine (HLV.out _ (by assumption)).mono ?_); rintro e wz ⟨rfl, hbz, hiz⟩)))
    all_goals go_ret
    all_goals exact ⟨rfl, hiz⟩
end
end Go.Proofs.Ytabadihainbbhab
