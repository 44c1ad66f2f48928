/-
  The walks of the laws DiffNone, DiffBack and DiffStay.
-/
import Derived.Test.YtabadihainbbhabDfRunsLaw
namespace Go.Proofs.Ytabadihainbbhab
open Go.RowKit

theorem below_two {w1 w2 w3 : World} (h : Below w1.heap.size w1 w2) (h2 : Below w2.heap.size w2 w3) : Below w1.heap.size w1 w3 := h.trans (h2.mono h.size)
theorem srw_inv {W w : World} {p : Option Addr} {ls : List (List UInt8)} (h : SRw W p ls) (hi : Inv W w) : SRw w p ls := h.below hi
theorem erw_inv {W w : World} {p : Option Addr} {es : List Ed} (h : ERw W p es) (hi : Inv W w) : ERw w p es := h.below hi
theorem le_few {n L : Nat} (h : n ≤ 8796093022208) (hL : L = n) : L ≤ 140737488355328 := by omega
section
variable {W : World} {la lb : List (List UInt8)} {es : List Ed} {rs : List Rn} {p q r rr : Option Addr} {n m l lr c d ce cr : Nat}
set_option maxHeartbeats 4000000 in
set_option maxRecDepth 4000 in
theorem dfStay_walk (A : SA W la p n c) (B : SA W lb q m d) (E : EA W es r l) : Calls Try.prog 8 #[.slice p n c, .slice q m d, .slice r l ce] W fun e W' => e = .returned (.bool true) ∧ Below W.heap.size W W' := by
  obtain ⟨sa, hsa⟩ : ∃ sa, sa = shortB la := ⟨_, rfl⟩
  obtain ⟨sb, hsb⟩ : ∃ sb, sb = shortB lb := ⟨_, rfl⟩
  have HS1 := Lib.hid (short_inv A hsa)
  have HS2 := Lib.hid (short_inv B hsb)
  have HLV := Lib.hid (lives_inv (W := W))
  have hla : sa = true → n ≤ 60 := fun h => by rw [A.len]; exact shortB_len (hsa.symm.trans h)
  have hlb : sb = true → m ≤ 60 := fun h => by rw [B.len]; exact shortB_len (hsb.symm.trans h)
  have hi : Inv W W := Inv.start W
  have hlf := E.few
  clear hsa hsb
  by_cases hgo : sa = true ∧ sb = true ∧ l ≤ 200
  · obtain ⟨rfl, rfl, h3⟩ := hgo
    have h1 := hla rfl
    have h2 := hlb rfl
    clear hla hlb
    obtain ⟨V, hV⟩ : ∃ V, V = valL la lb es true 0 0 := ⟨_, rfl⟩
    have H3 := Lib.hid (fun (w : World) (hi : Inv W w) => valid_inv (ce := ce) A B (by omega) (by omega) hV w hi E.len (E.row.below hi) (by omega : l ≤ 1048576))
    have H4 := Lib.hid (fun (w : World) (hi : Inv W w) => unchanged_inv (x := (n : Int)) (ce := ce) w hi E.len (E.row.below hi) (by omega : l ≤ 1000000))
    have HSL : Hid ((stL wrap64 (n : Int) es 0 0 []).length ≤ 201) := by have := stL_len wrap64 (n : Int) es 0 0 []; have := E.len; simp only [List.length_nil] at *; show _ ≤ _; omega
    have HF : Hid (V = true → fromL (n : Int) (m : Int) (stL wrap64 (n : Int) es 0 0 []) = es) := fun hv => by
      rw [fromL, if_neg (by omega), A.len, B.len]
      exact ofL_stL0 la lb wrap64 (fun x h1 h2 => wrap_small h1 (by have := A.len; have := B.len; omega)) es (hV.symm.trans hv)
    obtain ⟨S, hS⟩ : ∃ S, S = stL wrap64 (n : Int) es 0 0 [] := ⟨_, rfl⟩
    rw [← hS] at H4 HSL HF
    clear hV hS
    rcases V with _ | _
    · go_enter Try.func8, Try.ntmps8
      go_wp2_with (first
        | (go_at_call 9; first
          | ((with_reducible refine (HS1.out _ (by assumption)).mono ?_); rintro e w' ⟨rfl, rfl⟩)
          | ((with_reducible refine (HS2.out _ (by assumption)).mono ?_); rintro e w' ⟨rfl, rfl⟩))
        | (go_at_call 10; ((with_reducible refine (HLV.out _ (by assumption)).mono ?_); rintro e wz ⟨rfl, hbz, hiz⟩))
        | (go_at_call 16; ((with_reducible refine (H3.out _ (by assumption)).mono ?_); rintro e w3 ⟨rfl, hb3, hi3⟩)))
      go_ret
      exact ⟨rfl, hiz⟩
    · have HF2 := Lib.hid (HF.out rfl).symm
      go_enter Try.func8, Try.ntmps8
      go_wp2_with (first
        | (go_at_call 9; first
          | ((with_reducible refine (HS1.out _ (by assumption)).mono ?_); rintro e w' ⟨rfl, rfl⟩)
          | ((with_reducible refine (HS2.out _ (by assumption)).mono ?_); rintro e w' ⟨rfl, rfl⟩))
        | (go_at_call 10; ((with_reducible refine (HLV.out _ (by assumption)).mono ?_); rintro e wz ⟨rfl, hbz, hiz⟩))
        | (go_at_call 16; ((with_reducible refine (H3.out _ (by assumption)).mono ?_); rintro e w3 ⟨rfl, hb3, hi3⟩))
        | (go_at_call 24; ((with_reducible refine (H4.out _ (by assumption)).mono ?_); rintro e w4 ⟨⟨g4, L4, cap4, rfl, hL4, hr4⟩, hb4, hi4⟩; have HR4 := Lib.hid (And.intro hL4 hr4); clear hL4 hr4))
        | (go_at_call 26; ((refine (from_inv (W := W) (by omega) (by omega) HF2.out _ (by assumption) HR4.out.1 HR4.out.2 (by have := HR4.out.1; have := HSL.out; omega)).mono ?_); rintro e w5 ⟨⟨g5, L5, cap5, rfl, hL5, hr5⟩, hb5, hi5⟩; have HR5 := Lib.hid (And.intro hL5 hr5); clear hL5 hr5))
        | (go_at_call 11; ((refine (edits_inv (W := W) _ (by assumption) HR5.out.1 E.len HR5.out.2 (E.row.below (by assumption)) (by have := HR5.out.1; have := E.len; omega)).mono ?_); rintro e w9 ⟨rfl, hb9, hi9⟩)))
      go_ret
      exact ⟨rfl, hiz⟩
  · have hc : sa = false ∨ (sa = true ∧ sb = false) ∨ (sa = true ∧ sb = true ∧ 200 < l) := by
      rcases sa with _ | _
      · exact .inl rfl
      · rcases sb with _ | _
        · exact .inr (.inl ⟨rfl, rfl⟩)
        · exact .inr (.inr ⟨rfl, rfl, by have : ¬ l ≤ 200 := fun h => hgo ⟨rfl, rfl, h⟩; omega⟩)
    clear hgo hla hlb
    rcases hc with rfl | ⟨rfl, rfl⟩ | ⟨rfl, rfl, h3⟩
    all_goals go_enter Try.func8, Try.ntmps8
    all_goals go_wp2_with (first
      | (go_at_call 9; first
        | ((with_reducible refine (HS1.out _ (by assumption)).mono ?_); rintro e w' ⟨rfl, rfl⟩)
        | ((with_reducible refine (HS2.out _ (by assumption)).mono ?_); rintro e w' ⟨rfl, rfl⟩))
      | (go_at_call 10; ((with_reducible refine (HLV.out _ (by assumption)).mono ?_); rintro e wz ⟨rfl, hbz, hiz⟩)))
    all_goals go_ret
    all_goals exact ⟨rfl, hiz⟩

theorem inv_inv_map (es : List Ed) : (es.map Ed.inv).map Ed.inv = es := by
  rw [List.map_map]
  exact (List.map_congr_left fun e _ => Ed.inv_inv e).trans (List.map_id _)
set_option maxHeartbeats 4000000 in
set_option maxRecDepth 4000 in
theorem dfBack_walk (A : SA W la p n c) (B : SA W lb q m d) (E : EA W es r l) : Calls Try.prog 7 #[.slice p n c, .slice q m d, .slice r l ce] W fun e W' => e = .returned (.bool true) ∧ Below W.heap.size W W' := by
  obtain ⟨sa, hsa⟩ : ∃ sa, sa = shortB la := ⟨_, rfl⟩
  obtain ⟨sb, hsb⟩ : ∃ sb, sb = shortB lb := ⟨_, rfl⟩
  have HS1 := Lib.hid (short_inv A hsa)
  have HS2 := Lib.hid (short_inv B hsb)
  have HLV := Lib.hid (lives_inv (W := W))
  have hla : sa = true → n ≤ 60 := fun h => by rw [A.len]; exact shortB_len (hsa.symm.trans h)
  have hlb : sb = true → m ≤ 60 := fun h => by rw [B.len]; exact shortB_len (hsb.symm.trans h)
  have hi : Inv W W := Inv.start W
  have hlf := E.few
  clear hsa hsb
  by_cases hgo : sa = true ∧ sb = true ∧ l ≤ 200
  · obtain ⟨rfl, rfl, h3⟩ := hgo
    have h1 := hla rfl
    have h2 := hlb rfl
    clear hla hlb
    obtain ⟨V, hV⟩ : ∃ V, V = valL la lb es true 0 0 := ⟨_, rfl⟩
    have H3 := Lib.hid (fun (w : World) (hi : Inv W w) => valid_inv (ce := ce) A B (by omega) (by omega) hV w hi E.len (E.row.below hi) (by omega : l ≤ 1048576))
    rcases V with _ | _
    · clear hV
      go_enter Try.func7, Try.ntmps7
      go_wp2_with (first
        | (go_at_call 9; first
          | ((with_reducible refine (HS1.out _ (by assumption)).mono ?_); rintro e w' ⟨rfl, rfl⟩)
          | ((with_reducible refine (HS2.out _ (by assumption)).mono ?_); rintro e w' ⟨rfl, rfl⟩))
        | (go_at_call 10; ((with_reducible refine (HLV.out _ (by assumption)).mono ?_); rintro e wz ⟨rfl, hbz, hiz⟩))
        | (go_at_call 16; ((with_reducible refine (H3.out _ (by assumption)).mono ?_); rintro e w3 ⟨rfl, hb3, hi3⟩)))
      go_ret
      exact ⟨rfl, hiz⟩
    · obtain ⟨es', hes'⟩ : ∃ es', es' = es.map Ed.inv := ⟨_, rfl⟩
      have hVI := valL_inv la lb es true 0 0 hV.symm
      rw [← hes'] at hVI
      have hA1 : some lb = appL la lb es 0 0 [] := by rw [appL_val la lb es true 0 0 [] hV.symm (Nat.zero_le _)]; rfl
      have hA2 : some la = appL lb la es' 0 0 [] := by rw [appL_val lb la es' true 0 0 [] hVI (Nat.zero_le _)]; rfl
      obtain ⟨C, hC⟩ : ∃ C, C = wrap64 (csum es) := ⟨_, rfl⟩
      have hC2 : C = wrap64 (csum es') := by rw [hC, hes', csum_inv]
      have hee : es'.map Ed.inv = es := by rw [hes', inv_inv_map]
      have HLE : Hid (es'.length = l) := by show _ = _; rw [hes', List.length_map, E.len]
      have H1 : Hid (∀ w, Inv W w → Calls Try.prog 14 #[.slice p n c, .slice r l ce, .slice q m d] w fun e w' => (∃ g L cap, e = .returned (.tuple #[.slice g L cap, .int .i64 0]) ∧ L = lb.length ∧ SRw w' g lb) ∧ Below w.heap.size w w' ∧ Inv W w') := fun (w : World) (hi : Inv W w) => apply_inv (ce := ce) A B (by omega) (by omega) hA1 w hi E.len (E.row.below hi) (by omega : l ≤ 1048576)
      have H2 := Lib.hid (fun (w : World) (hi : Inv W w) => invert_inv (ce := ce) w hi E.len (E.row.below hi) (by omega : l ≤ 1000000))
      have H4 : Hid (∀ (w : World) (g : Option Addr) (cg L : Nat), Inv W w → ERw w g es' → L = es'.length → Calls Try.prog 14 #[.slice q m d, .slice g L cg, .slice p n c] w fun e w' => (∃ g L cap, e = .returned (.tuple #[.slice g L cap, .int .i64 0]) ∧ L = la.length ∧ SRw w' g la) ∧ Below w.heap.size w w' ∧ Inv W w') := fun (w : World) (g : Option Addr) (cg L : Nat) (hi : Inv W w) (hg : ERw w g es') (hL : L = es'.length) => apply_inv (ce := cg) (l := L) B A (by omega) (by omega) hA2 w hi hL hg (by have := HLE.out; omega)
      have H5 := Lib.hid (fun (w : World) (g : Option Addr) (cg L : Nat) (hi : Inv W w) (hg : ERw w g es') (hL : L = es'.length) => valid_inv (ce := cg) (l := L) B A (by omega) (by omega) hVI.symm w hi hL hg (by have := HLE.out; omega))
      have H6 := Lib.hid (fun (w : World) (g : Option Addr) (cg L : Nat) (hi : Inv W w) (hg : ERw w g es') (hL : L = es'.length) => cost_inv (W := W) (ce := cg) (l := L) hC2 w hi hL hg (by have := HLE.out; omega))
      have H7 := Lib.hid (fun (w : World) (hi : Inv W w) => cost_inv (ce := ce) hC w hi E.len (E.row.below hi) (by omega : l ≤ 1048576))
      have H8 : Hid (∀ (w : World) (g : Option Addr) (cg L : Nat) (_ : Inv W w) (_ : ERw w g es') (_ : L = es'.length), Calls Try.prog 21 #[.slice g L cg] w (EdRes W w es)) := fun w g cg L hi hg hL => by
        have := invert_inv (W := W) (ce := cg) (l := L) w hi hL hg (by have := HLE.out; omega)
        rwa [hee] at this
      rw [← hes'] at H2
      have HAB := Lib.hid (And.intro A (And.intro B E))
      clear hV hVI hA1 hA2 hC hC2 hee hes'
      have cc : (C == C) = true := beq_self_eq_true _
      go_enter Try.func7, Try.ntmps7
      go_wp2_with (first
        | (go_at_call 9; first
          | ((with_reducible refine (HS1.out _ (by assumption)).mono ?_); rintro e w' ⟨rfl, rfl⟩)
          | ((with_reducible refine (HS2.out _ (by assumption)).mono ?_); rintro e w' ⟨rfl, rfl⟩))
        | (go_at_call 10; ((with_reducible refine (HLV.out _ (by assumption)).mono ?_); rintro e wz ⟨rfl, hbz, hiz⟩))
        | (go_at_call 16; first
          | ((with_reducible refine (H3.out _ (by assumption)).mono ?_); rintro e w3 ⟨rfl, hb3, hi3⟩)
          | ((with_reducible refine (H5.out _ _ _ _ (by assumption) ((HR2.out.2.below hb4).below (below_two hb7 hb8)) HR2.out.1).mono ?_); rintro e w9 ⟨rfl, hb9, hi9⟩))
        | (go_at_call 14; first
          | ((with_reducible refine (H1.out _ (by assumption)).mono ?_); rintro e w1 ⟨⟨g1, L1, cap1, rfl, hL1, hr1⟩, hb1, hi1⟩; have HR1 := Lib.hid (And.intro hL1 hr1); clear hL1 hr1)
          | ((with_reducible refine (H4.out _ _ _ _ (by assumption) HR2.out.2 HR2.out.1).mono ?_); rintro e w4 ⟨⟨g4, L4, cap4, rfl, hL4, hr4⟩, hb4, hi4⟩; have HR4 := Lib.hid (And.intro hL4 hr4); clear hL4 hr4))
        | (go_at_call 21; first
          | ((with_reducible refine (H2.out _ (by assumption)).mono ?_); rintro e w2 ⟨⟨g2, L2, cap2, rfl, hL2, hr2⟩, hb2, hi2⟩; have HR2 := Lib.hid (And.intro hL2 hr2); clear hL2 hr2)
          | ((with_reducible refine (H8.out _ _ _ _ (by assumption) (((((HR2.out.2.below hb4).below (below_two hb7 hb8)).below hb9).below hb10).below hb11) HR2.out.1).mono ?_); rintro e w12 ⟨⟨g12, L12, cap12, rfl, hL12, hr12⟩, hb12, hi12⟩; have HR12 := Lib.hid (And.intro hL12 hr12); clear hL12 hr12))
        | (go_at_call 18; first
          | ((with_reducible refine (H7.out _ (by assumption)).mono ?_); rintro e w11 ⟨rfl, hb11, hi11⟩)
          | ((with_reducible refine (H6.out _ _ _ _ (by assumption) (((HR2.out.2.below hb4).below (below_two hb7 hb8)).below hb9) HR2.out.1).mono ?_); rintro e w10 ⟨rfl, hb10, hi10⟩))
        | (go_at_call 20; first
          | ((with_reducible refine (same_inv (W := W) (R := lb) _ (by assumption) HR1.out.1 HAB.out.2.1.len ((HR1.out.2.below hb2).below hb4) (srw_inv HAB.out.2.1.row (by assumption)) (by have := HR1.out.1; have := HAB.out.2.1.len; have := HAB.out.2.1.few; exact le_few this (by omega))).mono ?_); rintro e w7 ⟨rfl, hb7, hi7⟩)
          | ((with_reducible refine (same_inv (W := W) (R := la) _ (by assumption) HR4.out.1 HAB.out.1.len (HR4.out.2.below hb7) (srw_inv HAB.out.1.row (by assumption)) (by have := HR4.out.1; have := HAB.out.1.len; have := HAB.out.1.few; exact le_few this (by omega))).mono ?_); rintro e w8 ⟨rfl, hb8, hi8⟩))
        | (go_at_call 11; ((refine (edits_inv (W := W) _ (by assumption) HR12.out.1 HAB.out.2.2.len HR12.out.2 (erw_inv HAB.out.2.2.row (by assumption)) (by have := HR12.out.1; have := HAB.out.2.2.len; omega)).mono ?_); rintro e w13 ⟨rfl, hb13, hi13⟩)))
      go_ret
      exact ⟨rfl, hiz⟩
  · have hc : sa = false ∨ (sa = true ∧ sb = false) ∨ (sa = true ∧ sb = true ∧ 200 < l) := by
      rcases sa with _ | _
      · exact .inl rfl
      · rcases sb with _ | _
        · exact .inr (.inl ⟨rfl, rfl⟩)
        · exact .inr (.inr ⟨rfl, rfl, by have : ¬ l ≤ 200 := fun h => hgo ⟨rfl, rfl, h⟩; omega⟩)
    clear hgo hla hlb
    rcases hc with rfl | ⟨rfl, rfl⟩ | ⟨rfl, rfl, h3⟩
    all_goals go_enter Try.func7, Try.ntmps7
    all_goals go_wp2_with (first
      | (go_at_call 9; first
        | ((with_reducible refine (HS1.out _ (by assumption)).mono ?_); rintro e w' ⟨rfl, rfl⟩)
        | ((with_reducible refine (HS2.out _ (by assumption)).mono ?_); rintro e w' ⟨rfl, rfl⟩))
      | (go_at_call 10; ((with_reducible refine (HLV.out _ (by assumption)).mono ?_); rintro e wz ⟨rfl, hbz, hiz⟩)))
    all_goals go_ret
    all_goals exact ⟨rfl, hiz⟩
end
end Go.Proofs.Ytabadihainbbhab
