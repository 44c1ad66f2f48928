/-
  The walk of the law DiffNone.
-/
import Derived.Test.YtabadihainbbhabDfNoneLaw
namespace Go.Proofs.Ytabadihainbbhab
open Go.RowKit

theorem rsum_take {S : List Rn} (h : ∀ r ∈ S, 0 ≤ r.n) (k : Nat) : 0 ≤ rsum (S.take k) ∧ rsum (S.take k) ≤ rsum S := by
  have pos : ∀ (S : List Rn), (∀ r ∈ S, 0 ≤ r.n) → 0 ≤ rsum S := by
    intro S
    induction S with
    | nil => intro _; exact Int.le_refl _
    | cons r S ih =>
      intro h
      have h1 := h r (by simp)
      have h2 := ih (fun x hx => h x (by simp [hx]))
      rw [rsum]
      omega
  have h1 := pos (S.take k) (fun r hr => h r (List.mem_of_mem_take hr))
  have h2 := pos (S.drop k) (fun r hr => h r (List.mem_of_mem_drop hr))
  have h3 : rsum S = rsum (S.take k) + rsum (S.drop k) := by rw [← rsum_app, List.take_append_drop]
  omega
theorem rsum_one (r : Rn) : rsum [r] = r.n := by rw [rsum, rsum]; omega

section
variable {W : World} {la lb : List (List UInt8)} {es : List Ed} {p q r : Option Addr} {n m l c d ce : Nat}
set_option maxHeartbeats 4000000 in
set_option maxRecDepth 4000 in
theorem dfNone_walk (A : SA W la p n c) (B : SA W lb q m d) (E : EA W es r l) : Calls Try.prog 6 #[.slice p n c, .slice q m d, .slice r l ce] W fun e W' => e = .returned (.bool true) ∧ Below W.heap.size W W' := by
  obtain ⟨sa, hsa⟩ : ∃ sa, sa = shortB la := ⟨_, rfl⟩
  obtain ⟨sb, hsb⟩ : ∃ sb, sb = shortB lb := ⟨_, rfl⟩
  have HS1 := Lib.hid (short_inv A hsa)
  have HS2 := Lib.hid (short_inv B hsb)
  have HLV := Lib.hid (lives_inv (W := W))
  have hla : sa = true → n ≤ 60 := fun h => by rw [A.len]; exact shortB_len (hsa.symm.trans h)
  have hlb : sb = true → m ≤ 60 := fun h => by rw [B.len]; exact shortB_len (hsb.symm.trans h)
  have hi : Inv W W := Inv.start W
  have hlf := E.few
  clear hsa hsb
  by_cases hgo : sa = true ∧ sb = true ∧ l ≤ 200
  · obtain ⟨rfl, rfl, h3⟩ := hgo
    have h1 := hla rfl
    have h2 := hlb rfl
    clear hla hlb
    have hsz : la.length ≤ 4096 ∧ lb.length ≤ 4096 := by have := A.len; have := B.len; omega
    have hval := leastL_val hsz
    have hcost := leastL_cost hsz
    have hlen := leastL_len la lb
    have HL1 := Lib.hid (least_inv A B (by omega : n ≤ 5000) (by omega : m ≤ 5000))
    obtain ⟨R, hR⟩ : ∃ R, R = leastL la lb := ⟨_, rfl⟩
    rw [← hR] at hval hcost hlen HL1
    have hW : ∀ x : Int, 0 ≤ x → x ≤ (la.length : Int) + lb.length → wrap64 x = x := fun x h4 h5 => wrap_small h4 (by omega)
    have hsum := stay_sum la lb wrap64 hW R true 0 0 [] hval (Nat.zero_le _) (Nat.zero_le _)
    have hsmall := stL_small la lb wrap64 hW R true 0 0 [] hval (Nat.zero_le _) (Nat.zero_le _) (fun r hr => absurd hr (by simp))
    have hsl := stL_len wrap64 (la.length : Int) R 0 0 []
    have e0 : (((0 : Nat) : Int)) = 0 := rfl
    rw [e0, ← A.len] at hsum hsmall
    rw [← A.len] at hsl
    obtain ⟨S, hS⟩ : ∃ S, S = stL wrap64 (n : Int) R 0 0 [] := ⟨_, rfl⟩
    rw [← hS] at hsum hsmall hsl
    have hvc := val_cost hval
    obtain ⟨CX, hCX⟩ : ∃ CX, CX = csum R := ⟨_, rfl⟩
    obtain ⟨V, hV⟩ : ∃ V, V = valL la lb es true 0 0 := ⟨_, rfl⟩
    obtain ⟨CL, hCL⟩ : ∃ CL, CL = wrap64 (csum es) := ⟨_, rfl⟩
    obtain ⟨T, hT⟩ : ∃ T, T = rsum S := ⟨_, rfl⟩
    have hA := A.len
    have hB := B.len
    have hs0 : rsum ([] : List Rn) = 0 := rfl
    rw [hs0, ← hT, ← hCX] at hsum
    have ht0 : 0 ≤ T ∧ T ≤ 60 := by
      have := rsum_take hsmall S.length
      rw [List.take_length, ← hT] at this
      omega
    have hcx0 : 0 ≤ CX ∧ CX ≤ 120 := by omega
    have hcx : wrap64 (csum R) = CX := by rw [hCX]; exact wrap_small (by omega) (by omega)
    have hge : V = true → CX ≤ CL := fun hv => by
      have hvl := val_cost (hV.symm.trans hv)
      rw [hCL, wrap_small hvl.2.2 (by omega)]
      omega
    have hn1 : (CX != (n : Int) + (m : Int) - 2 * T) = false := by rw [bne_eq_false_iff_eq]; omega
    have hn2 : (CX == (n : Int) + (m : Int) - 2 * T) = true := by rw [beq_iff_eq]; omega
    have HSM := Lib.hid hsmall
    have HSL : Hid (S.length ≤ 200) := by show _ ≤ _; simp only [List.length_nil] at hsl; omega
    have HRL : Hid (R.length ≤ 200) := by show _ ≤ _; omega
    have HT := Lib.hid hT
    have H2 : Hid (∀ (w : World) (g : Option Addr) (cg L : Nat), Inv W w → ERw w g R → L = R.length → Calls Try.prog 24 #[.slice g L cg, .int .i64 (n : Int)] w (RnRes W w S)) := fun w g cg L hi hg hL => by
      have := unchanged_inv (W := W) (ce := cg) (l := L) (x := (n : Int)) w hi hL hg (by have := HRL.out; omega)
      rwa [← hS] at this
    have H3 := Lib.hid (fun (w : World) (g : Option Addr) (cg L : Nat) (hi : Inv W w) (hg : ERw w g R) (hL : L = R.length) => right_inv (ce := cg) (l := L) A B (by omega : n ≤ 5000) (by omega : m ≤ 5000) hval.symm w hi hL hg (by have := HRL.out; omega))
    have H4 := Lib.hid (fun (w : World) (g : Option Addr) (cg L : Nat) (hi : Inv W w) (hg : ERw w g R) (hL : L = R.length) => cost_inv (W := W) (ce := cg) (l := L) hcx.symm w hi hL hg (by have := HRL.out; omega))
    have H5 := Lib.hid (fun (w : World) (hi : Inv W w) => right_inv (ce := ce) A B (by omega : n ≤ 5000) (by omega : m ≤ 5000) hV w hi E.len (E.row.below hi) (by omega : l ≤ 1048576))
    have H6 := Lib.hid (fun (w : World) (hi : Inv W w) => cost_inv (ce := ce) hCL w hi E.len (E.row.below hi) (by omega : l ≤ 1048576))
    clear hsz hval hcost hlen hR hW hsum hsmall hsl e0 hS hvc hCX hV hCL hT hA hB hs0 hcx
    go_enter Try.func6, Try.ntmps6
    go_wp2_with (first
      | (go_at_call 9; first
        | ((with_reducible refine (HS1.out _ (by assumption)).mono ?_); rintro e w' ⟨rfl, rfl⟩)
        | ((with_reducible refine (HS2.out _ (by assumption)).mono ?_); rintro e w' ⟨rfl, rfl⟩))
      | (go_at_call 12; ((with_reducible refine (HL1.out _ (by assumption)).mono ?_); rintro e w1 ⟨⟨g1, L1, cap1, rfl, hL1, hr1⟩, hb1, hi1⟩; have HR1 := Lib.hid (And.intro hL1 hr1); clear hL1 hr1))
      | (go_at_call 24; ((with_reducible refine (H2.out _ _ _ _ (by assumption) HR1.out.2 HR1.out.1).mono ?_); rintro e w2 ⟨⟨g2, L2, cap2, rfl, hL2, hr2⟩, hb2, hi2⟩; have HR2 := Lib.hid (And.intro hL2 hr2); clear hL2 hr2)))
    have hL2 : L2 ≤ 200 := by have := HR2.out.1; have := HSL.out; omega
    go_loop [34, 8] (fun kv sv => ∃ (k : Nat) (s : Int), k ≤ L2 ∧ 0 ≤ s ∧ s ≤ T ∧ kv = .int .i64 k ∧ sv = .int .i64 s ∧ Hid (s = rsum (S.take k))) (fun kv _ => L2 - (intOf kv).toNat)
    case atStart => exact ⟨0, 0, by omega, by omega, ht0.1, rfl, rfl, rfl⟩
    case round =>
      obtain ⟨k, s, hk, hs0, hsT, rfl, rfl, HX⟩ := hrel
      by_cases hlt : k < L2
      · have hka : k < S.length := by have := HR2.out.1; omega
        obtain ⟨g, o, rfl, hg, a0, a1, a2⟩ := HR2.out.2 k hka
        have hsn : rsum (S.take (k + 1)) = s + S[k].n := by rw [List.take_succ_eq_append_getElem hka, rsum_app, rsum_one, HX.out]
        have hn0 := HSM.out _ (List.getElem_mem hka)
        have hle := (rsum_take HSM.out (k + 1)).2
        rw [hsn, ← HT.out] at hle
        obtain ⟨N, hN⟩ : ∃ N, N = S[k].n := ⟨_, rfl⟩
        rw [← hN] at a2 hsn hn0 hle
        have i1 : IntKind.i64.wrap (s + N) = s + N := IntWalk.i64_in _ (by omega)
        have HSN := Lib.hid hsn
        clear hN hsn a0 a1 hka hg
        go_wp2
        go_round
        case rel => exact ⟨k + 1, s + N, by omega, by omega, by omega, by go_num, rfl, HSN.out.symm⟩
        case measure => simp [intOf]; omega
      · obtain rfl : k = L2 := by omega
        have HST : Hid (s = T) := by show _ = _; rw [HX.out, HT.out, List.take_of_length_le (by have := HR2.out.1; omega)]
        obtain rfl := HST.out
        have HR1' := Lib.hid (HR1.out.2.below hb2)
        clear HX
        rcases V with _ | _
        · go_wp2_with (first
            | (go_at_call 10; ((with_reducible refine (HLV.out _ (by assumption)).mono ?_); rintro e wz ⟨rfl, hbz, hiz⟩))
            | (go_at_call 17; first
              | ((with_reducible refine (H3.out _ _ _ _ (by assumption) HR1'.out HR1.out.1).mono ?_); rintro e w3 ⟨rfl, hb3, hi3⟩)
              | ((with_reducible refine (H5.out _ (by assumption)).mono ?_); rintro e w5 ⟨rfl, hb5, hi5⟩))
            | (go_at_call 18; ((with_reducible refine (H4.out _ _ _ _ (by assumption) (HR1'.out.below hb3) HR1.out.1).mono ?_); rintro e w4 ⟨rfl, hb4, hi4⟩)))
          go_ret
          exact ⟨rfl, hiz⟩
        · have hge' := hge rfl
          clear hge
          go_wp2_with (first
            | (go_at_call 10; ((with_reducible refine (HLV.out _ (by assumption)).mono ?_); rintro e wz ⟨rfl, hbz, hiz⟩))
            | (go_at_call 17; first
              | ((with_reducible refine (H3.out _ _ _ _ (by assumption) HR1'.out HR1.out.1).mono ?_); rintro e w3 ⟨rfl, hb3, hi3⟩)
              | ((with_reducible refine (H5.out _ (by assumption)).mono ?_); rintro e w5 ⟨rfl, hb5, hi5⟩))
            | (go_at_call 18; first
              | ((with_reducible refine (H6.out _ (by assumption)).mono ?_); rintro e w6 ⟨rfl, hb6, hi6⟩)
              | ((with_reducible refine (H4.out _ _ _ _ (by assumption) ((((HR1'.out.below hb3).below hb4).below hb5).below hb6) HR1.out.1).mono ?_); rintro e w7 ⟨rfl, hb7, hi7⟩)
              | ((with_reducible refine (H4.out _ _ _ _ (by assumption) (HR1'.out.below hb3) HR1.out.1).mono ?_); rintro e w4 ⟨rfl, hb4, hi4⟩)))
          go_ret
          exact ⟨rfl, hiz⟩
  · have hc : sa = false ∨ (sa = true ∧ sb = false) ∨ (sa = true ∧ sb = true ∧ 200 < l) := by
      rcases sa with _ | _
      · exact .inl rfl
      · rcases sb with _ | _
        · exact .inr (.inl ⟨rfl, rfl⟩)
        · exact .inr (.inr ⟨rfl, rfl, by have : ¬ l ≤ 200 := fun h => hgo ⟨rfl, rfl, h⟩; omega⟩)
    clear hgo hla hlb
    rcases hc with rfl | ⟨rfl, rfl⟩ | ⟨rfl, rfl, h3⟩
    all_goals go_enter Try.func6, Try.ntmps6
    all_goals go_wp2_with (first
      | (go_at_call 9; first
        | ((with_reducible refine (HS1.out _ (by assumption)).mono ?_); rintro e w' ⟨rfl, rfl⟩)
        | ((with_reducible refine (HS2.out _ (by assumption)).mono ?_); rintro e w' ⟨rfl, rfl⟩))
      | (go_at_call 10; ((with_reducible refine (HLV.out _ (by assumption)).mono ?_); rintro e wz ⟨rfl, hbz, hiz⟩)))
    all_goals go_ret
    all_goals exact ⟨rfl, hiz⟩
end
end Go.Proofs.Ytabadihainbbhab
