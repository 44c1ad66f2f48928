/-
  The walks of the laws DiffLeast, DiffRight and DiffRuns.
-/
import Derived.Test.YtabadihainbbhabDfLawA
namespace Go.Proofs.Ytabadihainbbhab
open Go.RowKit

section
variable {W : World} {la lb : List (List UInt8)} {es : List Ed} {rs : List Rn} {p q r rr : Option Addr} {n m l lr c d ce cr : Nat}
set_option maxHeartbeats 4000000 in
set_option maxRecDepth 4000 in
theorem dfLeast_walk (A : SA W la p n c) (B : SA W lb q m d) : Calls Try.prog 3 #[.slice p n c, .slice q m d] W fun e W' => e = .returned (.bool true) ∧ Below W.heap.size W W' := by
  obtain ⟨sa, hsa⟩ : ∃ sa, sa = shortB la := ⟨_, rfl⟩
  obtain ⟨sb, hsb⟩ : ∃ sb, sb = shortB lb := ⟨_, rfl⟩
  have HS1 := Lib.hid (short_inv A hsa)
  have HS2 := Lib.hid (short_inv B hsb)
  have HLV := Lib.hid (lives_inv (W := W))
  have hla : sa = true → n ≤ 60 := fun h => by rw [A.len]; exact shortB_len (hsa.symm.trans h)
  have hlb : sb = true → m ≤ 60 := fun h => by rw [B.len]; exact shortB_len (hsb.symm.trans h)
  have hi : Inv W W := Inv.start W
  have HLL := Lib.hid (leastL_len la lb)
  have HAB := Lib.hid (And.intro A.len B.len)
  clear hsa hsb
  by_cases hbig : 5000 < n ∨ 5000 < m
  · have hb : (5000 : Int) < n ∨ (¬ (5000 : Int) < n ∧ (5000 : Int) < m) := by omega
    clear hbig hla hlb
    rcases sa with _ | _ <;> rcases sb with _ | _ <;> rcases hb with h1 | ⟨h1, h2⟩
    all_goals go_enter Try.func3, Try.ntmps3
    all_goals go_wp2_with (first
      | (go_at_call 9; first
        | ((with_reducible refine (HS1.out _ (by assumption)).mono ?_); rintro e w' ⟨rfl, rfl⟩)
        | ((with_reducible refine (HS2.out _ (by assumption)).mono ?_); rintro e w' ⟨rfl, rfl⟩))
      | (go_at_call 10; ((with_reducible refine (HLV.out _ (by assumption)).mono ?_); rintro e wz ⟨rfl, hbz, hiz⟩)))
    all_goals go_ret
    all_goals exact ⟨rfl, hiz⟩
  · have hn5 : n ≤ 5000 := by omega
    have hm5 : m ≤ 5000 := by omega
    have HL1 := Lib.hid (least_inv A B hn5 hm5)
    have HL2 := Lib.hid (rleast_inv A B hn5 hm5)
    obtain ⟨R, hR⟩ : ∃ R, R = leastL la lb := ⟨_, rfl⟩
    rw [← hR] at HL1 HL2 HLL
    have HLR : Hid (R.length ≤ 10001) := by have := HLL.out; have := HAB.out; show _ ≤ _; omega
    clear hR HLL hbig
    have hcases : (sa = true ∧ sb = true) ∨ ((¬ (sa = true ∧ sb = true)) ∧ (4096 < n ∨ (n ≤ 4096 ∧ 4096 < m))) ∨ ((¬ (sa = true ∧ sb = true)) ∧ n ≤ 4096 ∧ m ≤ 4096) := by
      by_cases h : sa = true ∧ sb = true
      · exact .inl h
      · by_cases h2 : n ≤ 4096 ∧ m ≤ 4096
        · exact .inr (.inr ⟨h, h2⟩)
        · exact .inr (.inl ⟨h, by omega⟩)
    rcases hcases with ⟨rfl, rfl⟩ | ⟨hns, hb⟩ | ⟨hns, h1, h2⟩
    · have h1 := hla rfl
      have h2 := hlb rfl
      clear hla hlb
      go_enter Try.func3, Try.ntmps3
      go_wp2_with (first
        | (go_at_call 9; first
          | ((with_reducible refine (HS1.out _ (by assumption)).mono ?_); rintro e w' ⟨rfl, rfl⟩)
          | ((with_reducible refine (HS2.out _ (by assumption)).mono ?_); rintro e w' ⟨rfl, rfl⟩))
        | (go_at_call 10; ((with_reducible refine (HLV.out _ (by assumption)).mono ?_); rintro e wz ⟨rfl, hbz, hiz⟩))
        | (go_at_call 12; ((with_reducible refine (HL1.out _ (by assumption)).mono ?_); rintro e w1 ⟨⟨g1, L1, cap1, rfl, hL1, hr1⟩, hb1, hi1⟩; have HR1 := Lib.hid (And.intro hL1 hr1); clear hL1 hr1))
        | (go_at_call 13; ((with_reducible refine (HL2.out _ (by assumption)).mono ?_); rintro e w2 ⟨⟨g2, L2, cap2, rfl, hL2, hr2⟩, hb2, hi2⟩; have HR2 := Lib.hid (And.intro hL2 hr2); clear hL2 hr2))
        | (go_at_call 11; ((refine (edits_inv (W := W) _ (by assumption) HR1.out.1 HR2.out.1 (HR1.out.2.below hb2) HR2.out.2 (by have := HR1.out.1; have := HLR.out; omega)).mono ?_); rintro e w3 ⟨rfl, hb3, hi3⟩)))
      go_ret
      exact ⟨rfl, hiz⟩
    · rcases sa with _ | _ <;> rcases sb with _ | _ <;> rcases hb with h1 | ⟨h1, h2⟩
      all_goals try (exact absurd ⟨rfl, rfl⟩ hns)
      all_goals clear hla hlb hns
      all_goals go_enter Try.func3, Try.ntmps3
      all_goals go_wp2_with (first
        | (go_at_call 9; first
          | ((with_reducible refine (HS1.out _ (by assumption)).mono ?_); rintro e w' ⟨rfl, rfl⟩)
          | ((with_reducible refine (HS2.out _ (by assumption)).mono ?_); rintro e w' ⟨rfl, rfl⟩))
        | (go_at_call 10; ((with_reducible refine (HLV.out _ (by assumption)).mono ?_); rintro e wz ⟨rfl, hbz, hiz⟩))
        | (go_at_call 12; ((with_reducible refine (HL1.out _ (by assumption)).mono ?_); rintro e w1 ⟨⟨g1, L1, cap1, rfl, hL1, hr1⟩, hb1, hi1⟩; have HR1 := Lib.hid (And.intro hL1 hr1); clear hL1 hr1))
        | (go_at_call 13; ((with_reducible refine (HL2.out _ (by assumption)).mono ?_); rintro e w2 ⟨⟨g2, L2, cap2, rfl, hL2, hr2⟩, hb2, hi2⟩; have HR2 := Lib.hid (And.intro hL2 hr2); clear hL2 hr2))
        | (go_at_call 11; ((refine (edits_inv (W := W) _ (by assumption) HR1.out.1 HR2.out.1 (HR1.out.2.below hb2) HR2.out.2 (by have := HR1.out.1; have := HLR.out; omega)).mono ?_); rintro e w3 ⟨rfl, hb3, hi3⟩)))
      all_goals go_ret
      all_goals exact ⟨rfl, hiz⟩
    · rcases sa with _ | _ <;> rcases sb with _ | _
      all_goals try (exact absurd ⟨rfl, rfl⟩ hns)
      all_goals clear hla hlb hns
      all_goals go_enter Try.func3, Try.ntmps3
      all_goals go_wp2_with (first
        | (go_at_call 9; first
          | ((with_reducible refine (HS1.out _ (by assumption)).mono ?_); rintro e w' ⟨rfl, rfl⟩)
          | ((with_reducible refine (HS2.out _ (by assumption)).mono ?_); rintro e w' ⟨rfl, rfl⟩))
        | (go_at_call 10; ((with_reducible refine (HLV.out _ (by assumption)).mono ?_); rintro e wz ⟨rfl, hbz, hiz⟩)))
      all_goals go_ret
      all_goals exact ⟨rfl, hiz⟩
end
end Go.Proofs.Ytabadihainbbhab
