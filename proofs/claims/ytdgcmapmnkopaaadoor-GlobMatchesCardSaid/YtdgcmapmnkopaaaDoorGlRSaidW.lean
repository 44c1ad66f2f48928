/-
  The walk of the reference's said.
-/
import Derived.Test.YtdgcmapmnkopaaaDoorGlRSaid
namespace Go.Proofs.YtdgcmapmnkopaaaDoor
open Go.RowKit

/-- Whether an item holds a byte. -/
def inIt (b : UInt8) (x : UInt8 × UInt8) : Bool := decide (x.1.toNat ≤ b.toNat ∧ b.toNat ≤ x.2.toNat)
theorem inIt_cases (b lo hi : UInt8) (ls : List (UInt8 × UInt8)) (B : Bool) (h : B = ((lo, hi) :: ls).any (inIt b)) :
    (decide (lo.toNat ≤ b.toNat) = false ∧ Hid (B = ls.any (inIt b))) ∨ (decide (lo.toNat ≤ b.toNat) = true ∧ decide (b.toNat ≤ hi.toNat) = false ∧ Hid (B = ls.any (inIt b))) ∨ (decide (lo.toNat ≤ b.toNat) = true ∧ decide (b.toNat ≤ hi.toNat) = true ∧ Hid (B = true)) := by
  rw [List.any_cons, inIt] at h
  by_cases h1 : lo.toNat ≤ b.toNat
  · by_cases h2 : b.toNat ≤ hi.toNat
    · rw [decide_eq_true ⟨h1, h2⟩, Bool.true_or] at h
      exact .inr (.inr ⟨decide_eq_true h1, decide_eq_true h2, h⟩)
    · rw [decide_eq_false (fun e => h2 e.2), Bool.false_or] at h
      exact .inr (.inl ⟨decide_eq_true h1, decide_eq_false h2, h⟩)
  · rw [decide_eq_false (fun e => h1 e.1), Bool.false_or] at h
    exact .inl ⟨decide_eq_false h1, h⟩
set_option maxHeartbeats 8000000 in
set_option maxRecDepth 4000 in
theorem rsaid_any (p : ByteArray) (T : List UInt8) (b : UInt8) (js : List (UInt8 × UInt8)) (B : Bool) (w : World) (hs : p.size ≤ 1048576) (h0 : 0 < p.size) (hI : InC p T 0 js) (hB : B = js.any (inIt b)) :
    Calls Tryd.prog 87 #[.string p, .int .u8 (b.toNat : Int)] w fun e w' => e = .returned (.bool B) ∧ w = w' := by
  have HI : Hid (InC p T 0 js ∧ B = js.any (inIt b)) := ⟨hI, hB⟩
  clear hI hB
  go_enter Tryd.func87, Tryd.ntmps87
  go_wp2
  go_loopw [5, 6, 7] (fun iv _ _ wr => ∃ (i : Nat) (ls : List (UInt8 × UInt8)), iv = .int .i64 i ∧ i ≤ p.size ∧ wr = w ∧ Hid (InC p T i ls ∧ B = ls.any (inIt b))) (fun iv _ _ _ => p.size - (intOf iv).toNat)
  case atStart => exact ⟨0, js, rfl, by omega, rfl, HI⟩
  case round =>
    clear HI
    obtain ⟨i, ls, rfl, hip, rfl, HX⟩ := hrel
    by_cases hlt : i < p.size
    · obtain ⟨hin, hb⟩ := HX.out
      obtain ⟨lo, hi, k, ls', hit, hls, hk1, hik, hin2⟩ := inC_on hin hlt
      obtain ⟨q, hq⟩ : ∃ q, q = i + ck (p[i]'hlt) := ⟨_, rfl⟩
      obtain ⟨hqs, hlo, hr⟩ := it_in hlt hit hik hq hin2
      obtain ⟨N, hN⟩ : ∃ N, N = i + k := ⟨_, rfl⟩
      have hcv := cv_tail (T := T) hlt (by omega)
      rw [hls] at hb
      have hout := inIt_cases b lo hi ls' B hb
      have HIN : Hid (InC p T N ls') := by show InC _ _ _ _; rw [hN]; exact hin2
      have hNi : i < N := by omega
      have hNs : N ≤ p.size := by omega
      rw [← hN] at hr
      clear hin hb hit hls hin2 HX
      have hE : (∃ (j : Nat) (hj : j < p.size), (((p[i]'hlt).toNat : Int) == 92) = true ∧ IntKind.i64.wrap ((i : Int) + 1) = (j : Int) ∧ IntKind.i64.wrap ((j : Int) + 1) = (q : Int) ∧ p[j] = lo) ∨ (((lo.toNat : Int) == 92) = false ∧ IntKind.i64.wrap ((i : Int) + 1) = (q : Int) ∧ p[i]'hlt = lo) := by
        rcases hcv with ⟨h1, h2, h3, h4⟩ | ⟨h1, h2, h4⟩
        · exact .inl ⟨i + 1, h3, by rw [beq_iff_eq, h1]; rfl, by rw [IntWalk.i64_in _ (by omega)]; omega, by rw [IntWalk.i64_in _ (by omega)]; omega, by rw [hlo, h4]⟩
        · exact .inr ⟨by rw [hlo, h4]; exact u8_not (n := 92) (by decide) h1, by rw [IntWalk.i64_in _ (by omega)]; omega, by rw [hlo, h4]⟩
      have hF : (∃ (r : Nat) (hr : r < p.size) (hq3 : q < p.size), IntKind.i64.wrap ((q : Int) + 1) = (r : Int) ∧ (((p[q]'hq3).toNat : Int) == 45) = true ∧
            ((∃ (s : Nat) (hs : s < p.size), (((p[r]'hr).toNat : Int) == 92) = true ∧ IntKind.i64.wrap ((r : Int) + 1) = (s : Int) ∧ IntKind.i64.wrap ((s : Int) + 1) = (N : Int) ∧ p[s] = hi) ∨ (((hi.toNat : Int) == 92) = false ∧ IntKind.i64.wrap ((r : Int) + 1) = (N : Int) ∧ p[r]'hr = hi))) ∨
          (∃ (r : Nat) (hr : r < p.size) (hq3 : q < p.size), IntKind.i64.wrap ((q : Int) + 1) = (r : Int) ∧ (((p[q]'hq3).toNat : Int) == 45) = false ∧ hi = lo ∧ q = N) ∨
          (∃ (r : Nat), IntKind.i64.wrap ((q : Int) + 1) = (r : Int) ∧ p.size ≤ r ∧ hi = lo ∧ q = N) := by
        rcases hr with ⟨h1, h45, hhi, hNq⟩ | ⟨h45, hhi, hNq⟩
        · have hcv2 := cv_tail (T := T) h1 (by omega)
          refine .inl ⟨q + 1, h1, by omega, by rw [IntWalk.i64_in _ (by omega)]; omega, by rw [beq_iff_eq, h45]; rfl, ?_⟩
          rcases hcv2 with ⟨g1, g2, g3, g4⟩ | ⟨g1, g2, g4⟩
          · exact .inl ⟨q + 1 + 1, g3, by rw [beq_iff_eq, g1]; rfl, by rw [IntWalk.i64_in _ (by omega)]; omega, by rw [IntWalk.i64_in _ (by omega)]; omega, by rw [hhi, g4]⟩
          · exact .inr ⟨by rw [hhi, g4]; exact u8_not (n := 92) (by decide) g1, by rw [IntWalk.i64_in _ (by omega)]; omega, by rw [hhi, g4]⟩
        · by_cases h1 : q + 1 < p.size
          · exact .inr (.inl ⟨q + 1, h1, by omega, by rw [IntWalk.i64_in _ (by omega)]; omega, u8_not (n := 45) (by decide) (h45 h1), hhi, hNq.symm⟩)
          · exact .inr (.inr ⟨q + 1, by rw [IntWalk.i64_in _ (by omega)]; omega, by omega, hhi, hNq.symm⟩)
      clear hr hcv hlo hq hik hk1 hN h0
      rcases hF with ⟨r, hr, hq3, c1, b1, ⟨s, hs4, a2, c2, c3, e2⟩ | ⟨a2, c2, e2⟩⟩ | ⟨r, hr, hq3, c1, b1, rfl, rfl⟩ | ⟨r, c1, hr, rfl, rfl⟩ <;>
      rcases hE with ⟨j, hj, a1, i1, i2, e1⟩ | ⟨a1, i1, e1⟩ <;>
      rcases hout with ⟨d1, HO⟩ | ⟨d1, d2, HO⟩ | ⟨d1, d2, HO⟩ <;>
      go_wp2
      all_goals first
        | (go_ret; exact ⟨by rw [HO.out]; rfl, rfl⟩)
        | (go_roundw
           case rel => exact ⟨_, ls', rfl, hNs, trivial, HIN.out, HO.out⟩
           case measure => simp [intOf]; omega)
    · have HF : Hid (B = false) := by
        show _ = _
        obtain ⟨u, v⟩ := HX.out
        rw [v, inC_end u (by omega) (by omega)]
        rfl
      clear HX
      go_wp2
      go_ret
      exact ⟨by rw [HF.out]; rfl, rfl⟩
end Go.Proofs.YtdgcmapmnkopaaaDoor
