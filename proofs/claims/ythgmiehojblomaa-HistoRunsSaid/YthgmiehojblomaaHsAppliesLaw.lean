/-
  The walk of the law HistoApplies.
-/
import Derived.Test.YthgmiehojblomaaHsLives
import Derived.Test.YthgmiehojblomaaHsVal2
import Derived.Test.YthgmiehojblomaaDfApp
import Derived.Test.YthgmiehojblomaaDfValid
import Derived.Test.YthgmiehojblomaaDfCost
import Derived.Test.YthgmiehojblomaaDfSA
namespace Go.Proofs.Ythgmiehojblomaa
open Go.RowKit

set_option maxHeartbeats 1000000 in
set_option maxRecDepth 4000 in
theorem rsameS_any (ls : List (List UInt8)) (p q : Option Addr) (c d n : Nat) (w : World) (hn : n = ls.length) (hp : SRw w p ls) (hq : SRw w q ls) (hl : ls.length ≤ 1099511627776) :
    Calls Try.prog 19 #[.slice p n c, .slice q n d] w fun e w' => e = .returned (.bool true) ∧ ∃ k, w' = w.drewN k := by
  have HN : Hid (n = ls.length) := hn
  rw [← hn] at hl
  clear hn
  go_enter Try.func19, Try.ntmps19
  go_wp2
  go_loopw [5] (fun i wr => ∃ (k m : Nat), k ≤ n ∧ i = .int .i64 k ∧ wr = w.drewN m) (fun i _ => n - (intOf i).toNat)
  case atStart => exact ⟨0, 0, by omega, rfl, rfl⟩
  case round =>
    obtain ⟨k, m, hk, rfl, rfl⟩ := hrel
    by_cases hlt : k < n
    · obtain ⟨g, o, rfl, hg, a0⟩ := hp k (by rw [← HN.out]; exact hlt)
      obtain ⟨h, o2, rfl, hh, b0⟩ := hq k (by rw [← HN.out]; exact hlt)
      obtain ⟨t, ht⟩ : ∃ t, t = str (ls[k]'(by rw [← HN.out]; exact hlt)) := ⟨_, rfl⟩
      rw [← ht] at a0 b0
      clear ht hg hh
      go_wp2
      go_quiet (fail)
      go_wp2
      go_roundw
      case rel => exact ⟨k + 1, _, by omega, by go_num, rfl⟩
      case measure => simp [intOf]; omega
    · go_wp2
      go_ret
      exact ⟨rfl, m, rfl⟩

theorem EOw.rwN {w : World} {base : Nat} {v : Value} {l : List Ed} (h : EOw w base v l) : ∃ g L cap, v = .slice g L cap ∧ L = l.length ∧ ERw w g l := by
  obtain ⟨g, cap, rfl, hr⟩ := h.rw
  exact ⟨g, _, cap, rfl, rfl, hr⟩
theorem wrap_cost {es : List Ed} {C : Int} (h : csum es = C) (h1 : 0 ≤ C) (h2 : C ≤ 10000) : wrap64 (csum es) = C := by
  rw [h]
  exact wrap_small (by omega) (by omega)
section
variable {W : World} {la lb : List (List UInt8)} {p q : Option Addr} {n m c d : Nat}
set_option maxHeartbeats 4000000 in
set_option maxRecDepth 4000 in
theorem hsApplies_walk (A : SA W la p n c) (B : SA W lb q m d) : Calls Try.prog 5 #[.slice p n c, .slice q m d] W fun e W' => e = .returned (.bool true) ∧ Below W.heap.size W W' := by
  obtain ⟨sa, hsa⟩ : ∃ sa, sa = smallL la := ⟨_, rfl⟩
  obtain ⟨sb, hsb⟩ : ∃ sb, sb = smallL lb := ⟨_, rfl⟩
  have HS1 := Lib.hid (hsmall_any la p c n sa W A.len A.row (by have := A.few; omega) A.short hsa)
  have HS2 := Lib.hid (hsmall_any lb q d m sb W B.len B.row (by have := B.few; omega) B.short hsb)
  have HLV := Lib.hid (fun w => hlives_any w)
  by_cases hs : sa = true ∧ sb = true
  · obtain ⟨rfl, rfl⟩ := hs
    have hn := (smallL_out hsa.symm).1
    have hm := (smallL_out hsb.symm).1
    rw [← A.len] at hn
    rw [← B.len] at hm
    have hn' : la.length ≤ 100 := by rw [← A.len]; exact hn
    have hm' : lb.length ≤ 100 := by rw [← B.len]; exact hm
    have hcc := scL_cost (la := la) (lb := lb) (by omega) (by omega)
    have hll := least_nn (la := la) (lb := lb) (by omega) (by omega)
    have hSL := scL_len la lb hn' hm'
    have hLL := leastL_len la lb
    have HSC := Lib.hid (fun (w : World) (hb : Below W.heap.size W w) => hscript_any la lb p q c d n m w A.len B.len (A.row.below hb) (B.row.below hb) A.cap B.cap (by omega) (by omega) A.short B.short)
    have HSF := Lib.hid (fun (w : World) (hb : Below W.heap.size W w) => hscript_any la la p p c c n n w A.len A.len (A.row.below hb) (A.row.below hb) A.cap A.cap (by omega) (by omega) A.short A.short)
    have HLE := Lib.hid (fun (w : World) (hb : Below W.heap.size W w) => least_any la lb p q c d n m w A.len B.len (A.row.below hb) (B.row.below hb) A.cap B.cap (by omega) (by omega) A.short B.short)
    have HAP := Lib.hid (fun (w : World) (hb : Below W.heap.size W w) (g : Option Addr) (l ce : Nat) (h1 : l = (scL la lb).length) (h2 : ERw w g (scL la lb)) => apply_any la lb (scL la lb) p q g c d ce n m l (some lb) w A.len B.len h1 (A.row.below hb) (B.row.below hb) h2 A.cap B.cap (by omega) (by omega) (by omega) (scL_app (by omega) (by omega)).symm)
    have HVA := Lib.hid (fun (w : World) (hb : Below W.heap.size W w) (g : Option Addr) (l ce : Nat) (h1 : l = (scL la lb).length) (h2 : ERw w g (scL la lb)) => valid_any la lb (scL la lb) p q g c d ce n m l true w A.len B.len h1 (A.row.below hb) (B.row.below hb) h2 A.cap B.cap (by omega) (by omega) (by omega) (scL_val (by omega) (by omega)).symm)
    have HSA := Lib.hid (fun (w : World) (hb : Below W.heap.size W w) (g : Option Addr) (ce : Nat) (h2 : SRw w g lb) => rsameS_any lb g q ce d m w B.len h2 (B.row.below hb) (by omega))
    obtain ⟨C1, hC1⟩ : ∃ C1, C1 = csum (scL la lb) := ⟨_, rfl⟩
    obtain ⟨C2, hC2⟩ : ∃ C2, C2 = csum (leastL la lb) := ⟨_, rfl⟩
    have HC1 := Lib.hid (fun (w : World) (g : Option Addr) (l ce : Nat) (h1 : l = (scL la lb).length) (h2 : ERw w g (scL la lb)) => cost_any (scL la lb) g ce l C1 w h1 h2 (by omega) (wrap_cost hC1.symm (by omega) (by omega)).symm)
    have HC2 := Lib.hid (fun (w : World) (g : Option Addr) (l ce : Nat) (h1 : l = (leastL la lb).length) (h2 : ERw w g (leastL la lb)) => cost_any (leastL la lb) g ce l C2 w h1 h2 (by omega) (wrap_cost hC2.symm (by omega) (by omega)).symm)
    have hle : C2 ≤ C1 := by rw [hC1, hC2]; exact hcc.1
    rw [scL_self] at HSF
    have HLB := Lib.hid B.len
    obtain ⟨R, hR⟩ : ∃ R, R = scL la lb := ⟨_, rfl⟩
    obtain ⟨R2, hR2⟩ : ∃ R2, R2 = leastL la lb := ⟨_, rfl⟩
    rw [← hR] at HSC HAP HVA HC1
    rw [← hR2] at HLE HC2
    have hi := Below.refl W.heap.size W
    clear hsa hsb hn hm hn' hm' hcc hll hSL hLL hR hR2 hC1 hC2 A B
    go_enter Try.func5, Try.ntmps5
    go_wp2_with (first
      | (go_at_call 8; first
        | ((with_reducible refine HS1.out.mono ?_); rintro e w' ⟨rfl, rfl⟩)
        | ((with_reducible refine HS2.out.mono ?_); rintro e w' ⟨rfl, rfl⟩))
      | (go_at_call 9; ((with_reducible refine (HLV.out _).mono ?_); rintro e w3 ⟨rfl, hb3⟩; have hi3 := hi2.trans (hb3.mono hi2.size)))
      | (go_at_call 11; first
        | ((with_reducible refine (HSC.out _ hi).mono ?_); rintro e w1 ⟨⟨v1, rfl, ho1⟩, hb1⟩; obtain ⟨g1, L1, cap1, rfl, hL1', hr1⟩ := ho1.rwN; have hL1 := Lib.hid hL1'; clear ho1 hL1')
        | ((with_reducible refine (HSF.out _ hi8).mono ?_); rintro e w9 ⟨⟨v9, rfl, ho9⟩, hb9⟩; obtain ⟨g9, L9, cap9, rfl, hL9, hr9⟩ := ho9.rwN; clear ho9; rw [List.length_nil] at hL9; subst hL9; have hi9 := hi8.trans (hb9.mono hi8.size)))
      | (go_at_call 17; ((with_reducible refine (HAP.out _ hb1 _ _ _ hL1.out hr1).mono ?_); rintro e w2 ⟨hb2, v2, rfl, ho2⟩; obtain ⟨g2, cap2, rfl, hr2⟩ := ho2.shapeN HLB.out; clear ho2; have hi2 := hb1.trans (hb2.mono hb1.size)))
      | (go_at_call 18; ((with_reducible refine (HVA.out _ hi3 _ _ _ hL1.out (hr1.below (hb2.trans (hb3.mono hb2.size)))).mono ?_); rintro e w4 ⟨rfl, hb4⟩; have hi4 := hi3.trans (hb4.mono hi3.size); have hr4 := hr2.below (hb3.trans (hb4.mono hb3.size))))
      | (go_at_call 19; ((with_reducible refine (HSA.out _ hi4 _ _ hr4).mono ?_); rintro e w5 ⟨rfl, k5, hk5⟩; have hb5 : Below w4.heap.size w4 w5 := (by rw [hk5]; exact below_drewN (Below.refl _ _) k5); clear hk5; have hb25 := (hb3.trans (hb4.mono hb3.size)).trans (hb5.mono (hb3.trans (hb4.mono hb3.size)).size); have hi5 := hi4.trans (hb5.mono hi4.size)))
      | (go_at_call 20; first
        | ((with_reducible refine (HC1.out _ _ _ _ hL1.out (hr1.below (hb2.trans (hb25.mono hb2.size)))).mono ?_); rintro e w6 ⟨rfl, hb6⟩; have hi6 := hi5.trans (hb6.mono hi5.size))
        | ((with_reducible refine (HC2.out _ _ _ _ hL7.out hr7).mono ?_); rintro e w8 ⟨rfl, hb8⟩; have hi8 := hi7.trans (hb8.mono hi7.size)))
      | (go_at_call 21; ((with_reducible refine (HLE.out _ hi6).mono ?_); rintro e w7 ⟨⟨v7, rfl, ho7⟩, hb7⟩; obtain ⟨g7, L7, cap7, rfl, hL7', hr7⟩ := ho7.rwN; have hL7 := Lib.hid hL7'; clear ho7 hL7'; have hi7 := hi6.trans (hb7.mono hi6.size))))
    go_ret
    exact ⟨rfl, hi9⟩
  · have hi2 := Below.refl W.heap.size W
    clear hsa hsb A B
    rcases sa with _ | _ <;> rcases sb with _ | _
    all_goals try (exact absurd ⟨rfl, rfl⟩ hs)
    all_goals clear hs
    all_goals go_enter Try.func5, Try.ntmps5
    all_goals go_wp2_with (first
      | (go_at_call 8; first
        | ((with_reducible refine HS1.out.mono ?_); rintro e w' ⟨rfl, rfl⟩)
        | ((with_reducible refine HS2.out.mono ?_); rintro e w' ⟨rfl, rfl⟩))
      | (go_at_call 9; ((with_reducible refine (HLV.out _).mono ?_); rintro e w3 ⟨rfl, hb3⟩)))
    all_goals go_ret
    all_goals exact ⟨rfl, hb3⟩
end
end Go.Proofs.Ythgmiehojblomaa
