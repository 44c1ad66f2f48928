/-
  The walk of the reference's whole.
-/
import Derived.Test.YtdgcmapmnkopaaaDoorGlROne
namespace Go.Proofs.YtdgcmapmnkopaaaDoor
open Go.RowKit

theorem srw_cut1 {w : World} {g o : Nat} {x : List UInt8} {ls : List (List UInt8)} {c : Nat} (h : SRw w (some ⟨g, o, none⟩) (x :: ls)) (hc : ls.length + 1 ≤ c) : SRw w (if c = 1 then some ⟨g, o, none⟩ else some ⟨g, o + 1, none⟩) ls := fun k hk => by
  obtain ⟨g', o', he, hg, hv⟩ := h (k + 1) (by rw [List.length_cons]; omega)
  simp only [Option.some.injEq, Addr.mk.injEq] at he
  obtain ⟨rfl, rfl, -⟩ := he
  rw [if_neg (by omega)]
  exact ⟨g, o + 1, rfl, hg, by rw [show o + 1 + k = o + (k + 1) by omega]; exact hv⟩
theorem ret_emp (s : ByteArray) (B : Bool) (h : B = s.data.toList.isEmpty) : s.toList.isEmpty = B := by rw [ByteArray.toList_eq, h]

set_option maxHeartbeats 2000000 in
set_option maxRecDepth 4000 in
theorem rwhole_nil (s : ByteArray) (p : Option Addr) (cap : Nat) (w : World) (B : Bool) (hB : B = s.data.toList.isEmpty) :
    Calls Tryd.prog 58 #[.slice p 0 cap, .string s] w fun e w' => e = .returned (.bool B) ∧ w = w' := by
  have HB := Lib.hid (ret_emp s B hB)
  clear hB
  go_enter Tryd.func58, Tryd.ntmps58
  go_wp2_with fail
  go_ret
  exact ⟨ret_bool HB.out, rfl⟩
/-- What whole answers, at a world that draws from w. -/
def WhP (L : List (List UInt8)) (K : List (Option Tok)) (s : ByteArray) (N : Nat) : Prop :=
  ∀ (p : Option Addr) (cap n : Nat) (w : World) (B : Bool), L.length + s.size ≤ N → All2 L K → SRw w p L → n = L.length → n ≤ cap → (∀ x ∈ L, x.length ≤ 1048576) → n ≤ 1048576 → s.size ≤ 1048576 → B = wm tm K s.data.toList →
    Calls Tryd.prog 58 #[.slice p n cap, .string s] w fun e w' => e = .returned (.bool B) ∧ ∃ d, w' = w.drewN d
theorem ext_tail (s : ByteArray) : (s.extract 1 s.size).data.toList = s.data.toList.drop 1 := by
  rw [ext_bytes, List.take_of_length_le (by rw [List.length_drop, list_len]; exact Nat.le_refl _)]
theorem ext_tail_size (s : ByteArray) : (s.extract 1 s.size).size = s.size - 1 := by rw [ByteArray.size_extract]; omega
set_option maxHeartbeats 800000 in
set_option maxRecDepth 4000 in
theorem rwhole_any (N : Nat) : ∀ (L : List (List UInt8)) (K : List (Option Tok)) (s : ByteArray), WhP L K s N := by
  induction N with
  | zero =>
    intro L K s p cap n w B hN hA hp hn hc hl hn2 hs hB
    have hL : L = [] := List.length_eq_zero_iff.mp (by omega)
    subst hL
    cases hA
    subst hn
    exact (rwhole_nil s p cap w B (by rw [hB, wm_nil])).mono fun e w' h => ⟨h.1, 0, h.2.symm⟩
  | succ N ih =>
    intro L K s p cap n w B hN hA hp hn hc hl hn2 hs hB
    cases hA with
    | nil =>
      subst hn
      exact (rwhole_nil s p cap w B (by rw [hB, wm_nil])).mono fun e w' h => ⟨h.1, 0, h.2.symm⟩
    | @cons x o L' K' hx hA' =>
      obtain ⟨g, q, rfl, hg, a0⟩ := hp 0 (by simp)
      simp only [List.getElem_cons_zero, Nat.add_zero] at a0
      obtain ⟨m, hm⟩ : ∃ m, m = L'.length := ⟨_, rfl⟩
      rw [List.length_cons] at hn hN
      have hnm : n = m + 1 := by omega
      subst hnm
      have hlx := hl x (by simp)
      have hl' : ∀ y ∈ L', y.length ≤ 1048576 := fun y hy => hl y (by simp [hy])
      obtain ⟨q', hq', hcut⟩ : ∃ q', (((cap = 1) = True ∧ q' = q) ∨ ((cap = 1) = False ∧ q' = q + 1)) ∧ SRw w (some ⟨g, q', none⟩) L' := by
        have hcut := srw_cut1 hp (by omega : L'.length + 1 ≤ cap)
        by_cases h1 : cap = 1
        · rw [if_pos h1] at hcut
          exact ⟨q, .inl ⟨eq_true h1, rfl⟩, hcut⟩
        · rw [if_neg h1] at hcut
          exact ⟨q + 1, .inr ⟨eq_false h1, rfl⟩, hcut⟩
      obtain ⟨t, ht⟩ : ∃ t, t = str x := ⟨_, rfl⟩
      rw [← ht] at a0
      have e0 : (t.toList == [42]) = decide (x = [42]) := by
        rw [ByteArray.toList_eq, ht, str_self, Bool.eq_iff_iff, beq_iff_eq, decide_eq_true_iff]
      have HT : Hid (∀ d, Calls Tryd.prog 58 #[.slice (some ⟨g, q', none⟩) m (cap - 1), .string s] (w.drewN d) fun e w' => e = .returned (.bool (wm tm K' s.data.toList)) ∧ ∃ d', w' = (w.drewN d).drewN d') := fun d =>
        ih L' K' s _ _ _ _ _ (by omega) hA' (hcut.below (below_drewN (Below.refl _ _) d)) hm (by omega) hl' (by omega) hs rfl
      have HA := Lib.hid (All2.cons hx hA')
      have HP := Lib.hid hp
      have HI := Lib.hid ih
      have HL := Lib.hid hl
      have HM := Lib.hid hm
      cases o with
      | none =>
        have e1 : (t.toList == [42]) = true := by rw [e0, decide_eq_true (tokR_star hx)]
        obtain ⟨R, hR⟩ : ∃ R, R = wm tm K' s.data.toList := ⟨_, rfl⟩
        rw [← hR] at HT
        have HT0 : Hid (Calls Tryd.prog 58 #[.slice (some ⟨g, q', none⟩) m (cap - 1), .string s] w fun e w' => e = .returned (.bool R) ∧ ∃ d', w' = w.drewN d') := HT.out 0
        cases R with
        | true =>
          have HB : Hid (B = true) := by
            show _ = _
            rw [hB]
            cases hd : s.data.toList with
            | nil => rw [wm_star_nil, ← hd, ← hR]
            | cons c r => rw [wm_star, ← hd, ← hR]; rfl
          clear hB hR hx hA' hp ih hl hm hlx hl' hcut ht e0 hN hn
          rcases hq' with ⟨hc1, rfl⟩ | ⟨hc1, rfl⟩ <;>
          · go_enter Tryd.func58, Tryd.ntmps58
            go_wp2_with (go_at_call 58; ((with_reducible refine HT0.out.mono ?_); rintro e w2 ⟨rfl, d, rfl⟩))
            go_ret
            exact ⟨by rw [HB.out]; rfl, _, rfl⟩
        | false =>
          by_cases h0 : s.size = 0
          · have e2 := none_true h0
            have HB : Hid (B = false) := by
              show _ = _
              rw [hB]
              cases hd : s.data.toList with
              | nil => rw [wm_star_nil, ← hd, ← hR]
              | cons c r => have := congrArg List.length hd; rw [list_len, h0] at this; cases this
            clear hB hR hx hA' hp ih hl hm hlx hl' hcut ht e0 hN hn h0
            rcases hq' with ⟨hc1, rfl⟩ | ⟨hc1, rfl⟩ <;>
            · go_enter Tryd.func58, Tryd.ntmps58
              go_wp2_with (go_at_call 58; ((with_reducible refine HT0.out.mono ?_); rintro e w2 ⟨rfl, d, rfl⟩))
              go_ret
              exact ⟨by rw [HB.out]; rfl, _, rfl⟩
          · have e2 := none_false (s := s) (by omega)
            have hs1 : 1 ≤ s.size := by omega
            have HB : Hid (B = wm tm (none :: K') (s.extract 1 s.size).data.toList) := by
              show _ = _
              rw [hB, ext_tail]
              cases hd : s.data.toList with
              | nil => have := congrArg List.length hd; rw [list_len] at this; exact absurd this h0
              | cons c r => rw [wm_star, ← hd, ← hR, hd]; rfl
            have HU : Hid (∀ d, Calls Tryd.prog 58 #[.slice (some ⟨g, q, none⟩) (m + 1) cap, .string (s.extract 1 s.size)] (w.drewN d) fun e w' => e = .returned (.bool B) ∧ ∃ d', w' = (w.drewN d).drewN d') := fun d =>
              HI.out (x :: L') (none :: K') (s.extract 1 s.size) _ _ _ _ _ (by rw [ext_tail_size, List.length_cons]; omega) HA.out (HP.out.below (below_drewN (Below.refl _ _) d)) (by rw [List.length_cons, HM.out]) hc HL.out hn2 (by rw [ext_tail_size]; omega) HB.out
            clear hB hR hx hA' hp ih hl hm hlx hl' hcut ht e0 hN hn h0
            rcases hq' with ⟨hc1, rfl⟩ | ⟨hc1, rfl⟩ <;>
            · go_enter Tryd.func58, Tryd.ntmps58
              go_wp2_with (go_at_call 58; first
                | ((with_reducible refine HT0.out.mono ?_); rintro e w2 ⟨rfl, d, rfl⟩)
                | ((with_reducible refine (HU.out _).mono ?_); rintro e w3 ⟨rfl, d2, rfl⟩))
              go_ret
              exact ⟨rfl, _, rfl⟩
      | some f =>
        have e1 : (t.toList == [42]) = false := by rw [e0, decide_eq_false (tokR_no hx)]
        by_cases h0 : s.size = 0
        · have e2 := none_true h0
          have HB : Hid (B = false) := by
            show _ = _
            rw [hB]
            cases hd : s.data.toList with
            | nil => rw [wm_some_nil]
            | cons c r => have := congrArg List.length hd; rw [list_len, h0] at this; cases this
          clear hB hx hA' hp ih hl hm hlx hl' hcut ht e0 hN hn h0
          rcases hq' with ⟨hc1, rfl⟩ | ⟨hc1, rfl⟩ <;>
          · go_enter Tryd.func58, Tryd.ntmps58
            go_wp2_with (fail)
            go_quiet (fail)
            go_wp2_with (fail)
            go_ret
            exact ⟨by rw [HB.out]; rfl, _, rfl⟩
        · have e2 := none_false (s := s) (by omega)
          have hs1 : 0 < s.size := by omega
          have hd : s.data.toList = s[0] :: s.data.toList.drop 1 := by
            have := pt_drop s 0 hs1
            rw [List.drop_zero] at this
            exact this
          obtain ⟨R, hR⟩ : ∃ R, R = tm f s[0] := ⟨_, rfl⟩
          have HO : Hid (∀ d, Calls Tryd.prog 75 #[.string t, .int .u8 (s[0].toNat : Int)] (w.drewN d) fun e w' => e = .returned (.bool R) ∧ ∃ n, w' = (w.drewN d).drewN n) := fun d => by
            rw [ht]
            exact (rone_any x f s[0] R _ hx hlx hR).mono fun e w' h => ⟨h.1, 0, h.2.symm⟩
          have HU : Hid (∀ d, Calls Tryd.prog 58 #[.slice (some ⟨g, q', none⟩) m (cap - 1), .string (s.extract 1 s.size)] (w.drewN d) fun e w' => e = .returned (.bool (wm tm K' (s.extract 1 s.size).data.toList)) ∧ ∃ d', w' = (w.drewN d).drewN d') := fun d =>
            ih L' K' (s.extract 1 s.size) _ _ _ _ _ (by rw [ext_tail_size]; omega) hA' (hcut.below (below_drewN (Below.refl _ _) d)) hm (by omega) hl' (by omega) (by rw [ext_tail_size]; omega) rfl
          obtain ⟨M, hM⟩ : ∃ M, M = wm tm K' (s.extract 1 s.size).data.toList := ⟨_, rfl⟩
          have HB : Hid (B = (R && M)) := by
            show _ = _
            rw [hB, hd, wm_some, hR, hM, ext_tail]
          rw [← hM] at HU
          clear hB hx hA' hp ih hl hm hlx hl' hcut ht e0 hN hn h0 hR hM hd
          cases R <;> rcases hq' with ⟨hc1, rfl⟩ | ⟨hc1, rfl⟩ <;>
          · go_enter Tryd.func58, Tryd.ntmps58
            go_wp2_with (fail)
            go_quiet (first
              | (go_at_call 75; go_loud (exact Calls.quiet_of (HO.out _)))
              | (go_at_call 58; go_loud (exact Calls.quiet_of (HU.out _))))
            go_wp2_with (fail)
            go_ret
            exact ⟨by rw [HB.out]; rfl, _, rfl⟩
end Go.Proofs.YtdgcmapmnkopaaaDoor
