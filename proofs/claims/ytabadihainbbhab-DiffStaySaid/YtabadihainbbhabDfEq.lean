/-
  The walks of the reference's Edits and Runs.
-/
import Derived.Test.YtabadihainbbhabDfRows
import Derived.Outline
namespace Go.Proofs.Ytabadihainbbhab
open Go.RowKit

set_option maxHeartbeats 1000000 in
set_option maxRecDepth 4000 in
theorem edits_any (la lb : List Ed) (p q : Option Addr) (c d n m : Nat) (B : Bool) (w : World) (hn : n = la.length) (hm : m = lb.length) (hp : ERw w p la) (hq : ERw w q lb) (hl : n ≤ 140737488355328) (hl2 : m ≤ 140737488355328) (hB : B = decide (la = lb)) :
    Calls Try.prog 11 #[.slice p n c, .slice q m d] w fun e w' => e = .returned (.bool B) ∧ ∃ k, w' = w.drewN k := by
  by_cases h1 : n = m
  · have HN := Lib.hid hn
    have HM := Lib.hid hm
    have HB := Lib.hid hB
    subst h1
    clear hn hm hB
    go_enter Try.func11, Try.ntmps11
    go_wp2
    go_loopw [13] (fun i wr => ∃ (k x : Nat), k ≤ n ∧ i = .int .i64 k ∧ wr = w.drewN x ∧ Hid (la.take k = lb.take k)) (fun i _ => n - (intOf i).toNat)
    case atStart => exact ⟨0, 0, by omega, rfl, rfl, rfl⟩
    case round =>
      obtain ⟨k, x, hk, rfl, rfl, HT⟩ := hrel
      by_cases hlt : k < n
      · have hka : k < la.length := by rw [← HN.out]; omega
        have hkb : k < lb.length := by rw [← HM.out]; omega
        obtain ⟨g, o, rfl, hg, a0, a1, a2, a3⟩ := hp k hka
        obtain ⟨h, o2, rfl, hh, b0, b1, b2, b3⟩ := hq k hkb
        by_cases he : la[k] = lb[k]
        · have HX : Hid (la.take (k + 1) = lb.take (k + 1)) := take_more hka hkb HT.out he
          rw [← he] at b0 b1 b2 b3
          obtain ⟨s, hs⟩ : ∃ s, s = la[k] := ⟨_, rfl⟩
          rw [← hs] at a0 a1 a2 a3 b0 b1 b2 b3
          clear hs he hka hkb hg hh HT
          go_wp2
          go_quiet (fail)
          go_wp2
          go_roundw
          case rel => exact ⟨k + 1, _, by omega, by go_num, by first | rfl | exact World.drewN_drewN _ _ _, HX⟩
          case measure => simp [intOf]; omega
        · have HX : Hid (B = false) := by
            show _ = _
            rw [HB.out]
            refine decide_eq_false fun e => he ?_
            subst e
            rfl
          have hne : ¬ (la[k].f = lb[k].f ∧ la[k].d = lb[k].d ∧ la[k].t = lb[k].t ∧ la[k].i = lb[k].i) := fun h => he (by
            obtain ⟨h0, h1, h2, h3⟩ := h
            cases hx : la[k]
            cases hy : lb[k]
            simp_all)
          obtain ⟨s, hs⟩ : ∃ s, s = la[k] := ⟨_, rfl⟩
          obtain ⟨t, ht⟩ : ∃ t, t = lb[k] := ⟨_, rfl⟩
          rw [← hs] at a0 a1 a2 a3 hne
          rw [← ht] at b0 b1 b2 b3 hne
          clear hs ht he hka hkb hg hh HT
          have hfour : ((s.f == t.f) = false ∧ ¬ s.f = t.f) ∨ (s.f = t.f ∧ (s.d == t.d) = false ∧ ¬ s.d = t.d) ∨ (s.f = t.f ∧ s.d = t.d ∧ (s.t == t.t) = false ∧ ¬ s.t = t.t) ∨ (s.f = t.f ∧ s.d = t.d ∧ s.t = t.t ∧ (s.i == t.i) = false ∧ ¬ s.i = t.i) := by
            simp only [beq_eq_false_iff_ne]
            omega
          clear hne
          rcases hfour with ⟨k1, k2⟩ | ⟨k0, k1, k2⟩ | ⟨k0, k3, k1, k2⟩ | ⟨k0, k3, k4, k1, k2⟩
          · go_wp2
            go_quiet (fail)
            go_wp2
            go_ret
            exact ⟨by rw [HX.out]; rfl, _, by first | rfl | exact World.drewN_drewN _ _ _⟩
          · rw [← k0] at b0
            clear k0
            go_wp2
            go_quiet (fail)
            go_wp2
            go_ret
            exact ⟨by rw [HX.out]; rfl, _, by first | rfl | exact World.drewN_drewN _ _ _⟩
          · rw [← k0] at b0
            rw [← k3] at b1
            clear k0 k3
            go_wp2
            go_quiet (fail)
            go_wp2
            go_ret
            exact ⟨by rw [HX.out]; rfl, _, by first | rfl | exact World.drewN_drewN _ _ _⟩
          · rw [← k0] at b0
            rw [← k3] at b1
            rw [← k4] at b2
            clear k0 k3 k4
            go_wp2
            go_quiet (fail)
            go_wp2
            go_ret
            exact ⟨by rw [HX.out]; rfl, _, by first | rfl | exact World.drewN_drewN _ _ _⟩
      · obtain rfl : k = n := by omega
        have HX : Hid (B = true) := by
          show _ = _
          rw [HB.out]
          refine decide_eq_true ?_
          have h := HT.out
          rwa [List.take_of_length_le (by rw [← HN.out]; omega), List.take_of_length_le (by rw [← HM.out]; omega)] at h
        go_wp2
        go_ret
        exact ⟨by rw [HX.out]; rfl, _, by first | rfl | exact World.drewN_drewN _ _ _⟩
  · have HB : Hid (B = false) := by
      show _ = _
      rw [hB]
      refine decide_eq_false fun e => h1 ?_
      rw [hn, hm, e]
    have hb : ((n : Int) == (m : Int)) = false := by rw [beq_eq_false_iff_ne]; omega
    clear hn hm hB h1
    go_enter Try.func11, Try.ntmps11
    go_wp2
    go_ret
    exact ⟨by rw [HB.out]; rfl, 0, rfl⟩
end Go.Proofs.Ytabadihainbbhab
