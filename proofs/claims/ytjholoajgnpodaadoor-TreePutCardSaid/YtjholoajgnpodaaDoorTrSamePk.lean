/-
  The walk of the reference's Same.
-/
import Derived.Test.YtjholoajgnpodaaDoorTrCheck
import Derived.Test.YtjholoajgnpodaaDoorTrPlain
namespace Go.Proofs.YtjholoajgnpodaaDoor
open Go.RowKit

theorem take_moreT {la lb : List En} {k : Nat} (ha : k < la.length) (hb : k < lb.length) (h : la.take k = lb.take k) (he : la[k] = lb[k]) : la.take (k + 1) = lb.take (k + 1) := by
  rw [List.take_succ_eq_append_getElem ha, List.take_succ_eq_append_getElem hb, h, he]

set_option maxHeartbeats 1000000 in
set_option maxRecDepth 4000 in
theorem tsame_any (la lb : List En) (p q : Option Addr) (c d n m : Nat) (B : Bool) (w : World) (hn : n = la.length) (hm : m = lb.length) (hp : NRw w p la) (hq : NRw w q lb) (hl : n ≤ 140737488355328) (hl2 : m ≤ 140737488355328) (hB : B = decide (la = lb)) :
    Calls Tryd.prog 17 #[.slice p n c, .slice q m d] w fun e w' => e = .returned (.bool B) ∧ ∃ k, w' = w.drewN k := by
  by_cases h1 : n = m
  · have HN := Lib.hid hn
    have HM := Lib.hid hm
    have HB := Lib.hid hB
    subst h1
    clear hn hm hB
    go_enter Tryd.func17, Tryd.ntmps17
    go_wp2
    go_loopw [13] (fun i wr => ∃ (k x : Nat), k ≤ n ∧ i = .int .i64 k ∧ wr = w.drewN x ∧ Hid (la.take k = lb.take k)) (fun i _ => n - (intOf i).toNat)
    case atStart => exact ⟨0, 0, by omega, rfl, rfl, rfl⟩
    case round =>
      obtain ⟨k, x, hk, rfl, rfl, HT⟩ := hrel
      by_cases hlt : k < n
      · have hka : k < la.length := by rw [← HN.out]; omega
        have hkb : k < lb.length := by rw [← HM.out]; omega
        obtain ⟨g, o, rfl, hg, a0, a1, a2⟩ := hp k hka
        obtain ⟨h, o2, rfl, hh, b0, b1, b2⟩ := hq k hkb
        have z0 : (0 : Int) ≤ (k : Int) := by omega
        have z1 : (k : Int) < (n : Int) := by omega
        by_cases he : la[k] = lb[k]
        · have HX : Hid (la.take (k + 1) = lb.take (k + 1)) := take_moreT hka hkb HT.out he
          rw [← he] at b0 b1 b2
          obtain ⟨s, hs⟩ : ∃ s, s = la[k] := ⟨_, rfl⟩
          rw [← hs] at a0 a1 a2 b0 b1 b2
          clear hs he hka hkb hg hh HT
          go_wp2
          go_quiet (fail)
          go_wp2
          go_roundw
          case rel => exact ⟨k + 1, _, by omega, by go_num, by first | rfl | exact World.drewN_drewN _ _ _, HX⟩
          case measure => simp [intOf]; omega
        · have HX : Hid (B = false) := by
            show _ = _
            rw [HB.out]
            refine decide_eq_false fun e => he ?_
            subst e
            rfl
          have hne : ¬ (la[k].m = lb[k].m ∧ la[k].n = lb[k].n ∧ la[k].i = lb[k].i) := fun h => he (by
            obtain ⟨h0, h1, h2⟩ := h
            cases hx : la[k]
            cases hy : lb[k]
            simp_all)
          obtain ⟨s, hs⟩ : ∃ s, s = la[k] := ⟨_, rfl⟩
          obtain ⟨t, ht⟩ : ∃ t, t = lb[k] := ⟨_, rfl⟩
          rw [← hs] at a0 a1 a2 hne
          rw [← ht] at b0 b1 b2 hne
          clear hs ht he hka hkb hg hh HT
          have hfour : ((s.m == t.m) = false ∧ ¬ s.m = t.m) ∨ (s.m = t.m ∧ (s.n.toList == t.n.toList) = false ∧ ¬ s.n.toList = t.n.toList) ∨ (s.m = t.m ∧ s.n = t.n ∧ (s.i.toList == t.i.toList) = false ∧ ¬ s.i.toList = t.i.toList) := by
            by_cases h0 : s.m = t.m
            · by_cases h1 : s.n = t.n
              · have h2 : ¬ s.i = t.i := fun h2 => hne ⟨h0, h1, h2⟩
                have h3 := ba_ne h2
                exact .inr (.inr ⟨h0, h1, h3, by simpa using h3⟩)
              · have h3 := ba_ne h1
                exact .inr (.inl ⟨h0, h3, by simpa using h3⟩)
            · exact .inl ⟨by simpa using h0, h0⟩
          clear hne
          rcases hfour with ⟨k1, k2⟩ | ⟨k0, k1, k2⟩ | ⟨k0, k3, k1, k2⟩
          · go_wp2
            go_quiet (fail)
            go_wp2
            go_ret
            exact ⟨by rw [HX.out]; rfl, _, by first | rfl | exact World.drewN_drewN _ _ _⟩
          · rw [← k0] at b0
            clear k0
            go_wp2
            go_quiet (fail)
            go_wp2
            go_ret
            exact ⟨by rw [HX.out]; rfl, _, by first | rfl | exact World.drewN_drewN _ _ _⟩
          · rw [← k0] at b0
            rw [← k3] at b1
            clear k0 k3
            go_wp2
            go_quiet (fail)
            go_wp2
            go_ret
            exact ⟨by rw [HX.out]; rfl, _, by first | rfl | exact World.drewN_drewN _ _ _⟩
      · obtain rfl : k = n := by omega
        have HX : Hid (B = true) := by
          show _ = _
          rw [HB.out]
          refine decide_eq_true ?_
          have h := HT.out
          rwa [List.take_of_length_le (by rw [← HN.out]; omega), List.take_of_length_le (by rw [← HM.out]; omega)] at h
        go_wp2
        go_ret
        exact ⟨by rw [HX.out]; rfl, _, by first | rfl | exact World.drewN_drewN _ _ _⟩
  · have HB : Hid (B = false) := by
      show _ = _
      rw [hB]
      refine decide_eq_false fun e => h1 ?_
      rw [hn, hm, e]
    have hb : ((n : Int) == (m : Int)) = false := by rw [beq_eq_false_iff_ne]; omega
    clear hn hm hB h1
    go_enter Tryd.func17, Tryd.ntmps17
    go_wp2
    go_ret
    exact ⟨by rw [HB.out]; rfl, 0, rfl⟩
end Go.Proofs.YtjholoajgnpodaaDoor
/-
  The values of the law package's own check of trees.
-/
namespace Go.Proofs.YtjholoajgnpodaaDoor
open Go.RowKit

def idC (c : UInt8) : ByteArray := str (List.replicate 40 c)
def enA : En := ⟨1, ⟨#[97, 46, 98]⟩, idC 49⟩
def enB : En := ⟨4, ⟨#[97]⟩, idC 50⟩
def bodyC : List UInt8 := bodyT [enA, enB]
theorem lv_chk : chkT [enA, enB] = 0 := by decide +kernel
theorem lv_chk2 : chkT [enB, enA] = 150 := by decide +kernel
theorem lv_body : (bodyT [enA, enB]).length = 59 ∧ (bodyT [enA, enB]).take 11 = [49, 48, 48, 54, 52, 52, 32, 97, 46, 98, 0] := by decide +kernel
theorem lv_par : parE (bodyT [enA, enB]) = (0, [enA, enB]) := by decide +kernel
theorem lv_less : lessE enA enB = true ∧ lessE enB enA = false := by decide +kernel
end Go.Proofs.YtjholoajgnpodaaDoor
