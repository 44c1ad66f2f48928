/-
  The walks of commonPrefix, same and the reference's Same.
-/
import Derived.Test.YtidghjalfbklnaaDfPlain
import Derived.Test.YtidghjalfbklnaaRowPk
import Derived.BigQuiet
import Derived.Deep.QuietTactic
namespace Go.Proofs.Ytidghjalfbklnaa
open Go.RowKit

theorem str_ne {x y : List UInt8} (h : x ≠ y) : ((str x).toList == (str y).toList) = false ∧ ((str x).toList != (str y).toList) = true := by
  rw [ByteArray.toList_eq, ByteArray.toList_eq, str_list, str_list]
  exact ⟨beq_eq_false_iff_ne.mpr h, bne_iff_ne.mpr h⟩
theorem str_is {x y : List UInt8} (h : x = y) : ((str x).toList == (str y).toList) = true ∧ ((str x).toList != (str y).toList) = false := by
  subst h
  simp

set_option maxHeartbeats 1000000 in
set_option maxRecDepth 4000 in
theorem cpre_any (la lb : List (List UInt8)) (p q : Option Addr) (c d n m : Nat) (w : World) (hn : n = la.length) (hm : m = lb.length) (hp : SRw w p la) (hq : SRw w q lb) (hl : n ≤ 140737488355328) (hl2 : m ≤ 140737488355328) :
    Calls Try.prog 40 #[.slice p n c, .slice q m d] w fun e w' => e = .returned (.int .i64 (cpre la lb : Nat)) ∧ ∃ k, w' = w.drewN k := by
  obtain ⟨r, hr⟩ : ∃ r, r = min n m := ⟨_, rfl⟩
  obtain ⟨C, hC⟩ : ∃ C, C = cpre la lb := ⟨_, rfl⟩
  rw [← hC]
  have HC := Lib.hid hC
  have HN := Lib.hid hn
  have HM := Lib.hid hm
  have hrn : r ≤ n := by omega
  have hrm : r ≤ m := by omega
  have HRR := Lib.hid hr
  clear hC hn hm hr
  rcases Nat.lt_or_ge m n with hmn | hmn
  · obtain rfl : r = m := by have := HRR.out; omega
    go_enter Try.func40, Try.ntmps40
    go_wp2
    go_loopw [11] (fun i wr => ∃ (k x : Nat), k ≤ r ∧ i = .int .i64 k ∧ wr = w.drewN x ∧ Hid (la.take k = lb.take k)) (fun i _ => r - (intOf i).toNat)
    case atStart => exact ⟨0, 0, by omega, rfl, rfl, rfl⟩
    case round =>
      obtain ⟨k, x, hk, rfl, rfl, HT⟩ := hrel
      by_cases hlt : k < r
      · have hka : k < la.length := by rw [← HN.out]; omega
        have hkb : k < lb.length := by rw [← HM.out]; omega
        obtain ⟨g, o, rfl, hg, a0⟩ := hp k hka
        obtain ⟨h, o2, rfl, hh, b0⟩ := hq k hkb
        by_cases he : la[k] = lb[k]
        · have HX : Hid (la.take (k + 1) = lb.take (k + 1)) := take_more hka hkb HT.out he
          obtain ⟨e1, e2⟩ := str_is he
          obtain ⟨s, hs⟩ : ∃ s, s = str la[k] := ⟨_, rfl⟩
          obtain ⟨t, ht⟩ : ∃ t, t = str lb[k] := ⟨_, rfl⟩
          rw [← hs] at a0 e1 e2
          rw [← ht] at b0 e1 e2
          have hkn : k < n := by omega
          clear hs ht he hka hkb hg hh HT
          go_wp2
          go_quiet (fail)
          go_wp2
          go_roundw
          case rel => exact ⟨k + 1, _, by omega, by go_num, by first | rfl | exact World.drewN_drewN _ _ _, HX⟩
          case measure => simp [intOf]; omega
        · have HX : Hid (C = k) := by show _ = _; rw [HC.out]; exact cpre_stop hka hkb HT.out he
          obtain ⟨e1, e2⟩ := str_ne he
          obtain ⟨s, hs⟩ : ∃ s, s = str la[k] := ⟨_, rfl⟩
          obtain ⟨t, ht⟩ : ∃ t, t = str lb[k] := ⟨_, rfl⟩
          rw [← hs] at a0 e1 e2
          rw [← ht] at b0 e1 e2
          have hkn : k < n := by omega
          clear hs ht he hka hkb hg hh HT
          go_wp2
          go_quiet (fail)
          go_wp2
          go_ret
          exact ⟨by rw [HX.out]; rfl, _, by first | rfl | exact World.drewN_drewN _ _ _⟩
      · obtain rfl : k = r := by omega
        have HX : Hid (C = k) := by show _ = _; rw [HC.out]; exact cpre_end (by rw [HRR.out, HN.out, HM.out]) HT.out
        go_wp2
        go_ret
        exact ⟨by rw [HX.out]; rfl, _, by first | rfl | exact World.drewN_drewN _ _ _⟩
  · obtain rfl : r = n := by have := HRR.out; omega
    go_enter Try.func40, Try.ntmps40
    go_wp2
    go_loopw [11] (fun i wr => ∃ (k x : Nat), k ≤ r ∧ i = .int .i64 k ∧ wr = w.drewN x ∧ Hid (la.take k = lb.take k)) (fun i _ => r - (intOf i).toNat)
    case atStart => exact ⟨0, 0, by omega, rfl, rfl, rfl⟩
    case round =>
      obtain ⟨k, x, hk, rfl, rfl, HT⟩ := hrel
      by_cases hlt : k < r
      · have hka : k < la.length := by rw [← HN.out]; omega
        have hkb : k < lb.length := by rw [← HM.out]; omega
        obtain ⟨g, o, rfl, hg, a0⟩ := hp k hka
        obtain ⟨h, o2, rfl, hh, b0⟩ := hq k hkb
        by_cases he : la[k] = lb[k]
        · have HX : Hid (la.take (k + 1) = lb.take (k + 1)) := take_more hka hkb HT.out he
          obtain ⟨e1, e2⟩ := str_is he
          obtain ⟨s, hs⟩ : ∃ s, s = str la[k] := ⟨_, rfl⟩
          obtain ⟨t, ht⟩ : ∃ t, t = str lb[k] := ⟨_, rfl⟩
          rw [← hs] at a0 e1 e2
          rw [← ht] at b0 e1 e2
          have hkm : k < m := by omega
          clear hs ht he hka hkb hg hh HT
          go_wp2
          go_quiet (fail)
          go_wp2
          go_roundw
          case rel => exact ⟨k + 1, _, by omega, by go_num, by first | rfl | exact World.drewN_drewN _ _ _, HX⟩
          case measure => simp [intOf]; omega
        · have HX : Hid (C = k) := by show _ = _; rw [HC.out]; exact cpre_stop hka hkb HT.out he
          obtain ⟨e1, e2⟩ := str_ne he
          obtain ⟨s, hs⟩ : ∃ s, s = str la[k] := ⟨_, rfl⟩
          obtain ⟨t, ht⟩ : ∃ t, t = str lb[k] := ⟨_, rfl⟩
          rw [← hs] at a0 e1 e2
          rw [← ht] at b0 e1 e2
          have hkm : k < m := by omega
          clear hs ht he hka hkb hg hh HT
          go_wp2
          go_quiet (fail)
          go_wp2
          go_ret
          exact ⟨by rw [HX.out]; rfl, _, by first | rfl | exact World.drewN_drewN _ _ _⟩
      · obtain rfl : k = r := by omega
        have HX : Hid (C = k) := by show _ = _; rw [HC.out]; exact cpre_end (by rw [HRR.out, HN.out, HM.out]) HT.out
        go_wp2
        go_ret
        exact ⟨by rw [HX.out]; rfl, _, by first | rfl | exact World.drewN_drewN _ _ _⟩


set_option maxHeartbeats 1000000 in
set_option maxRecDepth 4000 in
theorem rsame_any (la lb : List (List UInt8)) (p q : Option Addr) (c d n m : Nat) (B : Bool) (w : World) (hn : n = la.length) (hm : m = lb.length) (hp : SRw w p la) (hq : SRw w q lb) (hl : n ≤ 140737488355328) (hl2 : m ≤ 140737488355328) (hB : B = decide (la = lb)) :
    Calls Try.prog 98 #[.slice p n c, .slice q m d] w fun e w' => e = .returned (.bool B) ∧ ∃ k, w' = w.drewN k := by
  by_cases h1 : n = m
  · have HN := Lib.hid hn
    have HM := Lib.hid hm
    have HB := Lib.hid hB
    subst h1
    clear hn hm hB
    go_enter Try.func98, Try.ntmps98
    go_wp2
    go_loopw [13] (fun i wr => ∃ (k x : Nat), k ≤ n ∧ i = .int .i64 k ∧ wr = w.drewN x ∧ Hid (la.take k = lb.take k)) (fun i _ => n - (intOf i).toNat)
    case atStart => exact ⟨0, 0, by omega, rfl, rfl, rfl⟩
    case round =>
      obtain ⟨k, x, hk, rfl, rfl, HT⟩ := hrel
      by_cases hlt : k < n
      · have hka : k < la.length := by rw [← HN.out]; omega
        have hkb : k < lb.length := by rw [← HM.out]; omega
        obtain ⟨g, o, rfl, hg, a0⟩ := hp k hka
        obtain ⟨h, o2, rfl, hh, b0⟩ := hq k hkb
        by_cases he : la[k] = lb[k]
        · have HX : Hid (la.take (k + 1) = lb.take (k + 1)) := take_more hka hkb HT.out he
          obtain ⟨e1, e2⟩ := str_is he
          obtain ⟨s, hs⟩ : ∃ s, s = str la[k] := ⟨_, rfl⟩
          obtain ⟨t, ht⟩ : ∃ t, t = str lb[k] := ⟨_, rfl⟩
          rw [← hs] at a0 e1 e2
          rw [← ht] at b0 e1 e2
          clear hs ht he hka hkb hg hh HT
          go_wp2
          go_quiet (fail)
          go_wp2
          go_roundw
          case rel => exact ⟨k + 1, _, by omega, by go_num, by first | rfl | exact World.drewN_drewN _ _ _, HX⟩
          case measure => simp [intOf]; omega
        · have HX : Hid (B = false) := by
            show _ = _
            rw [HB.out]
            refine decide_eq_false fun e => he ?_
            subst e
            rfl
          obtain ⟨e1, e2⟩ := str_ne he
          obtain ⟨s, hs⟩ : ∃ s, s = str la[k] := ⟨_, rfl⟩
          obtain ⟨t, ht⟩ : ∃ t, t = str lb[k] := ⟨_, rfl⟩
          rw [← hs] at a0 e1 e2
          rw [← ht] at b0 e1 e2
          clear hs ht he hka hkb hg hh HT
          go_wp2
          go_quiet (fail)
          go_wp2
          go_ret
          exact ⟨by rw [HX.out]; rfl, _, by first | rfl | exact World.drewN_drewN _ _ _⟩
      · obtain rfl : k = n := by omega
        have HX : Hid (B = true) := by
          show _ = _
          rw [HB.out]
          have h := HT.out
          rw [List.take_of_length_le (by have := HN.out; omega), List.take_of_length_le (by have := HM.out; omega)] at h
          exact decide_eq_true h
        go_wp2
        go_ret
        exact ⟨by rw [HX.out]; rfl, _, by first | rfl | exact World.drewN_drewN _ _ _⟩
  · have HB : Hid (B = false) := by show _ = _; rw [hB]; exact decide_eq_false (fun e => h1 (by rw [hn, hm, e]))
    have hb : ((n : Int) != (m : Int)) = true := by rw [bne_iff_ne]; omega
    have hb2 : ((n : Int) == (m : Int)) = false := by rw [beq_eq_false_iff_ne]; omega
    clear hB hn hm h1
    go_enter Try.func98, Try.ntmps98
    go_wp2
    go_ret
    exact ⟨by rw [HB.out]; rfl, 0, rfl⟩
end Go.Proofs.Ytidghjalfbklnaa
