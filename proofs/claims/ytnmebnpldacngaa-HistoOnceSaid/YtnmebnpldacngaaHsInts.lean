/-
  Rows of ints that may be cut; the walks of commonPrefix and commonSuffix over them.
-/
import Derived.Test.YtnmebnpldacngaaDfNumd
import Derived.Test.YtnmebnpldacngaaDfSame
import Derived.Test.YtnmebnpldacngaaHsPlain
import Derived.Test.YtnmebnpldacngaaHsSpec
namespace Go.Proofs.Ytnmebnpldacngaa
open Go.RowKit

/-- A row of ints at any place of its block, as it is read. -/
def NRw (w : World) (p : Option Addr) (ns : List Nat) : Prop := ∀ k (h : k < ns.length), ∃ g o, p = some ⟨g, o, none⟩ ∧ g < w.heap.size ∧ w.cell? ⟨g, o + k, none⟩ = some (.int .i64 (ns[k] : Nat))
theorem NRw.below {w w' : World} {p : Option Addr} {ns : List Nat} (h : NRw w p ns) (hb : Below w.heap.size w w') : NRw w' p ns := fun k hk => by
  obtain ⟨g, o, rfl, hg, h0⟩ := h k hk
  exact ⟨g, o, rfl, Nat.lt_of_lt_of_le hg hb.size, (hb.cell (p := ⟨g, o + k, none⟩) hg).trans h0⟩
theorem nrw_nil (w : World) (p : Option Addr) : NRw w p [] := fun k hk => absurd hk (Nat.not_lt_zero _)
theorem IRw.row {w : World} {g : Nat} {ns : List Nat} (h : IRw w g ns) : NRw w (some ⟨g, 0, none⟩) ns := fun k hk =>
  ⟨g, 0, rfl, World.block_lt_of_cell? w _ (h k hk), by rw [Nat.zero_add]; exact h k hk⟩
theorem NRw.take {w : World} {p : Option Addr} {ns : List Nat} (h : NRw w p ns) (i : Nat) : NRw w p (ns.take i) := fun k hk => by
  rw [List.length_take] at hk
  obtain ⟨g, o, hp, hg, h0⟩ := h k (by omega)
  exact ⟨g, o, hp, hg, by rw [h0, List.getElem_take]⟩
theorem NRw.cut {w : World} {p : Option Addr} {ns : List Nat} {c : Nat} (h : NRw w p ns) (i : Nat) (hc : ns.length ≤ c) (hi : i ≤ ns.length) : NRw w (if c = i then p else p.map (·.add i)) (ns.drop i) := by
  split
  · rw [List.drop_of_length_le (by omega)]
    exact nrw_nil _ _
  · intro k hk
    rw [List.length_drop] at hk
    obtain ⟨g, o, rfl, hg, h0⟩ := h (i + k) (by omega)
    refine ⟨g, o + i, by rw [Option.map_some, Addr.add_lit], hg, ?_⟩
    rw [Nat.add_assoc, h0, List.getElem_drop]
theorem eqN {a b : Nat} (h : a = b) : ((a : Int) == (b : Int)) = true := by rw [h]; simp
theorem neN {a b : Nat} (h : a ≠ b) : ((a : Int) == (b : Int)) = false := beq_eq_false_iff_ne.mpr (by omega)

set_option maxHeartbeats 1000000 in
set_option maxRecDepth 4000 in
theorem hcpre_any (xs ys : List Nat) (p q : Option Addr) (c d n m C : Nat) (w : World) (hn : n = xs.length) (hm : m = ys.length) (hp : NRw w p xs) (hq : NRw w q ys) (hl : n ≤ 1048576) (hl2 : m ≤ 1048576) (hC : C = cpre xs ys) :
    Calls Try.prog 38 #[.slice p n c, .slice q m d] w fun e w' => e = .returned (.int .i64 (C : Nat)) ∧ ∃ k, w' = w.drewN k := by
  obtain ⟨r, hr⟩ : ∃ r, r = min n m := ⟨_, rfl⟩
  have HC := Lib.hid hC
  have HN := Lib.hid hn
  have HM := Lib.hid hm
  have hrn : r ≤ n := by omega
  have hrm : r ≤ m := by omega
  have HRR := Lib.hid hr
  have hri : (if m < n then (m : Int) else (n : Int)) = (r : Int) := by split <;> omega
  clear hC hn hm hr
  go_enter Try.func38, Try.ntmps38
  go_wp2
  go_loopw [5] (fun i wr => ∃ (k x : Nat), k ≤ r ∧ i = .int .i64 k ∧ wr = w.drewN x ∧ Hid (xs.take k = ys.take k)) (fun i _ => r - (intOf i).toNat)
  case atStart => exact ⟨0, 0, by omega, rfl, rfl, rfl⟩
  case round =>
    obtain ⟨k, x, hk, rfl, rfl, HT⟩ := hrel
    by_cases hlt : k < r
    · have hka : k < xs.length := by rw [← HN.out]; omega
      have hkb : k < ys.length := by rw [← HM.out]; omega
      obtain ⟨g, o, rfl, hg, a0⟩ := hp k hka
      obtain ⟨h, o2, rfl, hh, b0⟩ := hq k hkb
      have hkn : k < n := by omega
      have hkm : k < m := by omega
      by_cases he : xs[k] = ys[k]
      · have HX : Hid (xs.take (k + 1) = ys.take (k + 1)) := take_more hka hkb HT.out he
        have e1 := eqN he
        obtain ⟨s, hs⟩ : ∃ s, s = xs[k] := ⟨_, rfl⟩
        obtain ⟨t, ht⟩ : ∃ t, t = ys[k] := ⟨_, rfl⟩
        rw [← hs] at a0 e1
        rw [← ht] at b0 e1
        clear hs ht he hka hkb hg hh HT
        go_wp2
        go_quiet (fail)
        go_wp2
        go_roundw
        case rel => exact ⟨k + 1, _, by omega, by go_num, by first | rfl | exact World.drewN_drewN _ _ _, HX⟩
        case measure => simp [intOf]; omega
      · have HX : Hid (C = k) := by show _ = _; rw [HC.out]; exact cpre_stop hka hkb HT.out he
        have e1 := neN he
        obtain ⟨s, hs⟩ : ∃ s, s = xs[k] := ⟨_, rfl⟩
        obtain ⟨t, ht⟩ : ∃ t, t = ys[k] := ⟨_, rfl⟩
        rw [← hs] at a0 e1
        rw [← ht] at b0 e1
        clear hs ht he hka hkb hg hh HT
        go_wp2
        go_quiet (fail)
        go_wp2
        go_ret
        exact ⟨by rw [HX.out]; rfl, _, by first | rfl | exact World.drewN_drewN _ _ _⟩
    · have HX : Hid (C = r) := by
        show _ = _
        obtain rfl : k = r := by omega
        rw [HC.out]
        exact cpre_end (by rw [HRR.out, HN.out, HM.out]) HT.out
      obtain rfl : k = r := by omega
      clear HT
      go_wp2
      go_quiet (fail)
      go_wp2
      go_ret
      exact ⟨by rw [HX.out]; rfl, _, by first | rfl | exact World.drewN_drewN _ _ _⟩
set_option maxHeartbeats 1000000 in
set_option maxRecDepth 4000 in
theorem hcsuf_any (xs ys : List Nat) (p q : Option Addr) (c d n m C : Nat) (w : World) (hn : n = xs.length) (hm : m = ys.length) (hp : NRw w p xs) (hq : NRw w q ys) (hl : n ≤ 1048576) (hl2 : m ≤ 1048576) (hC : C = csuf xs ys) :
    Calls Try.prog 40 #[.slice p n c, .slice q m d] w fun e w' => e = .returned (.int .i64 (C : Nat)) ∧ ∃ k, w' = w.drewN k := by
  obtain ⟨r, hr⟩ : ∃ r, r = min n m := ⟨_, rfl⟩
  have HC := Lib.hid hC
  have HN := Lib.hid hn
  have HM := Lib.hid hm
  have hrn : r ≤ n := by omega
  have hrm : r ≤ m := by omega
  have HRR := Lib.hid hr
  have hri : (if m < n then (m : Int) else (n : Int)) = (r : Int) := by split <;> omega
  clear hC hn hm hr
  go_enter Try.func40, Try.ntmps40
  go_wp2
  go_loopw [5] (fun i wr => ∃ (k x : Nat), k ≤ r ∧ i = .int .i64 k ∧ wr = w.drewN x ∧ Hid (xs.reverse.take k = ys.reverse.take k)) (fun i _ => r - (intOf i).toNat)
  case atStart => exact ⟨0, 0, by omega, rfl, rfl, rfl⟩
  case round =>
    obtain ⟨k, x, hk, rfl, rfl, HT⟩ := hrel
    by_cases hlt : k < r
    · have hka : k < xs.reverse.length := by rw [List.length_reverse, ← HN.out]; omega
      have hkb : k < ys.reverse.length := by rw [List.length_reverse, ← HM.out]; omega
      have hka2 : n - 1 - k < xs.length := by rw [← HN.out]; omega
      have hkb2 : m - 1 - k < ys.length := by rw [← HM.out]; omega
      obtain ⟨g, o, rfl, hg, a0⟩ := hp (n - 1 - k) hka2
      obtain ⟨h, o2, rfl, hh, b0⟩ := hq (m - 1 - k) hkb2
      have ea : xs.reverse[k] = xs[n - 1 - k] := by rw [List.getElem_reverse]; congr 1; rw [HN.out]
      have eb : ys.reverse[k] = ys[m - 1 - k] := by rw [List.getElem_reverse]; congr 1; rw [HM.out]
      have hkn : k < n := by omega
      have hkm : k < m := by omega
      by_cases he : xs.reverse[k] = ys.reverse[k]
      · have HX : Hid (xs.reverse.take (k + 1) = ys.reverse.take (k + 1)) := take_more hka hkb HT.out he
        rw [ea, eb] at he
        have e1 := eqN he
        obtain ⟨s, hs⟩ : ∃ s, s = xs[n - 1 - k] := ⟨_, rfl⟩
        obtain ⟨t, ht⟩ : ∃ t, t = ys[m - 1 - k] := ⟨_, rfl⟩
        rw [← hs] at a0 e1
        rw [← ht] at b0 e1
        clear hs ht he hka hkb hg hh HT ea eb hka2 hkb2
        go_wp2
        go_quiet (fail)
        go_wp2
        go_roundw
        case rel => exact ⟨k + 1, _, by omega, by go_num, by first | rfl | exact World.drewN_drewN _ _ _, HX⟩
        case measure => simp [intOf]; omega
      · have HX : Hid (C = k) := by show _ = _; rw [HC.out]; exact cpre_stop hka hkb HT.out he
        rw [ea, eb] at he
        have e1 := neN he
        obtain ⟨s, hs⟩ : ∃ s, s = xs[n - 1 - k] := ⟨_, rfl⟩
        obtain ⟨t, ht⟩ : ∃ t, t = ys[m - 1 - k] := ⟨_, rfl⟩
        rw [← hs] at a0 e1
        rw [← ht] at b0 e1
        clear hs ht he hka hkb hg hh HT ea eb hka2 hkb2
        go_wp2
        go_quiet (fail)
        go_wp2
        go_ret
        exact ⟨by rw [HX.out]; rfl, _, by first | rfl | exact World.drewN_drewN _ _ _⟩
    · have HX : Hid (C = r) := by
        show _ = _
        obtain rfl : k = r := by omega
        rw [HC.out]
        exact cpre_end (by rw [HRR.out, HN.out, HM.out, List.length_reverse, List.length_reverse]) HT.out
      obtain rfl : k = r := by omega
      clear HT
      go_wp2
      go_quiet (fail)
      go_wp2
      go_ret
      exact ⟨by rw [HX.out]; rfl, _, by first | rfl | exact World.drewN_drewN _ _ _⟩
end Go.Proofs.Ytnmebnpldacngaa
