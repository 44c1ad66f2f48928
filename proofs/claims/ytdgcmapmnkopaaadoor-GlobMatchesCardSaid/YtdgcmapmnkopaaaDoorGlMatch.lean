/-
  The walks of Match, of the functions that it makes, and of Part.
-/
import Derived.Test.YtdgcmapmnkopaaaDoorGlPart
namespace Go.Proofs.YtdgcmapmnkopaaaDoor
open Go.RowKit

/-- A world in which what was there is as it was. -/
structure BelW (w0 : World) where
  w : World
  h : Below w0.heap.size w0 w
theorem wp_region_bel {P : Program} {id : Nat} {Q : Exit → Act → World → Prop} {a : Act} {w w0 : World} {l : List Oper} (hi : Below w0.heap.size w0 w) (hm : P.follows .mixedOrders = true) (hB : Region.lexB .any l.toArray = true)
    (h : wpQuiet P l.toArray (fun w' => ∃ x : BelW w0, w' = x.w) (fun a' => ∀ w', (∃ x : BelW w0, w' = x.w) → Q .normal a' w') l a) : (Code.region id l.toArray true).wp P Q a w :=
  wp_region_quiet (C := fun w' => ∃ x : BelW w0, w' = x.w) hm hB ⟨⟨w.drew, hi.drew⟩, rfl⟩ (by simpa using h)
theorem Calls.bel_class {P : Program} {f : FuncId} {args : Array Value} {w0 : World} {x : BelW w0} {v : Value} (h : Calls P f args x.w fun e w' => e = .returned v ∧ Below x.w.heap.size x.w w') :
    Calls P f args x.w fun e w'' => e = .returned v ∧ ∃ y : BelW w0, w'' = y.w :=
  h.mono fun _ w' ⟨he, hw⟩ => ⟨he, ⟨w', x.h.trans (hw.mono x.h.size)⟩, rfl⟩

/-- Whether a part pattern matches a part. -/
def partM (x y : List UInt8) : Bool := match tks x with
  | some L => wm tm L y
  | none => false
theorem partM_some {x : List UInt8} {L : List (Option Tok)} (h : tks x = some L) (y : List UInt8) : partM x y = wm tm L y := by
  unfold partM
  rw [h]
def starP (x : List UInt8) : Option (List UInt8) := if x = [42, 42] then none else some x
theorem str_self (x : List UInt8) : (str x).data.toList = x := rfl
theorem eqlit (x : List UInt8) (B : Bool) (hB : B = decide (x = [42, 42])) : ((str x).toList == [42, 42]) = B := by
  rw [ByteArray.toList_eq, str_self, hB, Bool.eq_iff_iff, beq_iff_eq, decide_eq_true_iff]

set_option maxHeartbeats 1000000 in
set_option maxRecDepth 4000 in
theorem star3_any (ls : List (List UInt8)) (q : Option Addr) (cap n b1 i : Nat) (w : World) (B : Bool) (hi : i < n) (hn : n = ls.length) (hc : w.cell? ⟨b1, 0, none⟩ = some (.slice q n cap)) (hr : SRw w q ls) (hB : B = decide (ls[i]'(by omega) = [42, 42])) :
    Calls Tryd.prog 59 #[.int .i64 (i : Int), .pointer (some ⟨b1, 0, none⟩)] w fun e w' => e = .returned (.bool B) ∧ w = w' := by
  obtain ⟨g, o, rfl, hg, a0⟩ := hr i (by omega)
  have e1 := eqlit _ B hB
  obtain ⟨t, ht⟩ : ∃ t, t = str (ls[i]'(by omega)) := ⟨_, rfl⟩
  rw [← ht] at a0 e1
  clear ht hB hr hn
  rcases B with _ | _
  all_goals go_enter Tryd.func59, Tryd.ntmps59
  all_goals go_wp2
  all_goals go_ret
  all_goals exact ⟨rfl, rfl⟩
set_option maxHeartbeats 1000000 in
set_option maxRecDepth 4000 in
theorem match4_any (ls ms : List (List UInt8)) (q1 q2 : Option Addr) (cap1 cap2 n m b1 b2 i j : Nat) (w : World) (B : Bool) (hi : i < n) (hn : n = ls.length) (hj : j < m) (hm : m = ms.length) (hnl : n ≤ 1048576) (hc1 : w.cell? ⟨b1, 0, none⟩ = some (.slice q1 n cap1)) (hr1 : SRw w q1 ls) (hc2 : w.cell? ⟨b2, 0, none⟩ = some (.slice q2 m cap2)) (hr2 : SRw w q2 ms)
    (L : List (Option Tok)) (hL : tks (ls[i]'(by omega)) = some L) (hB : B = wm tm L (ms[j]'(by omega))) (hs1 : (ls[i]'(by omega)).length ≤ 1048576) (hs2 : (ms[j]'(by omega)).length ≤ 1048576) :
    Calls Tryd.prog 60 #[.int .i64 (i : Int), .int .i64 (j : Int), .pointer (some ⟨b1, 0, none⟩), .pointer (some ⟨b2, 0, none⟩)] w fun e w' => e = .returned (.tuple #[.bool B, .int .i64 ((i + 1 : Nat) : Int)]) ∧ Below w.heap.size w w' := by
  obtain ⟨g1, o1, rfl, hg1, a1⟩ := hr1 i (by omega)
  obtain ⟨g2, o2, rfl, hg2, a2⟩ := hr2 j (by omega)
  obtain ⟨t1, ht1⟩ : ∃ t, t = str (ls[i]'(by omega)) := ⟨_, rfl⟩
  obtain ⟨t2, ht2⟩ : ∃ t, t = str (ms[j]'(by omega)) := ⟨_, rfl⟩
  rw [← ht1] at a1
  rw [← ht2] at a2
  have HF := Lib.hid (fun (x : BelW w) => Calls.bel_class (x := x) (fitsPart_any t1 t2 L B x.w (by rw [ht1, str_size]; exact hs1) (by rw [ht2, str_size]; exact hs2) (by rw [ht1]; exact hL) (by rw [ht2]; exact hB)))
  have k1 : ∀ x : BelW w, x.w.cell? ⟨b1, 0, none⟩ = some (.slice (some ⟨g1, o1, none⟩) n cap1) := fun x => (x.h.cell (p := ⟨b1, 0, none⟩) (World.block_lt_of_cell? w _ hc1)).trans hc1
  have k2 : ∀ x : BelW w, x.w.cell? ⟨b2, 0, none⟩ = some (.slice (some ⟨g2, o2, none⟩) m cap2) := fun x => (x.h.cell (p := ⟨b2, 0, none⟩) (World.block_lt_of_cell? w _ hc2)).trans hc2
  have k3 : ∀ x : BelW w, x.w.cell? ⟨g1, o1 + i, none⟩ = some (.string t1) := fun x => (x.h.cell (p := ⟨g1, o1 + i, none⟩) hg1).trans a1
  have k4 : ∀ x : BelW w, x.w.cell? ⟨g2, o2 + j, none⟩ = some (.string t2) := fun x => (x.h.cell (p := ⟨g2, o2 + j, none⟩) hg2).trans a2
  have i1 : IntKind.i64.wrap ((i : Int) + 1) = ((i + 1 : Nat) : Int) := by rw [IntWalk.i64_in _ (by omega)]; omega
  clear ht1 ht2 hL hB hr1 hr2 hs1 hs2 hc1 hc2 a1 a2 hn hm
  go_enter Tryd.func60, Tryd.ntmps60
  go_wp2
  have hq : Nonempty (BelW w) := ⟨⟨w, Below.refl _ _⟩⟩
  refine wp_region_bel (w0 := w) (Below.refl _ _) (by kernel_rfl) (by kernel_rfl) ?_
  repeat (go_big_quiet_step ((go_at_call 57; exact HF.out _)))
  refine wpQuiet_nil ?_
  rintro _ ⟨x, rfl⟩
  have hx := x.h
  go_wp2
  go_ret2
  exact ⟨rfl, hx⟩
end Go.Proofs.YtdgcmapmnkopaaaDoor
