/-
  The regions that three's functions lay down through a pointer: what is kept of them from step to step.
-/
import Derived.Test.YtidghjalfbklnaaThRSamePk
import Derived.Test.YtidghjalfbklnaaThSamePk
namespace Go.Proofs.Ytidghjalfbklnaa
open Go.RowKit

/-- Nothing but the blocks of S has changed, and there may be new ones. -/
structure Chg (S : Nat → Prop) (w w' : World) : Prop where
  os : w'.os = w.os
  tape : w'.tape = w.tape
  output : w'.output = w.output
  size : w.heap.size ≤ w'.heap.size
  block : ∀ k, k < w.heap.size → ¬ S k → w'.heap[k]? = w.heap[k]?
theorem Chg.refl (S : Nat → Prop) (w : World) : Chg S w w := ⟨rfl, rfl, rfl, Nat.le_refl _, fun _ _ _ => rfl⟩
theorem Chg.trans {S S1 : Nat → Prop} {w w1 w2 : World} (h : Chg S w w1) (h1 : Chg S1 w1 w2) (hs : ∀ b, S1 b → S b ∨ w.heap.size ≤ b) : Chg S w w2 :=
  ⟨h1.os.trans h.os, h1.tape.trans h.tape, h1.output.trans h.output, Nat.le_trans h.size h1.size, fun k hk hn => (h1.block k (Nat.lt_of_lt_of_le hk h.size) (fun e => by
    rcases hs k e with h' | h'
    · exact hn h'
    · omega)).trans (h.block k hk hn)⟩
theorem Chg.trans' {S : Nat → Prop} {w w1 w2 : World} (h : Chg S w w1) (h1 : Chg S w1 w2) : Chg S w w2 := h.trans h1 fun _ h => .inl h
theorem Chg.mono {S S1 : Nat → Prop} {w w1 : World} (h : Chg S w w1) (hs : ∀ b, S b → S1 b) : Chg S1 w w1 := ⟨h.os, h.tape, h.output, h.size, fun k hk hn => h.block k hk fun e => hn (hs k e)⟩
theorem Chg.below {S : Nat → Prop} {w w' : World} (h : Below w.heap.size w w') : Chg S w w' := ⟨h.os, h.tape, h.output, h.size, fun k hk _ => h.block k hk⟩
theorem Chg.grown {S : Nat → Prop} {w w' : World} {b : Option Nat} (h : w.grownBy w' b) (hb : ∀ k, b = some k → S k) : Chg S w w' := ⟨h.os, h.tape, h.output, h.size, fun k hk hn => h.block k hk fun e => hn (hb k e.symm)⟩
theorem Chg.set {S : Nat → Prop} {w : World} {g i : Nat} (v : Value) (hg : S g) : Chg S w (w.setCell ⟨g, i, none⟩ v) := ⟨rfl, rfl, rfl, by simp, fun k _ hn => Below.heap_setCell w ⟨g, i, none⟩ v k fun e => hn (by rw [e]; exact hg)⟩
theorem Chg.toBelow {S : Nat → Prop} {w w' : World} {B : Nat} (h : Chg S w w') (hS : ∀ b, S b → B ≤ b) (hB : B ≤ w.heap.size) : Below B w w' := ⟨h.os, h.tape, h.output, h.size, fun k hk => h.block k (Nat.lt_of_lt_of_le hk hB) fun e => by have := hS k e; omega⟩
theorem srw_ch {S : Nat → Prop} {w w' : World} {p : Option Addr} {ls : List (List UInt8)} (h : SRw w p ls) (hc : Chg S w w') (hp : ∀ g o, p = some ⟨g, o, none⟩ → ¬ S g) : SRw w' p ls := fun k hk => by
  obtain ⟨g, o, rfl, hg, hcell⟩ := h k hk
  exact ⟨g, o, rfl, Nat.lt_of_lt_of_le hg hc.size, (World.cell?_of_block (hc.block g hg (hp g o rfl))).trans hcell⟩

/-- A region as the cells of a row tell it. -/
def RgAt (w : World) (xs : List Value) (k : Nat) (r : Rg) : Prop := ∃ v0 v1 v2 v3 v4, xs[k * 5]? = some v0 ∧ xs[k * 5 + 1]? = some v1 ∧ xs[k * 5 + 2]? = some v2 ∧ xs[k * 5 + 3]? = some v3 ∧ xs[k * 5 + 4]? = some v4 ∧ RgC w r v0 v1 v2 v3 v4
/-- The blocks that may be written. -/
def own2 (S : Nat → Prop) (R : Nat) : Nat → Prop := fun b => S b ∨ b = R
/-- The last region, where it is a clean one that may still grow. -/
def LastOpen (w : World) (base : Nat) (S : Nat → Prop) (xs : List Value) (k : Nat) (r : Rg) : Prop := ∃ v1, xs[k * 5]? = some (.int .i64 1) ∧ xs[k * 5 + 1]? = some v1 ∧ xs[k * 5 + 2]? = some (.slice none 0 0) ∧ xs[k * 5 + 3]? = some (.slice none 0 0) ∧ xs[k * 5 + 4]? = some (.slice none 0 0) ∧
  r.o = [] ∧ r.b = [] ∧ r.t = [] ∧ w.ownsRow base 9 1 v1 r.l.length (strs r.l) ∧ ∀ g, v1.ownBlock = some g → S g
/-- Regions that are being laid down behind the cell 0 of the block R. -/
structure RS (w : World) (base R : Nat) (S : Nat → Prop) (gs : List Rg) (v : Value) (xs : List Value) : Prop where
  box : ∃ cs t, w.heap[R]? = some (.cells cs t (0, 0)) ∧ cs[0]? = some v ∧ t ≠ 9 ∧ t ≠ 43
  own : w.ownsRow base 43 5 v gs.length xs
  blk : ∀ g, v.ownBlock = some g → S g
  st : ∀ k (h : k < gs.length), (gs[k].k ≠ 1 ∨ k + 1 < gs.length) → ∀ w', Chg (own2 S R) w w' → RgAt w' xs k gs[k]
  last : ∀ k (h : k < gs.length), k + 1 = gs.length → gs[k].k = 1 → LastOpen w base S xs k gs[k]
  low : ∀ b, S b → base ≤ b ∧ b < w.heap.size
  rb : base ≤ R
theorem own_slw {w : World} {base : Nat} {v : Value} {ls : List (List UInt8)} (h : w.ownsRow base 9 1 v ls.length (strs ls)) : SlW w v ls := by
  obtain ⟨p, c, he, hs⟩ := srw_of h
  refine ⟨p, c, he, ?_, hs⟩
  rcases h.2 with ⟨h', hn⟩ | ⟨g, cap, cur, h', _, _, hc, _⟩
  · rw [h'] at he
    simp only [Value.slice.injEq] at he
    omega
  · rw [h'] at he
    simp only [Value.slice.injEq] at he
    omega
/-- All regions, as they are read. -/
theorem RS.read {w : World} {base R : Nat} {S : Nat → Prop} {gs : List Rg} {v : Value} {xs : List Value} (h : RS w base R S gs v xs) (k : Nat) (hk : k < gs.length) : RgAt w xs k gs[k] := by
  by_cases hst : gs[k].k ≠ 1 ∨ k + 1 < gs.length
  · exact h.st k hk hst w (Chg.refl _ _)
  · have h1 : gs[k].k = 1 := by
      rcases Classical.em (gs[k].k = 1) with h1 | h1
      · exact h1
      · exact absurd (.inl h1) hst
    have h2 : k + 1 = gs.length := by
      rcases Nat.lt_or_ge (k + 1) gs.length with h2 | h2
      · exact absurd (.inr h2) hst
      · omega
    obtain ⟨v1, x0, x1, x2, x3, x4, e1, e2, e3, ho, _⟩ := h.last k hk h2 h1
    exact ⟨_, _, _, _, _, x0, x1, x2, x3, x4, by rw [h1], own_slw ho, by rw [e1]; exact SlW.nil _, by rw [e2]; exact SlW.nil _, by rw [e3]; exact SlW.nil _⟩
theorem RS.grw {w : World} {base R : Nat} {S : Nat → Prop} {gs : List Rg} {v : Value} {xs : List Value} (h : RS w base R S gs v xs) : ∃ p cap, v = .slice p gs.length cap ∧ gs.length ≤ cap ∧ GRw w p gs := by
  rcases h.own.2 with ⟨rfl, hn⟩ | ⟨g, cap, cur, rfl, _, hg, hc, _⟩
  · exact ⟨none, 0, by rw [hn], by omega, fun k hk => by omega⟩
  · refine ⟨_, cap, rfl, hc, fun k hk => ?_⟩
    obtain ⟨v0, v1, v2, v3, v4, x0, x1, x2, x3, x4, hr⟩ := h.read k hk
    have hcell : ∀ i, i < 5 → w.cell? ⟨g, 0 + k * 5 + i, none⟩ = xs[k * 5 + i]? := fun i hi => by
      rw [Nat.zero_add]
      exact World.ownsRow.cellAt h.own (k * 5 + i) (by omega)
    exact ⟨g, 0, v0, v1, v2, v3, v4, rfl, row_lt hg, (hcell 0 (by omega)).trans x0, (hcell 1 (by omega)).trans x1, (hcell 2 (by omega)).trans x2, (hcell 3 (by omega)).trans x3, (hcell 4 (by omega)).trans x4, hr⟩
/-- Blocks of other types stay out of an own row. -/
theorem own_ne {w : World} {base n m sz sz' g : Nat} {e t : TypeId} {v u : Value} {xs ys : List Value} (h : w.ownsRow base e sz v n xs) (h2 : w.ownsRow base t sz' u m ys) (ht : e ≠ t) (hv : v.ownBlock = some g) : u.ownBlock ≠ some g := by
  intro hu
  rcases h.2 with ⟨rfl, _⟩ | ⟨g1, c1, cur1, rfl, _, hg1, _⟩
  · cases hv
  · rcases h2.2 with ⟨rfl, _⟩ | ⟨g2, c2, cur2, rfl, _, hg2, _⟩
    · cases hu
    · simp only [Value.ownBlock, Option.some.injEq] at hv hu
      subst hv
      subst hu
      rw [hg1] at hg2
      simp only [Option.some.injEq, Obj.cells.injEq] at hg2
      exact ht hg2.2.1
/-- Over steps that leave the regions' blocks and the cell. -/
theorem RS.keep {w w' : World} {base R : Nat} {S : Nat → Prop} {gs : List Rg} {v : Value} {xs : List Value} (h : RS w base R S gs v xs) (hb : Below w.heap.size w w') : RS w' base R S gs v xs where
  box := by
    obtain ⟨cs, t, h1, h2⟩ := h.box
    exact ⟨cs, t, (hb.block R (row_lt h1)).trans h1, h2⟩
  own := own_below h.own hb
  blk := h.blk
  st := fun k hk hc w2 hw => h.st k hk hc w2 ((Chg.below hb).trans hw fun b hb => .inl hb)
  last := fun k hk h1 h2 => by
    obtain ⟨v1, x0, x1, x2, x3, x4, e1, e2, e3, ho, hs⟩ := h.last k hk h1 h2
    exact ⟨v1, x0, x1, x2, x3, x4, e1, e2, e3, own_below ho hb, hs⟩
  low := fun b hs => ⟨(h.low b hs).1, Nat.lt_of_lt_of_le (h.low b hs).2 hb.size⟩
  rb := h.rb
end Go.Proofs.Ytidghjalfbklnaa
