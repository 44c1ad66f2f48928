/-
  The walk of the reference's clean where a new region is begun.
-/
import Derived.Test.YtidghjalfbklnaaThRSamePk
import Derived.Test.YtidghjalfbklnaaThSamePk
namespace Go.Proofs.Ytidghjalfbklnaa
open Go.RowKit

theorem srw_keep {w w' : World} {g o : Nat} {ls : List (List UInt8)} (h : SRw w (some ⟨g, o, none⟩) ls) (hk : w'.heap[g]? = w.heap[g]?) (hs : w.heap.size ≤ w'.heap.size) : SRw w' (some ⟨g, o, none⟩) ls := fun k hlt => by
  obtain ⟨g2, o2, he, hg, hc⟩ := h k hlt
  simp only [Option.some.injEq, Addr.mk.injEq, and_true] at he
  obtain ⟨rfl, rfl⟩ := he
  exact ⟨_, _, rfl, Nat.lt_of_lt_of_le hg hs, (World.cell?_of_block hk).trans hc⟩
/-- What the second append leaves. -/
theorem rcl_end {w w6 w7 : World} {base n m cap g6 cap6 g7 cap7 : Nat} {p : Option Addr} {gs : List Rg} {ls : List (List UInt8)} {xs : List Value} (hn : n = gs.length) (hm : m = ls.length)
    (hown : w.ownsRow base 43 5 (.slice p n cap) n xs)
    (hst : ∀ w', w.grownBy w' (Value.slice p n cap).ownBlock → ∀ k (h : k < gs.length), ∃ v0 v1 v2 v3 v4, xs[k * 5]? = some v0 ∧ xs[k * 5 + 1]? = some v1 ∧ xs[k * 5 + 2]? = some v2 ∧ xs[k * 5 + 3]? = some v3 ∧ xs[k * 5 + 4]? = some v4 ∧ RgC w' gs[k] v0 v1 v2 v3 v4)
    (hb6 : Below w.heap.size w w6) (h6 : w6.ownsRow w.heap.size 9 1 (.slice (some ⟨g6, 0, none⟩) m cap6) m (strs ls)) (hg6 : w.heap.size ≤ g6) (hlt6 : g6 < w6.heap.size) (x : Obj)
    (h7 : w7.ownsRow base 43 5 (.slice (some ⟨g7, 0, none⟩) (n + 1) cap7) (n + 1) (xs ++ [.int .i64 1, .slice (some ⟨g6, 0, none⟩) m cap6, .slice none 0 0, .slice none 0 0, .slice none 0 0]))
    (hg7 : (w6.alloc x).grownBy w7 (Value.slice p n cap).ownBlock) (hat : (Value.slice p n cap).ownBlock = some g7 ∨ g7 = (w6.alloc x).heap.size) :
    GOw w7 base (.slice (some ⟨g7, 0, none⟩) (n + 1) cap7) (gs ++ [⟨1, ls, [], [], []⟩]) ∧ w.grownBy w7 (Value.slice p n cap).ownBlock ∧ ((Value.slice p n cap).ownBlock = some g7 ∨ w.heap.size ≤ g7) := by
  subst hn hm
  have hb7 : Below w.heap.size w (w6.alloc x) := below_new hb6 _
  have hs7 : (w6.alloc x).heap.size = w6.heap.size + 1 := World.size_alloc _ _
  have hgr : w.grownBy (w6.alloc x) (Value.slice p gs.length cap).ownBlock := grown_belowT ⟨rfl, rfl, rfl, Nat.le_refl _, fun _ _ _ => rfl⟩ hb7
  have hob : ∀ b, (Value.slice p gs.length cap).ownBlock = some b → b < w.heap.size := fun b hb => (hown.lt b hb).2
  refine ⟨GOw.snoc (w := w6.alloc x) hown.1 (fun w' hw' => hst w' (grown_chain hgr hw' (.inl rfl))) hg7 (hat.imp id fun e => by omega) h7 ?_, grown_chain hgr hg7 (.inl rfl), hat.imp id fun e => by have := hb6.size; omega⟩
  intro w' hw'
  have h66 : g6 ≠ g7 := by
    rcases hat with h | h
    · have := hob g7 h; omega
    · omega
  have k1 : (w6.alloc x).heap[g6]? = w6.heap[g6]? := (below_new (Below.refl w6.heap.size w6) x).block g6 hlt6
  have k2 : w7.heap[g6]? = (w6.alloc x).heap[g6]? := hg7.block g6 (by omega) (fun e => by have := hob g6 e.symm; omega)
  have k3 : w'.heap[g6]? = w7.heap[g6]? := hw'.block g6 (by have := hg7.size; omega) (by simpa using h66)
  obtain ⟨p2, c2, he, hs⟩ := srw_of h6
  simp only [Value.slice.injEq, true_and] at he
  obtain ⟨rfl, rfl⟩ := he
  have hcap : ls.length ≤ cap6 := by
    rcases h6.2 with ⟨h', _⟩ | ⟨g', cap', cur, h', _, _, hc, _⟩
    · simp at h'
    · simp only [Value.slice.injEq, true_and] at h'
      obtain ⟨_, rfl⟩ := h'
      exact hc
  exact ⟨rfl, ⟨_, _, rfl, hcap, srw_keep hs (k3.trans (k2.trans k1)) (by have := hg7.size; have := hw'.size; omega)⟩, SlW.nil _, SlW.nil _, SlW.nil _⟩

set_option maxHeartbeats 4000000 in
set_option maxRecDepth 8000 in
theorem rclN_any (gs : List Rg) (ls : List (List UInt8)) (p q : Option Addr) (base n cap m d : Nat) (w : World) (hn : n = gs.length) (hm : m = ls.length) (ho : GOw w base (.slice p n cap) gs) (hbase : base ≤ w.heap.size) (hq : ∀ w', w.grownBy w' (Value.slice p n cap).ownBlock → SRw w' q ls) (hl : n ≤ 100000) (hm0 : 0 < m) (hm1 : m ≤ 1000000) (hlast : ∀ r, gs.getLast? = some r → r.k ≠ 1) :
    Calls Try.prog 48 #[.slice p n cap, .slice q m d] w fun e w' => ∃ g cap', e = .returned (.slice (some ⟨g, 0, none⟩) (n + 1) cap') ∧ GOw w' base (.slice (some ⟨g, 0, none⟩) (n + 1) cap') (gs ++ [⟨1, ls, [], [], []⟩]) ∧ w.grownBy w' (Value.slice p n cap).ownBlock ∧ ((Value.slice p n cap).ownBlock = some g ∨ w.heap.size ≤ g) := by
  obtain ⟨i0, hi, hz0, hz1, hz2⟩ := info_parts Try.infoRg
  have HU : Hid (Try.prog.underlying 22 = some (.slice 9)) := Try.underlying22
  obtain ⟨xs, hown, hst⟩ := ho
  have hxl : xs.length = gs.length * 5 := hown.1
  have hgr0 : w.grownBy w (Value.slice p n cap).ownBlock := ⟨rfl, rfl, rfl, Nat.le_refl _, fun _ _ _ => rfl⟩
  have HST := Lib.hid hst
  have HQ := Lib.hid hq
  have HM := Lib.hid hm
  have HN := Lib.hid hn
  rw [← hn] at hown
  have HOW := Lib.hid hown
  have HXL := Lib.hid hxl
  have hmi : ¬ (m : Int) = 0 := by omega
  have HNW : Hid ((w.alloc (.cells #[] 9)).ownsRow w.heap.size 9 1 (.slice (some ⟨w.heap.size, 0, none⟩) 0 0) 0 []) := ⟨rfl, .inr ⟨_, 0, #[], rfl, Nat.le_refl _, heap_alloc_new _ _, Nat.le_refl _, Nat.zero_le _, rfl, rfl⟩⟩
  have HBA : Hid (Below w.heap.size w (w.alloc (.cells #[] 9))) := below_new (Below.refl _ _) _
  have HGA : Hid (w.grownBy (w.alloc (.cells #[] 9)) (Value.slice p n cap).ownBlock) := grown_belowT hgr0 HBA.out
  by_cases h0 : n = 0
  · have e2 : IntKind.i64.wrap ((n : Int) - 1) = -1 := by rw [IntWalk.i64_in _ (by omega)]; omega
    clear h0 hn hm hown hst hq hxl hlast
    go_enter Try.func48, Try.ntmps48
    go_upto_region 6 with (first
      | (at_builtin; refine app_srwT _ rfl _ _ 22 rfl HU.out w.heap.size _ 0 [] rfl HNW.out q m d ls rfl HM.out (HQ.out _ HGA.out) (by omega) (by simp) ?_; intro v6 w6 ho6 hg6; rw [Nat.zero_add, List.nil_append] at ho6; obtain ⟨g6, cap6, rfl, hb6, hlt6⟩ := ho6.form hm0; have HB6 := Lib.hid (HBA.out.grown hg6 (by simp) (fun b hb => by cases hb; exact Nat.le_refl _)); have HO6 := Lib.hid ho6; clear hg6 ho6)
      | (at_builtin; refine wpList_append_lies _ rfl _ _ 33 rfl base 43 i0 (.agg #[.int .i64 0, .slice none 0 0, .slice none 0 0, .slice none 0 0, .slice none 0 0]) 5 104 Try.underlying33 hi hz0 hz1 hz2 rfl (by decide) _ n xs rfl (own_below HOW.out (below_new HB6.out _)) ⟨w6.heap.size, 0, none⟩ 1 1 [.int .i64 1, .slice (some ⟨g6, 0, none⟩) m cap6, .slice none 0 0, .slice none 0 0, .slice none 0 0] rfl rfl (World.news_of_block (heap_alloc_new _ _)) (by simp [Value.oneCell']) (by decide) (by unfold maxLen; omega) (by omega) (by have := HB6.out.size; simp; omega) _ rfl ?_; intro g7 cap7 w7 ho7 hg7 hat7 hlt7))
    clear hmi
    go_wp2
    go_ret
    exact ⟨g7, cap7, rfl, rcl_end HN.out HM.out HOW.out HST.out HB6.out HO6.out hb6 hlt6 _ ho7 hg7 hat7⟩
  · obtain ⟨K, hK⟩ : ∃ K, n = K + 1 := ⟨n - 1, by omega⟩
    have hKl : K < gs.length := by omega
    obtain ⟨v0, v1, v2, v3, v4, x0, x1, x2, x3, x4, hr⟩ := hst w hgr0 K hKl
    have hz := hlast gs[K] (by rw [List.getLast?_eq_getElem?, show gs.length - 1 = K by omega]; exact List.getElem?_eq_getElem hKl)
    have hk := hr.kind
    obtain ⟨z, hzz⟩ : ∃ z, z = gs[K].k := ⟨_, rfl⟩
    rw [← hzz] at hz hk
    rw [hk] at x0
    obtain ⟨gp, cap2, he, hgb, hgl⟩ := hown.form (by omega)
    simp only [Value.slice.injEq, true_and] at he
    obtain ⟨rfl, rfl⟩ := he
    have c0 : w.cell? ⟨gp, K * 5, none⟩ = some (.int .i64 z) := by rw [World.ownsRow.cellAt hown (K * 5) (by omega), x0]
    have e2 : IntKind.i64.wrap ((n : Int) - 1) = (K : Int) := by rw [IntWalk.i64_in _ (by omega)]; omega
    have hKn : K < n := by omega
    have hzA : ¬ z = 1 := hz
    have hzB : (z == 1) = false := by simpa using hz
    have hzC : (z != 1) = true := by simpa using hz
    have hK0 : ¬ ((K : Int) < 0) := by omega
    clear h0 hK hKl hzz hk hr x0 x1 x2 x3 x4 hn hm hown hst hq hxl hlast
    go_enter Try.func48, Try.ntmps48
    go_upto_region 6 with (first
      | (at_builtin; refine app_srwT _ rfl _ _ 22 rfl HU.out w.heap.size _ 0 [] rfl HNW.out q m d ls rfl HM.out (HQ.out _ HGA.out) (by omega) (by simp) ?_; intro v6 w6 ho6 hg6; rw [Nat.zero_add, List.nil_append] at ho6; obtain ⟨g6, cap6, rfl, hb6, hlt6⟩ := ho6.form hm0; have HB6 := Lib.hid (HBA.out.grown hg6 (by simp) (fun b hb => by cases hb; exact Nat.le_refl _)); have HO6 := Lib.hid ho6; clear hg6 ho6)
      | (at_builtin; refine wpList_append_lies _ rfl _ _ 33 rfl base 43 i0 (.agg #[.int .i64 0, .slice none 0 0, .slice none 0 0, .slice none 0 0, .slice none 0 0]) 5 104 Try.underlying33 hi hz0 hz1 hz2 rfl (by decide) _ n xs rfl (own_below HOW.out (below_new HB6.out _)) ⟨w6.heap.size, 0, none⟩ 1 1 [.int .i64 1, .slice (some ⟨g6, 0, none⟩) m cap6, .slice none 0 0, .slice none 0 0, .slice none 0 0] rfl rfl (World.news_of_block (heap_alloc_new _ _)) (by simp [Value.oneCell']) (by decide) (by unfold maxLen; omega) (by omega) (by have := HB6.out.size; simp; omega) _ rfl ?_; intro g7 cap7 w7 ho7 hg7 hat7 hlt7))
    clear hmi
    go_wp2
    go_ret
    exact ⟨g7, cap7, rfl, rcl_end HN.out HM.out HOW.out HST.out HB6.out HO6.out hb6 hlt6 _ ho7 hg7 hat7⟩
end Go.Proofs.Ytidghjalfbklnaa
/-
  The regions that three's functions lay down through a pointer: what is kept of them from step to step.
-/
namespace Go.Proofs.Ytidghjalfbklnaa
open Go.RowKit

/-- Nothing but the blocks of S has changed, and there may be new ones. -/
structure Chg (S : Nat → Prop) (w w' : World) : Prop where
  os : w'.os = w.os
  tape : w'.tape = w.tape
  output : w'.output = w.output
  size : w.heap.size ≤ w'.heap.size
  block : ∀ k, k < w.heap.size → ¬ S k → w'.heap[k]? = w.heap[k]?
theorem Chg.refl (S : Nat → Prop) (w : World) : Chg S w w := ⟨rfl, rfl, rfl, Nat.le_refl _, fun _ _ _ => rfl⟩
theorem Chg.trans {S S1 : Nat → Prop} {w w1 w2 : World} (h : Chg S w w1) (h1 : Chg S1 w1 w2) (hs : ∀ b, S1 b → S b ∨ w.heap.size ≤ b) : Chg S w w2 :=
  ⟨h1.os.trans h.os, h1.tape.trans h.tape, h1.output.trans h.output, Nat.le_trans h.size h1.size, fun k hk hn => (h1.block k (Nat.lt_of_lt_of_le hk h.size) (fun e => by
    rcases hs k e with h' | h'
    · exact hn h'
    · omega)).trans (h.block k hk hn)⟩
theorem Chg.trans' {S : Nat → Prop} {w w1 w2 : World} (h : Chg S w w1) (h1 : Chg S w1 w2) : Chg S w w2 := h.trans h1 fun _ h => .inl h
theorem Chg.mono {S S1 : Nat → Prop} {w w1 : World} (h : Chg S w w1) (hs : ∀ b, S b → S1 b) : Chg S1 w w1 := ⟨h.os, h.tape, h.output, h.size, fun k hk hn => h.block k hk fun e => hn (hs k e)⟩
theorem Chg.below {S : Nat → Prop} {w w' : World} (h : Below w.heap.size w w') : Chg S w w' := ⟨h.os, h.tape, h.output, h.size, fun k hk _ => h.block k hk⟩
theorem Chg.grown {S : Nat → Prop} {w w' : World} {b : Option Nat} (h : w.grownBy w' b) (hb : ∀ k, b = some k → S k) : Chg S w w' := ⟨h.os, h.tape, h.output, h.size, fun k hk hn => h.block k hk fun e => hn (hb k e.symm)⟩
theorem Chg.set {S : Nat → Prop} {w : World} {g i : Nat} (v : Value) (hg : S g) : Chg S w (w.setCell ⟨g, i, none⟩ v) := ⟨rfl, rfl, rfl, by simp, fun k _ hn => Below.heap_setCell w ⟨g, i, none⟩ v k fun e => hn (by rw [e]; exact hg)⟩
theorem Chg.toBelow {S : Nat → Prop} {w w' : World} {B : Nat} (h : Chg S w w') (hS : ∀ b, S b → B ≤ b) (hB : B ≤ w.heap.size) : Below B w w' := ⟨h.os, h.tape, h.output, h.size, fun k hk => h.block k (Nat.lt_of_lt_of_le hk hB) fun e => by have := hS k e; omega⟩
theorem srw_ch {S : Nat → Prop} {w w' : World} {p : Option Addr} {ls : List (List UInt8)} (h : SRw w p ls) (hc : Chg S w w') (hp : ∀ g o, p = some ⟨g, o, none⟩ → ¬ S g) : SRw w' p ls := fun k hk => by
  obtain ⟨g, o, rfl, hg, hcell⟩ := h k hk
  exact ⟨g, o, rfl, Nat.lt_of_lt_of_le hg hc.size, (World.cell?_of_block (hc.block g hg (hp g o rfl))).trans hcell⟩

/-- A region as the cells of a row tell it. -/
def RgAt (w : World) (xs : List Value) (k : Nat) (r : Rg) : Prop := ∃ v0 v1 v2 v3 v4, xs[k * 5]? = some v0 ∧ xs[k * 5 + 1]? = some v1 ∧ xs[k * 5 + 2]? = some v2 ∧ xs[k * 5 + 3]? = some v3 ∧ xs[k * 5 + 4]? = some v4 ∧ RgC w r v0 v1 v2 v3 v4
/-- The blocks that may be written. -/
def own2 (S : Nat → Prop) (R : Nat) : Nat → Prop := fun b => S b ∨ b = R
/-- The last region, where it is a clean one that may still grow. -/
def LastOpen (w : World) (base : Nat) (S : Nat → Prop) (xs : List Value) (k : Nat) (r : Rg) : Prop := ∃ v1, xs[k * 5]? = some (.int .i64 1) ∧ xs[k * 5 + 1]? = some v1 ∧ xs[k * 5 + 2]? = some (.slice none 0 0) ∧ xs[k * 5 + 3]? = some (.slice none 0 0) ∧ xs[k * 5 + 4]? = some (.slice none 0 0) ∧
  r.o = [] ∧ r.b = [] ∧ r.t = [] ∧ w.ownsRow base 9 1 v1 r.l.length (strs r.l) ∧ ∀ g, v1.ownBlock = some g → S g
/-- Regions that are being laid down behind the cell 0 of the block R. -/
structure RS (w : World) (base R : Nat) (S : Nat → Prop) (gs : List Rg) (v : Value) (xs : List Value) : Prop where
  box : ∃ cs t, w.heap[R]? = some (.cells cs t (0, 0)) ∧ cs[0]? = some v ∧ t ≠ 9 ∧ t ≠ 43
  own : w.ownsRow base 43 5 v gs.length xs
  blk : ∀ g, v.ownBlock = some g → S g
  st : ∀ k (h : k < gs.length), (gs[k].k ≠ 1 ∨ k + 1 < gs.length) → ∀ w', Chg (own2 S R) w w' → RgAt w' xs k gs[k]
  last : ∀ k (h : k < gs.length), k + 1 = gs.length → gs[k].k = 1 → LastOpen w base S xs k gs[k]
  low : ∀ b, S b → base ≤ b ∧ b < w.heap.size
  rb : base ≤ R
theorem own_slw {w : World} {base : Nat} {v : Value} {ls : List (List UInt8)} (h : w.ownsRow base 9 1 v ls.length (strs ls)) : SlW w v ls := by
  obtain ⟨p, c, he, hs⟩ := srw_of h
  refine ⟨p, c, he, ?_, hs⟩
  rcases h.2 with ⟨h', hn⟩ | ⟨g, cap, cur, h', _, _, hc, _⟩
  · rw [h'] at he
    simp only [Value.slice.injEq] at he
    omega
  · rw [h'] at he
    simp only [Value.slice.injEq] at he
    omega
/-- All regions, as they are read. -/
theorem RS.read {w : World} {base R : Nat} {S : Nat → Prop} {gs : List Rg} {v : Value} {xs : List Value} (h : RS w base R S gs v xs) (k : Nat) (hk : k < gs.length) : RgAt w xs k gs[k] := by
  by_cases hst : gs[k].k ≠ 1 ∨ k + 1 < gs.length
  · exact h.st k hk hst w (Chg.refl _ _)
  · have h1 : gs[k].k = 1 := by
      rcases Classical.em (gs[k].k = 1) with h1 | h1
      · exact h1
      · exact absurd (.inl h1) hst
    have h2 : k + 1 = gs.length := by
      rcases Nat.lt_or_ge (k + 1) gs.length with h2 | h2
      · exact absurd (.inr h2) hst
      · omega
    obtain ⟨v1, x0, x1, x2, x3, x4, e1, e2, e3, ho, _⟩ := h.last k hk h2 h1
    exact ⟨_, _, _, _, _, x0, x1, x2, x3, x4, by rw [h1], own_slw ho, by rw [e1]; exact SlW.nil _, by rw [e2]; exact SlW.nil _, by rw [e3]; exact SlW.nil _⟩
theorem RS.grw {w : World} {base R : Nat} {S : Nat → Prop} {gs : List Rg} {v : Value} {xs : List Value} (h : RS w base R S gs v xs) : ∃ p cap, v = .slice p gs.length cap ∧ gs.length ≤ cap ∧ GRw w p gs := by
  rcases h.own.2 with ⟨rfl, hn⟩ | ⟨g, cap, cur, rfl, _, hg, hc, _⟩
  · exact ⟨none, 0, by rw [hn], by omega, fun k hk => by omega⟩
  · refine ⟨_, cap, rfl, hc, fun k hk => ?_⟩
    obtain ⟨v0, v1, v2, v3, v4, x0, x1, x2, x3, x4, hr⟩ := h.read k hk
    have hcell : ∀ i, i < 5 → w.cell? ⟨g, 0 + k * 5 + i, none⟩ = xs[k * 5 + i]? := fun i hi => by
      rw [Nat.zero_add]
      exact World.ownsRow.cellAt h.own (k * 5 + i) (by omega)
    exact ⟨g, 0, v0, v1, v2, v3, v4, rfl, row_lt hg, (hcell 0 (by omega)).trans x0, (hcell 1 (by omega)).trans x1, (hcell 2 (by omega)).trans x2, (hcell 3 (by omega)).trans x3, (hcell 4 (by omega)).trans x4, hr⟩
/-- Blocks of other types stay out of an own row. -/
theorem own_ne {w : World} {base n m sz sz' g : Nat} {e t : TypeId} {v u : Value} {xs ys : List Value} (h : w.ownsRow base e sz v n xs) (h2 : w.ownsRow base t sz' u m ys) (ht : e ≠ t) (hv : v.ownBlock = some g) : u.ownBlock ≠ some g := by
  intro hu
  rcases h.2 with ⟨rfl, _⟩ | ⟨g1, c1, cur1, rfl, _, hg1, _⟩
  · cases hv
  · rcases h2.2 with ⟨rfl, _⟩ | ⟨g2, c2, cur2, rfl, _, hg2, _⟩
    · cases hu
    · simp only [Value.ownBlock, Option.some.injEq] at hv hu
      subst hv
      subst hu
      rw [hg1] at hg2
      simp only [Option.some.injEq, Obj.cells.injEq] at hg2
      exact ht hg2.2.1
/-- Over steps that leave the regions' blocks and the cell. -/
theorem RS.keep {w w' : World} {base R : Nat} {S : Nat → Prop} {gs : List Rg} {v : Value} {xs : List Value} (h : RS w base R S gs v xs) (hb : Below w.heap.size w w') : RS w' base R S gs v xs where
  box := by
    obtain ⟨cs, t, h1, h2⟩ := h.box
    exact ⟨cs, t, (hb.block R (row_lt h1)).trans h1, h2⟩
  own := own_below h.own hb
  blk := h.blk
  st := fun k hk hc w2 hw => h.st k hk hc w2 ((Chg.below hb).trans hw fun b hb => .inl hb)
  last := fun k hk h1 h2 => by
    obtain ⟨v1, x0, x1, x2, x3, x4, e1, e2, e3, ho, hs⟩ := h.last k hk h1 h2
    exact ⟨v1, x0, x1, x2, x3, x4, e1, e2, e3, own_below ho hb, hs⟩
  low := fun b hs => ⟨(h.low b hs).1, Nat.lt_of_lt_of_le (h.low b hs).2 hb.size⟩
  rb := h.rb
end Go.Proofs.Ytidghjalfbklnaa
