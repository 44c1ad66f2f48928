/-
  The reference's Same over regions that are the same.
-/
import Derived.Test.YtidghjalfbklnaaThLines
import Derived.Test.YtidghjalfbklnaaThSamePk
namespace Go.Proofs.Ytidghjalfbklnaa
open Go.RowKit

theorem two_new (w : World) (x y : Obj) : ((w.alloc x).alloc y).drew.heap[w.heap.size]? = some x ∧ ((w.alloc x).alloc y).drew.heap[w.heap.size + 1]? = some y ∧ Below w.heap.size w ((w.alloc x).alloc y).drew := by
  refine ⟨?_, ?_, ?_⟩
  · show ((w.alloc x).alloc y).heap[w.heap.size]? = _
    exact row_alloc (heap_alloc_new w x) (row_lt (heap_alloc_new w x))
  · show ((w.alloc x).alloc y).heap[w.heap.size + 1]? = _
    have h := heap_alloc_new (w.alloc x) y
    rwa [World.size_alloc] at h
  · exact (below_new (below_new (Below.refl _ _) _) _).drew

set_option maxHeartbeats 4000000 in
set_option maxRecDepth 8000 in
theorem rsameG_any (gs : List Rg) (p q : Option Addr) (c d n : Nat) (w : World) (hn : n = gs.length) (hp : GRw w p gs) (hq : GRw w q gs) (hl : n ≤ 1000000) (hs : ∀ r ∈ gs, r.l.length ≤ 1000000 ∧ r.o.length ≤ 1000000 ∧ r.b.length ≤ 1000000 ∧ r.t.length ≤ 1000000) :
    Calls Try.prog 19 #[.slice p n c, .slice q n d] w fun e w' => e = .returned (.bool true) ∧ Below w.heap.size w w' := by
  have HN := Lib.hid hn
  have HP := Lib.hid hp
  have HQ := Lib.hid hq
  have HS := Lib.hid hs
  clear hn hp hq hs
  go_enter Try.func19, Try.ntmps19
  go_wp2
  go_loopw [5] (fun iv wr => ∃ k : Nat, k ≤ n ∧ iv = .int .i64 (k : Int) ∧ Hid (Below w.heap.size w wr)) (fun iv _ => n - (intOf iv).toNat)
  case atStart => exact ⟨0, Nat.zero_le _, rfl, Below.refl _ _⟩
  case round =>
    obtain ⟨k, hk, rfl, HW⟩ := hrel
    have hws := HW.out.size
    by_cases hlt : k < n
    · have hkl : k < gs.length := by rw [← HN.out]; exact hlt
      obtain ⟨g, o, v0, v1, v2, v3, v4, rfl, hg, a0, a1, a2, a3, a4, hr⟩ := HP.out k hkl
      obtain ⟨h, o2, u0, u1, u2, u3, u4, rfl, hh, b0, b1, b2, b3, b4, hr2⟩ := HQ.out k hkl
      have tr : ∀ i v, w.cell? ⟨g, i, none⟩ = some v → wr.cell? ⟨g, i, none⟩ = some v := fun i v h => (HW.out.cell (p := ⟨g, i, none⟩) hg).trans h
      have tr2 : ∀ i v, w.cell? ⟨h, i, none⟩ = some v → wr.cell? ⟨h, i, none⟩ = some v := fun i v h' => (HW.out.cell (p := ⟨h, i, none⟩) hh).trans h'
      replace a0 := tr _ _ a0
      replace a1 := tr _ _ a1
      replace a2 := tr _ _ a2
      replace a3 := tr _ _ a3
      replace a4 := tr _ _ a4
      replace b0 := tr2 _ _ b0
      replace b1 := tr2 _ _ b1
      replace b2 := tr2 _ _ b2
      replace b3 := tr2 _ _ b3
      replace b4 := tr2 _ _ b4
      clear tr tr2
      obtain ⟨r, hr0⟩ : ∃ r, r = gs[k] := ⟨_, rfl⟩
      have hsr := HS.out _ (List.getElem_mem hkl)
      rw [← hr0] at hr hr2 hsr
      obtain ⟨z, l, ol, bl, tl⟩ := r
      obtain ⟨rfl, ⟨p1, c1, rfl, x1, s1⟩, ⟨p2, c2, rfl, x2, s2⟩, ⟨p3, c3, rfl, x3, s3⟩, ⟨p4, c4, rfl, x4, s4⟩⟩ := hr
      obtain ⟨rfl, ⟨q1, d1, rfl, y1, t1⟩, ⟨q2, d2, rfl, y2, t2⟩, ⟨q3, d3, rfl, y3, t3⟩, ⟨q4, d4, rfl, y4, t4⟩⟩ := hr2
      simp only at *
      have HSM : ∀ (v u : Value) (ls : List (List UInt8)), SlW w v ls → SlW w u ls → ls.length ≤ 1000000 → Hid (∀ w', Below w.heap.size w w' → Calls Try.prog 27 #[v, u] w' fun e w'' => e = .returned (.bool true) ∧ ∃ k, w'' = w'.drewN k) := fun v u ls hv hu hl w' hb => by
        obtain ⟨p1, c1, rfl, _, s1⟩ := hv
        obtain ⟨p2, c2, rfl, _, s2⟩ := hu
        refine (rsame6_any ls ls p1 p2 c1 c2 _ _ w' rfl rfl (s1.below hb) (s2.below hb) (by omega)).mono fun e w'' ⟨he, hk⟩ => ⟨he.trans (by simp), hk⟩
      have C1 := HSM (.slice p1 l.length c1) (.slice q1 l.length d1) l ⟨p1, c1, rfl, x1, s1⟩ ⟨q1, d1, rfl, y1, t1⟩ hsr.1
      have C2 := HSM (.slice p2 ol.length c2) (.slice q2 ol.length d2) ol ⟨p2, c2, rfl, x2, s2⟩ ⟨q2, d2, rfl, y2, t2⟩ hsr.2.1
      have C3 := HSM (.slice p3 bl.length c3) (.slice q3 bl.length d3) bl ⟨p3, c3, rfl, x3, s3⟩ ⟨q3, d3, rfl, y3, t3⟩ hsr.2.2.1
      have C4 := HSM (.slice p4 tl.length c4) (.slice q4 tl.length d4) tl ⟨p4, c4, rfl, x4, s4⟩ ⟨q4, d4, rfl, y4, t4⟩ hsr.2.2.2
      obtain ⟨m1, hm1⟩ : ∃ m, m = l.length := ⟨_, rfl⟩
      rw [← hm1] at a1 b1 C1
      obtain ⟨m2, hm2⟩ : ∃ m, m = ol.length := ⟨_, rfl⟩
      rw [← hm2] at a2 b2 C2
      obtain ⟨m3, hm3⟩ : ∃ m, m = bl.length := ⟨_, rfl⟩
      rw [← hm3] at a3 b3 C3
      obtain ⟨m4, hm4⟩ : ∃ m, m = tl.length := ⟨_, rfl⟩
      rw [← hm4] at a4 b4 C4
      clear HSM hsr hr0 hm1 hm2 hm3 hm4 x1 x2 x3 x4 y1 y2 y3 y4 s1 s2 s3 s4 t1 t2 t3 t4
      have hgr : g < wr.heap.size := by omega
      have hhr : h < wr.heap.size := by omega
      go_upto_region 6 with fail
      go_cut [6, 7] (fun v6 v7 wx => ∃ A B : Nat, v6 = .pointer (some ⟨A, 0, none⟩) ∧ v7 = .pointer (some ⟨B, 0, none⟩) ∧ Hid (wx.heap[A]? = some (.cells #[.int .i64 z, .slice p1 m1 c1, .slice p2 m2 c2, .slice p3 m3 c3, .slice p4 m4 c4] 43 (0, 0))) ∧ Hid (wx.heap[B]? = some (.cells #[.int .i64 z, .slice q1 m1 d1, .slice q2 m2 d2, .slice q3 m3 d3, .slice q4 m4 d4] 43 (0, 0))) ∧ Hid (Below w.heap.size w wx))
      case first =>
        go_region
        all_goals go_wp2_with fail
        all_goals go_meet
        · obtain ⟨h1, h2, h3⟩ := two_new wr (.cells #[.int .i64 z, .slice p1 m1 c1, .slice p2 m2 c2, .slice p3 m3 c3, .slice p4 m4 c4] 43 (0, 0)) (.cells #[.int .i64 z, .slice q1 m1 d1, .slice q2 m2 d2, .slice q3 m3 d3, .slice q4 m4 d4] 43 (0, 0))
          exact ⟨_, _, rfl, rfl, h1, h2, HW.out.trans (h3.mono hws)⟩
        · obtain ⟨h1, h2, h3⟩ := two_new wr (.cells #[.int .i64 z, .slice q1 m1 d1, .slice q2 m2 d2, .slice q3 m3 d3, .slice q4 m4 d4] 43 (0, 0)) (.cells #[.int .i64 z, .slice p1 m1 c1, .slice p2 m2 c2, .slice p3 m3 c3, .slice p4 m4 c4] 43 (0, 0))
          exact ⟨_, _, rfl, rfl, h2, h1, HW.out.trans (h3.mono hws)⟩
      case rest =>
        obtain ⟨A, B, rfl, rfl, HA, HB, HX⟩ := hcut
        clear a0 a1 a2 a3 a4 b0 b1 b2 b3 b4 HW
        rename_i wx _
        have a0 := cell_of_row _ A 0 _ _ _ HA.out
        have a1 := cell_of_row _ A 1 _ _ _ HA.out
        have a2 := cell_of_row _ A 2 _ _ _ HA.out
        have a3 := cell_of_row _ A 3 _ _ _ HA.out
        have a4 := cell_of_row _ A 4 _ _ _ HA.out
        have b0 := cell_of_row _ B 0 _ _ _ HB.out
        have b1 := cell_of_row _ B 1 _ _ _ HB.out
        have b2 := cell_of_row _ B 2 _ _ _ HB.out
        have b3 := cell_of_row _ B 3 _ _ _ HB.out
        have b4 := cell_of_row _ B 4 _ _ _ HB.out
        go_wp2_with (go_at_call 27; first
          | ((with_reducible refine (C1.out _ (by first | exact HX.out | exact below_drewN HX.out _ | exact below_drewN (below_drewN HX.out _) _ | exact below_drewN (below_drewN (below_drewN HX.out _) _) _)).mono ?_); rintro e w6 ⟨rfl, k6, rfl⟩)
          | ((with_reducible refine (C2.out _ (by first | exact HX.out | exact below_drewN HX.out _ | exact below_drewN (below_drewN HX.out _) _ | exact below_drewN (below_drewN (below_drewN HX.out _) _) _)).mono ?_); rintro e w6 ⟨rfl, k6, rfl⟩)
          | ((with_reducible refine (C3.out _ (by first | exact HX.out | exact below_drewN HX.out _ | exact below_drewN (below_drewN HX.out _) _ | exact below_drewN (below_drewN (below_drewN HX.out _) _) _)).mono ?_); rintro e w6 ⟨rfl, k6, rfl⟩)
          | ((with_reducible refine (C4.out _ (by first | exact HX.out | exact below_drewN HX.out _ | exact below_drewN (below_drewN HX.out _) _ | exact below_drewN (below_drewN (below_drewN HX.out _) _) _)).mono ?_); rintro e w6 ⟨rfl, k6, rfl⟩))
        go_roundw
        case rel => exact ⟨k + 1, hlt, by go_num, by first | exact below_drewN HX.out _ | exact below_drewN (below_drewN (below_drewN (below_drewN HX.out _) _) _) _⟩
        case measure => simp [intOf]; omega
    · obtain rfl : k = n := by omega
      go_wp2
      go_ret
      exact ⟨rfl, HW.out⟩
end Go.Proofs.Ytidghjalfbklnaa
/-
  A row of regions of the call's own, and what a step of clean comes to: plain.
-/
namespace Go.Proofs.Ytidghjalfbklnaa
open Go.RowKit

/-- Clean lines, appended to regions. -/
def clG (gs : List Rg) (ls : List (List UInt8)) : List Rg := if ls = [] then gs else match gs.getLast? with
  | none => [⟨1, ls, [], [], []⟩]
  | some r => if r.k = 1 then gs.dropLast ++ [⟨r.k, r.l ++ ls, r.o, r.b, r.t⟩] else gs ++ [⟨1, ls, [], [], []⟩]
/-- What a stretch comes to: the part of the two sides that is the same at its beginning. -/
def comL : List (List UInt8) → List (List UInt8) → Nat
  | a :: l, b :: m => if a = b then comL l m + 1 else 0
  | _, _ => 0
theorem comL_le : ∀ (l m : List (List UInt8)), comL l m ≤ l.length ∧ comL l m ≤ m.length
  | [], m => by unfold comL; simp
  | a :: l, [] => by unfold comL; simp
  | a :: l, b :: m => by
    have h := comL_le l m
    rw [comL]
    split <;> simp <;> omega
/-- Where a world grew but for the block b, and then but for b2, which is b or is new: it grew but for b. -/
theorem grown_chain {w w1 w2 : World} {b b2 : Option Nat} (h1 : w.grownBy w1 b) (h2 : w1.grownBy w2 b2) (hb : b2 = b ∨ ∀ g, b2 = some g → w.heap.size ≤ g) : w.grownBy w2 b :=
  ⟨h2.os.trans h1.os, h2.tape.trans h1.tape, h2.output.trans h1.output, Nat.le_trans h1.size h2.size, fun k hk hkb => (h2.block k (Nat.lt_of_lt_of_le hk h1.size) (by
    rcases hb with rfl | hb
    · exact hkb
    · intro e
      have := hb k e.symm
      omega)).trans (h1.block k hk hkb)⟩
/-- A row of regions of the call's own: their slices stay what they are as long as no block is written but the row's own. -/
def GOw (w : World) (base : Nat) (v : Value) (gs : List Rg) : Prop := ∃ xs, w.ownsRow base 43 5 v gs.length xs ∧ ∀ w', w.grownBy w' v.ownBlock → ∀ k (h : k < gs.length), ∃ v0 v1 v2 v3 v4, xs[k * 5]? = some v0 ∧ xs[k * 5 + 1]? = some v1 ∧ xs[k * 5 + 2]? = some v2 ∧ xs[k * 5 + 3]? = some v3 ∧ xs[k * 5 + 4]? = some v4 ∧ RgC w' gs[k] v0 v1 v2 v3 v4
theorem GOw.nil (w : World) (base : Nat) : GOw w base (.slice none 0 0) [] := ⟨[], World.ownsRow_nil w base 43 5, fun _ _ k h => absurd h (Nat.not_lt_zero _)⟩
end Go.Proofs.Ytidghjalfbklnaa
/-
  The regions that three's functions lay down through a pointer: what is kept of them from step to step.
-/
namespace Go.Proofs.Ytidghjalfbklnaa
open Go.RowKit

/-- Nothing but the blocks of S has changed, and there may be new ones. -/
structure Chg (S : Nat → Prop) (w w' : World) : Prop where
  os : w'.os = w.os
  tape : w'.tape = w.tape
  output : w'.output = w.output
  size : w.heap.size ≤ w'.heap.size
  block : ∀ k, k < w.heap.size → ¬ S k → w'.heap[k]? = w.heap[k]?
theorem Chg.refl (S : Nat → Prop) (w : World) : Chg S w w := ⟨rfl, rfl, rfl, Nat.le_refl _, fun _ _ _ => rfl⟩
theorem Chg.trans {S S1 : Nat → Prop} {w w1 w2 : World} (h : Chg S w w1) (h1 : Chg S1 w1 w2) (hs : ∀ b, S1 b → S b ∨ w.heap.size ≤ b) : Chg S w w2 :=
  ⟨h1.os.trans h.os, h1.tape.trans h.tape, h1.output.trans h.output, Nat.le_trans h.size h1.size, fun k hk hn => (h1.block k (Nat.lt_of_lt_of_le hk h.size) (fun e => by
    rcases hs k e with h' | h'
    · exact hn h'
    · omega)).trans (h.block k hk hn)⟩
theorem Chg.trans' {S : Nat → Prop} {w w1 w2 : World} (h : Chg S w w1) (h1 : Chg S w1 w2) : Chg S w w2 := h.trans h1 fun _ h => .inl h
theorem Chg.mono {S S1 : Nat → Prop} {w w1 : World} (h : Chg S w w1) (hs : ∀ b, S b → S1 b) : Chg S1 w w1 := ⟨h.os, h.tape, h.output, h.size, fun k hk hn => h.block k hk fun e => hn (hs k e)⟩
theorem Chg.below {S : Nat → Prop} {w w' : World} (h : Below w.heap.size w w') : Chg S w w' := ⟨h.os, h.tape, h.output, h.size, fun k hk _ => h.block k hk⟩
theorem Chg.grown {S : Nat → Prop} {w w' : World} {b : Option Nat} (h : w.grownBy w' b) (hb : ∀ k, b = some k → S k) : Chg S w w' := ⟨h.os, h.tape, h.output, h.size, fun k hk hn => h.block k hk fun e => hn (hb k e.symm)⟩
theorem Chg.set {S : Nat → Prop} {w : World} {g i : Nat} (v : Value) (hg : S g) : Chg S w (w.setCell ⟨g, i, none⟩ v) := ⟨rfl, rfl, rfl, by simp, fun k _ hn => Below.heap_setCell w ⟨g, i, none⟩ v k fun e => hn (by rw [e]; exact hg)⟩
theorem Chg.toBelow {S : Nat → Prop} {w w' : World} {B : Nat} (h : Chg S w w') (hS : ∀ b, S b → B ≤ b) (hB : B ≤ w.heap.size) : Below B w w' := ⟨h.os, h.tape, h.output, h.size, fun k hk => h.block k (Nat.lt_of_lt_of_le hk hB) fun e => by have := hS k e; omega⟩
theorem srw_ch {S : Nat → Prop} {w w' : World} {p : Option Addr} {ls : List (List UInt8)} (h : SRw w p ls) (hc : Chg S w w') (hp : ∀ g o, p = some ⟨g, o, none⟩ → ¬ S g) : SRw w' p ls := fun k hk => by
  obtain ⟨g, o, rfl, hg, hcell⟩ := h k hk
  exact ⟨g, o, rfl, Nat.lt_of_lt_of_le hg hc.size, (World.cell?_of_block (hc.block g hg (hp g o rfl))).trans hcell⟩

/-- A region as the cells of a row tell it. -/
def RgAt (w : World) (xs : List Value) (k : Nat) (r : Rg) : Prop := ∃ v0 v1 v2 v3 v4, xs[k * 5]? = some v0 ∧ xs[k * 5 + 1]? = some v1 ∧ xs[k * 5 + 2]? = some v2 ∧ xs[k * 5 + 3]? = some v3 ∧ xs[k * 5 + 4]? = some v4 ∧ RgC w r v0 v1 v2 v3 v4
/-- The blocks that may be written. -/
def own2 (S : Nat → Prop) (R : Nat) : Nat → Prop := fun b => S b ∨ b = R
/-- The last region, where it is a clean one that may still grow. -/
def LastOpen (w : World) (base : Nat) (S : Nat → Prop) (xs : List Value) (k : Nat) (r : Rg) : Prop := ∃ v1, xs[k * 5]? = some (.int .i64 1) ∧ xs[k * 5 + 1]? = some v1 ∧ xs[k * 5 + 2]? = some (.slice none 0 0) ∧ xs[k * 5 + 3]? = some (.slice none 0 0) ∧ xs[k * 5 + 4]? = some (.slice none 0 0) ∧
  r.o = [] ∧ r.b = [] ∧ r.t = [] ∧ w.ownsRow base 9 1 v1 r.l.length (strs r.l) ∧ ∀ g, v1.ownBlock = some g → S g
/-- Regions that are being laid down behind the cell 0 of the block R. -/
structure RS (w : World) (base R : Nat) (S : Nat → Prop) (gs : List Rg) (v : Value) (xs : List Value) : Prop where
  box : ∃ cs t, w.heap[R]? = some (.cells cs t (0, 0)) ∧ cs[0]? = some v ∧ t ≠ 9 ∧ t ≠ 43
  own : w.ownsRow base 43 5 v gs.length xs
  blk : ∀ g, v.ownBlock = some g → S g
  st : ∀ k (h : k < gs.length), (gs[k].k ≠ 1 ∨ k + 1 < gs.length) → ∀ w', Chg (own2 S R) w w' → RgAt w' xs k gs[k]
  last : ∀ k (h : k < gs.length), k + 1 = gs.length → gs[k].k = 1 → LastOpen w base S xs k gs[k]
  low : ∀ b, S b → base ≤ b ∧ b < w.heap.size
  rb : base ≤ R
theorem own_slw {w : World} {base : Nat} {v : Value} {ls : List (List UInt8)} (h : w.ownsRow base 9 1 v ls.length (strs ls)) : SlW w v ls := by
  obtain ⟨p, c, he, hs⟩ := srw_of h
  refine ⟨p, c, he, ?_, hs⟩
  rcases h.2 with ⟨h', hn⟩ | ⟨g, cap, cur, h', _, _, hc, _⟩
  · rw [h'] at he
    simp only [Value.slice.injEq] at he
    omega
  · rw [h'] at he
    simp only [Value.slice.injEq] at he
    omega
/-- All regions, as they are read. -/
theorem RS.read {w : World} {base R : Nat} {S : Nat → Prop} {gs : List Rg} {v : Value} {xs : List Value} (h : RS w base R S gs v xs) (k : Nat) (hk : k < gs.length) : RgAt w xs k gs[k] := by
  by_cases hst : gs[k].k ≠ 1 ∨ k + 1 < gs.length
  · exact h.st k hk hst w (Chg.refl _ _)
  · have h1 : gs[k].k = 1 := by
      rcases Classical.em (gs[k].k = 1) with h1 | h1
      · exact h1
      · exact absurd (.inl h1) hst
    have h2 : k + 1 = gs.length := by
      rcases Nat.lt_or_ge (k + 1) gs.length with h2 | h2
      · exact absurd (.inr h2) hst
      · omega
    obtain ⟨v1, x0, x1, x2, x3, x4, e1, e2, e3, ho, _⟩ := h.last k hk h2 h1
    exact ⟨_, _, _, _, _, x0, x1, x2, x3, x4, by rw [h1], own_slw ho, by rw [e1]; exact SlW.nil _, by rw [e2]; exact SlW.nil _, by rw [e3]; exact SlW.nil _⟩
theorem RS.grw {w : World} {base R : Nat} {S : Nat → Prop} {gs : List Rg} {v : Value} {xs : List Value} (h : RS w base R S gs v xs) : ∃ p cap, v = .slice p gs.length cap ∧ gs.length ≤ cap ∧ GRw w p gs := by
  rcases h.own.2 with ⟨rfl, hn⟩ | ⟨g, cap, cur, rfl, _, hg, hc, _⟩
  · exact ⟨none, 0, by rw [hn], by omega, fun k hk => by omega⟩
  · refine ⟨_, cap, rfl, hc, fun k hk => ?_⟩
    obtain ⟨v0, v1, v2, v3, v4, x0, x1, x2, x3, x4, hr⟩ := h.read k hk
    have hcell : ∀ i, i < 5 → w.cell? ⟨g, 0 + k * 5 + i, none⟩ = xs[k * 5 + i]? := fun i hi => by
      rw [Nat.zero_add]
      exact World.ownsRow.cellAt h.own (k * 5 + i) (by omega)
    exact ⟨g, 0, v0, v1, v2, v3, v4, rfl, row_lt hg, (hcell 0 (by omega)).trans x0, (hcell 1 (by omega)).trans x1, (hcell 2 (by omega)).trans x2, (hcell 3 (by omega)).trans x3, (hcell 4 (by omega)).trans x4, hr⟩
/-- Blocks of other types stay out of an own row. -/
theorem own_ne {w : World} {base n m sz sz' g : Nat} {e t : TypeId} {v u : Value} {xs ys : List Value} (h : w.ownsRow base e sz v n xs) (h2 : w.ownsRow base t sz' u m ys) (ht : e ≠ t) (hv : v.ownBlock = some g) : u.ownBlock ≠ some g := by
  intro hu
  rcases h.2 with ⟨rfl, _⟩ | ⟨g1, c1, cur1, rfl, _, hg1, _⟩
  · cases hv
  · rcases h2.2 with ⟨rfl, _⟩ | ⟨g2, c2, cur2, rfl, _, hg2, _⟩
    · cases hu
    · simp only [Value.ownBlock, Option.some.injEq] at hv hu
      subst hv
      subst hu
      rw [hg1] at hg2
      simp only [Option.some.injEq, Obj.cells.injEq] at hg2
      exact ht hg2.2.1
/-- Over steps that leave the regions' blocks and the cell. -/
theorem RS.keep {w w' : World} {base R : Nat} {S : Nat → Prop} {gs : List Rg} {v : Value} {xs : List Value} (h : RS w base R S gs v xs) (hb : Below w.heap.size w w') : RS w' base R S gs v xs where
  box := by
    obtain ⟨cs, t, h1, h2⟩ := h.box
    exact ⟨cs, t, (hb.block R (row_lt h1)).trans h1, h2⟩
  own := own_below h.own hb
  blk := h.blk
  st := fun k hk hc w2 hw => h.st k hk hc w2 ((Chg.below hb).trans hw fun b hb => .inl hb)
  last := fun k hk h1 h2 => by
    obtain ⟨v1, x0, x1, x2, x3, x4, e1, e2, e3, ho, hs⟩ := h.last k hk h1 h2
    exact ⟨v1, x0, x1, x2, x3, x4, e1, e2, e3, own_below ho hb, hs⟩
  low := fun b hs => ⟨(h.low b hs).1, Nat.lt_of_lt_of_le (h.low b hs).2 hb.size⟩
  rb := h.rb
end Go.Proofs.Ytidghjalfbklnaa
