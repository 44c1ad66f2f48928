/-
  The walks of keep and of the keeper's least.
-/
import Derived.Test.YtnmebnpldacngaaHsAnchor
import Derived.Test.YtnmebnpldacngaaDfStay
import Derived.Test.YtnmebnpldacngaaDfLeastA
import Derived.Maps.AppendAt
namespace Go.Proofs.Ytnmebnpldacngaa
open Go.RowKit

/-- The keeper in memory, with the runs that are kept so far; W: the world at its start. -/
structure Kp (W : World) (K : Nat) (sa sb : Value) (acc : List Rn) (w : World) : Prop where
  grown : W.grownBy w (some K)
  lt : K < W.heap.size
  box : ∃ v, w.heap[K]? = some (.cells #[sa, sb, v] 47 (0, 0)) ∧ ROw w W.heap.size v acc
theorem grown_below {W w w' : World} {r : Option Nat} (h : W.grownBy w r) (hb : Below w.heap.size w w') : W.grownBy w' r :=
  ⟨hb.os.trans h.os, hb.tape.trans h.tape, hb.output.trans h.output, Nat.le_trans h.size hb.size, fun i hi hr => (hb.block i (Nat.lt_of_lt_of_le hi h.size)).trans (h.block i hi hr)⟩
theorem Kp.below {W w w' : World} {K : Nat} {sa sb : Value} {acc : List Rn} (h : Kp W K sa sb acc w) (hb : Below w.heap.size w w') : Kp W K sa sb acc w' := by
  obtain ⟨v, h1, h2⟩ := h.box
  exact ⟨grown_below h.grown hb, h.lt, v, (hb.block _ (row_lt h1)).trans h1, h2.below hb⟩
theorem kp_put {W wx w1 : World} {K : Nat} {sa sb v v0 v1 : Value} {acc acc' : List Rn} {o : Obj} {n : Nat} {xs : List Value} (h : Kp W K sa sb acc wx) (h1 : wx.heap[K]? = some (.cells #[sa, sb, v0] 47 (0, 0))) (ho : (wx.alloc o).ownsRow W.heap.size 30 3 v n xs) (hg : (wx.alloc o).grownBy w1 v.ownBlock) (hr : ROw w1 W.heap.size v1 acc') : Kp W K sa sb acc' (w1.setCell ⟨K, 2, none⟩ v1) := by
  have hlt := h.lt
  have hge : ∀ k, v.ownBlock = some k → W.heap.size ≤ k := fun k hk => (ho.lt k hk).1
  have hxs := row_lt h1
  have k0 : w1.heap[K]? = some (.cells #[sa, sb, v0] 47 (0, 0)) := (hg.block K (by simp; omega) (fun he => by have := hge K he.symm; omega)).trans (row_alloc h1 hxs)
  refine ⟨⟨(hg.os : w1.os = wx.os).trans h.grown.os, (hg.tape : w1.tape = wx.tape).trans h.grown.tape, (hg.output : w1.output = wx.output).trans h.grown.output, ?_, fun j hj hr => ?_⟩, hlt, v1, ?_, ?_⟩
  · have h2 := hg.size
    have h3 := h.grown.size
    simp at h2 ⊢
    omega
  · have h3 := h.grown.size
    refine (Below.heap_setCell w1 ⟨K, 2, none⟩ _ j (fun e => hr (by rw [e]))).trans ?_
    refine (hg.block j (by simp; omega) (fun he => by have := hge j he.symm; omega)).trans ?_
    exact (Below.heap_alloc wx o j (by omega)).trans (h.grown.block j hj hr)
  · have h4 := heap_setCell_same w1 K 2 _ _ v1 k0
    simpa using h4
  · exact World.ownsRow.kept hr (row := some K) ⟨rfl, rfl, rfl, Nat.le_of_eq (by simp), fun k hk hkP => Below.heap_setCell w1 ⟨K, 2, none⟩ _ k (fun he => hkP (by rw [he]))⟩ (.inr fun he => by have := (World.ownsRow.lt hr K he).1; omega)
/-- The keeper's row of runs does not lie in block g. -/
def Fr (K : Nat) (sa sb : Value) (g : Nat) (w : World) : Prop := ∀ v, w.heap[K]? = some (.cells #[sa, sb, v] 47 (0, 0)) → v.ownBlock ≠ some g
/-- What a call leaves of the blocks that are not the keeper's. -/
def Fx (K : Nat) (sa sb : Value) (w w' : World) : Prop := ∀ g, g < w.heap.size → g ≠ K → Fr K sa sb g w → Fr K sa sb g w' ∧ w'.heap[g]? = w.heap[g]?
theorem fx_put {wx w1 : World} {K : Nat} {sa sb v v1 : Value} {o : Obj} (h1 : wx.heap[K]? = some (.cells #[sa, sb, v] 47 (0, 0))) (hK : some K ≠ v.ownBlock) (hg : (wx.alloc o).grownBy w1 v.ownBlock) (hl : v1.ownBlock = v.ownBlock ∨ v1.ownBlock = some (wx.alloc o).heap.size) : Fx K sa sb wx (w1.setCell ⟨K, 2, none⟩ v1) := fun g hgs hgK hf => by
  have hv := hf v h1
  have hxs := row_lt h1
  have k0 : w1.heap[K]? = some (.cells #[sa, sb, v] 47 (0, 0)) := (hg.block K (by simp; omega) hK).trans (row_alloc h1 hxs)
  have k1 : (w1.setCell ⟨K, 2, none⟩ v1).heap[K]? = some (.cells #[sa, sb, v1] 47 (0, 0)) := by
    have h4 := heap_setCell_same w1 K 2 _ _ v1 k0
    simpa using h4
  refine ⟨fun u hu => ?_, ?_⟩
  · rw [k1] at hu
    simp only [Option.some.injEq, Obj.cells.injEq, and_true, List.cons.injEq, Array.mk.injEq, true_and] at hu
    rw [← hu]
    rcases hl with h | h
    · rw [h]; exact hv
    · rw [h]
      intro e
      have := Option.some.inj e
      simp at this
      omega
  · exact (Below.heap_setCell w1 ⟨K, 2, none⟩ _ g hgK).trans ((hg.block g (by simp; omega) (Ne.symm hv)).trans (Below.heap_alloc wx o g hgs))
theorem fx_self (K : Nat) (sa sb : Value) (w : World) : Fx K sa sb w w := fun _ _ _ h => ⟨h, rfl⟩
set_option maxHeartbeats 2000000 in
set_option maxRecDepth 4000 in
theorem hkeep_any (W : World) (K : Nat) (sa sb : Value) (acc R : List Rn) (i j n : Int) (wx : World) (h : Kp W K sa sb acc wx) (hl : acc.length ≤ 1048575) (hR : R = acc ++ kp i j n) :
    Calls Try.prog 39 #[.pointer (some ⟨K, 0, none⟩), .int .i64 i, .int .i64 j, .int .i64 n] wx fun e w' => e = .returned (.tuple #[]) ∧ Kp W K sa sb R w' ∧ Fx K sa sb wx w' ∧ wx.heap.size ≤ w'.heap.size := by
  obtain ⟨i0, hi, hz0, hz1, hz2⟩ := info_parts Try.infoRn
  obtain ⟨v, h1, ho⟩ := h.box
  have c2 := cell_of_row wx K 2 _ _ _ h1
  have f2 := frozen_of_row wx K 2 _ _ h1
  obtain ⟨L, hL⟩ : ∃ L, L = acc.length := ⟨_, rfl⟩
  have ho' : wx.ownsRow W.heap.size 30 3 v L (rcells acc) := by rw [hL]; exact ho
  obtain ⟨p, cap, rfl⟩ := ROw.shapeN ho hL
  have hL2 : L ≤ 1048575 := by omega
  have HL := Lib.hid hL
  have HK := Lib.hid h
  have H1 := Lib.hid h1
  have hWs := h.grown.size
  have hKl := h.lt
  by_cases hn : 0 < n
  · have HR : Hid (R = acc ++ [⟨i, j, n⟩]) := by show _ = _; rw [hR, kp, if_pos hn]
    clear h h1 ho hL hl hR
    go_enter Try.func39, Try.ntmps39
    go_wp2_with (at_builtin; refine wpList_append_own_at _ rfl _ _ 45 rfl W.heap.size 30 i0 (.agg #[.int .i64 0, .int .i64 0, .int .i64 0]) 3 24 Try.underlying45 hi hz0 hz1 hz2 rfl (by decide) _ _ _ rfl (ho'.alloc _) ⟨wx.heap.size, 0, none⟩ 1 1 (Rn.cells ⟨i, j, n⟩) rfl rfl (new_rn wx ⟨i, j, n⟩ _) (rn_one _) (by unfold maxLen; omega) (by omega) (by simp; omega) ?_; intro v1 w1 ho1 hg1 _ hloc; have hrow := ROw.push HL.out ho1; obtain ⟨q1, cap1, rfl⟩ := hrow.shapeN (n := L + 1) (by rw [List.length_append, ← HL.out, List.length_singleton]); have HP := Lib.hid (kp_put HK.out H1.out (ho'.alloc _) hg1 hrow); have HFX := Lib.hid (fx_put H1.out (fun he => by have := (ho'.lt _ he.symm).1; omega) hg1 hloc); have k0 := (hg1.block K (by have := row_lt H1.out; simp; omega) (fun he => by have := (ho'.lt _ he.symm).1; omega)).trans (row_alloc H1.out (row_lt H1.out)); have c4 := cell_of_row w1 K 2 _ _ _ k0; have f4 := frozen_of_row w1 K 2 _ _ k0; have HSZ : Hid (wx.heap.size ≤ (w1.setCell ⟨K, 2, none⟩ (.slice q1 (L + 1) cap1)).heap.size) := (by have h9 := hg1.size; simp at h9; show wx.heap.size ≤ _; simp; omega); clear ho1 hg1 hrow k0 hloc)
    refine bodyPost_end (results_none rfl _ _ _) rfl ?_
    exact ⟨rfl, by rw [HR.out]; exact HP.out, HFX.out, HSZ.out⟩
  · have HR : Hid (R = acc) := by show _ = _; rw [hR, kp, if_neg hn, List.append_nil]
    clear h h1 ho hL hl hR
    go_enter Try.func39, Try.ntmps39
    go_wp2
    refine bodyPost_end (results_none rfl _ _ _) rfl ?_
    exact ⟨rfl, by rw [HR.out]; exact HK.out, fx_self _ _ _ _, Nat.le_refl _⟩
/-- The like, and the memory has not shrunk. -/
def Fz (K : Nat) (sa sb : Value) (w w' : World) : Prop := Fx K sa sb w w' ∧ w.heap.size ≤ w'.heap.size
theorem fz_trans {K : Nat} {sa sb : Value} {w w1 w2 : World} (h : Fz K sa sb w w1) (g : Fz K sa sb w1 w2) : Fz K sa sb w w2 := by
  refine ⟨fun b hb hk hf => ?_, Nat.le_trans h.2 g.2⟩
  obtain ⟨h1, h2⟩ := h.1 b hb hk hf
  obtain ⟨g1, g2⟩ := g.1 b (Nat.lt_of_lt_of_le hb h.2) hk h1
  exact ⟨g1, g2.trans h2⟩
theorem fz_below {W : World} {K : Nat} {sa sb : Value} {acc : List Rn} {w w' : World} (h : Kp W K sa sb acc w) (hb : Below w.heap.size w w') : Fz K sa sb w w' := by
  obtain ⟨v, h1, _⟩ := h.box
  refine ⟨fun b hbs _ hf => ⟨fun u hu => hf u (by rw [← hb.block _ (row_lt h1)]; exact hu), hb.block b hbs⟩, hb.size⟩
/-- A block that was not there when the row was. -/
theorem fr_new {W : World} {K : Nat} {sa sb : Value} {acc : List Rn} {w w' : World} (h : Kp W K sa sb acc w) (hb : Below w.heap.size w w') {g : Nat} (hg : w.heap.size ≤ g) : g ≠ K ∧ Fr K sa sb g w' := by
  obtain ⟨v, h1, h2⟩ := h.box
  have hK := row_lt h1
  refine ⟨by omega, fun u hu => ?_⟩
  rw [hb.block _ hK, h1] at hu
  simp only [Option.some.injEq, Obj.cells.injEq, and_true, List.cons.injEq, Array.mk.injEq, true_and] at hu
  rw [← hu]
  intro he
  have := (World.ownsRow.lt h2 g he).2
  omega
end Go.Proofs.Ytnmebnpldacngaa
