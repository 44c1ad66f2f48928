/-
  The walk of the reference's Parse of marked texts.
-/
import Derived.Test.YtidghjalfbklnaaThRMrg
import Derived.Test.YtidghjalfbklnaaThParse
namespace Go.Proofs.Ytidghjalfbklnaa
open Go.RowKit

/-- No string stands in a region's cells. -/
def NoStr (cs : Array Value) : Prop := ∀ (j : Nat) (s : ByteArray), cs[j]? ≠ some (.string s)
theorem noStr5 (k : Int) (p1 p2 p3 p4 : Option Addr) (n1 n2 n3 n4 c1 c2 c3 c4 : Nat) : NoStr #[.int .i64 k, .slice p1 n1 c1, .slice p2 n2 c2, .slice p3 n3 c3, .slice p4 n4 c4] := fun j s h => by
  have := Array.mem_of_getElem? h
  simp at this
/-- A world whose block g holds nothing. -/
def empt (w : World) (g : Nat) (t : TypeId) : World := { w with heap := w.heap.setIfInBounds g (.cells #[] t (0, 0)) }
theorem empt_grown (w : World) (g : Nat) (t : TypeId) : w.grownBy (empt w g t) (some g) := ⟨rfl, rfl, rfl, by simp [empt], fun k hk hkg => by
  simp only [empt]
  rw [Array.getElem?_setIfInBounds_ne]
  intro e
  exact hkg (by rw [e])⟩
theorem empt_cell (w : World) {g o : Nat} (t : TypeId) (h : g < w.heap.size) : (empt w g t).cell? ⟨g, o, none⟩ = none := by
  have : (empt w g t).heap[g]? = some (.cells #[] t (0, 0)) := by
    simp only [empt]
    rw [Array.getElem?_setIfInBounds_self_of_lt h]
  simp [World.cell?, this]
/-- What the slices of regions are apart from. -/
theorem slw_apart {w : World} {v : Value} {ls : List (List UInt8)} {b : Option Nat} {cs : Array Value} {t : TypeId} {E : Nat} (h0 : SlW w v ls) (h : ∀ w', w.grownBy w' b → SlW w' v ls) (hE : w.heap[E]? = some (.cells cs t (0, 0))) (hns : NoStr cs) (w' : World) (hw : Chg (fun k => b = some k ∨ k = E) w w') : SlW w' v ls := by
  by_cases hl : ls = []
  · obtain ⟨p, c, rfl, hc, _⟩ := h0
    subst hl
    exact ⟨p, c, rfl, hc, SRw.none _ _⟩
  · have hpos : 0 < ls.length := List.length_pos_iff.mpr hl
    refine slw_ch h0 hw fun g hg => ?_
    obtain ⟨p, c, rfl, _, hs⟩ := h0
    obtain ⟨g2, o, rfl, hlt, hcell⟩ := hs 0 hpos
    have e : g2 = g := by simpa [Value.ownBlock] using hg
    subst e
    rintro (hb | hb)
    · subst hb
      obtain ⟨p', c', he, _, hs'⟩ := h (empt w g2 t) (empt_grown w g2 t)
      simp only [Value.slice.injEq] at he
      obtain ⟨rfl, _, rfl⟩ := he
      obtain ⟨g3, o3, he, _, hcell'⟩ := hs' 0 hpos
      simp only [Option.some.injEq, Addr.mk.injEq] at he
      obtain ⟨rfl, rfl, _⟩ := he
      rw [empt_cell w t hlt] at hcell'
      cases hcell'
    · subst hb
      have := cell_of_row w g2 (o + 0) _ _ _ hE
      rw [hcell] at this
      exact hns _ _ this.symm
/-- Regions of the call's own over stores into a region's box. -/
theorem GOw.setE {w : World} {base E i : Nat} {v x : Value} {gs : List Rg} {cs : Array Value} {t : TypeId} (h : GOw w base v gs) (hE : w.heap[E]? = some (.cells cs t (0, 0))) (hns : NoStr cs) (hv : v.ownBlock ≠ some E) : GOw (w.setCell ⟨E, i, none⟩ x) base v gs := by
  obtain ⟨xs, h1, h2⟩ := h
  refine ⟨xs, own_setI h1 hv, fun w' hw' k hk => ?_⟩
  obtain ⟨v0, v1, v2, v3, v4, x0, x1, x2, x3, x4, hc⟩ := h2 w (grown_refl _ _) k hk
  have hch : Chg (fun k => v.ownBlock = some k ∨ k = E) w w' := (Chg.set (S := fun k => v.ownBlock = some k ∨ k = E) x (.inr rfl)).trans' (Chg.grown hw' fun k hk => .inl hk)
  have st : ∀ (u : Value) (ls : List (List UInt8)) (j : Nat), xs[k * 5 + j]? = some u → SlW w u ls → (∀ w', w.grownBy w' v.ownBlock → ∀ v0 v1 v2 v3 v4, xs[k * 5]? = some v0 → xs[k * 5 + 1]? = some v1 → xs[k * 5 + 2]? = some v2 → xs[k * 5 + 3]? = some v3 → xs[k * 5 + 4]? = some v4 → RgC w' gs[k] v0 v1 v2 v3 v4 → SlW w' u ls) → SlW w' u ls := fun u ls j hj hu hs =>
    slw_apart hu (fun w2 hw2 => by
      obtain ⟨a0, a1, a2, a3, a4, y0, y1, y2, y3, y4, hc2⟩ := h2 w2 hw2 k hk
      exact hs w2 hw2 a0 a1 a2 a3 a4 y0 y1 y2 y3 y4 hc2) hE hns w' hch
  refine ⟨v0, v1, v2, v3, v4, x0, x1, x2, x3, x4, hc.kind, st v1 _ 1 x1 hc.line fun w2 hw2 a0 a1 a2 a3 a4 y0 y1 y2 y3 y4 r => ?_, st v2 _ 2 x2 hc.our fun w2 hw2 a0 a1 a2 a3 a4 y0 y1 y2 y3 y4 r => ?_, st v3 _ 3 x3 hc.bas fun w2 hw2 a0 a1 a2 a3 a4 y0 y1 y2 y3 y4 r => ?_, st v4 _ 4 x4 hc.their fun w2 hw2 a0 a1 a2 a3 a4 y0 y1 y2 y3 y4 r => ?_⟩
  · rw [x1, Option.some.injEq] at y1; rw [y1]; exact r.line
  · rw [x2, Option.some.injEq] at y2; rw [y2]; exact r.our
  · rw [x3, Option.some.injEq] at y3; rw [y3]; exact r.bas
  · rw [x4, Option.some.injEq] at y4; rw [y4]; exact r.their

/-- What the reference's parser keeps: the regions, and the box of the conflict that is open. -/
structure RPS (w : World) (R E : Nat) (st : Ps) (pv : Option Addr) (nv cv : Nat) (k : Int) (p1 p2 p3 p4 : Option Addr) (n1 n2 n3 n4 c1 c2 c3 c4 : Nat) : Prop where
  n : nv = st.gs.length
  g : GOw w R (.slice pv nv cv) st.gs
  e : w.heap[E]? = some (.cells #[.int .i64 k, .slice p1 n1 c1, .slice p2 n2 c2, .slice p3 n3 c3, .slice p4 n4 c4] 43 (0, 0))
  lt : E < R
  sz : R ≤ w.heap.size
  on : st.last ≠ 0 → k = 2 ∧ p1 = none ∧ n1 = 0 ∧ c1 = 0 ∧ TOw w R (.slice p2 n2 c2) st.o ∧ TOw w R (.slice p3 n3 c3) st.b ∧ TOw w R (.slice p4 n4 c4) st.t
  off : st.last = 0 → st.o = [] ∧ st.b = [] ∧ st.t = []
section
variable {w : World} {R E : Nat} {st : Ps} {pv : Option Addr} {nv cv : Nat} {k : Int} {p1 p2 p3 p4 : Option Addr} {n1 n2 n3 n4 c1 c2 c3 c4 : Nat}
theorem RPS.apart (h : RPS w R E st pv nv cv k p1 p2 p3 p4 n1 n2 n3 n4 c1 c2 c3 c4) : (Value.slice pv nv cv).ownBlock ≠ some E := fun e => by
  obtain ⟨xs, h1, _⟩ := h.g
  have h2 := (h1.lt E e).1
  have h3 := h.lt
  omega
theorem tow_apart {w : World} {R E : Nat} {v : Value} {l : List (List UInt8)} (h : TOw w R v l) (hE : E < R) : v.ownBlock ≠ some E := fun e => by
  have h2 := (World.ownsRow.lt h E e).1
  omega
/-- Nothing that was there is written. -/
theorem RPS.keep {w' : World} (h : RPS w R E st pv nv cv k p1 p2 p3 p4 n1 n2 n3 n4 c1 c2 c3 c4) (hb : Below w.heap.size w w') : RPS w' R E st pv nv cv k p1 p2 p3 p4 n1 n2 n3 n4 c1 c2 c3 c4 :=
  ⟨h.n, h.g.keep hb, (hb.block E (row_lt h.e)).trans h.e, h.lt, Nat.le_trans h.sz hb.size, fun hl => by
    obtain ⟨a, b, c, d, e, f, g⟩ := h.on hl
    exact ⟨a, b, c, d, e.below hb, f.below hb, g.below hb⟩, h.off⟩
/-- Clean lines behind the regions. -/
theorem RPS.clean {w' : World} {gs' : List Rg} {e : Ending} (h : RPS w R E st pv nv cv k p1 p2 p3 p4 n1 n2 n3 n4 c1 c2 c3 c4) (hl : st.last = 0) (hr : RGR w R (.slice pv nv cv) gs' e w') : ∃ p n c, e = .returned (.slice p n c) ∧ RPS w' R E ⟨gs', [], [], [], st.last⟩ p n c k p1 p2 p3 p4 n1 n2 n3 n4 c1 c2 c3 c4 := by
  obtain ⟨p, n, c, he, hn, ho, hg, hat⟩ := hr
  exact ⟨p, n, c, he, hn, ho, (hg.block E (row_lt h.e) fun x => h.apart x.symm).trans h.e, h.lt, Nat.le_trans h.sz hg.size, fun x => absurd hl x, fun _ => ⟨rfl, rfl, rfl⟩⟩
/-- A line of the open conflict, number 1. -/
theorem RPS.text1 {w' : World} {x : List UInt8} {p' : Option Addr} {n' c' : Nat} (h : RPS w R E st pv nv cv k p1 p2 p3 p4 n1 n2 n3 n4 c1 c2 c3 c4) (hl : st.last ≠ 0) (hb : Below w.heap.size w w') (hT : TOw w' R (.slice p' n' c') (st.o ++ [x])) :
    RPS (w'.setCell ⟨E, 2, none⟩ (.slice p' n' c')) R E ⟨st.gs, st.o ++ [x], st.b, st.t, st.last⟩ pv nv cv k p1 p' p3 p4 n1 n' n3 n4 c1 c' c3 c4 := by
  have hE := (hb.block E (row_lt h.e)).trans h.e
  have ht : (Value.slice p' n' c').ownBlock ≠ some E := tow_apart hT h.lt
  refine ⟨h.n, (h.g.keep hb).setE hE (noStr5 _ _ _ _ _ _ _ _ _ _ _ _ _) h.apart, ?_, h.lt, by have := hb.size; have := h.sz; simp; omega, fun hl' => ?_, fun hl' => absurd hl' hl⟩
  · rw [heap_setCell_same w' E 2 _ _ _ hE]
    rfl
  · obtain ⟨a, b, c, d, e, f, g⟩ := h.on hl'
    exact ⟨a, b, c, d, own_setI hT ht, own_setI (f.below hb) (tow_apart f h.lt), own_setI (g.below hb) (tow_apart g h.lt)⟩
/-- A line of the open conflict, number 2. -/
theorem RPS.text2 {w' : World} {x : List UInt8} {p' : Option Addr} {n' c' : Nat} (h : RPS w R E st pv nv cv k p1 p2 p3 p4 n1 n2 n3 n4 c1 c2 c3 c4) (hl : st.last ≠ 0) (hb : Below w.heap.size w w') (hT : TOw w' R (.slice p' n' c') (st.b ++ [x])) :
    RPS (w'.setCell ⟨E, 3, none⟩ (.slice p' n' c')) R E ⟨st.gs, st.o, st.b ++ [x], st.t, st.last⟩ pv nv cv k p1 p2 p' p4 n1 n2 n' n4 c1 c2 c' c4 := by
  have hE := (hb.block E (row_lt h.e)).trans h.e
  have ht : (Value.slice p' n' c').ownBlock ≠ some E := tow_apart hT h.lt
  refine ⟨h.n, (h.g.keep hb).setE hE (noStr5 _ _ _ _ _ _ _ _ _ _ _ _ _) h.apart, ?_, h.lt, by have := hb.size; have := h.sz; simp; omega, fun hl' => ?_, fun hl' => absurd hl' hl⟩
  · rw [heap_setCell_same w' E 3 _ _ _ hE]
    rfl
  · obtain ⟨a, b, c, d, e, f, g⟩ := h.on hl'
    exact ⟨a, b, c, d, own_setI (e.below hb) (tow_apart e h.lt), own_setI hT ht, own_setI (g.below hb) (tow_apart g h.lt)⟩
/-- A line of the open conflict, number 3. -/
theorem RPS.text3 {w' : World} {x : List UInt8} {p' : Option Addr} {n' c' : Nat} (h : RPS w R E st pv nv cv k p1 p2 p3 p4 n1 n2 n3 n4 c1 c2 c3 c4) (hl : st.last ≠ 0) (hb : Below w.heap.size w w') (hT : TOw w' R (.slice p' n' c') (st.t ++ [x])) :
    RPS (w'.setCell ⟨E, 4, none⟩ (.slice p' n' c')) R E ⟨st.gs, st.o, st.b, st.t ++ [x], st.last⟩ pv nv cv k p1 p2 p3 p' n1 n2 n3 n' c1 c2 c3 c' := by
  have hE := (hb.block E (row_lt h.e)).trans h.e
  have ht : (Value.slice p' n' c').ownBlock ≠ some E := tow_apart hT h.lt
  refine ⟨h.n, (h.g.keep hb).setE hE (noStr5 _ _ _ _ _ _ _ _ _ _ _ _ _) h.apart, ?_, h.lt, by have := hb.size; have := h.sz; simp; omega, fun hl' => ?_, fun hl' => absurd hl' hl⟩
  · rw [heap_setCell_same w' E 4 _ _ _ hE]
    rfl
  · obtain ⟨a, b, c, d, e, f, g⟩ := h.on hl'
    exact ⟨a, b, c, d, own_setI (e.below hb) (tow_apart e h.lt), own_setI (f.below hb) (tow_apart f h.lt), own_setI hT ht⟩
/-- A conflict opened. -/
theorem RPS.open (h : RPS w R E st pv nv cv k p1 p2 p3 p4 n1 n2 n3 n4 c1 c2 c3 c4) (hl : st.last = 0) :
    RPS (((((w.setCell ⟨E, 0, none⟩ (.int .i64 2)).setCell ⟨E, 1, none⟩ (.slice none 0 0)).setCell ⟨E, 2, none⟩ (.slice none 0 0)).setCell ⟨E, 3, none⟩ (.slice none 0 0)).setCell ⟨E, 4, none⟩ (.slice none 0 0)) R E ⟨st.gs, st.o, st.b, st.t, 1⟩ pv nv cv 2 none none none none 0 0 0 0 0 0 0 0 := by
  have e0 := h.e
  have e1 : (w.setCell ⟨E, 0, none⟩ (.int .i64 2)).heap[E]? = some (.cells #[.int .i64 2, .slice p1 n1 c1, .slice p2 n2 c2, .slice p3 n3 c3, .slice p4 n4 c4] 43 (0, 0)) := by rw [heap_setCell_same w E 0 _ _ _ e0]; rfl
  have e2 := heap_setCell_same _ E 1 _ _ (.slice none 0 0) e1
  replace e2 : _ = some (Obj.cells #[.int .i64 2, .slice none 0 0, .slice p2 n2 c2, .slice p3 n3 c3, .slice p4 n4 c4] 43 (0, 0)) := e2
  have e3 := heap_setCell_same _ E 2 _ _ (.slice none 0 0) e2
  replace e3 : _ = some (Obj.cells #[.int .i64 2, .slice none 0 0, .slice none 0 0, .slice p3 n3 c3, .slice p4 n4 c4] 43 (0, 0)) := e3
  have e4 := heap_setCell_same _ E 3 _ _ (.slice none 0 0) e3
  replace e4 : _ = some (Obj.cells #[.int .i64 2, .slice none 0 0, .slice none 0 0, .slice none 0 0, .slice p4 n4 c4] 43 (0, 0)) := e4
  have e5 := heap_setCell_same _ E 4 _ _ (.slice none 0 0) e4
  replace e5 : _ = some (Obj.cells #[.int .i64 2, .slice none 0 0, .slice none 0 0, .slice none 0 0, .slice none 0 0] 43 (0, 0)) := e5
  have g5 := ((((h.g.setE (i := 0) (x := .int .i64 2) e0 (noStr5 _ _ _ _ _ _ _ _ _ _ _ _ _) h.apart).setE (i := 1) (x := .slice none 0 0) e1 (noStr5 _ _ _ _ _ _ _ _ _ _ _ _ _) h.apart).setE (i := 2) (x := .slice none 0 0) e2 (noStr5 _ _ _ _ _ _ _ _ _ _ _ _ _) h.apart).setE (i := 3) (x := .slice none 0 0) e3 (noStr5 _ _ _ _ _ _ _ _ _ _ _ _ _) h.apart).setE (i := 4) (x := .slice none 0 0) e4 (noStr5 _ _ _ _ _ _ _ _ _ _ _ _ _) h.apart
  obtain ⟨o1, o2, o3⟩ := h.off hl
  exact ⟨h.n, g5, e5, h.lt, by have := h.sz; simp; omega, fun _ => ⟨rfl, rfl, rfl, rfl, by simp only [o1]; exact TOw.nil _ _, by simp only [o2]; exact TOw.nil _ _, by simp only [o3]; exact TOw.nil _ _⟩, fun h0 => by cases h0⟩
/-- Another marker within a conflict. -/
theorem RPS.next (h : RPS w R E st pv nv cv k p1 p2 p3 p4 n1 n2 n3 n4 c1 c2 c3 c4) (hl : st.last ≠ 0) (m : Nat) (hm : m ≠ 0) : RPS w R E ⟨st.gs, st.o, st.b, st.t, m⟩ pv nv cv k p1 p2 p3 p4 n1 n2 n3 n4 c1 c2 c3 c4 :=
  ⟨h.n, h.g, h.e, h.lt, h.sz, fun _ => h.on hl, fun h0 => absurd h0 hm⟩
/-- A conflict closed. -/
theorem RPS.close {wE w6 : World} {g c6 H : Nat} {xs : List Value} (h : RPS w R E st pv nv cv k p1 p2 p3 p4 n1 n2 n3 n4 c1 c2 c3 c4) (hl : st.last ≠ 0) (hw : Below w.heap.size w wE) (hH : wE.heap.size = H)
    (hst : ∀ w', w.grownBy w' (Value.slice pv nv cv).ownBlock → ∀ k (h : k < st.gs.length), ∃ v0 v1 v2 v3 v4, xs[k * 5]? = some v0 ∧ xs[k * 5 + 1]? = some v1 ∧ xs[k * 5 + 2]? = some v2 ∧ xs[k * 5 + 3]? = some v3 ∧ xs[k * 5 + 4]? = some v4 ∧ RgC w' st.gs[k] v0 v1 v2 v3 v4) (hown : w.ownsRow R 43 5 (.slice pv nv cv) nv xs)
    (ho : w6.ownsRow R 43 5 (.slice (some ⟨g, 0, none⟩) (nv + 1) c6) (nv + 1) (xs ++ [.int .i64 k, .slice p1 n1 c1, .slice p2 n2 c2, .slice p3 n3 c3, .slice p4 n4 c4])) (hg : wE.grownBy w6 (Value.slice pv nv cv).ownBlock) (hat : (Value.slice pv nv cv).ownBlock = some g ∨ g = H) :
    RPS w6 R E ⟨st.gs ++ [⟨2, [], st.o, st.b, st.t⟩], [], [], [], 0⟩ (some ⟨g, 0, none⟩) (nv + 1) c6 k p1 p2 p3 p4 n1 n2 n3 n4 c1 c2 c3 c4 ∧ w.grownBy w6 (Value.slice pv nv cv).ownBlock := by
  obtain ⟨rfl, rfl, rfl, rfl, t1, t2, t3⟩ := h.on hl
  have sl : ∀ (v : Value) (ls : List (List UInt8)), TOw w R v ls → ∀ w', w.grownBy w' (Value.slice pv nv cv).ownBlock → SlW w' v ls := fun v ls ht w' hw' =>
    slw_ch (S := fun b => (Value.slice pv nv cv).ownBlock = some b) (own_slw ht) (Chg.grown hw' fun k hk => hk) fun b hb hb2 => by
      rcases hown.2 with ⟨h1, _⟩ | ⟨g', cap', cur, h1, _, h2, _⟩
      · rw [h1] at hb2; cases hb2
      · have e1 : g' = b := by rw [h1] at hb2; simpa [Value.ownBlock] using hb2
        subst e1
        rcases World.ownsRow.lt ht g' hb with _
        rcases ht.2 with ⟨h3, _⟩ | ⟨g2, cap2, cur2, h3, _, h4, _⟩
        · rw [h3] at hb; cases hb
        · have e2 : g2 = g' := by rw [h3] at hb; simpa [Value.ownBlock] using hb
          subst e2
          rw [h2] at h4
          simp only [Option.some.injEq, Obj.cells.injEq] at h4
          exact absurd h4.2.1 (by decide)
  obtain ⟨q1, q2, _⟩ := GOw.put h.n hst hown.1 hw hH ho hg hat (r := ⟨2, [], st.o, st.b, st.t⟩) (fun w' hw' => ⟨rfl, SlW.nil _, sl _ _ t1 w' hw', sl _ _ t2 w' hw', sl _ _ t3 w' hw'⟩)
  exact ⟨⟨by simp [h.n], q1, (q2.block E (row_lt h.e) fun x => h.apart x.symm).trans h.e, h.lt, Nat.le_trans h.sz q2.size, fun h0 => absurd rfl h0, fun _ => ⟨rfl, rfl, rfl⟩⟩, q2⟩
end
end Go.Proofs.Ytidghjalfbklnaa
