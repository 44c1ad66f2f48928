/-
  The walk of numbered.
-/
import Derived.Test.YtidghjalfbklnaaDfNum
namespace Go.Proofs.Ytidghjalfbklnaa
open Go.RowKit Go.Maps Go.WideMaps

theorem IRw.set {w : World} {g B o : Nat} {ns : List Nat} {v : Value} (h : IRw w g ns) (hB : g ≠ B) : IRw (w.setCell ⟨B, o, none⟩ v) g ns := fun k hk =>
  (World.cell?_of_block (a := ⟨g, k, none⟩) (Below.heap_setCell w ⟨B, o, none⟩ v g hB)).trans (h k hk)
theorem IRw.below {w w' : World} {g : Nat} {ns : List Nat} (h : IRw w g ns) (hb : Below w.heap.size w w') : IRw w' g ns := fun k hk => by
  have h0 := h k hk
  exact (hb.cell (p := ⟨g, k, none⟩) (World.block_lt_of_cell? w _ h0)).trans h0
theorem row2 {w : World} {B : Nat} {t : TypeId} {c0 c1 : Value} (h : w.heap[B]? = some (.cells #[c0, c1] t (0, 0))) (v0 v1 : Value) :
    ((w.setCell ⟨B, 0, none⟩ v0).setCell ⟨B, 1, none⟩ v1).heap[B]? = some (.cells #[v0, v1] t (0, 0)) := by
  have h0 : (w.setCell ⟨B, 0, none⟩ v0).heap[B]? = some (.cells #[v0, c1] t (0, 0)) := by
    have h := heap_setCell_same w B 0 _ t v0 h
    simp only [List.setIfInBounds_toArray, List.set_cons_zero, List.set_cons_succ] at h
    exact h
  have h := heap_setCell_same (w.setCell ⟨B, 0, none⟩ v0) B 1 _ t v1 h0
  simp only [List.setIfInBounds_toArray, List.set_cons_zero, List.set_cons_succ] at h
  exact h
/-- What numbered answers. -/
def NRes (la lb : List (List UInt8)) (n m : Nat) (w : World) (e : Ending) (w' : World) : Prop :=
  ∃ (g1 g2 : Nat) (f : List UInt8 → Nat), e = .returned (.agg #[.slice (some ⟨g1, 0, none⟩) n n, .slice (some ⟨g2, 0, none⟩) m m]) ∧ IRw w' g1 (la.map f) ∧ IRw w' g2 (lb.map f) ∧ g1 < w'.heap.size ∧ g2 < w'.heap.size ∧ (∀ x ∈ la, ∀ y ∈ lb, f x = f y → x = y) ∧ Below w.heap.size w w'

set_option maxHeartbeats 4000000 in
set_option maxRecDepth 4000 in
theorem numbered_any (la lb : List (List UInt8)) (p q : Option Addr) (c d n m : Nat) (w : World) (hn : n = la.length) (hm : m = lb.length) (hp : SRw w p la) (hq : SRw w q lb)
    (hl : n ≤ 60000) (hl2 : m ≤ 5000) (hs : ∀ t ∈ la, t.length ≤ 140737488355328) (hs2 : ∀ t ∈ lb, t.length ≤ 140737488355328) :
    Calls Try.prog 42 #[.slice p n c, .slice q m d] w (NRes la lb n m w) := by
  have hmm := make_map n (w.alloc (.cells #[.slice none 0 0, .slice none 0 0] 67))
  rw [show (w.alloc (.cells #[.slice none 0 0, .slice none 0 0] 67)).heap.size = w.heap.size + 1 by simp] at hmm
  have hmf := make_fun Try.prog
  have HN := Lib.hid hn
  have HM := Lib.hid hm
  have HS := Lib.hid hs
  have HS2 := Lib.hid hs2
  have HP := Lib.hid hp
  have HQ := Lib.hid hq
  obtain ⟨W1, hW1⟩ : ∃ W1, W1 = ((w.alloc (.cells #[.slice none 0 0, .slice none 0 0] 67)).alloc (.map #[] 0)).alloc (.cells #[.map (some (w.heap.size + 1))] 87) := ⟨_, rfl⟩
  have hbx : W1.heap[w.heap.size + 1 + 1]? = some (.cells #[.map (some (w.heap.size + 1))] 87 (0, 0)) := by
    rw [hW1]
    have h := heap_alloc_new ((w.alloc (.cells #[.slice none 0 0, .slice none 0 0] 67)).alloc (.map #[] 0)) (.cells #[.map (some (w.heap.size + 1))] 87)
    rw [show ((w.alloc (.cells #[.slice none 0 0, .slice none 0 0] 67)).alloc (.map #[] 0)).heap.size = w.heap.size + 1 + 1 by simp] at h
    exact h
  have hres : W1.heap[w.heap.size]? = some (.cells #[.slice none 0 0, .slice none 0 0] 67 (0, 0)) := by
    rw [hW1]
    exact row_alloc (row_alloc (heap_alloc_new w _) (by simp)) (by simp; omega)
  have hM1 : Mi W1 (w.heap.size + 1) 0 (.map []) := by
    rw [hW1]
    have h := World.ownsMap_made (H := Unit) (w.alloc (.cells #[.slice none 0 0, .slice none 0 0] 67)) Try.prog 9 (plainElem Try.prog 3)
    rw [show (w.alloc (.cells #[.slice none 0 0, .slice none 0 0] 67)).heap.size = w.heap.size + 1 by simp] at h
    exact h.alloc _
  have hb1 : Below w.heap.size w W1 := by rw [hW1]; exact below_new (below_new (below_new (Below.refl _ _) _) _) _
  have hs1 : W1.heap.size = w.heap.size + 3 := by rw [hW1]; simp
  have HS1 := Lib.hid hs1
  have HC1 : Hid (Calls Try.prog 73 #[.slice p n c, .pointer (some ⟨w.heap.size + 1 + 1, 0, none⟩)] (((w.alloc (.cells #[.slice none 0 0, .slice none 0 0] 67)).alloc (.map #[] 0)).alloc (.cells #[.map (some (w.heap.size + 1))] 87)) fun e w' => ∃ g, e = .returned (.slice (some ⟨g, 0, none⟩) n n) ∧ W1.heap.size ≤ g ∧ g < w'.heap.size ∧ IRw w' g (la.map fun x => (knL [] la).idxOf x) ∧ (∃ D', Mi w' (w.heap.size + 1) (knL [] la).length D' ∧ IsKn D' (knL [] la)) ∧ W1.grownBy w' (some (w.heap.size + 1))) := by
    show Calls _ _ _ _ _
    rw [← hW1]
    exact number1_any la [] p c n (w.heap.size + 1 + 1) (w.heap.size + 1) (.map []) W1 HN.out (HP.out.below hb1) hbx hM1 isKn_nil (by omega) (by simp) HS.out
  have HHB := Lib.hid hbx
  have HRES := Lib.hid hres
  have hKl : (knL [] la).length ≤ 60000 := by have := knL_len la []; simp at this; omega
  clear hn hm hs hs2 hp hq hW1 hs1 hbx hres
  go_enter Try.func42, Try.ntmps42
  go_wp2_with (go_at_call 73; first
    | ((with_reducible refine HC1.out.mono ?_); rintro e w2 ⟨g1, rfl, ga1, gb1, ir1, ⟨D1, hM2, hK1⟩, hgr1⟩)
    | ((with_reducible refine (number1_any lb (knL [] la) q d m (w.heap.size + 1 + 1) (w.heap.size + 1) D1 w2 HM.out ((HQ.out.below hb1).grown hM1 hgr1) ((hgr1.block _ (row_lt HHB.out) (by simp)).trans HHB.out) hM2 hK1 (by omega) (by omega) HS2.out).mono ?_); rintro e w3 ⟨g2, rfl, ga2, gb2, ir2, ⟨D2, hM3, hK2⟩, hgr2⟩; have hgr3 := num_grown hgr1 hgr2; have hrow := (hgr3.block _ (row_lt HRES.out) (by simp)).trans HRES.out; have z0 := cell_of_row w3 w.heap.size 0 _ _ _ hrow; have z1 := cell_of_row w3 w.heap.size 1 _ _ _ hrow; have y0 := frozen_of_row w3 w.heap.size 0 _ _ hrow; have y1 := frozen_of_row w3 w.heap.size 1 _ _ hrow))
  have hr4 := row2 hrow (.slice (some ⟨g1, 0, none⟩) n n) (.slice (some ⟨g2, 0, none⟩) m m)
  have hs1 := HS1.out
  have hs3 := hgr3.size
  have hb3 : Below w.heap.size w w3 := hb1.grown hgr3 (by omega) (fun k hk => by cases hk; omega)
  have hb4 : Below w.heap.size w ((w3.setCell ⟨w.heap.size, 0, none⟩ (.slice (some ⟨g1, 0, none⟩) n n)).setCell ⟨w.heap.size, 1, none⟩ (.slice (some ⟨g2, 0, none⟩) m m)) := (hb3.setCell (Nat.le_refl _) _).setCell (Nat.le_refl _) _
  have hsz2 := hgr1.size
  have h1 := ((ir1.grown hM2 hgr2).set (B := w.heap.size) (o := 0) (v := .slice (some ⟨g1, 0, none⟩) n n) (by omega)).set (B := w.heap.size) (o := 1) (v := .slice (some ⟨g2, 0, none⟩) m m) (by omega)
  have h2 := (ir2.set (B := w.heap.size) (o := 0) (v := .slice (some ⟨g1, 0, none⟩) n n) (by omega)).set (B := w.heap.size) (o := 1) (v := .slice (some ⟨g2, 0, none⟩) m m) (by omega)
  have hgs2 := hgr2.size
  have hsz4 : ((w3.setCell ⟨w.heap.size, 0, none⟩ (.slice (some ⟨g1, 0, none⟩) n n)).setCell ⟨w.heap.size, 1, none⟩ (.slice (some ⟨g2, 0, none⟩) m m)).heap.size = w3.heap.size := by simp
  clear z0 z1 y0 y1 hrow hb3
  obtain ⟨w4, hw4⟩ : ∃ w4, w4 = ((w3.setCell ⟨w.heap.size, 0, none⟩ (.slice (some ⟨g1, 0, none⟩) n n)).setCell ⟨w.heap.size, 1, none⟩ (.slice (some ⟨g2, 0, none⟩) m m)) := ⟨_, rfl⟩
  rw [← hw4] at hr4 hb4 h1 h2 hsz4 ⊢
  clear hw4
  have c0 : w4.cell? ⟨w.heap.size, 0, none⟩ = some (.slice (some ⟨g1, 0, none⟩) n n) := cell_of_row w4 _ 0 _ _ _ hr4
  have c1 : w4.cell? ⟨w.heap.size, 1, none⟩ = some (.slice (some ⟨g2, 0, none⟩) m m) := cell_of_row w4 _ 1 _ _ _ hr4
  have e1 : (la.map fun x => (knL [] la).idxOf x) = la.map fun x => (knL (knL [] la) lb).idxOf x := List.map_congr_left fun x hx => (knL_idx lb _ (knL_in la [] hx)).symm
  rw [e1] at h1
  refine bodyPost_ret (v := .agg #[.slice (some ⟨g1, 0, none⟩) n n, .slice (some ⟨g2, 0, none⟩) m m]) (by simp [results, Try.results42, go_sem, c0, c1]) rfl ⟨g1, g2, _, rfl, h1, h2, by omega, by omega, fun x hx y _ h => idx_inj (knL_mem lb _ (knL_in la [] hx)) h, hb4⟩
end Go.Proofs.Ytidghjalfbklnaa
