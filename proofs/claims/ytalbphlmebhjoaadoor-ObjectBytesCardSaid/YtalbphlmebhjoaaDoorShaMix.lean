/-
  The walk of mix: the rounds of a block.
-/
import Derived.Test.YtalbphlmebhjoaaDoorShaTurn
import Derived.IntWalk
import Derived.WalkSmall
namespace Go.Proofs.YtalbphlmebhjoaaDoor
open Go.RowKit

def u32s (l : List Nat) : Array Value := (l.map fun (n : Nat) => Value.int .u32 (n : Int)).toArray
def stV (s : St) : Value := .agg #[.int .u32 (s.a : Int), .int .u32 (s.b : Int), .int .u32 (s.c : Int), .int .u32 (s.d : Int), .int .u32 (s.e : Int), .int .u32 (s.f : Int), .int .u32 (s.g : Int), .int .u32 (s.h : Int)]

/-- The table of round words lies where the program's text lays it. -/
def KTab (w : World) : Prop := ∀ t, t < 64 → w.cell? ⟨3, t, none⟩ = some (.int .u32 (kw.getD t 0 : Nat))
theorem KTab.below {w w' : World} (h : KTab w) (hb : Below w.heap.size w w') : KTab w' := fun i hi => by
  have hc := h i hi
  have hlt := World.block_lt_of_cell? w _ hc
  exact (hb.cell (p := ⟨3, i, none⟩) hlt).trans hc

theorem sig_eq {x y z : Nat} (hx : x < 4294967296) (hy : y < 4294967296) (hz : z < 4294967296) : bits .xor .u32 (bits .xor .u32 (x : Int) (y : Int)) (z : Int) = (((x ^^^ y) ^^^ z : Nat) : Int) := by
  rw [u32_xor_nat x y hx hy, u32_xor_nat _ z (Nat.xor_lt_two_pow (n := 32) hx hy) hz]
theorem chs_eq {e f g : Nat} (he : e < 4294967296) (hf : f < 4294967296) (hg : g < 4294967296) : bits .xor .u32 (bits .and .u32 (e : Int) (f : Int)) (bits .and .u32 (bits .xor .u32 IntKind.u32.max (e : Int)) (g : Int)) = (chs e f g : Nat) := by
  have h1 : bits .xor .u32 IntKind.u32.max (e : Int) = ((4294967295 ^^^ e : Nat) : Int) := u32_xor_nat 4294967295 e (by decide) he
  have h2 : 4294967295 ^^^ e < 4294967296 := Nat.xor_lt_two_pow (n := 32) (by decide) he
  rw [h1, u32_and_nat _ _ he hf, u32_and_nat _ _ h2 hg, u32_xor_nat _ _ (and_lt he) (and_lt h2)]
  rfl
theorem maj_eq {a b c : Nat} (ha : a < 4294967296) (hb : b < 4294967296) (hc : c < 4294967296) : bits .xor .u32 (bits .xor .u32 (bits .and .u32 (a : Int) (b : Int)) (bits .and .u32 (a : Int) (c : Int))) (bits .and .u32 (b : Int) (c : Int)) = (maj a b c : Nat) := by
  rw [u32_and_nat _ _ ha hb, u32_and_nat _ _ ha hc, u32_and_nat _ _ hb hc, u32_xor_nat _ _ (and_lt ha) (and_lt ha), u32_xor_nat _ _ (Nat.xor_lt_two_pow (n := 32) (and_lt ha) (and_lt ha)) (and_lt hb)]
  rfl

/-- Block B holds the words l. -/
def WTab (w : World) (B : Nat) (l : List Nat) : Prop := ∀ t, t < l.length → w.cell? ⟨B, t, none⟩ = some (.int .u32 (l.getD t 0 : Nat))
theorem WTab.below {w w' : World} {B B' : Nat} {l : List Nat} (h : WTab w B l) (hb : Below B' w w') (hB : B < B') : WTab w' B l := fun i hi => (hb.cell (p := ⟨B, i, none⟩) hB).trans (h i hi)
theorem WTab.alloc {w : World} {B : Nat} {l : List Nat} (h : WTab w B l) (hB : B < w.heap.size) (o : Obj) : WTab (w.alloc o) B l :=
  h.below ((Below.refl w.heap.size w).alloc (Nat.le_refl _) o) hB
theorem WTab.new (w : World) (l : List Nat) (t : TypeId) : WTab (w.alloc (.cells (u32s l) t)) w.heap.size l := fun i hi => by
  have h := World.cell?_alloc_mark w (u32s l) t (0, 0) i
  refine h.trans ?_
  simp [u32s, List.getD_eq_getElem?_getD, hi]

/-- Eight cells of a row are written. -/
theorem row8 {w : World} {B : Nat} {t : TypeId} {c0 c1 c2 c3 c4 c5 c6 c7 : Value} (h : w.heap[B]? = some (.cells #[c0, c1, c2, c3, c4, c5, c6, c7] t (0, 0))) (v0 v1 v2 v3 v4 v5 v6 v7 : Value) :
    ((((((((w.setCell ⟨B, 0, none⟩ v0).setCell ⟨B, 1, none⟩ v1).setCell ⟨B, 2, none⟩ v2).setCell ⟨B, 3, none⟩ v3).setCell ⟨B, 4, none⟩ v4).setCell ⟨B, 5, none⟩ v5).setCell ⟨B, 6, none⟩ v6).setCell ⟨B, 7, none⟩ v7).heap[B]? = some (.cells #[v0, v1, v2, v3, v4, v5, v6, v7] t (0, 0)) := by
  have h0 : (w.setCell ⟨B, 0, none⟩ v0).heap[B]? = some (.cells #[v0, c1, c2, c3, c4, c5, c6, c7] t (0, 0)) := by
    have h := heap_setCell_same w B 0 _ t v0 h
    simp only [List.setIfInBounds_toArray, List.set_cons_zero, List.set_cons_succ] at h
    exact h
  have h1 : ((w.setCell ⟨B, 0, none⟩ v0).setCell ⟨B, 1, none⟩ v1).heap[B]? = some (.cells #[v0, v1, c2, c3, c4, c5, c6, c7] t (0, 0)) := by
    have h := heap_setCell_same (w.setCell ⟨B, 0, none⟩ v0) B 1 _ t v1 h0
    simp only [List.setIfInBounds_toArray, List.set_cons_zero, List.set_cons_succ] at h
    exact h
  have h2 : (((w.setCell ⟨B, 0, none⟩ v0).setCell ⟨B, 1, none⟩ v1).setCell ⟨B, 2, none⟩ v2).heap[B]? = some (.cells #[v0, v1, v2, c3, c4, c5, c6, c7] t (0, 0)) := by
    have h := heap_setCell_same ((w.setCell ⟨B, 0, none⟩ v0).setCell ⟨B, 1, none⟩ v1) B 2 _ t v2 h1
    simp only [List.setIfInBounds_toArray, List.set_cons_zero, List.set_cons_succ] at h
    exact h
  have h3 : ((((w.setCell ⟨B, 0, none⟩ v0).setCell ⟨B, 1, none⟩ v1).setCell ⟨B, 2, none⟩ v2).setCell ⟨B, 3, none⟩ v3).heap[B]? = some (.cells #[v0, v1, v2, v3, c4, c5, c6, c7] t (0, 0)) := by
    have h := heap_setCell_same (((w.setCell ⟨B, 0, none⟩ v0).setCell ⟨B, 1, none⟩ v1).setCell ⟨B, 2, none⟩ v2) B 3 _ t v3 h2
    simp only [List.setIfInBounds_toArray, List.set_cons_zero, List.set_cons_succ] at h
    exact h
  have h4 : (((((w.setCell ⟨B, 0, none⟩ v0).setCell ⟨B, 1, none⟩ v1).setCell ⟨B, 2, none⟩ v2).setCell ⟨B, 3, none⟩ v3).setCell ⟨B, 4, none⟩ v4).heap[B]? = some (.cells #[v0, v1, v2, v3, v4, c5, c6, c7] t (0, 0)) := by
    have h := heap_setCell_same ((((w.setCell ⟨B, 0, none⟩ v0).setCell ⟨B, 1, none⟩ v1).setCell ⟨B, 2, none⟩ v2).setCell ⟨B, 3, none⟩ v3) B 4 _ t v4 h3
    simp only [List.setIfInBounds_toArray, List.set_cons_zero, List.set_cons_succ] at h
    exact h
  have h5 : ((((((w.setCell ⟨B, 0, none⟩ v0).setCell ⟨B, 1, none⟩ v1).setCell ⟨B, 2, none⟩ v2).setCell ⟨B, 3, none⟩ v3).setCell ⟨B, 4, none⟩ v4).setCell ⟨B, 5, none⟩ v5).heap[B]? = some (.cells #[v0, v1, v2, v3, v4, v5, c6, c7] t (0, 0)) := by
    have h := heap_setCell_same (((((w.setCell ⟨B, 0, none⟩ v0).setCell ⟨B, 1, none⟩ v1).setCell ⟨B, 2, none⟩ v2).setCell ⟨B, 3, none⟩ v3).setCell ⟨B, 4, none⟩ v4) B 5 _ t v5 h4
    simp only [List.setIfInBounds_toArray, List.set_cons_zero, List.set_cons_succ] at h
    exact h
  have h6 : (((((((w.setCell ⟨B, 0, none⟩ v0).setCell ⟨B, 1, none⟩ v1).setCell ⟨B, 2, none⟩ v2).setCell ⟨B, 3, none⟩ v3).setCell ⟨B, 4, none⟩ v4).setCell ⟨B, 5, none⟩ v5).setCell ⟨B, 6, none⟩ v6).heap[B]? = some (.cells #[v0, v1, v2, v3, v4, v5, v6, c7] t (0, 0)) := by
    have h := heap_setCell_same ((((((w.setCell ⟨B, 0, none⟩ v0).setCell ⟨B, 1, none⟩ v1).setCell ⟨B, 2, none⟩ v2).setCell ⟨B, 3, none⟩ v3).setCell ⟨B, 4, none⟩ v4).setCell ⟨B, 5, none⟩ v5) B 6 _ t v6 h5
    simp only [List.setIfInBounds_toArray, List.set_cons_zero, List.set_cons_succ] at h
    exact h
  have h7 : ((((((((w.setCell ⟨B, 0, none⟩ v0).setCell ⟨B, 1, none⟩ v1).setCell ⟨B, 2, none⟩ v2).setCell ⟨B, 3, none⟩ v3).setCell ⟨B, 4, none⟩ v4).setCell ⟨B, 5, none⟩ v5).setCell ⟨B, 6, none⟩ v6).setCell ⟨B, 7, none⟩ v7).heap[B]? = some (.cells #[v0, v1, v2, v3, v4, v5, v6, v7] t (0, 0)) := by
    have h := heap_setCell_same (((((((w.setCell ⟨B, 0, none⟩ v0).setCell ⟨B, 1, none⟩ v1).setCell ⟨B, 2, none⟩ v2).setCell ⟨B, 3, none⟩ v3).setCell ⟨B, 4, none⟩ v4).setCell ⟨B, 5, none⟩ v5).setCell ⟨B, 6, none⟩ v6) B 7 _ t v7 h6
    simp only [List.setIfInBounds_toArray, List.set_cons_zero, List.set_cons_succ] at h
    exact h
  exact h7

/-- The world in the rounds: the two tables, and the row that the result goes to. -/
structure MixW (w wr : World) (l : List Nat) : Prop where
  below : Below w.heap.size w wr
  k : KTab wr
  t : WTab wr (w.heap.size + 1) l
  r : wr.heap[w.heap.size + 1 + 1]? = some (.cells #[.int .u32 0, .int .u32 0, .int .u32 0, .int .u32 0, .int .u32 0, .int .u32 0, .int .u32 0, .int .u32 0] 53 (0, 0))
theorem MixW.drewN {w wr : World} {l : List Nat} (h : MixW w wr l) (n : Nat) : MixW w (wr.drewN n) l :=
  ⟨below_drewN h.below n, h.k.below (below_drewN (Below.refl _ _) n), fun i hi => (h.t i hi), h.r⟩

set_option maxHeartbeats 1000000 in
set_option maxRecDepth 4000 in
theorem mix_any (s : St) (l : List Nat) (w : World) (hs : s.ok) (hl : l.length = 64) (hlw : ∀ x ∈ l, x < 4294967296) (hk : KTab w) :
    Calls Tryd.prog 48 #[stV s, .agg (u32s l)] w fun e w' => e = .returned (stV (rounds s l 64)) ∧ Below w.heap.size w w' := by
  have hm : ∀ n, MixW w ((((w.alloc (.cells #[.int .u32 (s.a : Int), .int .u32 (s.b : Int), .int .u32 (s.c : Int), .int .u32 (s.d : Int), .int .u32 (s.e : Int), .int .u32 (s.f : Int), .int .u32 (s.g : Int), .int .u32 (s.h : Int)] 53)).alloc (.cells (u32s l) 69)).alloc (.cells #[.int .u32 0, .int .u32 0, .int .u32 0, .int .u32 0, .int .u32 0, .int .u32 0, .int .u32 0, .int .u32 0] 53)).drewN n) l := fun n => by
    have hb := (((Below.refl w.heap.size w).alloc (Nat.le_refl _) (.cells #[.int .u32 (s.a : Int), .int .u32 (s.b : Int), .int .u32 (s.c : Int), .int .u32 (s.d : Int), .int .u32 (s.e : Int), .int .u32 (s.f : Int), .int .u32 (s.g : Int), .int .u32 (s.h : Int)] 53)).alloc (by simp) (.cells (u32s l) 69)).alloc (by simp; omega) (.cells #[.int .u32 0, .int .u32 0, .int .u32 0, .int .u32 0, .int .u32 0, .int .u32 0, .int .u32 0, .int .u32 0] 53)
    refine MixW.drewN ⟨hb, hk.below hb, ?_, ?_⟩ n
    · have h := (WTab.new (w.alloc (.cells #[.int .u32 (s.a : Int), .int .u32 (s.b : Int), .int .u32 (s.c : Int), .int .u32 (s.d : Int), .int .u32 (s.e : Int), .int .u32 (s.f : Int), .int .u32 (s.g : Int), .int .u32 (s.h : Int)] 53)) l 69).alloc (by simp) (.cells #[.int .u32 0, .int .u32 0, .int .u32 0, .int .u32 0, .int .u32 0, .int .u32 0, .int .u32 0, .int .u32 0] 53)
      simpa using h
    · have h := heap_alloc_new ((w.alloc (.cells #[.int .u32 (s.a : Int), .int .u32 (s.b : Int), .int .u32 (s.c : Int), .int .u32 (s.d : Int), .int .u32 (s.e : Int), .int .u32 (s.f : Int), .int .u32 (s.g : Int), .int .u32 (s.h : Int)] 53)).alloc (.cells (u32s l) 69)) (.cells #[.int .u32 0, .int .u32 0, .int .u32 0, .int .u32 0, .int .u32 0, .int .u32 0, .int .u32 0, .int .u32 0] 53)
      simpa using h
  unfold stV
  go_enter Tryd.func48, Tryd.ntmps48
  go_wp2
  go_quiet (fail)
  have hm0 := hm nq
  clear hm
  go_wp2
  go_loopw [5, 6, 7, 8, 9, 10, 11, 12, 36] (fun a b c d e f g h i wr => ∃ (t : Nat) (v : St), t ≤ 64 ∧ i = .int .i64 t ∧ v = rounds s l t ∧ a = .int .u32 (v.a : Int) ∧ b = .int .u32 (v.b : Int) ∧ c = .int .u32 (v.c : Int) ∧ d = .int .u32 (v.d : Int) ∧ e = .int .u32 (v.e : Int) ∧ f = .int .u32 (v.f : Int) ∧ g = .int .u32 (v.g : Int) ∧ h = .int .u32 (v.h : Int) ∧ MixW w wr l)
    (fun _ _ _ _ _ _ _ _ i _ => 64 - (intOf i).toNat)
  case atStart => exact ⟨0, s, by omega, rfl, rfl, rfl, rfl, rfl, rfl, rfl, rfl, rfl, rfl, hm0⟩
  case round =>
    obtain ⟨t, v, ht, rfl, hv, rfl, rfl, rfl, rfl, rfl, rfl, rfl, rfl, hmw⟩ := hrel
    have hvo : v.ok := by rw [hv]; exact rounds_ok hs l t
    have HV : Hid (v = rounds s l t) := hv
    clear hv hm0 hk hs
    by_cases hlt : t < 64
    · obtain ⟨la, lb, lc, ld, le, lf, lg, lh⟩ := hvo
      obtain ⟨x1, hx1⟩ : ∃ x, x = bs1 v.e := ⟨_, rfl⟩
      obtain ⟨x2, hx2⟩ : ∃ x, x = chs v.e v.f v.g := ⟨_, rfl⟩
      obtain ⟨x3, hx3⟩ : ∃ x, x = bs0 v.a := ⟨_, rfl⟩
      obtain ⟨x4, hx4⟩ : ∃ x, x = maj v.a v.b v.c := ⟨_, rfl⟩
      have q1 := sig_eq (rotr_lt (n := 6) le) (rotr_lt (n := 11) le) (rotr_lt (n := 25) le)
      have q2 := chs_eq le lf lg
      have q3 := sig_eq (rotr_lt (n := 2) la) (rotr_lt (n := 13) la) (rotr_lt (n := 22) la)
      have q4 := maj_eq la lb lc
      rw [← bs1, ← hx1] at q1
      rw [← hx2] at q2
      rw [← bs0, ← hx3] at q3
      rw [← hx4] at q4
      have m1 : x1 < 4294967296 := by rw [hx1]; exact bs1_lt le
      have m2 : x2 < 4294967296 := by rw [hx2]; exact chs_lt le lg
      have m3 : x3 < 4294967296 := by rw [hx3]; exact bs0_lt la
      have m4 : x4 < 4294967296 := by rw [hx4]; exact maj_lt la lb
      have kt := hmw.k t hlt
      have wt := hmw.t t (by omega)
      have kl := kw_lt t
      obtain ⟨K, hK⟩ : ∃ K, K = kw.getD t 0 := ⟨_, rfl⟩
      obtain ⟨W, hW⟩ : ∃ W, W = l.getD t 0 := ⟨_, rfl⟩
      have wl : W < 4294967296 := by
        rw [hW, List.getD_eq_getElem?_getD, List.getElem?_eq_getElem (by omega)]
        exact hlw _ (List.getElem_mem _)
      rw [← hK] at kt kl
      rw [← hW] at wt
      obtain ⟨y1, hy1⟩ : ∃ y, y = (v.h + x1) % 4294967296 := ⟨_, rfl⟩
      obtain ⟨y2, hy2⟩ : ∃ y, y = (y1 + x2) % 4294967296 := ⟨_, rfl⟩
      obtain ⟨y3, hy3⟩ : ∃ y, y = (y2 + K) % 4294967296 := ⟨_, rfl⟩
      obtain ⟨y4, hy4⟩ : ∃ y, y = (y3 + W) % 4294967296 := ⟨_, rfl⟩
      have r1 : IntKind.u32.wrap ((v.h : Int) + x1) = (y1 : Int) := by rw [IntKind.wrap_u32', hy1]; rfl
      have r2 : IntKind.u32.wrap ((y1 : Int) + x2) = (y2 : Int) := by rw [IntKind.wrap_u32', hy2]; rfl
      have r3 : IntKind.u32.wrap ((y2 : Int) + K) = (y3 : Int) := by rw [IntKind.wrap_u32', hy3]; rfl
      have r4 : IntKind.u32.wrap ((y3 : Int) + W) = (y4 : Int) := by rw [IntKind.wrap_u32', hy4]; rfl
      have t1 : (0 : Int) ≤ t := by omega
      have t2 : (t : Int) < 64 := by omega
      have HX : Hid (rounds s l (t + 1) = ⟨(y4 + (x3 + x4) % 4294967296) % 4294967296, v.a, v.b, v.c, (v.d + y4) % 4294967296, v.e, v.f, v.g⟩) := by
        show _ = _
        rw [rounds, ← HV.out, rnd, ← hx1, ← hx2, ← hx3, ← hx4, ← hK, ← hW, ← hy1, ← hy2, ← hy3, ← hy4]
      clear hx1 hx2 hx3 hx4 hy1 hy2 hy3 hy4 hK hW
      go_wp2_with (go_at_call 65; first
        | ((with_reducible refine (turned_6 _ _ (by assumption)).mono ?_); rintro e w' ⟨rfl, rfl⟩)
        | ((with_reducible refine (turned_11 _ _ (by assumption)).mono ?_); rintro e w' ⟨rfl, rfl⟩)
        | ((with_reducible refine (turned_25 _ _ (by assumption)).mono ?_); rintro e w' ⟨rfl, rfl⟩)
        | ((with_reducible refine (turned_2 _ _ (by assumption)).mono ?_); rintro e w' ⟨rfl, rfl⟩)
        | ((with_reducible refine (turned_13 _ _ (by assumption)).mono ?_); rintro e w' ⟨rfl, rfl⟩)
        | ((with_reducible refine (turned_22 _ _ (by assumption)).mono ?_); rintro e w' ⟨rfl, rfl⟩))
      go_quiet (fail)
      go_wp2_with (go_at_call 65; first
        | ((with_reducible refine (turned_2 _ _ (by assumption)).mono ?_); rintro e w' ⟨rfl, rfl⟩)
        | ((with_reducible refine (turned_13 _ _ (by assumption)).mono ?_); rintro e w' ⟨rfl, rfl⟩)
        | ((with_reducible refine (turned_22 _ _ (by assumption)).mono ?_); rintro e w' ⟨rfl, rfl⟩))
      go_roundw
      case rel => exact ⟨t + 1, _, by omega, by go_num, HX.out.symm, val_int (by show _ = (((y4 + (x3 + x4) % 4294967296) % 4294967296 : Nat) : Int); omega), rfl, rfl, rfl, val_int (by show _ = (((v.d + y4) % 4294967296 : Nat) : Int); omega), rfl, rfl, rfl, hmw.drewN _⟩
      case measure => simp [intOf]; omega
    · obtain rfl : t = 64 := by omega
      have hr := hmw.r
      obtain ⟨B, hB⟩ : ∃ B, B = w.heap.size + 1 + 1 := ⟨_, rfl⟩
      have HB : Hid (B = w.heap.size + 1 + 1) := hB
      have hbl := hmw.below
      have f0 := frozen_of_row wr _ 0 _ _ hr
      have f1 := frozen_of_row wr _ 1 _ _ hr
      have f2 := frozen_of_row wr _ 2 _ _ hr
      have f3 := frozen_of_row wr _ 3 _ _ hr
      have f4 := frozen_of_row wr _ 4 _ _ hr
      have f5 := frozen_of_row wr _ 5 _ _ hr
      have f6 := frozen_of_row wr _ 6 _ _ hr
      have f7 := frozen_of_row wr _ 7 _ _ hr
      have z0 : wr.cell? ⟨w.heap.size + 1 + 1, 0, none⟩ = some (.int .u32 0) := cell_of_row wr _ 0 _ _ _ hr
      have z1 : wr.cell? ⟨w.heap.size + 1 + 1, 1, none⟩ = some (.int .u32 0) := cell_of_row wr _ 1 _ _ _ hr
      have z2 : wr.cell? ⟨w.heap.size + 1 + 1, 2, none⟩ = some (.int .u32 0) := cell_of_row wr _ 2 _ _ _ hr
      have z3 : wr.cell? ⟨w.heap.size + 1 + 1, 3, none⟩ = some (.int .u32 0) := cell_of_row wr _ 3 _ _ _ hr
      have z4 : wr.cell? ⟨w.heap.size + 1 + 1, 4, none⟩ = some (.int .u32 0) := cell_of_row wr _ 4 _ _ _ hr
      have z5 : wr.cell? ⟨w.heap.size + 1 + 1, 5, none⟩ = some (.int .u32 0) := cell_of_row wr _ 5 _ _ _ hr
      have z6 : wr.cell? ⟨w.heap.size + 1 + 1, 6, none⟩ = some (.int .u32 0) := cell_of_row wr _ 6 _ _ _ hr
      have z7 : wr.cell? ⟨w.heap.size + 1 + 1, 7, none⟩ = some (.int .u32 0) := cell_of_row wr _ 7 _ _ _ hr
      have HR : Hid (wr.heap[w.heap.size + 1 + 1]? = some (.cells #[.int .u32 0, .int .u32 0, .int .u32 0, .int .u32 0, .int .u32 0, .int .u32 0, .int .u32 0, .int .u32 0] 53 (0, 0))) := hr
      clear hr hmw hB
      go_wp2
      refine bodyPost_ret (v := stV v) (results_cell_row (fn := Tryd.f48) (p := 4) (ty := 53) Tryd.results48 _ _ (w.heap.size + 1 + 1) 53 _ (0, 0) _ rfl (row8 HR.out _ _ _ _ _ _ _ _) Tryd.underlying53 rfl (by kernel_rfl)) rfl ⟨by rw [HV.out]; rfl, ?_⟩
      refine Below.setCell (Below.setCell (Below.setCell (Below.setCell (Below.setCell (Below.setCell (Below.setCell (Below.setCell hbl ?_ _) ?_ _) ?_ _) ?_ _) ?_ _) ?_ _) ?_ _) ?_ _ <;> (show w.heap.size ≤ w.heap.size + 1 + 1; omega)
end Go.Proofs.YtalbphlmebhjoaaDoor
