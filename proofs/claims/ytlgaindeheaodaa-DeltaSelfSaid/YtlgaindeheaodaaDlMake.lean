/-
  The walk of Make, over what its finder answers.
-/
import Derived.Test.YtlgaindeheaodaaDlFlush
import Derived.Deep.RegionWith
import Derived.Deep.DeepCutAuto
namespace Go.Proofs.Ytlgaindeheaodaa
open Go.RowKit

/-- What Make writes from an offset on, a literal having begun at st. -/
def mkd (s : ByteArray) (lf : Nat → Nat × Nat) (st a : Nat) (l : List UInt8) : List UInt8 :=
  if a < s.size then
    if 0 < (lf a).2 then mkd s lf (a + (lf a).2) (a + (lf a).2) (l ++ lit (s.extract st a).data.toList ++ digs (2 * (lf a).2 + 1) ++ digs (lf a).1)
    else if a + 1 - st = 1024 then mkd s lf (a + 1) (a + 1) (l ++ lit (s.extract st (a + 1)).data.toList)
    else mkd s lf st (a + 1) l
  else l ++ lit (s.extract st a).data.toList
termination_by s.size - a
theorem mkd_end {s : ByteArray} {lf : Nat → Nat × Nat} {st a : Nat} {l : List UInt8} (h : ¬ a < s.size) : mkd s lf st a l = l ++ lit (s.extract st a).data.toList := by rw [mkd, if_neg h]
theorem mkd_copy {s : ByteArray} {lf : Nat → Nat × Nat} {st a : Nat} {l : List UInt8} (h : a < s.size) (h2 : 0 < (lf a).2) : mkd s lf st a l = mkd s lf (a + (lf a).2) (a + (lf a).2) (l ++ lit (s.extract st a).data.toList ++ digs (2 * (lf a).2 + 1) ++ digs (lf a).1) := by rw [mkd, if_pos h, if_pos h2]
theorem mkd_flush {s : ByteArray} {lf : Nat → Nat × Nat} {st a : Nat} {l : List UInt8} (h : a < s.size) (h2 : ¬ 0 < (lf a).2) (h3 : a + 1 - st = 1024) : mkd s lf st a l = mkd s lf (a + 1) (a + 1) (l ++ lit (s.extract st (a + 1)).data.toList) := by rw [mkd, if_pos h, if_neg h2, if_pos h3]
theorem mkd_on {s : ByteArray} {lf : Nat → Nat × Nat} {st a : Nat} {l : List UInt8} (h : a < s.size) (h2 : ¬ 0 < (lf a).2) (h3 : ¬ a + 1 - st = 1024) : mkd s lf st a l = mkd s lf st (a + 1) l := by rw [mkd, if_pos h, if_neg h2, if_neg h3]
theorem lit_len (t : List UInt8) (h : t.length ≤ 1048576) : (lit t).length ≤ 10 + t.length := by
  cases t with
  | nil => simp [lit_nil]
  | cons a t =>
    rw [lit_cons rfl, List.length_append]
    have := digs_len64 (n := 2 * (a :: t).length) (by omega)
    omega

/-- The world in which the first two numbers are written: the target's block lies. -/
structure K0 (W : World) (s : ByteArray) (w : World) : Prop where
  below : Below W.heap.size W w
  target : w.heap[W.heap.size]? = some (.cells #[.string s] 9 (0, 0))
theorem k0_new (W : World) (s : ByteArray) : K0 W s (W.alloc (.cells #[.string s] 9)).drew := ⟨((Below.refl _ _).alloc (Nat.le_refl _) _).drew, heap_alloc_new W _⟩
theorem k0_alloc {W w : World} {s : ByteArray} (h : K0 W s w) (o : Obj) : K0 W s (w.alloc o) := ⟨below_new h.below o, row_alloc h.target (row_lt h.target)⟩
theorem k0_new2 (W : World) (s : ByteArray) (o : Obj) : K0 W s ((W.alloc (.cells #[.string s] 9)).alloc o).drew :=
  have h := k0_alloc (k0_new W s) o
  ⟨⟨h.below.os, h.below.tape, h.below.output, h.below.size, h.below.block⟩, h.target⟩
theorem ow_alloc {w : World} {base : Nat} {v : Value} {l : List UInt8} (h : Ow w base v l) (o : Obj) : Ow (w.alloc o) base v l := h.below ((Below.refl _ _).alloc (Nat.le_refl _) o)
theorem num_at (W w : World) (s : ByteArray) (v : Value) (l L : List UInt8) (n : Nat) (hk : K0 W s w) (ho : Ow w W.heap.size v l) (hn : n ≤ 1048576) (hl : l.length ≤ 10) (hL : Hid (L = l ++ digs n)) :
    Calls Try.prog 15 #[v, .int .i64 n] w fun e w' => ∃ p cap, e = .returned (.slice p L.length cap) ∧ Ow w' W.heap.size (.slice p L.length cap) L ∧ w.grownBy w' v.ownBlock ∧ K0 W s w' ∧ w'.cell? ⟨W.heap.size, 0, none⟩ = some (.string s) :=
  (dAppNum_any v l n W.heap.size w ho hk.below.size (by omega) (by omega)).mono fun e w' ⟨v', he, ho', hg⟩ => by
    rw [hL.out]
    obtain ⟨p, cap, rfl⟩ := ow_shape ho'
    have hr := own_row ho hk.target (by decide) (row_lt hk.target) hg
    exact ⟨p, cap, he, ho', hg, ⟨below_own hk.below ho (Nat.le_refl _) hg, hr⟩, cell_of_row w' _ 0 _ _ _ hr⟩
/-- The box of the row, made beforehand. -/
theorem box_kept {w w' : World} {base P : Nat} {v u : Value} {l : List UInt8} (ho : Ow w base v l) (hr : w.heap[P]? = some (.cells #[u] 33 (0, 0))) (hg : w.grownBy w' v.ownBlock) :
    w'.heap[P]? = some (.cells #[u] 33 (0, 0)) ∧ w'.cell? ⟨P, 0, none⟩ = some u ∧ w'.frozen? ⟨P, 0, none⟩ = false := by
  have hr' := own_row ho hr (by decide) (row_lt hr) hg
  exact ⟨hr', cell_of_row w' P 0 _ _ _ hr', frozen_of_row w' P 0 _ _ hr'⟩
theorem box_on {w : World} {base P : Nat} {v u : Value} {l : List UInt8} (ho : Ow w base v l) (hr : w.heap[P]? = some (.cells #[u] 33 (0, 0))) : ∀ w', w.grownBy w' v.ownBlock → 
    w'.heap[P]? = some (.cells #[u] 33 (0, 0)) ∧ w'.cell? ⟨P, 0, none⟩ = some u ∧ w'.frozen? ⟨P, 0, none⟩ = false := fun _ hg => box_kept ho hr hg
theorem no_box (w : World) (v : Value) : ∀ w', w.grownBy w' v.ownBlock → True := fun _ _ => trivial
theorem cell_alloc {W w : World} {s : ByteArray} (hk : K0 W s w) : ∀ o, (w.alloc o).cell? ⟨W.heap.size, 0, none⟩ = some (.string s) := fun o => cell_of_row _ _ 0 _ _ _ (k0_alloc hk o).target
theorem box_new (W : World) (s : ByteArray) (u : Value) : ((W.alloc (.cells #[.string s] 9)).alloc (.cells #[u] 33)).drew.heap[W.heap.size + 1]? = some (.cells #[u] 33 (0, 0)) := by
  have h := heap_alloc_new (W.alloc (.cells #[.string s] 9)) (.cells #[u] 33)
  rw [show (W.alloc (.cells #[.string s] 9)).heap.size = W.heap.size + 1 by simp] at h
  exact h

/-- Where the two numbers have been written. -/
structure J0 (W : World) (s : ByteArray) (l : List UInt8) (x : Value) (w : World) : Prop where
  k : K0 W s w
  box : ∃ bo v, x = .pointer (some ⟨bo, 0, none⟩) ∧ W.heap.size < bo ∧ w.heap[bo]? = some (.cells #[v] 33 (0, 0)) ∧ Ow w W.heap.size v l

theorem j0_set {W w : World} {s : ByteArray} {v u : Value} {L : List UInt8} {P : Nat} (hk : K0 W s w) (ho : Ow w W.heap.size v L) (hP : W.heap.size < P) (hr : w.heap[P]? = some (.cells #[u] 33 (0, 0))) : J0 W s L (.pointer (some ⟨P, 0, none⟩)) (w.setCell ⟨P, 0, none⟩ v) :=
  ⟨⟨hk.below.setCell (Nat.le_of_lt hP) _, row_set hk.target (Nat.ne_of_lt hP)⟩, P, v, rfl, hP, one_set hr, own_set ho (own_ty ho hr (by decide))⟩
theorem j0_new {W w : World} {s : ByteArray} {v : Value} {L : List UInt8} (hk : K0 W s w) (ho : Ow w W.heap.size v L) : J0 W s L (.pointer (some ⟨w.heap.size, 0, none⟩)) (w.alloc (.cells #[v] 33)) :=
  ⟨k0_alloc hk _, w.heap.size, v, rfl, row_lt hk.target, heap_alloc_new w _, ow_alloc ho _⟩

/-- The number that a block of one cell holds. -/
def atOf (w : World) (b : Nat) : Nat := match w.cell? ⟨b, 0, none⟩ with
  | some v => (intOf v).toNat
  | none => 0
theorem atOf_eq {w : World} {b a : Nat} (h : w.cell? ⟨b, 0, none⟩ = some (.int .i64 (a : Int))) : atOf w b = a := by
  unfold atOf
  rw [h]
  rfl
theorem jm_start {W wc w1 : World} {s : ByteArray} {L : List UInt8} {bo : Nat} {v : Value} {D : List (Nat × Obj)} (hk : K0 W s wc) (hbo : W.heap.size < bo) (hr : wc.heap[bo]? = some (.cells #[v] 33 (0, 0))) (ho : Ow wc W.heap.size v L)
    (hb : Below wc.heap.size wc w1) (hx : Fx w1 D) (hD : ∀ p ∈ D, wc.heap.size ≤ p.1) :
    JM W W.heap.size bo w1.heap.size (w1.heap.size + 1) s D L 0 0 ((w1.alloc (.cells #[.int .i64 0] 3)).alloc (.cells #[.int .i64 0] 3)) ∧ Ap W W.heap.size bo w1.heap.size (w1.heap.size + 1) D := by
  have hsz := hb.size
  have hl1 := row_lt hk.target
  have hl2 := row_lt hr
  have t1 : w1.heap[W.heap.size]? = _ := (hb.block W.heap.size hl1).trans hk.target
  have r1 : w1.heap[bo]? = _ := (hb.block bo hl2).trans hr
  have e2 : (w1.alloc (.cells #[.int .i64 0] 3)).heap[w1.heap.size]? = some (.cells #[.int .i64 0] 3 (0, 0)) := heap_alloc_new w1 _
  have e3 : ((w1.alloc (.cells #[.int .i64 0] 3)).alloc (.cells #[.int .i64 0] 3)).heap[w1.heap.size + 1]? = some (.cells #[.int .i64 0] 3 (0, 0)) := by
    have h := heap_alloc_new (w1.alloc (.cells #[.int .i64 0] 3)) (.cells #[.int .i64 0] 3)
    rw [show (w1.alloc (.cells #[.int .i64 0] 3)).heap.size = w1.heap.size + 1 by simp] at h
    exact h
  have hbw : Below W.heap.size W w1 := hk.below.trans (hb.mono hk.below.size)
  have up {P : Nat} {o : Obj} (h : w1.heap[P]? = some o) : ((w1.alloc (.cells #[.int .i64 0] 3)).alloc (.cells #[.int .i64 0] 3)).heap[P]? = some o := row_alloc (row_alloc h (row_lt h)) (row_lt (row_alloc h (row_lt h)))
  refine ⟨⟨up t1, ⟨v, up r1, ow_alloc (ow_alloc (ho.below hb) _) _⟩, row_alloc e2 (row_lt e2), e3, below_new (below_new hbw _) _, (hx.alloc _).alloc _⟩, ⟨?_, ?_, ?_, ?_, ?_⟩⟩
  · exact ⟨Nat.le_refl _, by omega, by omega, by omega⟩
  · exact ⟨by omega, by omega, by omega⟩
  · exact ⟨by omega, by omega⟩
  · omega
  · intro p hp
    have h1 := hD p hp
    have h2 := row_lt (hx p hp).1
    exact ⟨by omega, by omega, by omega, by omega⟩
theorem jm_long {W w w1 : World} {bs bo ba bb B st a : Nat} {s : ByteArray} {D D' : List (Nat × Obj)} {l : List UInt8} {o : Obj} (hj : JM W bs bo ba bb s D l st a w) (ap : Ap W bs bo ba bb D) (hB : (B, o) ∈ D) (hBW : W.heap.size ≤ B) (hx : Fx w1 D') (hg : w.grownBy w1 (some B))
    (hD : ∀ p ∈ D', (∃ q ∈ D, q.1 = p.1) ∨ w.heap.size ≤ p.1) : JM W bs bo ba bb s D' l st a w1 ∧ Ap W bs bo ba bb D' := by
  obtain ⟨n0, n1, n2, n3⟩ := ap.d _ hB
  simp only at n0 n1 n2 n3
  obtain ⟨v, h1, h2⟩ := hj.row
  have k {P : Nat} {o : Obj} (h : w.heap[P]? = some o) (hne : B ≠ P) : w1.heap[P]? = some o := (hg.block P (row_lt h) (fun he => hne (by simpa using he.symm))).trans h
  have hbo := hj.held _ hB
  have hv : v.ownBlock ≠ some B := by
    intro he
    rcases h2.2 with ⟨rfl, _⟩ | ⟨g, cap, cur, rfl, _, hr, _⟩
    · cases he
    · simp only [Value.ownBlock, Option.some.injEq] at he
      subst he
      rw [hbo.1] at hr
      simp only [Option.some.injEq] at hr
      exact absurd rfl (by have := hbo.2; rw [hr] at this; exact this)
  refine ⟨⟨k hj.target n0, ⟨v, k h1 n1, h2.kept hg (.inr hv)⟩, k hj.start n2, k hj.at' n3, hj.below.grown hg hj.below.size (fun j hj' => by cases hj'; exact hBW), hx⟩, ⟨ap.s, ap.o, ap.a, ap.b, ?_⟩⟩
  intro p hp
  rcases hD p hp with ⟨q, hq, he⟩ | hge
  · have := ap.d q hq
    rw [he] at this
    exact this
  · have l0 := row_lt hj.target
    have l1 := row_lt h1
    have l2 := row_lt hj.start
    have l3 := row_lt hj.at'
    exact ⟨by omega, by omega, by omega, by omega⟩
/-- The row has grown twice, and is stored anew. -/
theorem JM.put2 {W : World} {bs bo ba bb : Nat} {s : ByteArray} {D : List (Nat × Obj)} {l l1 l2 : List UInt8} {st a : Nat} {w w1 w2 : World} {v v1 v2 : Value} (ap : Ap W bs bo ba bb D) (h : JM W bs bo ba bb s D l st a w)
    (hv : w.heap[bo]? = some (.cells #[v] 33 (0, 0))) (ho : Ow w W.heap.size v l) (hg : w.grownBy w1 v.ownBlock) (ho1 : Ow w1 W.heap.size v1 l1) (hg1 : w1.grownBy w2 v1.ownBlock) (ho2 : Ow w2 W.heap.size v2 l2) : JM W bs bo ba bb s D l2 st a (w2.setCell ⟨bo, 0, none⟩ v2) := by
  have k0 := own_row ho h.target (by decide) (row_lt h.target) hg
  have k1 := own_row ho hv (by decide) (row_lt hv) hg
  have k2 := own_row ho h.start (by decide) (row_lt h.start) hg
  have k3 := own_row ho h.at' (by decide) (row_lt h.at') hg
  have m0 := own_row ho1 k0 (by decide) (row_lt k0) hg1
  have m1 := own_row ho1 k1 (by decide) (row_lt k1) hg1
  have m2 := own_row ho1 k2 (by decide) (row_lt k2) hg1
  have m3 := own_row ho1 k3 (by decide) (row_lt k3) hg1
  exact ⟨row_set m0 ap.s.2.1, ⟨v2, one_set m1, own_set ho2 (own_ty ho2 m1 (by decide))⟩, row_set m2 (Ne.symm ap.o.2.1), row_set m3 (Ne.symm ap.o.2.2), (below_own (below_own h.below ho (Nat.le_refl _) hg) ho1 (Nat.le_refl _) hg1).setCell ap.o.1 _, ((h.held.own ho hg).own ho1 hg1).set (fun p hp => (ap.d p hp).2.1)⟩

set_option maxHeartbeats 4000000 in
set_option maxRecDepth 4000 in
theorem make_any2 (base s : ByteArray) (lf : Nat → Nat × Nat) (Good : Nat → Nat → List (Nat × Obj) → Prop) (W : World) (hb : base.size ≤ 1048576) (hs : s.size ≤ 1048576)
    (HNF : Hid (∀ w, Calls Try.prog 16 #[.string base] w fun e w' => ∃ B D, e = .returned (.pointer (some ⟨B, 0, none⟩)) ∧ Good 0 B D ∧ Fx w' D ∧ (∀ p ∈ D, w.heap.size ≤ p.1) ∧ Below w.heap.size w w'))
    (HL : Hid (∀ a B D w, a < s.size → Good a B D → Fx w D → Calls Try.prog 18 #[.pointer (some ⟨B, 0, none⟩), .string (s.extract a s.size)] w fun e w' => ∃ D', e = .returned (.tuple #[.int .i64 (lf a).1, .int .i64 (lf a).2]) ∧ Good (if 0 < (lf a).2 then a + (lf a).2 else a + 1) B D' ∧ Fx w' D' ∧ w.grownBy w' (some B) ∧ (∀ p ∈ D', (∃ q ∈ D, q.1 = p.1) ∨ w.heap.size ≤ p.1)))
    (HB : Hid (∀ a B D, Good a B D → ∃ o, (B, o) ∈ D)) (HF : Hid (∀ a, a < s.size → (lf a).2 ≤ s.size - a ∧ (lf a).1 ≤ 1048576)) :
    Calls Try.prog 8 #[.string base, .string s] W fun e w' => e = .returned (.string (str (mkd s lf 0 0 (digs base.size ++ digs s.size)))) ∧ Below W.heap.size W w' := by
  have hmf := make_fun Try.prog
  have d1 : ¬ 1048576 < base.size := by omega
  have d2 : ¬ 1048576 < s.size := by omega
  have hdl1 := digs_len64 (n := base.size) (by omega)
  have hdl2 := digs_len64 (n := s.size) (by omega)
  obtain ⟨L1, hL1⟩ : ∃ L1, L1 = [] ++ digs base.size := ⟨_, rfl⟩
  obtain ⟨L2, hL2⟩ : ∃ L2, L2 = L1 ++ digs s.size := ⟨_, rfl⟩
  have h1l : L1.length ≤ 10 := by rw [hL1]; simpa using hdl1
  have h2l : L2.length ≤ 20 := by rw [hL2, List.length_append]; omega
  rw [show digs base.size ++ digs s.size = L2 by rw [hL2, hL1]; rfl]
  have HL1 := Lib.hid hL1
  have HL2 := Lib.hid hL2
  clear hL1 hL2 hdl1 hdl2
  go_enter Try.func8, Try.ntmps8
  go_upto_region 3 with fail
  go_cut [5] (fun v5 wx => J0 W s L2 v5 wx)
  case first =>
    clear HNF HL HB HF
    go_region_with (go_at_call 15; first
      | ((with_reducible refine (num_at W _ s _ [] L1 base.size (k0_new W s) (Ow.nil _ _) hb (by simp) HL1).mono ?_); rintro e w1 ⟨p1, cap1, rfl, ho1, hg1, hk1, hc1⟩; have hca1 := cell_alloc hk1; have kbx := no_box w1 (.slice p1 L1.length cap1))
      | ((with_reducible refine (num_at W _ s _ [] L1 base.size (k0_new2 W s _) (Ow.nil _ _) hb (by simp) HL1).mono ?_); rintro e w1 ⟨p1, cap1, rfl, ho1, hg1, hk1, hc1⟩; have hca1 := cell_alloc hk1; obtain ⟨kb1, kb2, kb3⟩ := box_kept (Ow.nil _ W.heap.size) (box_new W s _) hg1; have kbx := box_on ho1 kb1)
      | ((with_reducible refine (num_at W _ s _ L1 L2 s.size hk1 ho1 hs h1l HL2).mono ?_); rintro e w2 ⟨p2, cap2, rfl, ho2, hg2, hk2, hc2⟩; have ke := kbx w2 hg2)
      | ((with_reducible refine (num_at W _ s _ L1 L2 s.size (k0_alloc hk1 _) (ow_alloc ho1 _) hs h1l HL2).mono ?_); rintro e w2 ⟨p2, cap2, rfl, ho2, hg2, hk2, hc2⟩; obtain ⟨ke1, ke2, ke3⟩ := box_kept (ow_alloc ho1 _) (heap_alloc_new w1 _) hg2))
    all_goals go_wp2_with fail
    all_goals go_meet
    all_goals (first | exact j0_new hk2 ho2 | exact j0_set hk2 ho2 (row_lt hk1.target) ke1 | exact j0_set hk2 ho2 (Nat.lt_succ_self _) ke.1)
  case rest =>
    clear HL1 HL2
    obtain ⟨hk, bo, v, rfl, hbo, hr, ho⟩ := hcut
    have HK := Lib.hid (And.intro hk (And.intro hbo (And.intro hr ho)))
    clear hk hbo hr ho
    go_wp2_with (go_at_call 16; refine (HNF.out _).mono ?_; rintro e w1 ⟨B, D, rfl, hgood, hfx, hD, hb1⟩; have HJ := Lib.hid (jm_start HK.out.1 HK.out.2.1 HK.out.2.2.1 HK.out.2.2.2 hb1 hfx hD))
    have hBW : W.heap.size ≤ B := by
      obtain ⟨o, hm⟩ := HB.out _ _ _ hgood
      have h1 := hD _ hm
      have h2 := HK.out.1.below.size
      simp only at h1
      omega
    obtain ⟨ba, hba⟩ : ∃ ba, ba = w1.heap.size := ⟨_, rfl⟩
    obtain ⟨bb, hbb⟩ : ∃ bb, bb = ba + 1 := ⟨_, rfl⟩
    rw [← hba, ← hbb] at HJ ⊢
    obtain ⟨wS, hwS⟩ : ∃ wS, wS = (w1.alloc (.cells #[.int .i64 0] 3)).alloc (.cells #[.int .i64 0] 3) := ⟨_, rfl⟩
    rw [← hwS] at HJ ⊢
    obtain ⟨R, hR⟩ : ∃ R, R = mkd s lf 0 0 L2 := ⟨_, rfl⟩
    have HR := Lib.hid hR
    have HGOOD := Lib.hid hgood
    clear hwS hba hbb hfx hD hb1 HK HNF hR hgood
    go_loopw [] (fun wr => ∃ (D : List (Nat × Obj)) (l : List UInt8) (st a : Nat), JM W W.heap.size bo ba bb s D l st a wr ∧ Ap W W.heap.size bo ba bb D ∧ st ≤ a ∧ a ≤ s.size ∧ l.length + (a - st) ≤ 20 + 31 * a ∧ Good a B D ∧ R = mkd s lf st a l) (fun wr => s.size - atOf wr bb)
    case atStart => exact ⟨D, L2, 0, 0, HJ.out.1, HJ.out.2, by omega, by omega, by omega, HGOOD.out, HR.out⟩
    case round =>
      clear HGOOD HJ
      obtain ⟨D, l, st, a, hj, ap, hst, ha, hl, hgood, hR⟩ := hrel
      obtain ⟨c0, c1, c2, f0, f1, f2⟩ := hj.cells
      have HM0 := Lib.hid (atOf_eq c2)
      have HAP := Lib.hid ap
      have HJ := Lib.hid hj
      by_cases hlt : a < s.size
      · have hcl := HL.out a B D wr hlt hgood hj.held
        obtain ⟨f, n, hfn⟩ : ∃ f n, lf a = (f, n) := ⟨_, _, rfl⟩
        have hf := HF.out a hlt
        obtain ⟨o, hBo⟩ := HB.out _ _ _ hgood
        rw [hfn] at hcl hf
        simp only at hcl hf
        have HCL : Hid (Calls Try.prog 18 #[.pointer (some ⟨B, 0, none⟩), .string (s.extract a s.size)] wr fun e w' => e = .returned (.tuple #[.int .i64 f, .int .i64 n]) ∧ ∃ D', Good (if 0 < n then a + n else a + 1) B D' ∧ JM W W.heap.size bo ba bb s D' l st a w' ∧ Ap W W.heap.size bo ba bb D') := hcl.mono fun e w' ⟨D', he, hg, hx, hgr, hd⟩ => ⟨he, D', hg, jm_long hj ap hBo hBW hx hgr hd⟩
        clear hcl hgood hj ap hBo
        by_cases hn0 : 0 < n
        · have HX : Hid (R = mkd s lf (a + n) (a + n) (l ++ lit (s.extract st a).data.toList ++ digs (2 * n + 1) ++ digs f)) := by
            show _ = _
            rw [hR, mkd_copy hlt (by rw [hfn]; exact hn0), hfn]
          clear hR hfn
          go_upto_region 11 with (first
            | (go_at_call 18; refine HCL.out.mono ?_; rintro e w2 ⟨rfl, D2, hg2, hj2, ap2⟩; obtain ⟨c20, c21, c22, f20, f21, f22⟩ := hj2.cells)
            | (go_at_call 17; refine (flush_any W _ bo ba bb s D2 l st a _ ap2 hj2 hst ha hs (by omega)).mono ?_; rintro e w3 ⟨rfl, hj3⟩))
          obtain ⟨X, hX⟩ : ∃ X, X = s.extract st a := ⟨_, rfl⟩
          have hXl : (lit X.data.toList).length ≤ 10 + (a - st) := by
            have hz : X.data.toList.length = a - st := by rw [list_len, hX, ByteArray.size_extract]; omega
            have := lit_len X.data.toList (by omega)
            omega
          rw [← hX] at hj3 HX
          clear hX
          obtain ⟨M0, hM0⟩ : ∃ M0, M0 = l ++ lit X.data.toList := ⟨_, rfl⟩
          have hm0 : M0.length ≤ l.length + 10 + (a - st) := by rw [hM0, List.length_append]; omega
          rw [← hM0] at hj3 HX
          obtain ⟨m, hm⟩ : ∃ m, m = 2 * n + 1 := ⟨_, rfl⟩
          rw [← hm] at HX
          have hml := digs_len64 (n := m) (by omega)
          have hfl := digs_len64 (n := f) (by omega)
          obtain ⟨M1, hM1⟩ : ∃ M1, M1 = M0 ++ digs m := ⟨_, rfl⟩
          obtain ⟨M2, hM2⟩ : ∃ M2, M2 = M1 ++ digs f := ⟨_, rfl⟩
          rw [← hM1, ← hM2] at HX
          have hm1 : M1.length ≤ M0.length + 10 := by rw [hM1, List.length_append]; omega
          have hm2 : M2.length ≤ M1.length + 10 := by rw [hM2, List.length_append]; omega
          have i1 : IntKind.i64.wrap (2 * (n : Int)) = 2 * (n : Int) := IntWalk.i64_in _ (by omega)
          have i2 : IntKind.i64.wrap (2 * (n : Int) + 1) = (m : Int) := by rw [IntWalk.i64_in _ (by omega)]; omega
          have hmx : m ≤ 2097153 := by omega
          have HM1 := Lib.hid hM1
          have HM2 := Lib.hid hM2
          have HJ3 := Lib.hid hj3
          have AP2 := Lib.hid ap2
          obtain ⟨c30, c31, c32, f30, f31, f32⟩ := hj3.cells
          obtain ⟨v3, h3, ho3⟩ := hj3.row
          have H3 := Lib.hid h3
          have c33 : w3.cell? ⟨bo, 0, none⟩ = some v3 := cell_of_row w3 bo 0 _ _ _ h3
          have hbw3 := hj3.below.size
          clear hM0 hm hM1 hM2 hj3 hj2 ap2 h3 c20 c21 c22 f20 f21 f22 c0 c1 c2 f0 f1 f2 HCL HJ
          go_upto_region 12 with (go_at_call 15; first
            | ((with_reducible refine (dAppNum_any v3 M0 m W.heap.size _ ho3 hbw3 (by omega) (by omega)).mono ?_); rintro e w4 ⟨v4, rfl, ho4, hg4⟩; rw [← HM1.out] at ho4; have hbw4 := Nat.le_trans hbw3 hg4.size; have k4 := own_row ho3 H3.out (by decide) (row_lt H3.out) hg4; have K4 := Lib.hid k4; clear k4)
            | ((with_reducible refine (dAppNum_any v4 M1 f W.heap.size _ ho4 hbw4 (by omega) (by omega)).mono ?_); rintro e w5 ⟨v5, rfl, ho5, hg5⟩; rw [← HM2.out] at ho5; obtain ⟨p5, cap5, rfl⟩ := ow_shape ho5; have k5 := own_row ho4 K4.out (by decide) (row_lt K4.out) hg5; have kc5 : w5.cell? ⟨bo, 0, none⟩ = some _ := cell_of_row w5 bo 0 _ _ _ k5; have g5 := frozen_of_row w5 bo 0 _ _ k5; clear k5))
          have HJ4 := Lib.hid (JM.put2 AP2.out HJ3.out H3.out ho3 hg4 ho4 hg5 ho5)
          clear ho3 hg4 ho4 hg5 ho5 kc5 g5 c30 c31 c32 c33 f30 f31 f32 HJ3 H3 K4
          obtain ⟨wB, hwB⟩ : ∃ wB, wB = w5.setCell ⟨bo, 0, none⟩ (.slice p5 M2.length cap5) := ⟨_, rfl⟩
          rw [← hwB] at HJ4 ⊢
          clear hwB
          obtain ⟨c30, c31, c32, f30, f31, f32⟩ := HJ4.out.cells
          obtain ⟨q, hq⟩ : ∃ q, q = a + n := ⟨_, rfl⟩
          have i3 : IntKind.i64.wrap ((a : Int) + (n : Int)) = (q : Int) := by rw [IntWalk.i64_in _ (by omega)]; omega
          have hqs : q ≤ s.size := by omega
          rw [← hq] at HX
          have HQ := Lib.hid hq
          clear hq
          go_upto_region 13 with fail
          have HJ5 := Lib.hid (HJ4.out.setAt AP2.out q)
          obtain ⟨wD, hwD⟩ : ∃ wD, wD = wB.setCell ⟨bb, 0, none⟩ (.int .i64 (q : Int)) := ⟨_, rfl⟩
          rw [← hwD] at HJ5 ⊢
          clear hwD c30 c31 c32 f30 f31 f32 HJ4
          obtain ⟨c30, c31, c32, f30, f31, f32⟩ := HJ5.out.cells
          have HJ6 := Lib.hid (HJ5.out.setStart AP2.out q)
          go_wp2
          go_roundw
          case rel => exact ⟨D2, M2, q, q, HJ6.out, AP2.out, Nat.le_refl _, hqs, by have := HQ.out; omega, by (have h9 := HQ.out; have h8 := hg2; split at h8 <;> first | (rw [h9]; exact h8) | omega), HX.out⟩
          case measure => have h1 := atOf_eq HJ6.out.cells.2.2.1; have h2 := HM0.out; have h3 := HQ.out; rw [h1, h2]; omega
        · obtain rfl : n = 0 := by omega
          obtain ⟨q, hq⟩ : ∃ q, q = a + 1 := ⟨_, rfl⟩
          have i3 : IntKind.i64.wrap ((a : Int) + 1) = (q : Int) := by rw [IntWalk.i64_in _ (by omega)]; omega
          have hqs : q ≤ s.size := by omega
          have hstq : st ≤ q := by omega
          have HQ := Lib.hid hq
          by_cases hd : a + 1 - st = 1024
          · have HX : Hid (R = mkd s lf q q (l ++ lit (s.extract st q).data.toList)) := by
              show _ = _
              rw [hR, hq, mkd_flush hlt (by rw [hfn]; exact hn0) hd]
            have hdd : (((q : Int) - (st : Int)) == 1024) = true := by simp; omega
            have i4 : IntKind.i64.wrap ((q : Int) - (st : Int)) = (q : Int) - (st : Int) := IntWalk.i64_in _ (by omega)
            have HXL : Hid ((lit (s.extract st q).data.toList).length ≤ 10 + (q - st)) := by
              show _ ≤ _
              have hz : (s.extract st q).data.toList.length = q - st := by rw [list_len, ByteArray.size_extract]; omega
              have := lit_len (s.extract st q).data.toList (by omega)
              omega
            clear hR hfn hq hd
            go_upto_region 14 with (first
              | (go_at_call 18; refine HCL.out.mono ?_; rintro e w2 ⟨rfl, D2, hg2, hj2, ap2⟩; obtain ⟨c20, c21, c22, f20, f21, f22⟩ := hj2.cells))
            go_upto_region 15 with fail
            have HJ5 := Lib.hid (hj2.setAt ap2 q)
            have AP2 := Lib.hid ap2
            obtain ⟨wD, hwD⟩ : ∃ wD, wD = w2.setCell ⟨bb, 0, none⟩ (.int .i64 (q : Int)) := ⟨_, rfl⟩
            rw [← hwD] at HJ5 ⊢
            clear hwD c20 c21 c22 f20 f21 f22 c0 c1 c2 f0 f1 f2 hj2 ap2 HCL HJ
            obtain ⟨c30, c31, c32, f30, f31, f32⟩ := HJ5.out.cells
            go_wp2_with (go_at_call 17; refine (flush_any W _ bo ba bb s D2 l st q _ AP2.out HJ5.out hstq hqs hs (by omega)).mono ?_; rintro e w3 ⟨rfl, hj3⟩)
            go_roundw
            case rel => exact ⟨D2, _, q, q, hj3, AP2.out, Nat.le_refl _, hqs, by have h1 := HQ.out; have h2 := HXL.out; rw [List.length_append]; omega, by (have h9 := HQ.out; have h8 := hg2; split at h8 <;> first | (rw [h9]; exact h8) | omega), HX.out⟩
            case measure => have h1 := atOf_eq hj3.cells.2.2.1; have h2 := HM0.out; have h3 := HQ.out; rw [h1, h2]; omega
          · have HX : Hid (R = mkd s lf st q l) := by
              show _ = _
              rw [hR, hq, mkd_on hlt (by rw [hfn]; exact hn0) hd]
            have hdd : (((q : Int) - (st : Int)) == 1024) = false := by simp; omega
            have i4 : IntKind.i64.wrap ((q : Int) - (st : Int)) = (q : Int) - (st : Int) := IntWalk.i64_in _ (by omega)
            clear hR hfn hq hd
            go_upto_region 14 with (first
              | (go_at_call 18; refine HCL.out.mono ?_; rintro e w2 ⟨rfl, D2, hg2, hj2, ap2⟩; obtain ⟨c20, c21, c22, f20, f21, f22⟩ := hj2.cells))
            go_upto_region 15 with fail
            have HJ5 := Lib.hid (hj2.setAt ap2 q)
            have AP2 := Lib.hid ap2
            obtain ⟨wD, hwD⟩ : ∃ wD, wD = w2.setCell ⟨bb, 0, none⟩ (.int .i64 (q : Int)) := ⟨_, rfl⟩
            rw [← hwD] at HJ5 ⊢
            clear hwD c20 c21 c22 f20 f21 f22 c0 c1 c2 f0 f1 f2 hj2 ap2 HCL HJ
            obtain ⟨c30, c31, c32, f30, f31, f32⟩ := HJ5.out.cells
            go_wp2
            go_roundw
            case rel => exact ⟨D2, l, st, q, HJ5.out, AP2.out, hstq, hqs, by have h1 := HQ.out; omega, by (have h9 := HQ.out; have h8 := hg2; split at h8 <;> first | (rw [h9]; exact h8) | omega), HX.out⟩
            case measure => have h1 := atOf_eq HJ5.out.cells.2.2.1; have h2 := HM0.out; have h3 := HQ.out; rw [h1, h2]; omega
      · obtain rfl : a = s.size := by omega
        have HX : Hid (R = l ++ lit (s.extract st s.size).data.toList) := by
          show _ = _
          rw [hR, mkd_end hlt]
        have HRR : Hid (mkd s lf 0 0 L2 = R) := HR.out.symm
        have HCV : Hid (∀ w4 v4, Ow w4 W.heap.size v4 (l ++ lit (s.extract st s.size).data.toList) → (convert 33 9 v4).run Try.prog w4 = .ok (.string (str R)) w4) := fun w4 v4 h => by
          rw [HX.out]
          exact conv_owned (P := Try.prog) 33 9 5 Try.underlying33 Try.underlying5 Try.underlying9 h
        clear hR hgood
        go_wp2_with (go_at_call 17; refine (flush_any W _ bo ba bb s D l st s.size _ HAP.out HJ.out hst (Nat.le_refl _) hs (by omega)).mono ?_; rintro e w3 ⟨rfl, hj3⟩; obtain ⟨v3, h3, ho3⟩ := hj3.row; have c33 : w3.cell? ⟨bo, 0, none⟩ = some v3 := cell_of_row w3 bo 0 _ _ _ h3; have hcv := HCV.out _ _ ho3; have HB3 := Lib.hid hj3.below; clear hj3 h3 ho3)
        go_ret
        exact ⟨by rw [HRR.out]; rfl, HB3.out⟩
theorem make_any (base s : ByteArray) (lf : Nat → Nat × Nat) (Good : Nat → Nat → List (Nat × Obj) → Prop) (W : World) (hb : base.size ≤ 1048576) (hs : s.size ≤ 1048576)
    (HNF : Hid (∀ w, Calls Try.prog 16 #[.string base] w fun e w' => ∃ B D, e = .returned (.pointer (some ⟨B, 0, none⟩)) ∧ Good 0 B D ∧ Fx w' D ∧ (∀ p ∈ D, w.heap.size ≤ p.1) ∧ Below w.heap.size w w'))
    (HL : Hid (∀ a B D w, a < s.size → Good a B D → Fx w D → Calls Try.prog 18 #[.pointer (some ⟨B, 0, none⟩), .string (s.extract a s.size)] w fun e w' => ∃ D', e = .returned (.tuple #[.int .i64 (lf a).1, .int .i64 (lf a).2]) ∧ Good (a + 1) B D' ∧ Fx w' D' ∧ w.grownBy w' (some B) ∧ (∀ p ∈ D', (∃ q ∈ D, q.1 = p.1) ∨ w.heap.size ≤ p.1)))
    (HG : Hid (∀ a b B D, Good a B D → a ≤ b → Good b B D)) (HB : Hid (∀ a B D, Good a B D → ∃ o, (B, o) ∈ D)) (HF : Hid (∀ a, a < s.size → (lf a).2 ≤ s.size - a ∧ (lf a).1 ≤ 1048576)) :
    Calls Try.prog 8 #[.string base, .string s] W fun e w' => e = .returned (.string (str (mkd s lf 0 0 (digs base.size ++ digs s.size)))) ∧ Below W.heap.size W w' :=
  make_any2 base s lf Good W hb hs HNF (fun a B D w h1 h2 h3 => (HL.out a B D w h1 h2 h3).mono fun e w' ⟨D', h4, h5, h6⟩ => ⟨D', h4, HG.out _ _ _ _ h5 (by split <;> omega), h6⟩) HB HF
end Go.Proofs.Ytlgaindeheaodaa
