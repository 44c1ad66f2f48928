/-
  The walks of appendNumber, sharedSize and the flush of Make.
-/
import Derived.Test.YtlgaindeheaodaaDlApply
import Derived.Test.YtlgaindeheaodaaSqLinks
import Derived.Test.YtlgaindeheaodaaSqNum
import Derived.Outline
import Derived.StillTailTactics
import Derived.Deep.Cut
namespace Go.Proofs.Ytlgaindeheaodaa
open Go.RowKit

theorem row_lt {w : World} {P : Nat} {o : Obj} (hr : w.heap[P]? = some o) : P < w.heap.size := (Array.getElem?_eq_some_iff.mp hr).1
/-- A store into a block of one cell. -/
theorem one_set {w : World} {P : Nat} {u v : Value} {t : TypeId} (hr : w.heap[P]? = some (.cells #[u] t (0, 0))) : (w.setCell ⟨P, 0, none⟩ v).heap[P]? = some (.cells #[v] t (0, 0)) := by
  have h := heap_setCell_same w P 0 _ t v hr
  simpa using h
theorem row_set {w : World} {P Q : Nat} {o : Obj} {v : Value} (hr : w.heap[P]? = some o) (hPQ : P ≠ Q) : (w.setCell ⟨Q, 0, none⟩ v).heap[P]? = some o := (Below.heap_setCell w ⟨Q, 0, none⟩ v P hPQ).trans hr
/-- A row of its own over a store elsewhere. -/
theorem own_set {w : World} {base size n P : Nat} {e : TypeId} {v u : Value} {xs : List Value} (h : w.ownsRow base e size v n xs) (hne : v.ownBlock ≠ some P) : (w.setCell ⟨P, 0, none⟩ u).ownsRow base e size v n xs :=
  h.kept (row := some P) ⟨rfl, rfl, rfl, Nat.le_of_eq (by simp), fun k hk hkP => Below.heap_setCell w _ _ k (fun he => hkP (by rw [he]))⟩ (.inr hne)
theorem ow_shape {w : World} {base : Nat} {v : Value} {l : List UInt8} (h : Ow w base v l) : ∃ p cap, v = .slice p l.length cap := by
  rcases h.2 with ⟨rfl, hx⟩ | ⟨g, cap, cur, rfl, _⟩
  · have : l = [] := by cases l with
      | nil => rfl
      | cons a l => simp [bcells] at hx
    exact ⟨none, 0, by rw [this]; rfl⟩
  · exact ⟨_, _, rfl⟩
theorem below_new {W w : World} (h : Below W.heap.size W w) (o : Obj) : Below W.heap.size W (w.alloc o) := h.alloc h.size o
theorem below_own {W w w' : World} {base size n : Nat} {e : TypeId} {v : Value} {xs : List Value} (h : Below W.heap.size W w) (ho : w.ownsRow base e size v n xs) (hB : W.heap.size ≤ base) (hg : w.grownBy w' v.ownBlock) : Below W.heap.size W w' :=
  h.grown hg h.size (fun k hk => Nat.le_trans hB (ho.lt k hk).1)
theorem make_fun (P : Program) : ∀ (fn : Fn) (first cap : Array Value) (w : World), (Instr.makeFunc fn first cap).run P w = .ok (.func fn first cap) w := fun _ _ _ _ => rfl

set_option maxHeartbeats 1000000 in
set_option maxRecDepth 4000 in
theorem dAppNum_any (v : Value) (l : List UInt8) (n base : Nat) (w : World) (ho : Ow w base v l) (hb : base ≤ w.heap.size) (hn : n < 9223372036854775808) (hl : l.length ≤ 1099511627776) :
    Calls Try.prog 15 #[v, .int .i64 n] w fun e w' => ∃ v', e = .returned v' ∧ Ow w' base v' (l ++ digs n) ∧ w.grownBy w' v.ownBlock := by
  obtain ⟨i0, hi, hz0, hz1, hz2⟩ := info_parts Try.info5
  obtain ⟨p, hp⟩ : ∃ p, p = str (digs n) := ⟨_, rfl⟩
  have hpl : p.size ≤ 10 := by rw [hp, str_size]; exact digs_len64 (by omega)
  have HP : Hid (p = str (digs n)) := hp
  have i1 : IntKind.u64.wrap (n : Int) = (n : Int) := IntWalk.u64_in _ (by omega)
  clear hp
  go_enter Try.func15, Try.ntmps15
  go_wp2_with (first
    | (go_at_call 25; refine (put_nil n _ (by omega) p HP.out).mono ?_; rintro e w1 ⟨rfl, hb1⟩)
    | (at_builtin; refine Lib.wpList_append_own_string _ rfl _ _ 33 9 rfl base 5 i0 Try.underlying33 Try.underlying9 hi hz0 hz1 hz2 v l.length (bcells l) rfl (ho.below hb1) p rfl (by unfold maxLen; omega) (by omega) (Nat.le_trans hb hb1.size) ?_))
  intro v2 w2 ho2 hg2 _
  have hg3 : w.grownBy w2 v.ownBlock := ⟨hg2.os.trans hb1.os, hg2.tape.trans hb1.tape, hg2.output.trans hb1.output, Nat.le_trans hb1.size hg2.size, fun j hj hne => (hg2.block j (Nat.lt_of_lt_of_le hj hb1.size) hne).trans (hb1.block j hj)⟩
  have ho3 := Ow.add (by simp) ho2
  clear ho2 hg2 ho
  go_wp2
  go_ret
  exact ⟨_, rfl, by rw [show digs n = p.data.toList by rw [HP.out, str_list]]; exact ho3, hg3⟩

/-- A block that is no row of bytes. -/
def NoRow : Obj → Prop
  | .cells _ t _ => t ≠ 5
  | _ => True
/-- Blocks that are held. -/
def Fx (w : World) (D : List (Nat × Obj)) : Prop := ∀ p ∈ D, w.heap[p.1]? = some p.2 ∧ NoRow p.2
theorem Fx.own {w w' : World} {D : List (Nat × Obj)} {base size n : Nat} {v : Value} {xs : List Value} (h : Fx w D) (ho : w.ownsRow base 5 size v n xs) (hg : w.grownBy w' v.ownBlock) : Fx w' D := by
  intro p hp
  obtain ⟨h1, h2⟩ := h p hp
  refine ⟨(hg.block p.1 (row_lt h1) ?_).trans h1, h2⟩
  intro he
  rcases ho.2 with ⟨rfl, _⟩ | ⟨g, cap, cur, rfl, _, hr, _⟩
  · cases he
  · simp only [Value.ownBlock, Option.some.injEq] at he
    rw [he] at h1
    rw [h1] at hr
    simp only [Option.some.injEq] at hr
    rw [hr] at h2
    exact h2 rfl
theorem Fx.set {w : World} {D : List (Nat × Obj)} {P : Nat} {v : Value} (h : Fx w D) (hP : ∀ p ∈ D, p.1 ≠ P) : Fx (w.setCell ⟨P, 0, none⟩ v) D := fun p hp => ⟨row_set (h p hp).1 (hP p hp), (h p hp).2⟩
theorem Fx.alloc {w : World} {D : List (Nat × Obj)} (h : Fx w D) (o : Obj) : Fx (w.alloc o) D := fun p hp => ⟨row_alloc (h p hp).1 (row_lt (h p hp).1), (h p hp).2⟩

/-- What Make and its flush keep: the target, the row that is written, where the literal begins, where it ends, and the blocks of the finder. -/
structure JM (W : World) (bs bo ba bb : Nat) (s : ByteArray) (D : List (Nat × Obj)) (l : List UInt8) (st a : Nat) (w : World) : Prop where
  target : w.heap[bs]? = some (.cells #[.string s] 9 (0, 0))
  row : ∃ v, w.heap[bo]? = some (.cells #[v] 33 (0, 0)) ∧ Ow w W.heap.size v l
  start : w.heap[ba]? = some (.cells #[.int .i64 (st : Int)] 3 (0, 0))
  at' : w.heap[bb]? = some (.cells #[.int .i64 (a : Int)] 3 (0, 0))
  below : Below W.heap.size W w
  held : Fx w D
/-- The blocks are four, none of the finder's. -/
structure Ap (W : World) (bs bo ba bb : Nat) (D : List (Nat × Obj)) : Prop where
  s : W.heap.size ≤ bs ∧ bs ≠ bo ∧ bs ≠ ba ∧ bs ≠ bb
  o : W.heap.size ≤ bo ∧ bo ≠ ba ∧ bo ≠ bb
  a : W.heap.size ≤ ba ∧ ba ≠ bb
  b : W.heap.size ≤ bb
  d : ∀ p ∈ D, p.1 ≠ bs ∧ p.1 ≠ bo ∧ p.1 ≠ ba ∧ p.1 ≠ bb

theorem JM.setStart {W : World} {bs bo ba bb : Nat} {s : ByteArray} {D : List (Nat × Obj)} {l : List UInt8} {st a : Nat} {w : World} (ap : Ap W bs bo ba bb D) (h : JM W bs bo ba bb s D l st a w) (n : Nat) :
    JM W bs bo ba bb s D l n a (w.setCell ⟨ba, 0, none⟩ (.int .i64 n)) := by
  obtain ⟨v, h1, h2⟩ := h.row
  exact ⟨row_set h.target ap.s.2.2.1, ⟨v, row_set h1 ap.o.2.1, own_set h2 (own_ty h2 h.start (by decide))⟩, one_set h.start, row_set h.at' (Ne.symm ap.a.2), h.below.setCell ap.a.1 _, h.held.set (fun p hp => (ap.d p hp).2.2.1)⟩
theorem JM.setAt {W : World} {bs bo ba bb : Nat} {s : ByteArray} {D : List (Nat × Obj)} {l : List UInt8} {st a : Nat} {w : World} (ap : Ap W bs bo ba bb D) (h : JM W bs bo ba bb s D l st a w) (n : Nat) :
    JM W bs bo ba bb s D l st n (w.setCell ⟨bb, 0, none⟩ (.int .i64 n)) := by
  obtain ⟨v, h1, h2⟩ := h.row
  exact ⟨row_set h.target ap.s.2.2.2, ⟨v, row_set h1 ap.o.2.2, own_set h2 (own_ty h2 h.at' (by decide))⟩, row_set h.start ap.a.2, one_set h.at', h.below.setCell ap.b _, h.held.set (fun p hp => (ap.d p hp).2.2.2)⟩
/-- The row has grown, and is stored anew. -/
theorem JM.put {W : World} {bs bo ba bb : Nat} {s : ByteArray} {D : List (Nat × Obj)} {l l2 : List UInt8} {st a : Nat} {w w1 : World} {v v1 : Value} (ap : Ap W bs bo ba bb D) (h : JM W bs bo ba bb s D l st a w)
    (hv : w.heap[bo]? = some (.cells #[v] 33 (0, 0))) (ho : Ow w W.heap.size v l) (hg : w.grownBy w1 v.ownBlock) (ho1 : Ow w1 W.heap.size v1 l2) : JM W bs bo ba bb s D l2 st a (w1.setCell ⟨bo, 0, none⟩ v1) := by
  have k0 := own_row ho h.target (by decide) (row_lt h.target) hg
  have k1 := own_row ho hv (by decide) (row_lt hv) hg
  have k2 := own_row ho h.start (by decide) (row_lt h.start) hg
  have k3 := own_row ho h.at' (by decide) (row_lt h.at') hg
  exact ⟨row_set k0 ap.s.2.1, ⟨v1, one_set k1, own_set ho1 (own_ty ho1 k1 (by decide))⟩, row_set k2 (Ne.symm ap.o.2.1), row_set k3 (Ne.symm ap.o.2.2), (below_own h.below ho (Nat.le_refl _) hg).setCell ap.o.1 _, (h.held.own ho hg).set (fun p hp => (ap.d p hp).2.1)⟩
theorem JM.drew {W : World} {bs bo ba bb : Nat} {s : ByteArray} {D : List (Nat × Obj)} {l : List UInt8} {st a : Nat} {w : World} (h : JM W bs bo ba bb s D l st a w) : JM W bs bo ba bb s D l st a w.drew := by
  obtain ⟨v, h1, h2⟩ := h.row
  exact ⟨h.target, ⟨v, h1, h2.drew⟩, h.start, h.at', h.below.drew, h.held⟩
theorem JM.cells {W : World} {bs bo ba bb : Nat} {s : ByteArray} {D : List (Nat × Obj)} {l : List UInt8} {st a : Nat} {w : World} (h : JM W bs bo ba bb s D l st a w) :
    w.cell? ⟨bs, 0, none⟩ = some (.string s) ∧ w.cell? ⟨ba, 0, none⟩ = some (.int .i64 (st : Int)) ∧ w.cell? ⟨bb, 0, none⟩ = some (.int .i64 (a : Int)) ∧ w.frozen? ⟨ba, 0, none⟩ = false ∧ w.frozen? ⟨bb, 0, none⟩ = false ∧ w.frozen? ⟨bo, 0, none⟩ = false := by
  obtain ⟨v, h1, h2⟩ := h.row
  exact ⟨cell_of_row w bs 0 _ _ _ h.target, cell_of_row w ba 0 _ _ _ h.start, cell_of_row w bb 0 _ _ _ h.at', frozen_of_row w ba 0 _ _ h.start, frozen_of_row w bb 0 _ _ h.at', frozen_of_row w bo 0 _ _ h1⟩

set_option maxHeartbeats 2000000 in
set_option maxRecDepth 4000 in
theorem flush_any (W : World) (bs bo ba bb : Nat) (s : ByteArray) (D : List (Nat × Obj)) (l : List UInt8) (st a : Nat) (wx : World) (ap : Ap W bs bo ba bb D) (hj : JM W bs bo ba bb s D l st a wx) (hst : st ≤ a) (ha : a ≤ s.size) (hs : s.size ≤ 1048576) (hl : l.length ≤ 549755813888) :
    Calls Try.prog 17 #[.pointer (some ⟨ba, 0, none⟩), .pointer (some ⟨bb, 0, none⟩), .pointer (some ⟨bo, 0, none⟩), .pointer (some ⟨bs, 0, none⟩)] wx fun e w' => e = .returned (.tuple #[]) ∧ JM W bs bo ba bb s D (l ++ lit (s.extract st a).data.toList) a a w' := by
  obtain ⟨i0, hi, hz0, hz1, hz2⟩ := info_parts Try.info5
  have HAP := Lib.hid ap
  by_cases hlt : st < a
  · obtain ⟨t, ht⟩ : ∃ t, t = s.extract st a := ⟨_, rfl⟩
    have htz : t.size = a - st := by rw [ht, ByteArray.size_extract]; omega
    rw [← ht]
    have HT : Hid (s.extract st a = t) := ht.symm
    obtain ⟨n, hn⟩ : ∃ n, n = 2 * t.size := ⟨_, rfl⟩
    have HN : Hid (2 * ((a : Int) - (st : Int)) = (n : Int)) := by show _ = _; omega
    have hn63 : n < 9223372036854775808 := by omega
    have dl := digs_len64 (n := n) (by omega)
    have HL : Hid (lit t.data.toList = digs n ++ t.data.toList) := by
      show _ = _
      rw [lit_cons (by cases hx : t.data.toList with
        | nil => exact absurd (by rw [← list_len, hx]; rfl : t.size = 0) (by omega)
        | cons a t => rfl), list_len, hn]
    clear ht hn
    obtain ⟨c0, c1, c2, f0, f1, f2⟩ := hj.cells
    obtain ⟨v, h1, ho⟩ := hj.row
    obtain ⟨p, cap, rfl⟩ := ow_shape ho
    have c3 : wx.cell? ⟨bo, 0, none⟩ = some (.slice p l.length cap) := cell_of_row wx bo 0 _ _ _ h1
    have hbw := hj.below.size
    have H1 := Lib.hid h1
    have HJ := Lib.hid hj
    clear h1 hj
    go_enter Try.func17, Try.ntmps17
    go_upto_region 2 with (go_at_call 15; ((rw [HN.out]; with_reducible refine (dAppNum_any _ l n W.heap.size _ ho hbw hn63 (by omega)).mono ?_); rintro e w1 ⟨v1, rfl, ho1, hg1⟩; obtain ⟨M, hM⟩ : ∃ M, M = l ++ digs n := ⟨_, rfl⟩; rw [← hM] at ho1; have hML : M.length ≤ 1099511627776 := (by rw [hM, List.length_append]; omega); have HM := Lib.hid hM; clear hM; obtain ⟨p1, cap1, rfl⟩ := ow_shape ho1; have k1 := own_row ho H1.out (by decide) (row_lt H1.out) hg1; have kc1 : w1.cell? ⟨bo, 0, none⟩ = some _ := cell_of_row w1 bo 0 _ _ _ k1; have g1 := frozen_of_row w1 bo 0 _ _ k1; clear k1))
    have HJ1 := Lib.hid (JM.put HAP.out HJ.out H1.out ho hg1 ho1)
    clear ho1 hg1 g1 kc1 ho c0 c1 c2 c3 f0 f1 f2 H1 HJ
    obtain ⟨wA, hwA⟩ : ∃ wA, wA = w1.setCell ⟨bo, 0, none⟩ (.slice p1 M.length cap1) := ⟨_, rfl⟩
    rw [← hwA] at HJ1 ⊢
    clear hwA
    obtain ⟨c0, c1, c2, f0, f1, f2⟩ := HJ1.out.cells
    obtain ⟨v, h1, ho⟩ := HJ1.out.row
    obtain ⟨p, cap, rfl⟩ := ow_shape ho
    have c3 : wA.cell? ⟨bo, 0, none⟩ = some (.slice p M.length cap) := cell_of_row wA bo 0 _ _ _ h1
    have d1 : ¬ s.size < a := by omega
    go_still_tail 5, (by kernel_rfl)
    change wpList _ _ _ _ _ wA.drew
    have HJ2 := Lib.hid HJ1.out.drew
    have h1D : wA.drew.heap[bo]? = some (.cells #[.slice p M.length cap] 33 (0, 0)) := h1
    have hoD : Ow wA.drew W.heap.size (.slice p M.length cap) M := ho.drew
    have H1 := Lib.hid h1D
    clear c0 c1 c2 c3 f0 f1 f2 h1 ho HJ1 h1D
    generalize wA.drew = wD at HJ2 H1 hoD ⊢
    obtain ⟨c0, c1, c2, f0, f1, f2⟩ := HJ2.out.cells
    have hbw := HJ2.out.below.size
    have ho := hoD
    clear hoD
    rw [HT.out]
    go_upto_region 3 with (at_builtin; refine Lib.wpList_append_own_string _ rfl _ _ 33 9 rfl W.heap.size 5 i0 Try.underlying33 Try.underlying9 hi hz0 hz1 hz2 _ M.length (bcells M) rfl ho t rfl (by unfold maxLen; omega) (by omega) hbw ?_; intro v2 w2 ho2 hg2 _; have ho2 := Ow.add rfl ho2; obtain ⟨N, hN⟩ : ∃ N, N = M ++ t.data.toList := ⟨_, rfl⟩; rw [← hN] at ho2; have HNN := Lib.hid hN; clear hN; obtain ⟨p2, cap2, rfl⟩ := ow_shape ho2; have k1 := own_row ho H1.out (by decide) (row_lt H1.out) hg2; have kc1 : w2.cell? ⟨bo, 0, none⟩ = some _ := cell_of_row w2 bo 0 _ _ _ k1; have g1 := frozen_of_row w2 bo 0 _ _ k1; clear k1)
    have HJ3 := Lib.hid (JM.put HAP.out HJ2.out H1.out ho hg2 ho2)
    clear ho2 hg2 g1 kc1 ho c0 c1 c2 f0 f1 f2 H1 HJ2
    obtain ⟨wB, hwB⟩ : ∃ wB, wB = w2.setCell ⟨bo, 0, none⟩ (.slice p2 N.length cap2) := ⟨_, rfl⟩
    rw [← hwB] at HJ3 ⊢
    clear hwB
    obtain ⟨c0, c1, c2, f0, f1, f2⟩ := HJ3.out.cells
    have HJ4 := Lib.hid (HJ3.out.setStart HAP.out a)
    go_wp2
    refine bodyPost_end (results_none rfl _ _ _) rfl ?_
    exact ⟨rfl, by rw [HL.out, ← List.append_assoc, ← HM.out, ← HNN.out]; exact HJ4.out⟩
  · obtain rfl : st = a := by omega
    have HL : Hid (lit (s.extract st st).data.toList = []) := by
      show _ = _
      rw [empty_of_size (by rw [ByteArray.size_extract]; omega)]
      rfl
    obtain ⟨c0, c1, c2, f0, f1, f2⟩ := hj.cells
    have HJ := Lib.hid (hj.setStart ap st)
    clear hj hst
    go_enter Try.func17, Try.ntmps17
    go_wp2
    refine bodyPost_end (results_none rfl _ _ _) rfl ?_
    exact ⟨rfl, by rw [HL.out, List.append_nil]; exact HJ.out⟩
end Go.Proofs.Ytlgaindeheaodaa
