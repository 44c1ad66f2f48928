/-
  The walk of the function that follow makes.
-/
import Derived.Test.YtidghjalfbklnaaDfTab
import Derived.Test.YtidghjalfbklnaaDfRowsPk
namespace Go.Proofs.Ytidghjalfbklnaa
open Go.RowKit

/-- What a script that is written has of bounds: s + i and s + j are where the next edit begins. -/
structure Bd (s i j : Nat) (acc : List Ed) : Prop where
  each : ∀ l ∈ acc, 0 ≤ l.f ∧ 0 ≤ l.d ∧ l.f + l.d ≤ (s + i : Nat) ∧ 0 ≤ l.t ∧ 0 ≤ l.i ∧ l.t + l.i ≤ (s + j : Nat)
  len : acc.length ≤ i + j
theorem Bd.nil (s i j : Nat) : Bd s i j [] := ⟨fun _ h => absurd h (by simp), Nat.zero_le _⟩
theorem Bd.more {s i j i' j' : Nat} {acc : List Ed} (h : Bd s i j acc) (hi : i ≤ i') (hj : j ≤ j') : Bd s i' j' acc :=
  ⟨fun l hl => by have := h.each l hl; omega, by have := h.len; omega⟩
theorem Bd.ext {s i j d n : Nat} {acc : List Ed} (h : Bd s i j acc) (h1 : 1 ≤ d + n) : Bd s (i + d) (j + n) (ext acc ⟨(s + i : Nat), d, (s + j : Nat), n⟩) := by
  rcases List.eq_nil_or_concat acc with rfl | ⟨r, l, rfl⟩
  · rw [ext_nil]
    refine ⟨fun l hl => ?_, by simp; omega⟩
    obtain rfl := List.mem_singleton.mp hl
    simp only
    omega
  · rw [List.concat_eq_append] at h ⊢
    have hl := h.each l (by simp)
    have hlen := h.len
    rw [List.length_append, List.length_singleton] at hlen
    by_cases hf : l.f + l.d = ((s + i : Nat) : Int)
    · rw [ext_join r l _ hf]
      refine ⟨fun x hx => ?_, by rw [List.length_append, List.length_singleton]; omega⟩
      rcases List.mem_append.mp hx with hx | hx
      · have := h.each x (by simp [hx])
        omega
      · obtain rfl := List.mem_singleton.mp hx
        simp only
        omega
    · rw [ext_new r l _ hf]
      refine ⟨fun x hx => ?_, by rw [List.length_append, List.length_append, List.length_singleton, List.length_singleton]; omega⟩
      rcases List.mem_append.mp hx with hx | hx
      · have := h.each x hx
        omega
      · obtain rfl := List.mem_singleton.mp hx
        simp only
        omega
/-- The boxes of a script that is written: where it stands, and the two places. -/
structure JF (W Wt : World) (bs bi bj : Nat) (acc : List Ed) (i j : Nat) (w : World) : Prop where
  row : ∃ v, w.heap[bs]? = some (.cells #[v] 26 (0, 0)) ∧ EOw w Wt.heap.size v acc
  pi : w.heap[bi]? = some (.cells #[.int .i64 (i : Int)] 3 (0, 0))
  pj : w.heap[bj]? = some (.cells #[.int .i64 (j : Int)] 3 (0, 0))
  keep : ∀ k, k < Wt.heap.size → k ≠ bs → k ≠ bi → k ≠ bj → w.heap[k]? = Wt.heap[k]?
  size : Wt.heap.size ≤ w.heap.size
  below : Below W.heap.size W w
/-- The boxes are three. -/
structure Bx (W Wt : World) (bs bi bj : Nat) : Prop where
  s : W.heap.size ≤ bs ∧ bs < Wt.heap.size ∧ bs ≠ bi ∧ bs ≠ bj
  i : W.heap.size ≤ bi ∧ bi < Wt.heap.size ∧ bi ≠ bj
  j : W.heap.size ≤ bj ∧ bj < Wt.heap.size
theorem eow_set {w : World} {base B : Nat} {v u : Value} {l : List Ed} (h : EOw w base v l) (hB : B < base) : EOw (w.setCell ⟨B, 0, none⟩ u) base v l := own_set h (by
  intro he
  rcases h.2 with ⟨rfl, _⟩ | ⟨g, cap, cur, rfl, hg, _⟩
  · cases he
  · simp only [Value.ownBlock, Option.some.injEq] at he
    omega)
theorem JF.setI {W Wt : World} {bs bi bj : Nat} {acc : List Ed} {i j : Nat} {w : World} (bx : Bx W Wt bs bi bj) (h : JF W Wt bs bi bj acc i j w) (n : Nat) : JF W Wt bs bi bj acc n j (w.setCell ⟨bi, 0, none⟩ (.int .i64 n)) := by
  obtain ⟨v, h1, h2⟩ := h.row
  exact ⟨⟨v, row_set h1 bx.s.2.2.1, eow_set h2 bx.i.2.1⟩, one_set h.pi, row_set h.pj (Ne.symm bx.i.2.2), fun k h3 h4 h5 h6 => (Below.heap_setCell w ⟨bi, 0, none⟩ _ k h5).trans (h.keep k h3 h4 h5 h6), by simpa using h.size, h.below.setCell bx.i.1 _⟩
theorem JF.setJ {W Wt : World} {bs bi bj : Nat} {acc : List Ed} {i j : Nat} {w : World} (bx : Bx W Wt bs bi bj) (h : JF W Wt bs bi bj acc i j w) (n : Nat) : JF W Wt bs bi bj acc i n (w.setCell ⟨bj, 0, none⟩ (.int .i64 n)) := by
  obtain ⟨v, h1, h2⟩ := h.row
  exact ⟨⟨v, row_set h1 bx.s.2.2.2, eow_set h2 bx.j.2⟩, row_set h.pi bx.i.2.2, one_set h.pj, fun k h3 h4 h5 h6 => (Below.heap_setCell w ⟨bj, 0, none⟩ _ k h6).trans (h.keep k h3 h4 h5 h6), by simpa using h.size, h.below.setCell bx.j.1 _⟩
/-- The row has grown, and is stored anew. -/
theorem JF.put {W Wt : World} {bs bi bj : Nat} {acc acc2 : List Ed} {i j : Nat} {w w1 : World} {v1 : Value} (bx : Bx W Wt bs bi bj) (hW : W.heap.size ≤ Wt.heap.size) (h : JF W Wt bs bi bj acc i j w) (hb : Below Wt.heap.size w w1) (ho1 : EOw w1 Wt.heap.size v1 acc2) : JF W Wt bs bi bj acc2 i j (w1.setCell ⟨bs, 0, none⟩ v1) := by
  obtain ⟨v, h1, _⟩ := h.row
  have k0 := (hb.block bs bx.s.2.1).trans h1
  have k1 := (hb.block bi bx.i.2.1).trans h.pi
  have k2 := (hb.block bj bx.j.2).trans h.pj
  exact ⟨⟨v1, one_set k0, eow_set ho1 bx.s.2.1⟩, row_set k1 (Ne.symm bx.s.2.2.1), row_set k2 (Ne.symm bx.s.2.2.2), fun k h3 h4 h5 h6 => (Below.heap_setCell w1 ⟨bs, 0, none⟩ _ k h4).trans ((hb.block k h3).trans (h.keep k h3 h4 h5 h6)), by simpa using Nat.le_trans h.size hb.size, (h.below.trans (hb.mono hW)).setCell bx.s.1 _⟩
theorem JF.drewN {W Wt : World} {bs bi bj : Nat} {acc : List Ed} {i j : Nat} {w : World} (h : JF W Wt bs bi bj acc i j w) (n : Nat) : JF W Wt bs bi bj acc i j (w.drewN n) := by
  obtain ⟨v, h1, h2⟩ := h.row
  exact ⟨⟨v, h1, eow_below h2 (below_drewN (Below.refl _ _) n)⟩, h.pi, h.pj, h.keep, h.size, below_drewN h.below n⟩
theorem JF.cells {W Wt : World} {bs bi bj : Nat} {acc : List Ed} {i j : Nat} {w : World} (h : JF W Wt bs bi bj acc i j w) :
    w.cell? ⟨bi, 0, none⟩ = some (.int .i64 (i : Int)) ∧ w.cell? ⟨bj, 0, none⟩ = some (.int .i64 (j : Int)) ∧ w.frozen? ⟨bi, 0, none⟩ = false ∧ w.frozen? ⟨bj, 0, none⟩ = false ∧ w.frozen? ⟨bs, 0, none⟩ = false := by
  obtain ⟨v, h1, h2⟩ := h.row
  exact ⟨cell_of_row w bi 0 _ _ _ h.pi, cell_of_row w bj 0 _ _ _ h.pj, frozen_of_row w bi 0 _ _ h.pi, frozen_of_row w bj 0 _ _ h.pj, frozen_of_row w bs 0 _ _ h1⟩

theorem EOw.shape' {w : World} {base : Nat} {v : Value} {l : List Ed} (h : EOw w base v l) : ∃ p n cap, v = .slice p n cap := by
  obtain ⟨p, cap, h⟩ := h.shape
  exact ⟨p, _, cap, h⟩
set_option maxHeartbeats 2000000 in
set_option maxRecDepth 4000 in
theorem change_any (W Wt : World) (bs bt bi bj s : Nat) (acc : List Ed) (i j d n : Nat) (wx : World) (bx : Bx W Wt bs bi bj) (hW : W.heap.size ≤ Wt.heap.size) (hj : JF W Wt bs bi bj acc i j wx) (hB : Bd s i j acc)
    (ht : bt < Wt.heap.size ∧ bt ≠ bs ∧ bt ≠ bi ∧ bt ≠ bj) (hst : Wt.heap[bt]? = some (.cells #[.int .i64 (s : Int)] 3 (0, 0))) (hs : s ≤ 8192) (hi : i ≤ 8192) (hj2 : j ≤ 8192) (hd : d ≤ 8192) (hn : n ≤ 8192) :
    Calls Try.prog 70 #[.int .i64 (d : Int), .int .i64 (n : Int), .pointer (some ⟨bs, 0, none⟩), .pointer (some ⟨bt, 0, none⟩), .pointer (some ⟨bi, 0, none⟩), .pointer (some ⟨bj, 0, none⟩)] wx fun e w' => e = .returned (.tuple #[]) ∧ JF W Wt bs bi bj (ext acc ⟨(s + i : Nat), d, (s + j : Nat), n⟩) (i + d) (j + n) w' := by
  have hlast : ∀ r l, acc = r ++ [l] → 0 ≤ l.f ∧ 0 ≤ l.d ∧ l.f ≤ 1099511627776 ∧ l.d ≤ 1099511627776 ∧ 0 ≤ l.i ∧ l.i ≤ 1099511627776 := fun r l e => by
    have := hB.each l (by rw [e]; simp)
    omega
  have hlen : acc.length ≤ 1048576 := by have := hB.len; omega
  obtain ⟨F, hF⟩ : ∃ F, F = s + i := ⟨_, rfl⟩
  obtain ⟨G, hG⟩ : ∃ G, G = s + j := ⟨_, rfl⟩
  obtain ⟨I, hI⟩ : ∃ I, I = i + d := ⟨_, rfl⟩
  obtain ⟨J, hJ⟩ : ∃ J, J = j + n := ⟨_, rfl⟩
  rw [← hF, ← hG, ← hI, ← hJ]
  have i1 : IntKind.i64.wrap ((s : Int) + (i : Int)) = (F : Int) := by rw [IntWalk.i64_in _ (by omega)]; omega
  have i2 : IntKind.i64.wrap ((s : Int) + (j : Int)) = (G : Int) := by rw [IntWalk.i64_in _ (by omega)]; omega
  have i3 : IntKind.i64.wrap ((i : Int) + (d : Int)) = (I : Int) := by rw [IntWalk.i64_in _ (by omega)]; omega
  have i4 : IntKind.i64.wrap ((j : Int) + (n : Int)) = (J : Int) := by rw [IntWalk.i64_in _ (by omega)]; omega
  clear hF hG hI hJ
  have HBX := Lib.hid bx
  obtain ⟨c0, c1, f0, f1, f2⟩ := hj.cells
  obtain ⟨v, h1, ho⟩ := hj.row
  have c2 : wx.cell? ⟨bs, 0, none⟩ = some v := cell_of_row wx bs 0 _ _ _ h1
  have c3 : wx.cell? ⟨bt, 0, none⟩ = some (.int .i64 (s : Int)) := cell_of_row wx bt 0 _ _ _ ((hj.keep bt ht.1 ht.2.1 ht.2.2.1 ht.2.2.2).trans hst)
  have HJ := Lib.hid hj
  have HL := Lib.hid hlast
  have hsz := hj.size
  have HW := Lib.hid hW
  have HB := Lib.hid hB
  have k2 := bx.s.2.1
  clear h1 hj hlast bx ht hst hW hB
  go_enter Try.func70, Try.ntmps70
  go_upto_region 1 with (go_at_call 71; ((with_reducible refine (extended_any acc ⟨(F : Int), d, (G : Int), n⟩ v Wt.heap.size wx ho hsz hlen HL.out (by simp only; omega)).mono ?_); rintro e w1 ⟨⟨v1, rfl, ho1⟩, hb1⟩; obtain ⟨p1, n1, cap1, rfl⟩ := ho1.shape'; obtain ⟨x1, hx1⟩ : ∃ x1, w1.cell? ⟨bs, 0, none⟩ = some x1 := ⟨v, (hb1.cell (p := ⟨bs, 0, none⟩) k2).trans c2⟩; have g1 : w1.frozen? ⟨bs, 0, none⟩ = false := frozen_of_row w1 bs 0 _ _ ((hb1.block bs k2).trans HJ.out.row.choose_spec.1)))
  have HJ1 := Lib.hid (JF.put HBX.out HW.out HJ.out hb1 ho1)
  clear ho1 hb1 g1 hx1 ho c0 c1 c2 c3 f0 f1 f2 HJ
  obtain ⟨wA, hwA⟩ : ∃ wA, wA = w1.setCell ⟨bs, 0, none⟩ (.slice p1 n1 cap1) := ⟨_, rfl⟩
  rw [← hwA] at HJ1 ⊢
  clear hwA
  obtain ⟨c0, c1, f0, f1, f2⟩ := HJ1.out.cells
  go_upto_region 2 with fail
  have HJ2 := Lib.hid (HJ1.out.setI HBX.out I)
  clear c0 c1 f0 f1 f2 HJ1
  obtain ⟨wB, hwB⟩ : ∃ wB, wB = wA.setCell ⟨bi, 0, none⟩ (.int .i64 (I : Int)) := ⟨_, rfl⟩
  rw [← hwB] at HJ2 ⊢
  clear hwB
  obtain ⟨c0, c1, f0, f1, f2⟩ := HJ2.out.cells
  have HJ3 := Lib.hid (HJ2.out.setJ HBX.out J)
  go_wp2
  refine bodyPost_end (results_none rfl _ _ _) rfl ?_
  exact ⟨rfl, HJ3.out⟩
end Go.Proofs.Ytidghjalfbklnaa
