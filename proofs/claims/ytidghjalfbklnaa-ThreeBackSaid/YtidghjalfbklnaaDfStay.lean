/-
  The walk of the reference's Stay; boxes shared with a function that is made: a row and two numbers; the walk of Unchanged.
-/
import Derived.Test.YtidghjalfbklnaaDfRowsPk
import Derived.Test.YtidghjalfbklnaaDfFollow
namespace Go.Proofs.Ytidghjalfbklnaa
open Go.RowKit

theorem stL_yes {W : Int → Int} {n : Int} {e : Ed} {i : Int} (h : i < e.f) (l : List Ed) (j : Int) (acc : List Rn) : stL W n (e :: l) i j acc = stL W n l (W (e.f + e.d)) (W (e.t + e.i)) (acc ++ [⟨i, j, W (e.f - i)⟩]) := by rw [stL, if_pos h]
theorem stL_no {W : Int → Int} {n : Int} {e : Ed} {i : Int} (h : ¬ i < e.f) (l : List Ed) (j : Int) (acc : List Rn) : stL W n (e :: l) i j acc = stL W n l (W (e.f + e.d)) (W (e.t + e.i)) acc := by rw [stL, if_neg h]

set_option maxHeartbeats 2000000 in
set_option maxRecDepth 4000 in
theorem stay_any (es : List Ed) (p : Option Addr) (c l : Nat) (n : Int) (w : World) (hle : l = es.length) (hp : ERw w p es) (hl : l ≤ 1000000) :
    Calls Try.prog 78 #[.slice p l c, .int .i64 n] w fun e w' => (∃ v, e = .returned v ∧ ROw w' w.heap.size v (stL wrap64 n es 0 0 [])) ∧ Below w.heap.size w w' := by
  obtain ⟨i0, hi, hz0, hz1, hz2⟩ := info_parts Try.infoRn
  have HLE := Lib.hid hle
  have HP := Lib.hid hp
  obtain ⟨R, hR⟩ : ∃ R, R = stL wrap64 n es 0 0 [] := ⟨_, rfl⟩
  rw [← hR]
  have HB : Hid (R = stL wrap64 n (es.drop 0) 0 0 []) := hR
  clear hle hp hR
  go_enter Try.func78, Try.ntmps78
  go_wp2
  go_loopw [11, 5, 6, 7] (fun kv ov xv yv wr => ∃ (k L : Nat) (i j : Int) (acc : List Rn) (q : Option Addr) (cap : Nat), k ≤ l ∧ L ≤ k ∧ kv = .int .i64 k ∧ ov = .slice q L cap ∧ xv = .int .i64 i ∧ yv = .int .i64 j ∧ Hid (L = acc.length) ∧ Hid (ROw wr w.heap.size (.slice q L cap) acc) ∧ Hid (R = stL wrap64 n (es.drop k) i j acc) ∧ Hid (Below w.heap.size w wr)) (fun kv _ _ _ _ => l - (intOf kv).toNat)
  case atStart => exact ⟨0, 0, 0, 0, [], none, 0, by omega, by omega, rfl, rfl, rfl, rfl, rfl, ROw.nil _ _, HB.out, Below.refl _ _⟩
  case round =>
    clear HB
    obtain ⟨k, L, i, j, acc, q, cap, hk, hL, rfl, rfl, rfl, rfl, HL, HO, HB, HW⟩ := hrel
    have hws := HW.out.size
    by_cases hlt : k < l
    · have hka : k < es.length := by rw [← HLE.out]; omega
      have HNOW := Lib.hid (fun w' (hb : Below w.heap.size w w') => HP.out.now hb k hka)
      obtain ⟨g, o, rfl, hg, a0, a1, a2, a3⟩ := HNOW.out _ HW.out
      have hX := HB.out
      rw [List.drop_eq_getElem_cons hka] at hX
      obtain ⟨e, he⟩ : ∃ e, e = es[k] := ⟨_, rfl⟩
      rw [← he] at a0 a1 a2 a3 hX HNOW
      obtain ⟨f, d, t, x⟩ := e
      simp only at a0 a1 a2 a3
      clear he hka HB
      by_cases hif : i < f
      · have HX : Hid (R = stL wrap64 n (es.drop (k + 1)) (wrap64 (f + d)) (wrap64 (t + x)) (acc ++ [⟨i, j, wrap64 (f - i)⟩])) := by show _ = _; rw [hX, stL_yes hif]
        have ho := HO.out.of HL.out
        clear hX
        go_upto_region 9 with (at_builtin; refine wpList_append_own _ rfl _ _ 54 rfl w.heap.size 48 i0 (.agg #[.int .i64 0, .int .i64 0, .int .i64 0]) 3 24 Try.underlying54 hi hz0 hz1 hz2 rfl (by decide) _ _ _ rfl (ho.alloc _) ⟨wr.heap.size, 0, none⟩ 1 1 (Rn.cells ⟨i, j, wrap64 (f - i)⟩) rfl rfl (new_rn wr ⟨i, j, wrap64 (f - i)⟩ _) (rn_one _) (by unfold maxLen; omega) (by omega) (by simp; omega) ?_; intro v1 w1 ho1 hg1 _)
        have ho1' := ROw.push HL.out ho1
        obtain ⟨q1, cap1, rfl⟩ := ho1'.shapeN (n := L + 1) (by rw [List.length_append, ← HL.out, List.length_singleton])
        have HO1 := Lib.hid ho1'
        have HW1 := Lib.hid ((below_new HW.out _).grown hg1 (by simp; omega) (fun j hj => (ho.lt j hj).1))
        clear a0 a1 a2 a3 ho1 ho1' hg1 ho
        obtain ⟨g', o', hgo, hg', a0, a1, a2, a3⟩ := HNOW.out _ HW1.out
        simp only [Option.some.injEq, Addr.mk.injEq] at hgo
        obtain ⟨rfl, rfl, _⟩ := hgo
        simp only at a0 a1 a2 a3
        go_quiet (fail)
        go_wp2
        go_quiet (fail)
        go_wp2
        go_roundw
        case rel => exact ⟨k + 1, L + 1, _, _, _, q1, cap1, by omega, by omega, by go_num, rfl, rfl, rfl, by show _ = _; rw [List.length_append, ← HL.out, List.length_singleton], HO1.out.below (below_drewN (Below.refl _ _) _), HX.out, below_drewN HW1.out _⟩
        case measure => simp [intOf]; omega
      · have HX : Hid (R = stL wrap64 n (es.drop (k + 1)) (wrap64 (f + d)) (wrap64 (t + x)) acc) := by show _ = _; rw [hX, stL_no hif]
        clear hX
        go_upto_region 9 with fail
        go_quiet (fail)
        go_wp2
        go_quiet (fail)
        go_wp2
        go_roundw
        case rel => exact ⟨k + 1, L, _, _, _, q, cap, by omega, by omega, by go_num, rfl, rfl, rfl, HL.out, HO.out.below (below_drewN (Below.refl _ _) _), HX.out, below_drewN HW.out _⟩
        case measure => simp [intOf]; omega
    · obtain rfl : k = l := by omega
      have hX := HB.out
      rw [HLE.out, List.drop_length, stL] at hX
      by_cases hin : i < n
      · rw [if_pos hin] at hX
        have HX := Lib.hid hX
        have ho := HO.out.of HL.out
        clear hX HB
        go_wp2_with (at_builtin; refine wpList_append_own _ rfl _ _ 54 rfl w.heap.size 48 i0 (.agg #[.int .i64 0, .int .i64 0, .int .i64 0]) 3 24 Try.underlying54 hi hz0 hz1 hz2 rfl (by decide) _ _ _ rfl (ho.alloc _) ⟨wr.heap.size, 0, none⟩ 1 1 (Rn.cells ⟨i, j, wrap64 (n - i)⟩) rfl rfl (new_rn wr ⟨i, j, wrap64 (n - i)⟩ _) (rn_one _) (by unfold maxLen; omega) (by omega) (by simp; omega) ?_; intro v1 w1 ho1 hg1 _; have HO1 := Lib.hid (ROw.push HL.out ho1); have HW1 := Lib.hid ((below_new HW.out _).grown hg1 (by simp; omega) (fun j hj => (ho.lt j hj).1)); clear ho1 hg1)
        go_ret
        exact ⟨⟨_, rfl, by rw [HX.out]; exact HO1.out⟩, HW1.out⟩
      · rw [if_neg hin] at hX
        have HX := Lib.hid hX
        clear hX HB
        go_wp2
        go_ret
        exact ⟨⟨_, rfl, by rw [HX.out]; exact HO.out⟩, HW.out⟩

/-- The boxes of a row that is written and of two places. -/
structure JB (W : World) (base bs bi bj : Nat) (ty E : TypeId) (sz n : Nat) (xs : List Value) (i j : Int) (w : World) : Prop where
  row : ∃ v, w.heap[bs]? = some (.cells #[v] ty (0, 0)) ∧ w.ownsRow base E sz v n xs
  pi : w.heap[bi]? = some (.cells #[.int .i64 i] 3 (0, 0))
  pj : w.heap[bj]? = some (.cells #[.int .i64 j] 3 (0, 0))
  size : base ≤ w.heap.size
  below : Below W.heap.size W w
/-- The boxes are three, ahead of the rows. -/
structure BB (W : World) (base bs bi bj : Nat) : Prop where
  s : W.heap.size ≤ bs ∧ bs < base ∧ bs ≠ bi ∧ bs ≠ bj
  i : W.heap.size ≤ bi ∧ bi < base ∧ bi ≠ bj
  j : W.heap.size ≤ bj ∧ bj < base
section
variable {W : World} {base bs bi bj : Nat} {ty E : TypeId} {sz n : Nat} {xs : List Value} {i j : Int} {w : World}
theorem JB.setI (bx : BB W base bs bi bj) (h : JB W base bs bi bj ty E sz n xs i j w) (x : Int) : JB W base bs bi bj ty E sz n xs x j (w.setCell ⟨bi, 0, none⟩ (.int .i64 x)) := by
  obtain ⟨v, h1, h2⟩ := h.row
  exact ⟨⟨v, row_set h1 bx.s.2.2.1, own_set h2 (fun he => by have := (h2.lt _ he).1; have := bx.i; omega)⟩, one_set h.pi, row_set h.pj (Ne.symm bx.i.2.2), by simpa using h.size, h.below.setCell bx.i.1 _⟩
theorem JB.setJ (bx : BB W base bs bi bj) (h : JB W base bs bi bj ty E sz n xs i j w) (x : Int) : JB W base bs bi bj ty E sz n xs i x (w.setCell ⟨bj, 0, none⟩ (.int .i64 x)) := by
  obtain ⟨v, h1, h2⟩ := h.row
  exact ⟨⟨v, row_set h1 bx.s.2.2.2, own_set h2 (fun he => by have := (h2.lt _ he).1; have := bx.j; omega)⟩, row_set h.pi bx.i.2.2, one_set h.pj, by simpa using h.size, h.below.setCell bx.j.1 _⟩
theorem JB.alloc (h : JB W base bs bi bj ty E sz n xs i j w) (o : Obj) : JB W base bs bi bj ty E sz n xs i j (w.alloc o) := by
  obtain ⟨v, h1, h2⟩ := h.row
  exact ⟨⟨v, row_alloc h1 (row_lt h1), h2.alloc o⟩, row_alloc h.pi (row_lt h.pi), row_alloc h.pj (row_lt h.pj), by have := h.size; simp; omega, below_new h.below o⟩
theorem JB.drewN (h : JB W base bs bi bj ty E sz n xs i j w) (k : Nat) : JB W base bs bi bj ty E sz n xs i j (w.drewN k) := by
  obtain ⟨v, h1, h2⟩ := h.row
  exact ⟨⟨v, h1, own_below h2 (below_drewN (Below.refl _ _) k)⟩, h.pi, h.pj, h.size, below_drewN h.below k⟩
theorem JB.cells (h : JB W base bs bi bj ty E sz n xs i j w) : w.cell? ⟨bi, 0, none⟩ = some (.int .i64 i) ∧ w.cell? ⟨bj, 0, none⟩ = some (.int .i64 j) ∧ w.frozen? ⟨bi, 0, none⟩ = false ∧ w.frozen? ⟨bj, 0, none⟩ = false ∧ w.frozen? ⟨bs, 0, none⟩ = false := by
  obtain ⟨v, h1, h2⟩ := h.row
  exact ⟨cell_of_row w bi 0 _ _ _ h.pi, cell_of_row w bj 0 _ _ _ h.pj, frozen_of_row w bi 0 _ _ h.pi, frozen_of_row w bj 0 _ _ h.pj, frozen_of_row w bs 0 _ _ h1⟩
/-- The row has grown, and is stored anew. -/
theorem JB.put (bx : BB W base bs bi bj) (h : JB W base bs bi bj ty E sz n xs i j w) {v v1 : Value} {w1 : World} {n1 : Nat} {ys : List Value} (ho : w.ownsRow base E sz v n xs) (hs : w.heap[bs]? = some (.cells #[v] ty (0, 0))) (hg : w.grownBy w1 v.ownBlock) (ho1 : w1.ownsRow base E sz v1 n1 ys) :
    JB W base bs bi bj ty E sz n1 ys i j (w1.setCell ⟨bs, 0, none⟩ v1) := by
  have hne : ∀ b, b < base → v.ownBlock ≠ some b := fun b hb he => by have := (ho.lt _ he).1; omega
  have k0 := (hg.block bs (row_lt hs) (fun he => hne _ bx.s.2.1 he.symm)).trans hs
  have k1 := (hg.block bi (row_lt h.pi) (fun he => hne _ bx.i.2.1 he.symm)).trans h.pi
  have k2 := (hg.block bj (row_lt h.pj) (fun he => hne _ bx.j.2 he.symm)).trans h.pj
  have hz := hg.size
  have hz2 := h.size
  have h1 := bx.s.1
  have h2 := bx.s.2.1
  exact ⟨⟨v1, one_set k0, own_set ho1 (fun he => by have := (ho1.lt _ he).1; omega)⟩, row_set k1 (Ne.symm bx.s.2.2.1), row_set k2 (Ne.symm bx.s.2.2.2), by simp; omega,
    ((h.below.grown hg (Nat.le_trans (by omega) hz2) (fun b hb => by have := (ho.lt b hb).1; omega))).setCell bx.s.1 _⟩
end
/-- What a call leaves of blocks that are no rows of E. -/
def Kept (base : Nat) (E : TypeId) (w w' : World) : Prop := ∀ b c t, t ≠ E → base ≤ b → w.heap[b]? = some (.cells c t (0, 0)) → w'.heap[b]? = some (.cells c t (0, 0))
theorem kept_put {w w1 : World} {base bs sz n : Nat} {E : TypeId} {v v1 : Value} {xs : List Value} (ho : w.ownsRow base E sz v n xs) (hg : w.grownBy w1 v.ownBlock) (hb : bs < base) : Kept base E w (w1.setCell ⟨bs, 0, none⟩ v1) := fun b c t ht h1 h2 =>
  row_set (own_row ho h2 ht (row_lt h2) hg) (by omega)
theorem kept_alloc {w w1 : World} {base : Nat} {E : TypeId} {o : Obj} (h : Kept base E (w.alloc o) w1) : Kept base E w w1 := fun b c t ht h1 h2 => h b c t ht h1 (row_alloc h2 (row_lt h2))

/-- A run more, where there is one. -/
def stRun (i j en : Int) (acc : List Rn) : List Rn := if i < en then acc ++ [⟨i, j, wrap64 (en - i)⟩] else acc
theorem stRun_yes {i j en : Int} (h : i < en) (acc : List Rn) : stRun i j en acc = acc ++ [⟨i, j, wrap64 (en - i)⟩] := if_pos h
theorem stRun_no {i j en : Int} (h : ¬ i < en) (acc : List Rn) : stRun i j en acc = acc := if_neg h
theorem stRun_len (i j en : Int) (acc : List Rn) : (stRun i j en acc).length ≤ acc.length + 1 := by
  unfold stRun
  split <;> simp

abbrev JS (W : World) (base bs bi bj : Nat) (acc : List Rn) (i j : Int) (w : World) : Prop := JB W base bs bi bj 54 48 3 acc.length (rcells acc) i j w
set_option maxHeartbeats 2000000 in
set_option maxRecDepth 4000 in
theorem keep_any (W : World) (base bs bi bj : Nat) (acc : List Rn) (i j en : Int) (wx : World) (bx : BB W base bs bi bj) (h : JS W base bs bi bj acc i j wx) (hl : acc.length ≤ 1048575) :
    Calls Try.prog 96 #[.int .i64 en, .pointer (some ⟨bi, 0, none⟩), .pointer (some ⟨bs, 0, none⟩), .pointer (some ⟨bj, 0, none⟩)] wx fun e w' => e = .returned (.tuple #[]) ∧ JS W base bs bi bj (stRun i j en acc) i j w' ∧ Kept base 48 wx w' := by
  obtain ⟨i0, hi, hz0, hz1, hz2⟩ := info_parts Try.infoRn
  obtain ⟨c0, c1, f0, f1, f2⟩ := h.cells
  obtain ⟨v, h1, ho⟩ := h.row
  have c2 : wx.cell? ⟨bs, 0, none⟩ = some v := cell_of_row wx bs 0 _ _ _ h1
  have H1 := Lib.hid h1
  have HJ := Lib.hid h
  have hsz := h.size
  have HBX := Lib.hid bx
  have hbl : bs < base := bx.s.2.1
  obtain ⟨L, hL⟩ : ∃ L, L = acc.length := ⟨_, rfl⟩
  have ho' : wx.ownsRow base 48 3 v L (rcells acc) := by rw [hL]; exact ho
  obtain ⟨p, cap, rfl⟩ := ROw.shapeN ho hL
  have hL2 : L ≤ 1048575 := by omega
  have HL := Lib.hid hL
  have HO := Lib.hid ho
  clear h1 h bx ho hL hl
  by_cases hie : i < en
  · have HX : Hid (stRun i j en acc = acc ++ [⟨i, j, wrap64 (en - i)⟩]) := stRun_yes hie acc
    go_enter Try.func96, Try.ntmps96
    go_wp2_with (at_builtin; refine wpList_append_own _ rfl _ _ 54 rfl base 48 i0 (.agg #[.int .i64 0, .int .i64 0, .int .i64 0]) 3 24 Try.underlying54 hi hz0 hz1 hz2 rfl (by decide) _ _ _ rfl (ho'.alloc _) ⟨wx.heap.size, 0, none⟩ 1 1 (Rn.cells ⟨i, j, wrap64 (en - i)⟩) rfl rfl (new_rn wx ⟨i, j, wrap64 (en - i)⟩ _) (rn_one _) (by unfold maxLen; omega) (by omega) (by simp; omega) ?_; intro v1 w1 ho1 hg1 _; have hrow := ROw.push HL.out ho1; obtain ⟨q1, cap1, rfl⟩ := hrow.shapeN (n := L + 1) (by rw [List.length_append, ← HL.out, List.length_singleton]); have k0 := (hg1.block bs (by have := row_lt H1.out; simp; omega) (fun he => by have := (ho'.lt _ he.symm).1; omega)).trans (row_alloc H1.out (row_lt H1.out)); have c4 := cell_of_row w1 bs 0 _ _ _ k0; have f4 := frozen_of_row w1 bs 0 _ _ k0; have HJ1 := Lib.hid (JB.put HBX.out (JB.alloc HJ.out _) (HO.out.alloc _) (row_alloc H1.out (row_lt H1.out)) hg1 hrow); have HK := Lib.hid (kept_alloc (kept_put (v1 := .slice q1 (L + 1) cap1) (HO.out.alloc _) hg1 hbl)); clear ho1 hg1 hrow)
    refine bodyPost_end (results_none rfl _ _ _) rfl ?_
    exact ⟨rfl, by rw [HX.out]; exact HJ1.out, HK.out⟩
  · have HX : Hid (stRun i j en acc = acc) := stRun_no hie acc
    go_enter Try.func96, Try.ntmps96
    go_wp2
    refine bodyPost_end (results_none rfl _ _ _) rfl ?_
    exact ⟨rfl, by rw [HX.out]; exact HJ.out, fun _ _ _ _ _ h => h⟩

theorem ROw.lower {w : World} {base base' : Nat} {v : Value} {l : List Rn} (h : ROw w base v l) (hb : base' ≤ base) : ROw w base' v l := by
  refine ⟨h.1, ?_⟩
  rcases h.2 with hn | ⟨g, cap, cur, rfl, h1, rest⟩
  · exact .inl hn
  · exact .inr ⟨g, cap, cur, rfl, Nat.le_trans hb h1, rest⟩
theorem heap3 (w : World) (o0 o1 o2 : Obj) {W : World} (h : W = ((w.alloc o0).alloc o1).alloc o2) :
    W.heap[w.heap.size]? = some o0 ∧ W.heap[w.heap.size + 1]? = some o1 ∧ W.heap[w.heap.size + 1 + 1]? = some o2 ∧ W.heap.size = w.heap.size + 3 ∧ Below w.heap.size w W := by
  subst h
  have s1 : (w.alloc o0).heap.size = w.heap.size + 1 := by simp
  have s2 : ((w.alloc o0).alloc o1).heap.size = w.heap.size + 1 + 1 := by simp
  have h0 := heap_alloc_new w o0
  have h1 := heap_alloc_new (w.alloc o0) o1
  have h2 := heap_alloc_new ((w.alloc o0).alloc o1) o2
  rw [s1] at h1
  rw [s2] at h2
  exact ⟨row_alloc (row_alloc h0 (by omega)) (by omega), row_alloc h1 (by omega), h2, by simp, below_new (below_new (below_new (Below.refl _ _) _) _) _⟩

set_option maxHeartbeats 2000000 in
set_option maxRecDepth 4000 in
theorem unchanged_any (es : List Ed) (p : Option Addr) (c l : Nat) (n : Int) (w : World) (hle : l = es.length) (hp : ERw w p es) (hl : l ≤ 1000000) :
    Calls Try.prog 75 #[.slice p l c, .int .i64 n] w fun e w' => (∃ v, e = .returned v ∧ ROw w' w.heap.size v (stL wrap64 n es 0 0 [])) ∧ Below w.heap.size w w' := by
  have hmf := make_fun Try.prog
  have HLE := Lib.hid hle
  have HP := Lib.hid hp
  obtain ⟨R, hR⟩ : ∃ R, R = stL wrap64 n es 0 0 [] := ⟨_, rfl⟩
  rw [← hR]
  have HB : Hid (R = stL wrap64 n (es.drop 0) 0 0 []) := hR
  clear hle hp hR
  go_enter Try.func75, Try.ntmps75
  go_upto_region 4 with fail
  obtain ⟨W3, hW3⟩ : ∃ W3, W3 = ((w.alloc (.cells #[.slice none 0 0] 54)).alloc (.cells #[.int .i64 0] 3)).alloc (.cells #[.int .i64 0] 3) := ⟨_, rfl⟩
  obtain ⟨r0, r1, r2, hs3, hb3⟩ := heap3 w _ _ _ hW3
  obtain ⟨bs, hbs⟩ : ∃ bs, bs = w.heap.size := ⟨_, rfl⟩
  obtain ⟨bi, hbi⟩ : ∃ bi, bi = bs + 1 := ⟨_, rfl⟩
  obtain ⟨bj, hbj⟩ : ∃ bj, bj = bi + 1 := ⟨_, rfl⟩
  obtain ⟨base, hbase⟩ : ∃ base, base = bj + 1 := ⟨_, rfl⟩
  rw [← hW3, ← hbs, ← hbi, ← hbj]
  rw [← hbs] at r0 r1 r2 hs3
  rw [← hbi] at r1 r2
  rw [← hbj] at r2
  have HBX : Hid (BB w base bs bi bj) := ⟨by omega, by omega, by omega⟩
  have HWB : Hid (w.heap.size ≤ base) := by show _ ≤ _; omega
  have HJ0 : Hid (JS w base bs bi bj [] 0 0 W3) := ⟨⟨_, r0, World.ownsRow_nil _ _ _ _⟩, r1, r2, by omega, hb3⟩
  clear hW3 r0 r1 r2 hs3 hb3 hbs hbi hbj hbase
  go_wp2
  go_loopw [14] (fun kv wr => ∃ (k : Nat) (i j : Int) (acc : List Rn), k ≤ l ∧ kv = .int .i64 k ∧ Hid (acc.length ≤ k) ∧ Hid (JS w base bs bi bj acc i j wr) ∧ Hid (R = stL wrap64 n (es.drop k) i j acc)) (fun kv _ => l - (intOf kv).toNat)
  case atStart => exact ⟨0, 0, 0, [], by omega, rfl, Nat.le_refl _, HJ0.out, HB.out⟩
  case round =>
    clear HB HJ0
    obtain ⟨k, i, j, acc, hk, rfl, HL, HJ, HB⟩ := hrel
    by_cases hlt : k < l
    · have hka : k < es.length := by rw [← HLE.out]; omega
      obtain ⟨g, o, rfl, hg, a0, a1, a2, a3⟩ := HP.out.now HJ.out.below k hka
      have hX := HB.out
      rw [List.drop_eq_getElem_cons hka] at hX
      obtain ⟨e, he⟩ : ∃ e, e = es[k] := ⟨_, rfl⟩
      rw [← he] at a0 a1 a2 a3 hX
      obtain ⟨f, d, t, x⟩ := e
      simp only at a0 a1 a2 a3
      have HX : Hid (R = stL wrap64 n (es.drop (k + 1)) (wrap64 (f + d)) (wrap64 (t + x)) (stRun i j f acc)) := by
        show _ = _
        rw [hX, stL]
        rfl
      have HL2 : Hid ((stRun i j f acc).length ≤ k + 1) := Nat.le_trans (stRun_len _ _ _ _) (by have := HL.out; omega)
      have HCH : Hid (∀ w', JS w base bs bi bj acc i j w' → Calls Try.prog 96 #[.int .i64 f, .pointer (some ⟨bi, 0, none⟩), .pointer (some ⟨bs, 0, none⟩), .pointer (some ⟨bj, 0, none⟩)] w' fun e w'' => e = .returned (.tuple #[]) ∧ JS w base bs bi bj (stRun i j f acc) i j w'' ∧ Kept base 48 w' w'') := fun w' h => keep_any w base bs bi bj acc i j f w' HBX.out h (by have := HL.out; omega)
      have HBE : Hid (base ≤ wr.heap.size) := HJ.out.size
      clear hX he hka HB
      go_upto_region 8 with (go_at_call 96; ((refine (HCH.out _ (HJ.out.alloc _)).mono ?_); rintro e w2 ⟨rfl, hj2, hk2⟩))
      have hbx := hk2 wr.heap.size _ 52 (by decide) HBE.out (heap_alloc_new wr _)
      have z0 := cell_of_row w2 _ 0 _ _ _ hbx
      have z1 := cell_of_row w2 _ 1 _ _ _ hbx
      have z2 := cell_of_row w2 _ 2 _ _ _ hbx
      have z3 := cell_of_row w2 _ 3 _ _ _ hbx
      obtain ⟨c0, c1, f0, f1, f2⟩ := hj2.cells
      have HJ2 := Lib.hid hj2
      clear hj2 hk2 hbx a0 a1 a2 a3
      have hij : bi ≠ bj := HBX.out.i.2.2
      have hji : bj ≠ bi := Ne.symm hij
      have hib : wr.heap.size ≠ bi := by have := HBE.out; have := HBX.out.i; omega
      have hjb : wr.heap.size ≠ bj := by have := HBE.out; have := HBX.out.j; omega
      have HJ3 := Lib.hid (JB.setJ HBX.out (JB.setI HBX.out HJ2.out (wrap64 (f + d))) (wrap64 (t + x)))
      go_region
      all_goals go_wp2
      all_goals go_roundw
      case rel => exact ⟨k + 1, _, _, _, by omega, by go_num, HL2.out, HJ3.out.drewN 1, HX.out⟩
      case measure => simp [intOf]; omega
    · obtain rfl : k = l := by omega
      have hX := HB.out
      rw [HLE.out, List.drop_length] at hX
      have HX : Hid (R = stRun i j n acc) := by
        show _ = _
        rw [hX, stL]
        rfl
      have HCH : Hid (∀ w', JS w base bs bi bj acc i j w' → Calls Try.prog 96 #[.int .i64 n, .pointer (some ⟨bi, 0, none⟩), .pointer (some ⟨bs, 0, none⟩), .pointer (some ⟨bj, 0, none⟩)] w' fun e w'' => e = .returned (.tuple #[]) ∧ JS w base bs bi bj (stRun i j n acc) i j w'' ∧ Kept base 48 w' w'') := fun w' h => keep_any w base bs bi bj acc i j n w' HBX.out h (by have := HL.out; omega)
      clear hX HB
      go_wp2_with (go_at_call 96; ((refine (HCH.out _ HJ.out).mono ?_); rintro e w2 ⟨rfl, hj2, hk2⟩; obtain ⟨v2, h2, ho2⟩ := hj2.row; obtain ⟨p2, cap2, rfl⟩ := ROw.shape ho2; have k2 := cell_of_row w2 bs 0 _ _ _ h2; have HO2 := Lib.hid (ROw.lower ho2 HWB.out); have HB2 := Lib.hid hj2.below; clear hk2 hj2 ho2))
      go_ret
      exact ⟨⟨_, rfl, by rw [HX.out]; exact HO2.out⟩, HB2.out⟩
end Go.Proofs.Ytidghjalfbklnaa
