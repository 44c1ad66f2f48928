/-
  The walk of histogramOf.
-/
import Derived.Test.YtnmebnpldacngaaHsMap
import Derived.Test.YtnmebnpldacngaaDfTab
namespace Go.Proofs.Ytnmebnpldacngaa
open Go.RowKit Go.Maps Go.WideMaps

theorem make_ints (n : Nat) (hn : n ≤ 1048576) (w : World) : (Instr.makeSlice 48 (.int .i64 (n : Int)) (.int .i64 (n : Int))).run Try.prog w = .ok (.slice (some ⟨w.heap.size, 0, none⟩) n n) (w.alloc (.cells (madeCells #[.int .i64 0] n) 3)) := by
  obtain ⟨i0, hi, hz0, hz1, hz2⟩ := info_parts Try.infoInt
  have h := run_makeSlice (P := Try.prog) w 48 3 i0 (.int .i64 0) Try.underlying48 hi hz0 .i64 .i64 (n : Int) (n : Int) (by omega) (by omega) (by rw [hz1]; omega) (by rw [hz2]; omega) (by omega)
  rw [hz1] at h
  simp only [Int.toNat_natCast, Nat.mul_one] at h
  exact h
theorem made_ints (n : Nat) (hn : n ≤ 1048576) (w : World) : (w.alloc (.cells (madeCells #[.int .i64 0] n) 3)).ownsRow w.heap.size 3 1 (.slice (some ⟨w.heap.size, 0, none⟩) n n) n (madeCells #[.int .i64 0] n).toList := by
  obtain ⟨i0, hi, hz0, hz1, hz2⟩ := info_parts Try.infoInt
  obtain ⟨w', h1, h2, _⟩ := run_makeSlice_full (P := Try.prog) w w.heap.size 48 3 i0 (.int .i64 0) 1 Try.underlying48 hi hz0 hz1 .i64 .i64 n (by omega) (by rw [hz2]; omega) (by unfold maxLen; omega) (Nat.le_refl _)
  rw [make_ints n hn w] at h1
  rw [Nat.mul_one] at h2
  simp only [Result.ok.injEq, true_and] at h1
  rw [h1]
  exact h2
/-- The three blocks that histogramOf makes. -/
structure H3 (w wx : World) (n M G H : Nat) : Prop where
  nd : M ≠ G ∧ M ≠ H ∧ G ≠ H
  lo : w.heap.size < M ∧ w.heap.size < G ∧ w.heap.size < H
  res : wx.heap[w.heap.size]? = some (.cells #[.map none, .slice none 0 0] 76 (0, 0))
  box : wx.heap[H]? = some (.cells #[.map (some M), .slice (some ⟨G, 0, none⟩) n n] 76 (0, 0))
  below : Below w.heap.size w wx
theorem heap4 (w : World) (o0 o1 o2 o3 : Obj) {W : World} (h : W = ((((w.alloc o0).alloc o1).alloc o2).alloc o3).drew) :
    W.heap[w.heap.size]? = some o0 ∧ W.heap[w.heap.size + 1]? = some o1 ∧ W.heap[w.heap.size + 1 + 1]? = some o2 ∧ W.heap[w.heap.size + 1 + 1 + 1]? = some o3 ∧ Below w.heap.size w W := by
  have s1 : (w.alloc o0).heap.size = w.heap.size + 1 := by simp
  have s2 : ((w.alloc o0).alloc o1).heap.size = w.heap.size + 1 + 1 := by simp
  have s3 : (((w.alloc o0).alloc o1).alloc o2).heap.size = w.heap.size + 1 + 1 + 1 := by simp
  have h0 := heap_alloc_new w o0
  have h1 := heap_alloc_new (w.alloc o0) o1
  have h2 := heap_alloc_new ((w.alloc o0).alloc o1) o2
  have h3 := heap_alloc_new (((w.alloc o0).alloc o1).alloc o2) o3
  rw [s1] at h1
  rw [s2] at h2
  rw [s3] at h3
  have hb : Below w.heap.size w ((((w.alloc o0).alloc o1).alloc o2).alloc o3) := below_new (below_new (below_new (below_new (Below.refl _ _) _) _) _) _
  rw [h]
  exact ⟨row_alloc (row_alloc (row_alloc h0 (by omega)) (by omega)) (by omega), row_alloc (row_alloc h1 (by omega)) (by omega), row_alloc h2 (by omega), h3, hb.drew⟩
theorem map_new {w : World} {M : Nat} (h : w.heap[M]? = some (.map #[] 0)) : Mh w M 0 (.map []) := ⟨#[], 0, h, ⟨by simp, Go.MapKept.stamped_empty 0, by simp⟩, Nat.le_refl _, rfl⟩
/-- What histogramOf has made, ahead of its loop. -/
def H3s (w : World) (n : Nat) (v : Value) (wx : World) : Prop := ∃ M G H, v = .pointer (some ⟨H, 0, none⟩) ∧ H3 w wx n M G H ∧ Mh wx M 0 (.map []) ∧ wx.heap[G]? = some (.cells (madeCells #[.int .i64 0] n) 3 (0, 0))
section
variable {w W : World} {n : Nat}
theorem h3_123 (h : W = ((((w.alloc (.cells #[.map none, .slice none 0 0] 76)).alloc (.map #[] 0)).alloc (.cells (madeCells #[.int .i64 0] n) 3)).alloc (.cells #[.map (some (w.heap.size + 1)), .slice (some ⟨w.heap.size + 1 + 1, 0, none⟩) n n] 76)).drew) :
    H3s w n (.pointer (some ⟨w.heap.size + 1 + 1 + 1, 0, none⟩)) W := by
  obtain ⟨a, b, c, d, e⟩ := heap4 _ _ _ _ _ h
  exact ⟨w.heap.size + 1, w.heap.size + 1 + 1, _, rfl, ⟨by omega, by omega, a, d, e⟩, map_new b, c⟩
theorem h3_132 (h : W = ((((w.alloc (.cells #[.map none, .slice none 0 0] 76)).alloc (.map #[] 0)).alloc (.cells #[.map (some (w.heap.size + 1)), .slice (some ⟨w.heap.size + 1 + 1 + 1, 0, none⟩) n n] 76)).alloc (.cells (madeCells #[.int .i64 0] n) 3)).drew) :
    H3s w n (.pointer (some ⟨w.heap.size + 1 + 1, 0, none⟩)) W := by
  obtain ⟨a, b, c, d, e⟩ := heap4 _ _ _ _ _ h
  exact ⟨w.heap.size + 1, w.heap.size + 1 + 1 + 1, _, rfl, ⟨by omega, by omega, a, c, e⟩, map_new b, d⟩
theorem h3_213 (h : W = ((((w.alloc (.cells #[.map none, .slice none 0 0] 76)).alloc (.cells (madeCells #[.int .i64 0] n) 3)).alloc (.map #[] 0)).alloc (.cells #[.map (some (w.heap.size + 1 + 1)), .slice (some ⟨w.heap.size + 1, 0, none⟩) n n] 76)).drew) :
    H3s w n (.pointer (some ⟨w.heap.size + 1 + 1 + 1, 0, none⟩)) W := by
  obtain ⟨a, b, c, d, e⟩ := heap4 _ _ _ _ _ h
  exact ⟨w.heap.size + 1 + 1, w.heap.size + 1, _, rfl, ⟨by omega, by omega, a, d, e⟩, map_new c, b⟩
theorem h3_231 (h : W = ((((w.alloc (.cells #[.map none, .slice none 0 0] 76)).alloc (.cells (madeCells #[.int .i64 0] n) 3)).alloc (.cells #[.map (some (w.heap.size + 1 + 1 + 1)), .slice (some ⟨w.heap.size + 1, 0, none⟩) n n] 76)).alloc (.map #[] 0)).drew) :
    H3s w n (.pointer (some ⟨w.heap.size + 1 + 1, 0, none⟩)) W := by
  obtain ⟨a, b, c, d, e⟩ := heap4 _ _ _ _ _ h
  exact ⟨w.heap.size + 1 + 1 + 1, w.heap.size + 1, _, rfl, ⟨by omega, by omega, a, c, e⟩, map_new d, b⟩
theorem h3_312 (h : W = ((((w.alloc (.cells #[.map none, .slice none 0 0] 76)).alloc (.cells #[.map (some (w.heap.size + 1 + 1)), .slice (some ⟨w.heap.size + 1 + 1 + 1, 0, none⟩) n n] 76)).alloc (.map #[] 0)).alloc (.cells (madeCells #[.int .i64 0] n) 3)).drew) :
    H3s w n (.pointer (some ⟨w.heap.size + 1, 0, none⟩)) W := by
  obtain ⟨a, b, c, d, e⟩ := heap4 _ _ _ _ _ h
  exact ⟨w.heap.size + 1 + 1, w.heap.size + 1 + 1 + 1, _, rfl, ⟨by omega, by omega, a, b, e⟩, map_new c, d⟩
theorem h3_321 (h : W = ((((w.alloc (.cells #[.map none, .slice none 0 0] 76)).alloc (.cells #[.map (some (w.heap.size + 1 + 1 + 1)), .slice (some ⟨w.heap.size + 1 + 1, 0, none⟩) n n] 76)).alloc (.cells (madeCells #[.int .i64 0] n) 3)).alloc (.map #[] 0)).drew) :
    H3s w n (.pointer (some ⟨w.heap.size + 1, 0, none⟩)) W := by
  obtain ⟨a, b, c, d, e⟩ := heap4 _ _ _ _ _ h
  exact ⟨w.heap.size + 1 + 1 + 1, w.heap.size + 1 + 1, _, rfl, ⟨by omega, by omega, a, b, e⟩, map_new d, c⟩
end
/-- What the row of the places before tells of the first k lines. -/
def Bf (a : List Nat) (arr : Array Value) (n k : Nat) : Prop := arr.size = n ∧ ∀ j (h : j < a.length), j < k → arr[j]? = some (.int .i64 (lastP a a[j] j))
/-- The world of a round with its new block, ahead of the store. -/
structure HsE (w wx : World) (n M G H E : Nat) (C L : Int) (arr : Array Value) (k : Nat) (D : DataW Unit) : Prop where
  h3 : H3 w wx n M G H
  map : Mh wx M k D
  row : wx.heap[G]? = some (.cells arr 3 (0, 0))
  ent : wx.heap[E]? = some (.cells #[.int .i64 C, .int .i64 L] 80 (0, 0))
  far : G ≠ E ∧ M ≠ E ∧ H ≠ E ∧ w.heap.size < E
  slot : ∃ v, wx.cell? ⟨G, k, none⟩ = some v
theorem hsE_new {w wr : World} {n M G H k : Nat} {C L : Int} {arr : Array Value} {D : DataW Unit} (a : List Nat) (h3 : H3 w wr n M G H) (hM : Mh wr M k D) (hG : wr.heap[G]? = some (.cells arr 3 (0, 0))) (hB : Bf a arr n k) (hk : k < n) :
    HsE w (wr.alloc (.cells #[.int .i64 C, .int .i64 L] 80)) n M G H wr.heap.size C L arr k D := by
  have hg := row_lt hG
  have hm := hM.lt
  have hh := row_lt h3.box
  have hs := row_lt h3.res
  refine ⟨⟨h3.nd, h3.lo, row_alloc h3.res hs, row_alloc h3.box hh, below_new h3.below _⟩, hM.alloc _, row_alloc hG hg, heap_alloc_new _ _, ⟨by omega, by omega, by omega, hs⟩, ?_⟩
  exact ⟨arr[k]'(by rw [hB.1]; exact hk), by rw [cell_of_row _ G k _ _ _ (row_alloc hG hg)]; exact Array.getElem?_eq_getElem _⟩
/-- The world of a round behind the store. -/
structure HsS (w wx : World) (n M G H E : Nat) (C : Int) (arr : Array Value) (k : Nat) (D : DataW Unit) : Prop where
  h3 : H3 w wx n M G H
  map : Mh wx M k D
  row : wx.heap[G]? = some (.cells arr 3 (0, 0))
  ent : ∃ L, wx.heap[E]? = some (.cells #[.int .i64 C, L] 80 (0, 0))
theorem hsS_of {w wx : World} {n M G H E k : Nat} {C L : Int} {v : Value} {arr : Array Value} {D : DataW Unit} (h : HsE w wx n M G H E C L arr k D) : HsS w (wx.setCell ⟨G, k, none⟩ v) n M G H E C (arr.setIfInBounds k v) k D := by
  obtain ⟨n1, n2, n3⟩ := h.h3.nd
  have hlo := h.h3.lo
  have far : ∀ {P : Nat} {o : Obj}, P ≠ G → wx.heap[P]? = some o → (wx.setCell ⟨G, k, none⟩ v).heap[P]? = some o := fun hP hr => (Below.heap_setCell wx ⟨G, k, none⟩ v _ hP).trans hr
  exact ⟨⟨h.h3.nd, h.h3.lo, far (by omega) h.h3.res, far (Ne.symm n3) h.h3.box, h.h3.below.setCell (by show w.heap.size ≤ G; omega) _⟩, h.map.setCell (a := ⟨G, k, none⟩) n1 _, heap_setCell_same wx G k _ _ v h.row, ⟨_, far (Ne.symm h.far.1) h.ent⟩⟩
theorem HsS.on {w wx w3 : World} {n M G H E k : Nat} {C : Int} {arr : Array Value} {D : DataW Unit} (h : HsS w wx n M G H E C arr k D) (hg : wx.grownBy w3 (some M)) : H3 w w3 n M G H ∧ w3.heap[G]? = some (.cells arr 3 (0, 0)) := by
  obtain ⟨n1, n2, n3⟩ := h.h3.nd
  have hlo := h.h3.lo
  have far : ∀ {P : Nat} {o : Obj}, P ≠ M → wx.heap[P]? = some o → w3.heap[P]? = some o := fun hP hr => (hg.block _ (row_lt hr) (by simpa using hP)).trans hr
  exact ⟨⟨h.h3.nd, h.h3.lo, far (by omega) h.h3.res, far (Ne.symm n2) h.h3.box, h.h3.below.grown hg (by have := row_lt h.h3.res; omega) (fun j hj => by cases hj; omega)⟩, far (Ne.symm n1) h.row⟩
theorem isH_step {D : DataW Unit} {a : List Nat} {k x C : Nat} {K : Lit} {hk : k < a.length} (h : IsH D a k) (hx : x = a[k]) (hK : K = nk x) (hC : C = (a.take k).count x) : IsH (D.put K (en ((C : Int) + 1) k)) a (k + 1) := by
  subst hx
  rw [hK, hC]
  exact h.put hk
theorem isH_step0 {D : DataW Unit} {a : List Nat} {k x : Nat} {K : Lit} {hk : k < a.length} (h : IsH D a k) (hx : x = a[k]) (hK : K = nk x) (hC : (a.take k).count x = 0) : IsH (D.put K (en 1 k)) a (k + 1) := by
  have h1 := h.put hk
  rw [← hx, hC] at h1
  rw [hK]
  exact h1
theorem bf_step {a : List Nat} {arr : Array Value} {n k x : Nat} {L : Int} {hk : k < a.length} (h : Bf a arr n k) (hn : n = a.length) (hx : x = a[k]) (hL : L = lastP a x k) (_hl : k < n) : Bf a (arr.setIfInBounds k (.int .i64 L)) n (k + 1) := by
  refine ⟨by rw [Array.size_setIfInBounds]; exact h.1, fun j hj hjk => ?_⟩
  rcases Nat.lt_or_ge j k with h1 | h1
  · rw [Array.getElem?_setIfInBounds_ne (by omega)]
    exact h.2 j hj h1
  · obtain rfl : j = k := by omega
    rw [Array.getElem?_setIfInBounds_self_of_lt (by rw [h.1]; omega), hL, hx]
set_option maxHeartbeats 2000000 in
set_option maxRecDepth 4000 in
theorem hist_any (a : List Nat) (p : Option Addr) (c n : Nat) (w : World) (hn : n = a.length) (hp : NRw w p a) (hl : n ≤ 1048576) (ha : ∀ x ∈ a, x ≤ 1048576) :
    Calls Try.prog 46 #[.slice p n c] w fun e w' => ∃ M G D arr, e = .returned (.agg #[.map (some M), .slice (some ⟨G, 0, none⟩) n n]) ∧ w.heap.size < M ∧ w.heap.size < G ∧ Mh w' M n D ∧ IsH D a n ∧ w'.heap[G]? = some (.cells arr 3 (0, 0)) ∧ Bf a arr n n ∧ Below w.heap.size w w' := by
  have hmm := make_hmap n
  have hms := make_ints n hl
  have HN := Lib.hid hn
  have HP := Lib.hid hp
  have HA := Lib.hid ha
  clear hn hp ha
  go_enter Try.func46, Try.ntmps46
  go_upto_region 1 with fail
  go_cut [3] (fun v3 wx => H3s w n v3 wx)
  case first =>
    go_region
    all_goals go_wp2_with fail
    all_goals go_meet
    all_goals (first | exact h3_123 rfl | exact h3_132 rfl | exact h3_213 rfl | exact h3_231 rfl | exact h3_312 rfl | exact h3_321 rfl)
  case rest =>
    obtain ⟨M, G, H, rfl, h3, hM, hG⟩ := hcut
    have hB0 : Bf a (madeCells #[.int .i64 0] n) n 0 := ⟨by rw [← Array.length_toList, toList_madeCells_one, List.length_replicate], fun j _ h => absurd h (Nat.not_lt_zero _)⟩
    have HB0 := Lib.hid hB0
    have H30 := Lib.hid h3
    clear hB0 h3 hmm hms
    go_wp2_with fail
    go_loopw [17] (fun iv wr => ∃ (k : Nat) (D : DataW Unit) (arr : Array Value), k ≤ n ∧ iv = .int .i64 k ∧ Hid (H3 w wr n M G H) ∧ Mh wr M k D ∧ Hid (IsH D a k) ∧ wr.heap[G]? = some (.cells arr 3 (0, 0)) ∧ Hid (Bf a arr n k)) (fun iv _ => n - (intOf iv).toNat)
    case atStart => exact ⟨0, _, _, by omega, rfl, H30, hM, isH_nil a, hG, HB0⟩
    case round =>
      clear H30 hM hG HB0
      obtain ⟨k, D, arr, hk, rfl, H3k, hM, HI, hG, HB⟩ := hrel
      have h3 := H3k.out
      have cm := cell_of_row wr H 0 _ _ _ h3.box
      have cs := cell_of_row wr H 1 _ _ _ h3.box
      by_cases hlt : k < n
      · have hkl : k < a.length := by rw [← HN.out]; exact hlt
        obtain ⟨g, o, rfl, hg, hc⟩ := (HP.out.below h3.below) k hkl
        have hak := HA.out _ (List.getElem_mem hkl)
        obtain ⟨x, hx⟩ : ∃ x, x = a[k] := ⟨_, rfl⟩
        rw [← hx] at hc hak
        have hkey := nk_key (x := x) (by omega)
        obtain ⟨K, hK⟩ : ∃ K, K = nk x := ⟨_, rfl⟩
        rw [← hK] at hkey
        have HX := Lib.hid hx
        have HKK := Lib.hid hK
        rcases HI.out.look x with ⟨l0, l1, l2⟩ | ⟨l0, l1, l2, l3⟩
        · obtain ⟨C, hC⟩ : ∃ C, C = (a.take k).count x := ⟨_, rfl⟩
          obtain ⟨L, hL⟩ : ∃ L, L = lastP a x k := ⟨_, rfl⟩
          rw [← hC, ← hL, ← hK] at l2
          rw [← hK] at l1
          have hcl : C ≤ 1048576 := by
            have : (a.take k).count x ≤ (a.take k).length := List.count_le_length
            rw [List.length_take] at this
            omega
          have HL2 := Lib.hid l2
          have HC := Lib.hid hC
          have HL := Lib.hid hL
          clear hx h3 hK hC hL l0 l2 hg
          go_upto_region 6 with (at_lookup; refine wpList_look_ok_ent rfl _ _ rfl M k D rfl hM _ _ rfl hkey ?_; intro c0 l0 hat; obtain ⟨rfl, rfl⟩ := en_inj ((HL2.out _).symm.trans hat); clear hat)
          obtain ⟨E, hE⟩ : ∃ E, E = wr.heap.size := ⟨_, rfl⟩
          obtain ⟨wE, hwE⟩ : ∃ wE, wE = wr.alloc (.cells #[.int .i64 C, .int .i64 L] 80) := ⟨_, rfl⟩
          rw [← hE, ← hwE]
          have HE : Hid (HsE w wE n M G H E C L arr k D) := by
            rw [hE, hwE]
            exact hsE_new _ H3k.out hM hG HB.out hlt
          have HEE := Lib.hid hE
          clear hE hwE hM hG cm cs hc
          have e0 := cell_of_row wE E 0 _ _ _ HE.out.ent
          have e1 := cell_of_row wE E 1 _ _ _ HE.out.ent
          have cs := cell_of_row wE H 1 _ _ _ HE.out.h3.box
          obtain ⟨v0, cg⟩ := HE.out.slot
          have fz := frozen_of_row wE G k _ _ HE.out.row
          go_upto_region 9 with fail
          obtain ⟨w1, hw1⟩ : ∃ w1, w1 = wE.setCell ⟨G, k, none⟩ (.int .i64 L) := ⟨_, rfl⟩
          rw [← hw1]
          have HS : Hid (HsS w w1 n M G H E C (arr.setIfInBounds k (.int .i64 L)) k D) := by rw [hw1]; exact hsS_of HE.out
          clear hw1 e0 e1 cs cg fz HE
          obtain ⟨L9, hL9⟩ := HS.out.ent
          have e0 := cell_of_row w1 E 0 _ _ _ hL9
          clear hL9
          have cm := cell_of_row w1 H 0 _ _ _ HS.out.h3.box
          have hM1 := HS.out.map
          go_wp2_with (at_mapUpdate; refine wpList_mapUpdate_own _ rfl _ _ _ 74 rfl 3 80 int_key Try.underlying74 _ M k D rfl hM1 (by unfold maxLen; omega) _ _ _ rfl rfl hkey _ [] (entR_mk _ _) ?_; intro w3 hM3 hg3)
          go_roundw
          case rel => exact ⟨k + 1, _, _, by omega, by go_num, (HS.out.on hg3).1, hM3, isH_step HI.out HX.out HKK.out HC.out, (HS.out.on hg3).2, bf_step HB.out HN.out HX.out HL.out hlt⟩
          case measure => simp [intOf]; omega
        · have HC := Lib.hid l0
          have HL := Lib.hid l1.symm
          have l4 := l3 (en 0 0)
          rw [← hK] at l2 l4
          have HL4 := Lib.hid l4
          clear hx h3 hK l0 l1 l3 l4 hg
          go_upto_region 8 with (at_lookup; refine wpList_look_ok_ent rfl _ _ rfl M k D rfl hM _ _ rfl hkey ?_; intro c0 l0 hat; obtain ⟨rfl, rfl⟩ := en_inj (HL4.out.symm.trans hat); clear hat)
          obtain ⟨E, hE⟩ : ∃ E, E = wr.heap.size := ⟨_, rfl⟩
          obtain ⟨wE, hwE⟩ : ∃ wE, wE = wr.alloc (.cells #[.int .i64 0, .int .i64 (-1)] 80) := ⟨_, rfl⟩
          rw [← hE, ← hwE]
          have HE : Hid (HsE w wE n M G H E 0 (-1) arr k D) := by
            rw [hE, hwE]
            exact hsE_new _ H3k.out hM hG HB.out hlt
          have HEE := Lib.hid hE
          clear hE hwE hM hG cm cs hc
          have e0 := cell_of_row wE E 0 _ _ _ HE.out.ent
          have e1 := cell_of_row wE E 1 _ _ _ HE.out.ent
          have cs := cell_of_row wE H 1 _ _ _ HE.out.h3.box
          obtain ⟨v0, cg⟩ := HE.out.slot
          have fz := frozen_of_row wE G k _ _ HE.out.row
          go_upto_region 9 with fail
          obtain ⟨w1, hw1⟩ : ∃ w1, w1 = wE.setCell ⟨G, k, none⟩ (.int .i64 (-1)) := ⟨_, rfl⟩
          rw [← hw1]
          have HS : Hid (HsS w w1 n M G H E 0 (arr.setIfInBounds k (.int .i64 (-1))) k D) := by rw [hw1]; exact hsS_of HE.out
          clear hw1 e0 e1 cs cg fz HE
          obtain ⟨L9, hL9⟩ := HS.out.ent
          have e0 := cell_of_row w1 E 0 _ _ _ hL9
          clear hL9
          have cm := cell_of_row w1 H 0 _ _ _ HS.out.h3.box
          have hM1 := HS.out.map
          go_wp2_with (at_mapUpdate; refine wpList_mapUpdate_own _ rfl _ _ _ 74 rfl 3 80 int_key Try.underlying74 _ M k D rfl hM1 (by unfold maxLen; omega) _ _ _ rfl rfl hkey _ [] (entR_mk _ _) ?_; intro w3 hM3 hg3)
          go_roundw
          case rel => exact ⟨k + 1, _, _, by omega, by go_num, (HS.out.on hg3).1, hM3, isH_step0 HI.out HX.out HKK.out HC.out, (HS.out.on hg3).2, bf_step HB.out HN.out HX.out HL.out hlt⟩
          case measure => simp [intOf]; omega
      · obtain rfl : k = n := by omega
        have z0 := cell_of_row wr w.heap.size 0 _ _ _ h3.res
        have z1 := cell_of_row wr w.heap.size 1 _ _ _ h3.res
        have y0 := frozen_of_row wr w.heap.size 0 _ _ h3.res
        have y1 := frozen_of_row wr w.heap.size 1 _ _ h3.res
        have HM := Lib.hid hM
        have HG := Lib.hid hG
        clear h3 hM hG
        go_wp2_with fail
        obtain ⟨w4, hw4⟩ : ∃ w4, w4 = ((wr.setCell ⟨w.heap.size, 0, none⟩ (.map (some M))).setCell ⟨w.heap.size, 1, none⟩ (.slice (some ⟨G, 0, none⟩) k k)) := ⟨_, rfl⟩
        have h3 := H3k.out
        have hlo := h3.lo
        have hr4 := row2 h3.res (.map (some M)) (.slice (some ⟨G, 0, none⟩) k k)
        have hm4 : Mh w4 M k D := by rw [hw4]; exact (HM.out.setCell (a := ⟨w.heap.size, 0, none⟩) (show M ≠ w.heap.size by omega) _).setCell (a := ⟨w.heap.size, 1, none⟩) (show M ≠ w.heap.size by omega) _
        have hg4 : w4.heap[G]? = some (.cells arr 3 (0, 0)) := by
          rw [hw4]
          exact (Below.heap_setCell _ ⟨w.heap.size, 1, none⟩ _ G (show G ≠ w.heap.size by omega)).trans ((Below.heap_setCell _ ⟨w.heap.size, 0, none⟩ _ G (show G ≠ w.heap.size by omega)).trans HG.out)
        have hb4 : Below w.heap.size w w4 := by rw [hw4]; exact (h3.below.setCell (Nat.le_refl _) _).setCell (Nat.le_refl _) _
        rw [← hw4] at hr4 ⊢
        have c0 : w4.cell? ⟨w.heap.size, 0, none⟩ = some (.map (some M)) := cell_of_row w4 _ 0 _ _ _ hr4
        have c1 : w4.cell? ⟨w.heap.size, 1, none⟩ = some (.slice (some ⟨G, 0, none⟩) k k) := cell_of_row w4 _ 1 _ _ _ hr4
        clear z0 z1 y0 y1 hw4 hr4
        refine bodyPost_ret (v := .agg #[.map (some M), .slice (some ⟨G, 0, none⟩) k k]) (by simp [results, Try.results46, go_sem, c0, c1]) rfl ⟨M, G, D, arr, rfl, hlo.1, hlo.2.1, hm4, HI.out, hg4, HB.out, hb4⟩
end Go.Proofs.Ytnmebnpldacngaa
