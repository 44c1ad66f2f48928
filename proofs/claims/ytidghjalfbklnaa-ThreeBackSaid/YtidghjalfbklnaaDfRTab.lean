/-
  The walk of the reference's table.
-/
import Derived.Test.YtidghjalfbklnaaDfTab
import Derived.Test.YtidghjalfbklnaaDfSame
namespace Go.Proofs.Ytidghjalfbklnaa
open Go.RowKit

theorem Try.infoI : (Try.prog.info? 3).map (fun i => (i.zero, i.size, i.bytes)) = some (some (.int .i64 0), 1, 8) := by kernel_rfl
theorem Try.infoIRow : (Try.prog.info? 57).map (fun i => (i.zero, i.size, i.bytes)) = some (some (.slice none 0 0), 1, 24) := by kernel_rfl
def hdr (M g : Nat) : Value := .slice (some ⟨g, 0, none⟩) M M
/-- The rows of the table: complete from a place on. -/
def RowsAt (w : World) (gs : List Nat) (m : Nat) (la lb : List (List UInt8)) (lim : Nat → Nat) : Prop :=
  ∀ k (h : k < gs.length), ∃ rs : List Value, rs.length = m + 1 ∧ w.heap[gs[k]]? = some (.cells rs.toArray 3 (0, 0)) ∧ ∀ j, lim k ≤ j → j ≤ m → rs[j]? = some (.int .i64 ((lcs (la.drop k) (lb.drop j) : Nat) : Int))
def lim (m i q k : Nat) : Nat := if i < k then 0 else if k = i then q else m
theorem lim_hi {m i q k : Nat} (h : i < k) : lim m i q k = 0 := if_pos h
theorem lim_at (m i q : Nat) : lim m i q i = q := by unfold lim; rw [if_neg (by omega), if_pos rfl]
theorem lim_lo {m i q k : Nat} (h : k < i) : lim m i q k = m := by unfold lim; rw [if_neg (by omega), if_neg (by omega)]
theorem lim_next (m i : Nat) (k : Nat) : lim m (i + 1) 0 k = lim m i m k ∨ lim m i m k = 0 := by
  unfold lim
  by_cases h1 : i + 1 < k
  · right; rw [if_pos (by omega)]
  · by_cases h2 : k = i + 1
    · right; rw [if_pos (by omega)]
    · left
      rw [if_neg h1, if_neg h2, if_neg (by omega)]
      split <;> rfl
theorem lim_down (m i k : Nat) : lim m (i + 1) 0 k ≤ lim m i m k := by
  rcases lim_next m i k with h | h
  · omega
  · unfold lim at h ⊢
    split at h <;> (try split at h) <;> (repeat' split) <;> omega
/-- A cell of a row. -/
theorem RowsAt.cell {w : World} {gs : List Nat} {m : Nat} {la lb : List (List UInt8)} {l : Nat → Nat} (h : RowsAt w gs m la lb l) {k j : Nat} (hk : k < gs.length) (h1 : l k ≤ j) (h2 : j ≤ m) : w.cell? ⟨gs[k], j, none⟩ = some (.int .i64 ((lcs (la.drop k) (lb.drop j) : Nat) : Int)) := by
  obtain ⟨rs, _, h3, h4⟩ := h k hk
  rw [cell_of_row w _ j _ _ _ h3]
  simpa using h4 j h1 h2
theorem RowsAt.there {w : World} {gs : List Nat} {m : Nat} {la lb : List (List UInt8)} {l : Nat → Nat} (h : RowsAt w gs m la lb l) {k j : Nat} (hk : k < gs.length) (h2 : j ≤ m) : (∃ x, w.cell? ⟨gs[k], j, none⟩ = some x) ∧ w.frozen? ⟨gs[k], j, none⟩ = false := by
  obtain ⟨rs, h1, h3, h4⟩ := h k hk
  refine ⟨⟨rs[j]'(by omega), ?_⟩, frozen_of_row w _ j _ _ h3⟩
  rw [cell_of_row w _ j _ _ _ h3]
  simp [List.getElem?_eq_getElem (show j < rs.length by omega)]
theorem made_list (M : Nat) : madeCells #[Value.int .i64 0] M = (List.replicate M (Value.int .i64 0)).toArray := by
  apply Array.ext'
  rw [toList_madeCells_one]
theorem rows_start {w : World} {gs : List Nat} {m n : Nat} {la lb : List (List UInt8)} (hn : n = la.length) (hm : m = lb.length) (hl : gs.length = n + 1) (h : ∀ x ∈ gs, w.heap[x]? = some (.cells (madeCells #[.int .i64 0] (m + 1)) 3 (0, 0))) : RowsAt w gs m la lb (lim m n 0) := fun k hk => by
  refine ⟨List.replicate (m + 1) (.int .i64 0), by simp, by rw [h _ (List.getElem_mem hk), made_list], fun j h1 h2 => ?_⟩
  rw [List.getElem?_replicate, if_pos (by omega)]
  have h0 : lcs (la.drop k) (lb.drop j) = 0 := by
    unfold lim at h1
    by_cases hkn : k = n
    · rw [hkn, hn, List.drop_length, lcs_nil']
    · rw [if_neg (by omega), if_neg hkn] at h1
      rw [show j = lb.length by omega, List.drop_length, lcs_nil]
  rw [h0]
  rfl
theorem RowsAt.mono {w : World} {gs : List Nat} {m : Nat} {la lb : List (List UInt8)} {l1 l2 : Nat → Nat} (h : RowsAt w gs m la lb l1) (hl : ∀ k, l1 k ≤ l2 k) : RowsAt w gs m la lb l2 := fun k hk => by
  obtain ⟨rs, h1, h2, h3⟩ := h k hk
  exact ⟨rs, h1, h2, fun j hj => h3 j (Nat.le_trans (hl k) hj)⟩
theorem RowsAt.drewN {w : World} {gs : List Nat} {m : Nat} {la lb : List (List UInt8)} {l : Nat → Nat} (h : RowsAt w gs m la lb l) (x : Nat) : RowsAt (w.drewN x) gs m la lb l := h
/-- A cell more of a row. -/
theorem RowsAt.put {w : World} {gs : List Nat} {m i J C : Nat} {la lb : List (List UInt8)} (h : RowsAt w gs m la lb (lim m i (J + 1))) (hd : gs.Pairwise (· < ·)) (hi : i < gs.length) (hJ : J < m) (hC : C = lcs (la.drop i) (lb.drop J)) :
    RowsAt (w.setCell ⟨gs[i], J, none⟩ (.int .i64 (C : Int))) gs m la lb (lim m i J) := fun k hk => by
  obtain ⟨rs, h1, h2, h3⟩ := h k hk
  by_cases hki : k = i
  · subst hki
    refine ⟨rs.set J (.int .i64 (C : Int)), by rw [List.length_set, h1], ?_, fun j h4 h5 => ?_⟩
    · have := heap_setCell_same w gs[k] J _ _ (.int .i64 (C : Int)) h2
      rw [this]
      simp
    · rw [lim_at] at h4
      rcases Nat.eq_or_lt_of_le h4 with rfl | h4
      · rw [List.getElem?_set_self (by omega), hC]
      · rw [List.getElem?_set_ne (by omega)]
        exact h3 j (by rw [lim_at]; omega) h5
  · have hne : gs[k] ≠ gs[i] := by
      rw [List.pairwise_iff_getElem] at hd
      rcases Nat.lt_or_gt_of_ne hki with h5 | h5
      · have := hd k i hk hi h5
        omega
      · have := hd i k hi hk h5
        omega
    refine ⟨rs, h1, (Below.heap_setCell w ⟨gs[i], J, none⟩ _ _ hne).trans h2, fun j h4 h5 => h3 j ?_ h5⟩
    unfold lim at h4 ⊢
    rw [if_neg hki] at h4 ⊢
    exact h4
theorem make_ints_r (M : Nat) (hM : M ≤ 8192) (w : World) : (Instr.makeSlice 57 (.int .i64 (M : Int)) (.int .i64 (M : Int))).run Try.prog w = .ok (.slice (some ⟨w.heap.size, 0, none⟩) M M) (w.alloc (.cells (madeCells #[.int .i64 0] M) 3)) := by
  obtain ⟨i0, hi, hz0, hz1, hz2⟩ := info_parts Try.infoI
  have h := run_makeSlice (P := Try.prog) w 57 3 i0 (.int .i64 0) Try.underlying57 hi hz0 .i64 .i64 (M : Int) (M : Int) (by omega) (by omega) (by rw [hz1]; omega) (by rw [hz2]; omega) (by omega)
  rw [hz1] at h
  simp only [Int.toNat_natCast, Nat.mul_one] at h
  exact h
/-- The table, as it is read. -/
def TRi (w : World) (T n m : Nat) (la lb : List (List UInt8)) : Prop := ∀ k, k ≤ n → ∃ g, w.cell? ⟨T, k, none⟩ = some (.slice (some ⟨g, 0, none⟩) (m + 1) (m + 1)) ∧ ∀ j, j ≤ m → w.cell? ⟨g, j, none⟩ = some (.int .i64 ((lcs (la.drop k) (lb.drop j) : Nat) : Int))
theorem TRi.below {w w' : World} {T n m : Nat} {la lb : List (List UInt8)} (h : TRi w T n m la lb) (hb : Below w.heap.size w w') : TRi w' T n m la lb := fun k hk => by
  obtain ⟨g, h1, h2⟩ := h k hk
  exact ⟨g, (hb.cell (p := ⟨T, k, none⟩) (World.block_lt_of_cell? w _ h1)).trans h1, fun j hj => (hb.cell (p := ⟨g, j, none⟩) (World.block_lt_of_cell? w _ (h2 j hj))).trans (h2 j hj)⟩
theorem hdr_at (w : World) (o : Obj) (v : Value) (t : TypeId) (j : Nat) (u : Value) (hj : [v][j]? = some u) : ((w.alloc o).alloc (.cells #[v] t)).cell? ((⟨w.heap.size + 1, 0, none⟩ : Addr).add j) = some u := by
  rw [Addr.add_lit, Nat.zero_add]
  have h := World.cell?_alloc_mark (w.alloc o) #[v] t (0, 0) j
  have e1 : (w.alloc o).heap.size = w.heap.size + 1 := by simp
  rw [e1] at h
  refine h.trans ?_
  simpa using hj
theorem lcs_row {la lb : List (List UInt8)} {i j : Nat} (hi : i < la.length) (hj : j < lb.length) : lcs (la.drop i) (lb.drop j) = if la[i] = lb[j] then lcs (la.drop (i + 1)) (lb.drop (j + 1)) + 1 else max (lcs (la.drop (i + 1)) (lb.drop j)) (lcs (la.drop i) (lb.drop (j + 1))) := by
  rw [List.drop_eq_getElem_cons hi, List.drop_eq_getElem_cons hj, lcs]

set_option maxHeartbeats 4000000 in
set_option maxRecDepth 4000 in
theorem rtable_any (la lb : List (List UInt8)) (p q : Option Addr) (c d n m : Nat) (w : World) (hn : n = la.length) (hm : m = lb.length) (hp : SRw w p la) (hq : SRw w q lb) (hl : n ≤ 4096) (hl2 : m ≤ 4096) :
    Calls Try.prog 99 #[.slice p n c, .slice q m d] w fun e w' => ∃ T cap, e = .returned (.slice (some ⟨T, 0, none⟩) (n + 1) cap) ∧ TRi w' T n m la lb ∧ Below w.heap.size w w' := by
  obtain ⟨i0, hi, hz0, hz1, hz2⟩ := info_parts Try.infoIRow
  obtain ⟨M, hM⟩ : ∃ M, M = m + 1 := ⟨_, rfl⟩
  obtain ⟨N, hN⟩ : ∃ N, N = n + 1 := ⟨_, rfl⟩
  have iw : IntKind.i64.wrap ((n : Int) + 1) = (N : Int) := by rw [IntWalk.i64_in _ (by omega)]; omega
  have iw2 : IntKind.i64.wrap ((m : Int) + 1) = (M : Int) := by rw [IntWalk.i64_in _ (by omega)]; omega
  have hmk := make_ints_r M (by omega)
  have hM8 : M ≤ 8192 := by omega
  have hN8 : N ≤ 8192 := by omega
  have HN := Lib.hid hn
  have HM := Lib.hid hm
  have HP := Lib.hid hp
  have HQ := Lib.hid hq
  have HMM := Lib.hid hM
  have HNN := Lib.hid hN
  clear hn hm hp hq hM hN
  go_enter Try.func99, Try.ntmps99
  go_wp2
  go_loopw [12, 5] (fun iv ov wr => ∃ (k : Nat) (gs : List Nat) (g : Option Addr) (cap : Nat), k ≤ N ∧ iv = .int .i64 k ∧ ov = .slice g k cap ∧ Hid (gs.length = k) ∧ Hid (wr.ownsRow w.heap.size 57 1 (.slice g k cap) k (gs.map (hdr M))) ∧ Hid (gs.Pairwise (· < ·)) ∧ Hid (∀ x ∈ gs, w.heap.size ≤ x ∧ wr.heap[x]? = some (.cells (madeCells #[.int .i64 0] M) 3 (0, 0))) ∧ Hid (Below w.heap.size w wr)) (fun iv _ _ => N - (intOf iv).toNat)
  case atStart => exact ⟨0, [], none, 0, by omega, rfl, rfl, rfl, World.ownsRow_nil _ _ _ _, List.Pairwise.nil, fun x hx => absurd hx (by simp), Below.refl _ _⟩
  case round =>
    obtain ⟨k, gs, g, cap, hk, rfl, rfl, HL, HO, HPW, HG, HW⟩ := hrel
    have hws := HW.out.size
    by_cases hlt : k < N
    · have ho := HO.out
      go_wp2_with (at_builtin; refine wpList_append_own _ rfl _ _ 127 rfl w.heap.size 57 i0 (.slice none 0 0) 1 24 Try.underlying127 hi hz0 hz1 hz2 rfl (by decide) _ _ _ rfl ((ho.alloc _).alloc _) ⟨wr.heap.size + 1, 0, none⟩ 1 1 [hdr M wr.heap.size] rfl rfl (hdr_at wr _ _ _) (fun u hu => by obtain rfl := List.mem_singleton.mp hu; rfl) (by unfold maxLen; omega) (by omega) (by simp; omega) ?_; intro v1 w1 ho1 hg1 _; obtain ⟨g1, cap1, rfl, _, _⟩ := ho1.form (by omega); have HO1 := Lib.hid ho1; have HW1 := Lib.hid ((below_new (below_new HW.out _) _).grown hg1 (by simp; omega) (fun j hj => (ho.lt j hj).1)); have HG1 := Lib.hid (fun (x : Nat) cs (hx : wr.heap[x]? = some (.cells cs 3 (0, 0)) ∨ (x = wr.heap.size ∧ cs = madeCells #[.int .i64 0] M)) => show w1.heap[x]? = some (.cells cs 3 (0, 0)) from by
        rcases hx with hx | ⟨rfl, rfl⟩
        · exact own_row ((ho.alloc _).alloc _) (row_alloc (row_alloc hx (row_lt hx)) (by have := row_lt hx; simp; omega)) (by decide) (by have := row_lt hx; simp; omega) hg1
        · exact own_row ((ho.alloc _).alloc _) (row_alloc (heap_alloc_new wr _) (by simp)) (by decide) (by simp; omega) hg1); clear ho1 hg1)
      go_roundw
      case rel => exact ⟨k + 1, gs ++ [wr.heap.size], some ⟨g1, 0, none⟩, cap1, by omega, by go_num, rfl, by show _ = _; rw [List.length_append, HL.out]; rfl, by show World.ownsRow _ _ _ _ _ _ _; rw [List.map_append]; exact HO1.out, by
        show List.Pairwise _ _
        rw [List.pairwise_append]
        exact ⟨HPW.out, by simp, fun x hx y hy => by obtain rfl := List.mem_singleton.mp hy; exact row_lt (HG.out x hx).2⟩, fun x hx => by
        rcases List.mem_append.mp hx with hx | hx
        · exact ⟨(HG.out x hx).1, HG1.out x _ (.inl (HG.out x hx).2)⟩
        · obtain rfl := List.mem_singleton.mp hx
          exact ⟨hws, HG1.out _ _ (.inr ⟨rfl, rfl⟩)⟩, HW1.out⟩
      case measure => simp [intOf]; omega
    · obtain rfl : k = N := by omega
      obtain ⟨W, rfl⟩ : ∃ W, W = wr := ⟨_, rfl⟩
      obtain ⟨T, cap0, hT, hT1, hT2⟩ := World.ownsRow.form HO.out (by have := HNN.out; omega)
      simp only [Value.slice.injEq] at hT
      obtain ⟨rfl, _, rfl⟩ := hT
      have HTN : Hid (∀ x ∈ gs, x ≠ T) := fun x hx he => by
        subst he
        have := own_ty HO.out (HG.out x hx).2 (by decide)
        exact this rfl
      have HR0 : Hid (RowsAt W gs m la lb (lim m n 0)) := rows_start HN.out HM.out (by rw [HL.out, HNN.out]) (fun x hx => by rw [← HMM.out]; exact (HG.out x hx).2)
      have HC0 : Hid (∀ t (ht : t < gs.length), W.cell? ⟨T, t, none⟩ = some (.slice (some ⟨gs[t], 0, none⟩) M M)) := fun t ht => by
        rw [World.ownsRow.cellAt HO.out t (by have := HL.out; omega), List.getElem?_map, List.getElem?_eq_getElem ht]
        rfl
      have HGB : Hid (∀ x ∈ gs, w.heap.size ≤ x) := fun x hx => (HG.out x hx).1
      clear HO HG hlt hws hk
      go_wp2
      go_loopw [6] (fun iv wr => ∃ I : Nat, I ≤ n ∧ iv = .int .i64 ((I : Int) - 1) ∧ Hid (RowsAt wr gs m la lb (lim m I 0)) ∧ Hid (∀ t (ht : t < gs.length), wr.cell? ⟨T, t, none⟩ = some (.slice (some ⟨gs[t], 0, none⟩) M M)) ∧ Hid (Below w.heap.size w wr)) (fun iv _ => (intOf iv + 1).toNat)
      case atStart => exact ⟨n, Nat.le_refl _, rfl, HR0.out, HC0.out, HW.out⟩
      case round =>
        clear HR0 HC0 HW
        obtain ⟨I, hI, hiv, HR, HC, HW⟩ := hrel
        obtain ⟨WO, rfl⟩ : ∃ WO, WO = wr := ⟨_, rfl⟩
        by_cases hI0 : I = 0
        · subst hI0
          have hiv2 : (Value.int .i64 (((0 : Nat) : Int) - 1)) = .int .i64 (-1) := rfl
          rw [hiv2] at hiv
          obtain rfl := hiv
          have HTR : Hid (TRi WO T n m la lb) := fun t ht => by
            have htl : t < gs.length := by rw [HL.out, HNN.out]; omega
            refine ⟨gs[t], by rw [← HMM.out]; exact HC.out t htl, fun j hj => HR.out.cell htl ?_ hj⟩
            unfold lim
            split
            · omega
            · split <;> omega
          have HNE : Hid (k = n + 1) := HNN.out
          go_wp2
          go_ret
          exact ⟨T, cap, by rw [HNE.out]; rfl, HTR.out, HW.out⟩
        · obtain ⟨i, rfl⟩ : ∃ i, I = i + 1 := ⟨I - 1, by omega⟩
          have hiv2 : (Value.int .i64 (((i + 1 : Nat) : Int) - 1)) = .int .i64 (i : Int) := by congr 1; omega
          rw [hiv2] at hiv
          obtain rfl := hiv
          have HR1 : Hid (RowsAt WO gs m la lb (lim m i m)) := HR.out.mono (lim_down m i)
          have i1 : IntKind.i64.wrap ((i : Int) + 1) = ((i + 1 : Nat) : Int) := by rw [IntWalk.i64_in _ (by omega)]; omega
          have i2 : IntKind.i64.wrap ((i : Int) - 1) = (i : Int) - 1 := IntWalk.i64_in _ (by omega)
          have hil : i < gs.length := by rw [HL.out, HNN.out]; omega
          have hil1 : i + 1 < gs.length := by rw [HL.out, HNN.out]; omega
          have hik : i < k := by rw [HNN.out]; omega
          have hik1 : i + 1 < k := by rw [HNN.out]; omega
          have hin : i < n := by omega
          obtain ⟨G0, hG0⟩ : ∃ G0, G0 = gs[i] := ⟨_, rfl⟩
          obtain ⟨G1, hG1⟩ : ∃ G1, G1 = gs[i + 1] := ⟨_, rfl⟩
          have HT0 : Hid (G0 ≠ T) := by show _ ≠ _; rw [hG0]; exact HTN.out _ (List.getElem_mem hil)
          have HB0 : Hid (w.heap.size ≤ G0) := by show _ ≤ _; rw [hG0]; exact HGB.out _ (List.getElem_mem hil)
          have HG0 := Lib.hid hG0
          have HG1 := Lib.hid hG1
          have HIL := Lib.hid (And.intro hil hil1)
          clear HR hG0 hG1 hI0
          go_wp2
          go_loopw [7] (fun jv wr => ∃ q : Nat, q ≤ m ∧ jv = .int .i64 ((q : Int) - 1) ∧ Hid (RowsAt wr gs m la lb (lim m i q)) ∧ Hid (∀ t (ht : t < gs.length), wr.cell? ⟨T, t, none⟩ = some (.slice (some ⟨gs[t], 0, none⟩) M M)) ∧ Hid (Below w.heap.size w wr)) (fun jv _ => (intOf jv + 1).toNat)
          case atStart => exact ⟨m, Nat.le_refl _, rfl, HR1.out, HC.out, HW.out⟩
          case round =>
            clear HR1 HC HW
            obtain ⟨q, hq, hjv, HR, HC, HW⟩ := hrel
            by_cases hq0 : q = 0
            · subst hq0
              have hjv2 : (Value.int .i64 (((0 : Nat) : Int) - 1)) = .int .i64 (-1) := rfl
              rw [hjv2] at hjv
              obtain rfl := hjv
              go_wp2
              go_roundw
              case rel => exact ⟨i, by omega, rfl, HR.out, HC.out, HW.out⟩
              case measure => simp [intOf]
            · obtain ⟨J, rfl⟩ : ∃ J, q = J + 1 := ⟨q - 1, by omega⟩
              have hjv2 : (Value.int .i64 (((J + 1 : Nat) : Int) - 1)) = .int .i64 (J : Int) := by congr 1; omega
              rw [hjv2] at hjv
              obtain rfl := hjv
              have hia : i < la.length := by rw [← HN.out]; omega
              have hjb : J < lb.length := by rw [← HM.out]; omega
              obtain ⟨g, o, rfl, hg, a0⟩ := HP.out.below HW.out i hia
              obtain ⟨h, o2, rfl, hh, b0⟩ := HQ.out.below HW.out J hjb
              have t0 := HC.out i HIL.out.1
              have t1 := HC.out (i + 1) HIL.out.2
              have u1 := HR.out.cell (j := J + 1) HIL.out.2 (by rw [lim_hi (by omega)]; omega) (by omega)
              have u0 := HR.out.cell (j := J) HIL.out.2 (by rw [lim_hi (by omega)]; omega) (by omega)
              have r1 := HR.out.cell (j := J + 1) HIL.out.1 (by rw [lim_at]; omega) (by omega)
              obtain ⟨⟨x0, cx⟩, fz⟩ := HR.out.there (j := J) HIL.out.1 (by omega)
              have l1 := lcs_le (la.drop (i + 1)) (lb.drop (J + 1))
              rw [List.length_drop, ← HM.out] at l1
              have hstep := lcs_row hia hjb
              obtain ⟨x, hx⟩ : ∃ x, x = la[i] := ⟨_, rfl⟩
              obtain ⟨y, hy⟩ : ∃ y, y = lb[J] := ⟨_, rfl⟩
              rw [← hx] at a0 hstep
              rw [← hy] at b0 hstep
              rw [← HG0.out] at t0 r1 cx fz
              rw [← HG1.out] at t1 u1 u0
              obtain ⟨A, hA⟩ : ∃ A, A = lcs (la.drop (i + 1)) (lb.drop (J + 1)) := ⟨_, rfl⟩
              obtain ⟨D, hD⟩ : ∃ D, D = lcs (la.drop (i + 1)) (lb.drop J) := ⟨_, rfl⟩
              obtain ⟨E, hE⟩ : ∃ E, E = lcs (la.drop i) (lb.drop (J + 1)) := ⟨_, rfl⟩
              rw [← hA] at u1 l1 hstep
              rw [← hD] at u0 hstep
              rw [← hE] at r1 hstep
              have hJM : J < M := by have := HMM.out; omega
              have hJM1 : J + 1 < M := by have := HMM.out; omega
              have hjm : J < m := by omega
              have HSTEP := Lib.hid hstep
              have i5 : IntKind.i64.wrap ((J : Int) + 1) = ((J + 1 : Nat) : Int) := by rw [IntWalk.i64_in _ (by omega)]; omega
              have i6 : IntKind.i64.wrap ((J : Int) - 1) = (J : Int) - 1 := IntWalk.i64_in _ (by omega)
              have i7 : IntKind.i64.wrap ((A : Int) + 1) = ((A + 1 : Nat) : Int) := by rw [IntWalk.i64_in _ (by omega)]; omega
              have HPUT : Hid (∀ (C : Nat) (z : Nat), C = lcs (la.drop i) (lb.drop J) → RowsAt ((wr.drewN z).setCell ⟨G0, J, none⟩ (.int .i64 (C : Int))) gs m la lb (lim m i J)) := fun C z hC => by
                have := RowsAt.put (HR.out.drewN z) HPW.out HIL.out.1 (by omega) hC
                rw [← HG0.out] at this
                exact this
              have HCP : Hid (∀ (v : Value) (z : Nat), ∀ t (ht : t < gs.length), ((wr.drewN z).setCell ⟨G0, J, none⟩ v).cell? ⟨T, t, none⟩ = some (.slice (some ⟨gs[t], 0, none⟩) M M)) := fun v z t ht =>
                (World.cell?_of_block (a := ⟨T, t, none⟩) (Below.heap_setCell (wr.drewN z) ⟨G0, J, none⟩ v T (Ne.symm HT0.out))).trans (HC.out t ht)
              have HWP : Hid (∀ (v : Value) (z : Nat), Below w.heap.size w ((wr.drewN z).setCell ⟨G0, J, none⟩ v)) := fun v z => (below_drewN HW.out z).setCell HB0.out _
              clear hA hD hE hstep hjv2 hq0 HC HW HR l1
              by_cases he : x = y
              · obtain ⟨e1, e2⟩ := str_is he
                have HC : Hid (A + 1 = lcs (la.drop i) (lb.drop J)) := by show _ = _; rw [HSTEP.out, if_pos he]
                obtain ⟨s, hs⟩ : ∃ s, s = str x := ⟨_, rfl⟩
                obtain ⟨t, ht⟩ : ∃ t, t = str y := ⟨_, rfl⟩
                rw [← hs] at a0 e1 e2
                rw [← ht] at b0 e1 e2
                clear hs ht he hx hy hia hjb hg hh
                go_wp2
                go_quiet (fail)
                go_wp2
                go_roundw
                case rel => exact ⟨J, by omega, by go_num, HPUT.out (A + 1) _ HC.out, HCP.out _ _, HWP.out _ _⟩
                case measure => simp [intOf]
              · obtain ⟨e1, e2⟩ := str_ne he
                obtain ⟨X, hX⟩ : ∃ X, X = max D E := ⟨_, rfl⟩
                have HC : Hid (X = lcs (la.drop i) (lb.drop J)) := by show _ = _; rw [hX, HSTEP.out, if_neg he]
                have hmx : (if D < E then (E : Int) else (D : Int)) = (X : Int) := by split <;> omega
                obtain ⟨s, hs⟩ : ∃ s, s = str x := ⟨_, rfl⟩
                obtain ⟨t, ht⟩ : ∃ t, t = str y := ⟨_, rfl⟩
                rw [← hs] at a0 e1 e2
                rw [← ht] at b0 e1 e2
                clear hs ht he hx hy hia hjb hg hh hX
                go_wp2
                go_quiet (fail)
                go_wp2
                go_region
                all_goals go_wp2
                all_goals go_roundw
                case rel => exact ⟨J, by omega, by go_num, HPUT.out X _ HC.out, HCP.out _ _, HWP.out _ _⟩
                case measure => simp [intOf]
end Go.Proofs.Ytidghjalfbklnaa
