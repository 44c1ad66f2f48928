/-
  The walk of lengths.
-/
import Derived.Test.YtidghjalfbklnaaDfNumd
import Derived.Outline
import Derived.StillTailTactics
import Derived.Deep.CutRange
import Derived.Deep.DeepCutAuto
import Derived.Deep.RegionWith
import Derived.Deep.RegionHeld3
namespace Go.Proofs.Ytidghjalfbklnaa
open Go.RowKit

theorem Try.infoU16 : (Try.prog.info? 99).map (fun i => (i.zero, i.size, i.bytes)) = some (some (.int .u16 0), 1, 2) := by kernel_rfl
theorem Try.infoRow : (Try.prog.info? 100).map (fun i => (i.zero, i.size, i.bytes)) = some (some (.slice none 0 0), 1, 24) := by kernel_rfl
/-- A row of lengths. -/
def URw (w : World) (g m : Nat) (f : Nat → Nat) : Prop := ∀ j, j ≤ m → w.cell? ⟨g, j, none⟩ = some (.int .u16 (f j : Nat))
/-- The table of lengths from a row on. -/
def TRw (w : World) (T n m : Nat) (na nb : List Nat) (k0 : Nat) : Prop := ∀ k, k0 ≤ k → k ≤ n → ∃ g, w.cell? ⟨T, k, none⟩ = some (.slice (some ⟨g, 0, none⟩) (m + 1) (m + 1)) ∧ T < g ∧ URw w g m fun j => lcs (na.drop k) (nb.drop j)
theorem drop_step {l : List Nat} {k : Nat} (h : k < l.length) : l.drop k = l[k] :: l.drop (k + 1) := List.drop_eq_getElem_cons h
theorem lcs_end (a b : List Nat) (m : Nat) (h : m = b.length) : lcs a (b.drop m) = 0 := by rw [h, List.drop_length, lcs_nil]

theorem made_at (z : Value) (n j : Nat) (h : j < n) : (madeCells #[z] (n * 1)).toList[j]? = some z := by
  rw [Nat.mul_one, toList_madeCells_one, List.getElem?_replicate, if_pos h]
theorem URw.below {w w' : World} {g m : Nat} {f : Nat → Nat} (h : URw w g m f) (hb : Below w.heap.size w w') : URw w' g m f := fun j hj => by
  have h0 := h j hj
  exact (hb.cell (p := ⟨g, j, none⟩) (World.block_lt_of_cell? w _ h0)).trans h0
theorem URw.set {w : World} {g m B o : Nat} {f : Nat → Nat} {v : Value} (h : URw w g m f) (hB : g ≠ B) : URw (w.setCell ⟨B, o, none⟩ v) g m f := fun j hj =>
  (World.cell?_of_block (a := ⟨g, j, none⟩) (Below.heap_setCell w ⟨B, o, none⟩ v g hB)).trans (h j hj)
/-- The rows of the table from one on, by the table's cells. -/
def TRx (w : World) (xs : List Value) (T n m : Nat) (na nb : List Nat) (k0 : Nat) : Prop := ∀ k, k0 ≤ k → k ≤ n → ∃ g, xs[k]? = some (.slice (some ⟨g, 0, none⟩) (m + 1) (m + 1)) ∧ T < g ∧ URw w g m fun j => lcs (na.drop k) (nb.drop j)
theorem TRx.below {w w' : World} {xs : List Value} {T n m k0 : Nat} {na nb : List Nat} (h : TRx w xs T n m na nb k0) (hb : Below w.heap.size w w') : TRx w' xs T n m na nb k0 := fun k h1 h2 => by
  obtain ⟨g, a, b, c⟩ := h k h1 h2
  exact ⟨g, a, b, c.below hb⟩
theorem TRx.put {w : World} {xs : List Value} {T n m I R : Nat} {na nb : List Nat} (h : TRx w xs T n m na nb (I + 1)) (hI : I < xs.length) (hR : T < R) (hu : URw w R m fun j => lcs (na.drop I) (nb.drop j)) (v : Value) (hv : v = .slice (some ⟨R, 0, none⟩) (m + 1) (m + 1)) :
    TRx (w.setCell ⟨T, I, none⟩ v) (xs.set I v) T n m na nb I := fun k h1 h2 => by
  subst hv
  rcases Nat.eq_or_lt_of_le h1 with rfl | h1
  · exact ⟨R, List.getElem?_set_self hI, hR, hu.set (by omega)⟩
  · obtain ⟨g, a, b, c⟩ := h k h1 h2
    exact ⟨g, by rw [List.getElem?_set_ne (by omega)]; exact a, b, c.set (by omega)⟩
theorem lcs_cons {na nb : List Nat} {i j : Nat} (hi : i < na.length) (hj : j < nb.length) : lcs (na.drop i) (nb.drop j) = if na[i] = nb[j] then lcs (na.drop (i + 1)) (nb.drop (j + 1)) + 1 else max (lcs (na.drop (i + 1)) (nb.drop j)) (lcs (na.drop i) (nb.drop (j + 1))) := by
  rw [drop_step hi, drop_step hj, lcs]

theorem made_at' (z : Value) (n j : Nat) (h : j < n) : (madeCells #[z] n).toList[j]? = some z := by
  rw [toList_madeCells_one, List.getElem?_replicate, if_pos h]
theorem make_u16 (M : Nat) (hM : M ≤ 8192) (w : World) : (Instr.makeSlice 100 (.int .i64 (M : Int)) (.int .i64 (M : Int))).run Try.prog w = .ok (.slice (some ⟨w.heap.size, 0, none⟩) M M) (w.alloc (.cells (madeCells #[.int .u16 0] M) 99)) := by
  obtain ⟨i0, hi, hz0, hz1, hz2⟩ := info_parts Try.infoU16
  have h := run_makeSlice (P := Try.prog) w 100 99 i0 (.int .u16 0) Try.underlying100 hi hz0 .i64 .i64 (M : Int) (M : Int) (by omega) (by omega) (by rw [hz1]; omega) (by rw [hz2]; omega) (by omega)
  rw [hz1] at h
  simp only [Int.toNat_natCast, Nat.mul_one] at h
  exact h
theorem made_u16 (M : Nat) (hM : M ≤ 8192) (w : World) : (w.alloc (.cells (madeCells #[.int .u16 0] M) 99)).ownsRow w.heap.size 99 1 (.slice (some ⟨w.heap.size, 0, none⟩) M M) M (madeCells #[.int .u16 0] M).toList := by
  obtain ⟨i0, hi, hz0, hz1, hz2⟩ := info_parts Try.infoU16
  obtain ⟨w', h1, h2, _⟩ := run_makeSlice_full (P := Try.prog) w w.heap.size 100 99 i0 (.int .u16 0) 1 Try.underlying100 hi hz0 hz1 .i64 .i64 M (by omega) (by rw [hz2]; omega) (by unfold maxLen; omega) (Nat.le_refl _)
  rw [make_u16 M hM w] at h1
  rw [Nat.mul_one] at h2
  simp only [Result.ok.injEq, true_and] at h1
  rw [h1]
  exact h2

set_option maxHeartbeats 4000000 in
set_option maxRecDepth 4000 in
theorem lengths_any (na nb : List Nat) (g1 g2 c d n m : Nat) (w : World) (hn : n = na.length) (hm : m = nb.length) (hp : IRw w g1 na) (hq : IRw w g2 nb) (hl : n ≤ 4096) (hl2 : m ≤ 4096) :
    Calls Try.prog 72 #[.agg #[.slice (some ⟨g1, 0, none⟩) n c, .slice (some ⟨g2, 0, none⟩) m d]] w fun e w' => ∃ T, e = .returned (.slice (some ⟨T, 0, none⟩) (n + 1) (n + 1)) ∧ w.heap.size ≤ T ∧ TRw w' T n m na nb 0 ∧ Below w.heap.size w w' := by
  obtain ⟨i0, hi, hz0, hz1, hz2⟩ := info_parts Try.infoU16
  obtain ⟨i1, hj, hy0, hy1, hy2⟩ := info_parts Try.infoRow
  have HN := Lib.hid hn
  have HM := Lib.hid hm
  have HP := Lib.hid hp
  have HQ := Lib.hid hq
  clear hn hm hp hq
  have hbx : (w.alloc (.cells #[.slice (some ⟨g1, 0, none⟩) n c, .slice (some ⟨g2, 0, none⟩) m d] 67)).heap[w.heap.size]? = some (.cells #[.slice (some ⟨g1, 0, none⟩) n c, .slice (some ⟨g2, 0, none⟩) m d] 67 (0, 0)) := heap_alloc_new w _
  have c0 := cell_of_row _ w.heap.size 0 _ _ _ hbx
  have c1 := cell_of_row _ w.heap.size 1 _ _ _ hbx
  have iw : IntKind.i64.wrap ((n : Int) + 1) = ((n + 1 : Nat) : Int) := by rw [IntWalk.i64_in _ (by omega)]; omega
  have iw2 : IntKind.i64.wrap ((m : Int) + 1) = ((m + 1 : Nat) : Int) := by rw [IntWalk.i64_in _ (by omega)]; omega
  obtain ⟨W0, hW0⟩ : ∃ W0, W0 = w.alloc (.cells #[.slice (some ⟨g1, 0, none⟩) n c, .slice (some ⟨g2, 0, none⟩) m d] 67) := ⟨_, rfl⟩
  have hs0 : W0.heap.size = w.heap.size + 1 := by rw [hW0]; simp
  have hb0 : Below w.heap.size w W0 := by rw [hW0]; exact below_new (Below.refl _ _) _
  go_enter Try.func72, Try.ntmps72
  go_wp2
  rw [← hW0] at hbx c0 c1 ⊢
  go_quiet (fail)
  obtain ⟨W1, hW1⟩ : ∃ W1, W1 = W0.drewN nq := ⟨_, rfl⟩
  have hbx1 : W1.heap[w.heap.size]? = some (.cells #[.slice (some ⟨g1, 0, none⟩) n c, .slice (some ⟨g2, 0, none⟩) m d] 67 (0, 0)) := by rw [hW1]; exact hbx
  have hs1 : W1.heap.size = w.heap.size + 1 := by rw [hW1]; exact hs0
  have hb1 : Below w.heap.size w W1 := by rw [hW1]; exact below_drewN hb0 _
  rw [← hW1]
  have HBX := Lib.hid hbx1
  have HB1 := Lib.hid hb1
  have HS1 := Lib.hid hs1
  clear hbx c0 c1 hs0 hb0 hW0 hW1 hbx1 hb1 hs1
  obtain ⟨T, hT⟩ : ∃ T, W1.heap.size = T := ⟨_, rfl⟩
  have HT1 : Hid (T = w.heap.size + 1) := by show _ = _; rw [← hT, HS1.out]
  go_wp2_with (at_make; first
    | (refine wpList_make_full _ rfl _ _ 97 rfl T 100 i1 (.slice none 0 0) 1 Try.underlying97 hj hy0 hy1 _ _ _ _ (n + 1) rfl rfl rfl rfl (by rw [hy2]; omega) (by unfold maxLen; omega) (by omega) ?_; rw [hT]; intro w2 ho2 hg2; obtain ⟨R, hR⟩ : ∃ R, w2.heap.size = R := ⟨_, rfl⟩; have hTR : T < R := (by rw [← hR]; exact (ho2.lt T rfl).2); obtain ⟨xs, hxs⟩ : ∃ xs, xs = (madeCells (Value.slice none 0 0).cells ((n + 1) * 1)).toList := ⟨_, rfl⟩; rw [← hxs] at ho2; have hxl : xs.length = n + 1 := (by rw [ho2.1, Nat.mul_one]); clear hxs)
    | ((refine wpList_make_full _ rfl _ _ 100 rfl R 99 i0 (.int .u16 0) 1 Try.underlying100 hi hz0 hz1 _ _ _ _ (m + 1) rfl rfl rfl rfl (by rw [hz2]; omega) (by unfold maxLen; omega) (by omega) ?_; rw [hR]; intro w3 ho3 hg3; have ho2' := ho2.kept hg3 (.inr (by simp [Value.ownBlock])); have fz := World.ownsRow.frozenAt ho2' n; obtain ⟨x0, cx⟩ : ∃ x0, w3.cell? ⟨T, n, none⟩ = some x0 := ⟨_, (World.ownsRow.cellAt ho2' n (by omega)).trans (List.getElem?_eq_getElem (by omega))⟩)))
  have HV : Hid (URw w3 R m fun j => lcs (na.drop n) (nb.drop j)) := fun j hj => by
    rw [World.ownsRow.cellAt ho3 j (by have := ho3.1; omega)]
    show _ = some (Value.int .u16 ((lcs (na.drop n) (nb.drop j) : Nat) : Int))
    rw [show na.drop n = [] by rw [HN.out, List.drop_length], lcs_nil']
    exact made_at _ (m + 1) j (by omega)
  obtain ⟨v, hv⟩ : ∃ v, v = Value.slice (some ⟨R, 0, none⟩) (m + 1) (m + 1) := ⟨_, rfl⟩
  have hT0 : TRx (w3.setCell ⟨T, n, none⟩ v) (xs.set n v) T n m na nb n := TRx.put (fun k h1 h2 => by omega) (by omega) hTR HV.out v hv
  have ho4 := (World.ownsRow.stored ho2' n v).1
  have hb4 : Below T W1 (w3.setCell ⟨T, n, none⟩ v) := (((Below.refl T W1).grown hg2 (by omega) (fun k hk => by cases hk)).grown hg3 (by omega) (fun k hk => by cases hk)).setCell (Nat.le_refl _) _
  have hxl2 : (xs.set n v).length = n + 1 := by rw [List.length_set, hxl]
  obtain ⟨w4, hw4⟩ : ∃ w4, w4 = w3.setCell ⟨T, n, none⟩ v := ⟨_, rfl⟩
  obtain ⟨xs4, hxs4⟩ : ∃ xs4, xs4 = xs.set n v := ⟨_, rfl⟩
  rw [← hv, ← hw4]
  rw [← hw4, ← hxs4] at hT0 ho4
  rw [← hw4] at hb4
  rw [← hxs4] at hxl2
  clear hw4 hxs4 hv fz cx ho2' ho2 ho3 hg2 hg3 HV hxl hR hTR
  have HT0 := Lib.hid hT0
  clear hT0
  go_wp2
  go_loopw [27] (fun iv wr => ∃ (k : Nat) (xs : List Value), k ≤ n ∧ iv = .int .i64 k ∧ wr.ownsRow T 100 1 (.slice (some ⟨T, 0, none⟩) (n + 1) (n + 1)) (n + 1) xs ∧ Hid (TRx wr xs T n m na nb (n - k)) ∧ Below T W1 wr) (fun iv _ => n - (intOf iv).toNat)
  case atStart => exact ⟨0, _, by omega, rfl, ho4, HT0, hb4⟩
  case round =>
    clear ho4 HT0 hb4 hxl2
    obtain ⟨k, xs, hk, rfl, ho, HX, hb⟩ := hrel
    by_cases hlt : k < n
    · obtain ⟨I, hI⟩ : ∃ I, I = n - 1 - k := ⟨_, rfl⟩
      have i1 : IntKind.i64.wrap ((n : Int) - 1 - (k : Int)) = (I : Int) := by rw [IntWalk.i64_in _ (by omega)]; omega
      have i2 : IntKind.i64.wrap ((I : Int) + 1) = ((I + 1 : Nat) : Int) := by rw [IntWalk.i64_in _ (by omega)]; omega
      have HI := Lib.hid hI
      have hin : I + 1 < n + 1 := by omega
      have HNK : Hid (n - k = I + 1) := by show _ = _; omega
      clear hI
      go_upto_region 8 with fail
      obtain ⟨gb, hx, hgb, hu⟩ := HX.out (I + 1) (by have := HNK.out; omega) (by omega)
      have hxl : xs.length = n + 1 := by rw [ho.1, Nat.mul_one]
      have cT := (World.ownsRow.cellAt ho (I + 1) (by omega)).trans hx
      obtain ⟨R, hR⟩ : ∃ R, wr.heap.size = R := ⟨_, rfl⟩
      have hTR : T < R := by rw [← hR]; exact (ho.lt T rfl).2
      obtain ⟨M, hM⟩ : ∃ M, M = m + 1 := ⟨_, rfl⟩
      have i3 : IntKind.i64.wrap ((m : Int) + 1) = (M : Int) := by rw [IntWalk.i64_in _ (by omega)]; omega
      have hmk := make_u16 M (by omega)
      have HMM := Lib.hid hM
      clear iw2 hM
      go_cut [8, 9] from 34 to 41 (fun v8 v9 wx => v8 = .slice (some ⟨R, 0, none⟩) M M ∧ v9 = .slice (some ⟨gb, 0, none⟩) (m + 1) (m + 1) ∧ ∃ x, wx = (wr.alloc (.cells (madeCells #[.int .u16 0] M) 99)).drewN x)
      case first =>
        go_region
        all_goals go_wp2_with fail
        all_goals go_meet
        all_goals first | exact ⟨rfl, rfl, 1, rfl⟩ | exact ⟨rfl, rfl, 2, rfl⟩ | exact ⟨rfl, rfl, 0, rfl⟩
      case rest =>
        obtain ⟨rfl, rfl, x, hwc⟩ := hcut
        have ho5 : wc.ownsRow R 99 1 (.slice (some ⟨R, 0, none⟩) M M) M (madeCells #[.int .u16 0] M).toList := by
          rw [hwc, ← hR]
          exact made_u16 M (by have := HMM.out; omega) wr
        have hb5 : Below R wr wc := by
          rw [hwc, ← hR]
          exact below_drewN (below_new (Below.refl _ _) _) _
        have i4 : IntKind.i64.wrap ((m : Int) - 1) = (m : Int) - 1 := IntWalk.i64_in _ (by omega)
        have HZ : Hid (∀ j, m ≤ j → j ≤ m → (madeCells #[Value.int .u16 0] M).toList[j]? = some (Value.int .u16 ((lcs (na.drop I) (nb.drop j) : Nat) : Int))) := fun j h1 h2 => by
          obtain rfl : j = m := by omega
          rw [lcs_end _ _ _ HM.out]
          exact made_at' _ M j (by have := HMM.out; omega)
        obtain ⟨zs, hzs⟩ : ∃ zs, zs = (madeCells #[Value.int .u16 0] M).toList := ⟨_, rfl⟩
        rw [← hzs] at ho5 HZ
        have HBW : Hid (Below T W1 wr) := hb
        have HXT := Lib.hid HX.out
        clear hwc hzs hmk i3 hb HX
        go_wp2
        go_loopw [10] (fun jv wq => ∃ (q : Nat) (rs : List Value), q ≤ m ∧ jv = .int .i64 ((q : Int) - 1) ∧ wq.ownsRow R 99 1 (.slice (some ⟨R, 0, none⟩) M M) M rs ∧ Below R wr wq ∧ Hid (∀ j, q ≤ j → j ≤ m → rs[j]? = some (Value.int .u16 ((lcs (na.drop I) (nb.drop j) : Nat) : Int)))) (fun jv _ => (intOf jv + 1).toNat)
        case atStart => exact ⟨m, zs, by omega, rfl, ho5, hb5, HZ⟩
        case round =>
          clear ho5 hb5 HZ i4
          obtain ⟨q, rs, hq, hjv, hor, hbq, HR⟩ := hrel
          by_cases hq0 : q = 0
          · subst hq0
            have hjv2 : (Value.int .i64 (((0 : Nat) : Int) - 1)) = .int .i64 (-1) := rfl
            rw [hjv2] at hjv
            obtain rfl := hjv
            have ho6 := own_below ho (by rw [hR]; exact hbq)
            have fz := World.ownsRow.frozenAt ho6 I
            obtain ⟨x0, cx⟩ : ∃ x0, wr.cell? ⟨T, I, none⟩ = some x0 := ⟨_, (World.ownsRow.cellAt ho6 I (by omega)).trans (List.getElem?_eq_getElem (by omega))⟩
            have hIn : I < n + 1 := by omega
            have HX6 := (HXT.out.below (by rw [hR]; exact hbq))
            rw [HNK.out] at HX6
            have ho7 := (World.ownsRow.stored ho6 I (.slice (some ⟨R, 0, none⟩) M M)).1
            have HUR : URw wr R m fun j => lcs (na.drop I) (nb.drop j) := fun j hj => (World.ownsRow.cellAt hor j (by have := hor.1; have := HMM.out; omega)).trans (HR.out j (Nat.zero_le _) hj)
            have HX7 := TRx.put HX6 (by omega) hTR HUR (.slice (some ⟨R, 0, none⟩) M M) (by rw [HMM.out])
            have hbe : Below T W1 (wr.setCell ⟨T, I, none⟩ (.slice (some ⟨R, 0, none⟩) M M)) := (HBW.out.trans (hbq.mono (by omega))).setCell (Nat.le_refl _) _
            have HX8 : Hid (TRx (wr.setCell ⟨T, I, none⟩ (.slice (some ⟨R, 0, none⟩) M M)) (xs.set I (.slice (some ⟨R, 0, none⟩) M M)) T n m na nb (n - (k + 1))) := by
              show TRx _ _ _ _ _ _ _ _
              rw [show n - (k + 1) = I by have := HNK.out; omega]
              exact HX7
            clear HX6 HX7 HUR ho6 HR
            go_wp2
            go_roundw
            case rel => exact ⟨k + 1, _, by omega, by go_num, ho7, HX8, hbe⟩
            case measure => simp [intOf]; omega
          · obtain ⟨J, rfl⟩ : ∃ J, q = J + 1 := ⟨q - 1, by omega⟩
            have hjv2 : (Value.int .i64 (((J + 1 : Nat) : Int) - 1)) = .int .i64 (J : Int) := by congr 1; omega
            rw [hjv2] at hjv
            obtain rfl := hjv
            have HQ1 := ((HQ.out.below HB1.out).below (by rw [hT]; exact HBW.out)).below (by rw [hR]; exact hbq)
            have HP1 := ((HP.out.below HB1.out).below (by rw [hT]; exact HBW.out)).below (by rw [hR]; exact hbq)
            have hIl : I < na.length := by rw [← HN.out]; omega
            have hJl : J < nb.length := by rw [← HM.out]; omega
            have a0 := HP1 I hIl
            have b0 := HQ1 J hJl
            have hbx : wr.heap[w.heap.size]? = some (.cells #[.slice (some ⟨g1, 0, none⟩) n c, .slice (some ⟨g2, 0, none⟩) m d] 67 (0, 0)) := (hbq.block _ (by have := HT1.out; omega)).trans ((HBW.out.block _ (by have := HT1.out; omega)).trans HBX.out)
            have c0 := cell_of_row _ w.heap.size 0 _ _ _ hbx
            have c1 := cell_of_row _ w.heap.size 1 _ _ _ hbx
            have hu2 := hu.below (by rw [hR]; exact hbq)
            have hstep := lcs_cons hIl hJl
            obtain ⟨x, hx⟩ : ∃ x, x = na[I] := ⟨_, rfl⟩
            obtain ⟨y, hy⟩ : ∃ y, y = nb[J] := ⟨_, rfl⟩
            rw [← hx] at a0 hstep
            rw [← hy] at b0 hstep
            have hrl : rs.length = M := by rw [hor.1, Nat.mul_one]
            have fz := World.ownsRow.frozenAt hor J
            obtain ⟨x0, cx⟩ : ∃ x0, wr.cell? ⟨R, J, none⟩ = some x0 := ⟨_, (World.ownsRow.cellAt hor J (by have := HMM.out; omega)).trans (List.getElem?_eq_getElem (by have := HMM.out; omega))⟩
            have hsto : ∀ (w2 : World) (C : Nat), w2.ownsRow R 99 1 (.slice (some ⟨R, 0, none⟩) M M) M rs → (w2.setCell ⟨R, J, none⟩ (.int .u16 (C : Int))).ownsRow R 99 1 (.slice (some ⟨R, 0, none⟩) M M) M (rs.set J (.int .u16 (C : Int))) := fun w2 C h => (World.ownsRow.stored h J _).1
            have hHX : Hid (∀ C : Nat, C = lcs (na.drop I) (nb.drop J) → Hid (∀ j, J ≤ j → j ≤ m → (rs.set J (.int .u16 (C : Int)))[j]? = some (Value.int .u16 ((lcs (na.drop I) (nb.drop j) : Nat) : Int)))) := fun C hC j h1 h2 => by
              rcases Nat.eq_or_lt_of_le h1 with rfl | h1
              · rw [List.getElem?_set_self (by have := HMM.out; omega), hC]
              · rw [List.getElem?_set_ne (by omega), HR.out j (by omega) h2]
            have hrj := (World.ownsRow.cellAt hor (J + 1) (by have := HMM.out; omega)).trans (HR.out (J + 1) (Nat.le_refl _) (by omega))
            have l1 := lcs_le (na.drop (I + 1)) (nb.drop (J + 1))
            rw [List.length_drop, ← HM.out] at l1
            have u1 := hu2 (J + 1) (by omega)
            have u0 := hu2 J (by omega)
            simp only at u1 u0
            obtain ⟨A, hA⟩ : ∃ A, A = lcs (na.drop (I + 1)) (nb.drop (J + 1)) := ⟨_, rfl⟩
            obtain ⟨D, hD⟩ : ∃ D, D = lcs (na.drop (I + 1)) (nb.drop J) := ⟨_, rfl⟩
            obtain ⟨E, hE⟩ : ∃ E, E = lcs (na.drop I) (nb.drop (J + 1)) := ⟨_, rfl⟩
            rw [← hA] at u1 l1 hstep
            rw [← hD] at u0 hstep
            rw [← hE] at hrj hstep
            have hJM : J < M := by have := HMM.out; omega
            have hJM1 : J + 1 < M := by have := HMM.out; omega
            have HSTEP := Lib.hid hstep
            have HOR := Lib.hid hor
            have i5 : IntKind.i64.wrap ((J : Int) + 1) = ((J + 1 : Nat) : Int) := by rw [IntWalk.i64_in _ (by omega)]; omega
            have i6 : IntKind.u16.wrap ((A : Int) + 1) = ((A + 1 : Nat) : Int) := by rw [IntWalk.u16_in _ (by omega)]; omega
            clear hx hy hA hD hE hstep hIl hJl HQ1 HP1 hbx hu2 hrl HR hu hor l1 hjv2
            by_cases he : x = y
            · have e1 : ((x : Int) == (y : Int)) = true := by rw [beq_iff_eq]; omega
              have HC : Hid (A + 1 = lcs (na.drop I) (nb.drop J)) := by show _ = _; rw [HSTEP.out, if_pos he]
              clear he
              go_wp2
              go_quiet (fail)
              go_wp2
              go_roundw
              case rel => exact ⟨J, _, by omega, by go_num, hsto _ (A + 1) HOR.out, (below_drewN hbq _).setCell (Nat.le_refl _) _, hHX.out _ HC.out⟩
              case measure => simp [intOf]
            · have e1 : ((x : Int) == (y : Int)) = false := by rw [beq_eq_false_iff_ne]; omega
              obtain ⟨X, hX⟩ : ∃ X, X = max D E := ⟨_, rfl⟩
              have HC : Hid (X = lcs (na.drop I) (nb.drop J)) := by show _ = _; rw [hX, HSTEP.out, if_neg he]
              have hmx : (if D < E then (E : Int) else (D : Int)) = (X : Int) := by split <;> omega
              clear he hX
              go_wp2
              go_quiet (fail)
              go_wp2
              go_region
              go_wp2
              go_roundw
              case rel => exact ⟨J, _, by omega, by go_num, hsto _ X HOR.out, (below_drewN hbq _).setCell (Nat.le_refl _) _, hHX.out _ HC.out⟩
              case measure => simp [intOf]
    · obtain rfl : k = n := by omega
      have HTR : Hid (TRw wr T k m na nb 0) := fun j h1 h2 => by
        obtain ⟨g, a, b, c⟩ := HX.out j (by omega) h2
        exact ⟨g, (World.ownsRow.cellAt ho j (by have := ho.1; omega)).trans a, b, c⟩
      have hTw : w.heap.size ≤ T := by have := HT1.out; omega
      have hbe := Lib.hid (HB1.out.trans (hb.mono hTw))
      go_wp2
      go_ret
      exact ⟨T, rfl, hTw, HTR.out, hbe.out⟩
end Go.Proofs.Ytidghjalfbklnaa
