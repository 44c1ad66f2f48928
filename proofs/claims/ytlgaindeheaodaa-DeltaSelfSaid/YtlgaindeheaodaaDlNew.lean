/-
  The walk of newFinder at any base: what a later search for the base itself finds.
-/
import Derived.Test.YtlgaindeheaodaaDlFind
namespace Go.Proofs.Ytlgaindeheaodaa
open Go.RowKit Go.Maps Go.WideMaps

/-- A row told by a function. -/
def nRow (N : Nat) (f : Nat → Value) : Array Value := ((List.range N).map f).toArray
theorem nRow_at {N i : Nat} {f : Nat → Value} (h : i < N) : (nRow N f)[i]? = some (f i) := by simp [nRow, h]
def nSet {α : Type} (f : Nat → α) (i : Nat) (v : α) : Nat → α := fun j => if j = i then v else f j
theorem nRow_set {N i : Nat} {f : Nat → Value} {v : Value} : (nRow N f).setIfInBounds i v = nRow N (nSet f i v) := by
  unfold nRow
  rw [List.setIfInBounds_toArray]
  congr 1
  refine List.ext_getElem (by simp) fun j h1 h2 => ?_
  rw [List.getElem_set]
  by_cases h : i = j
  · subst h
    simp [nSet]
  · have h' : ¬ j = i := fun e => h e.symm
    simp [h, nSet, h']
theorem nRow_made (z : Value) (n : Nat) : madeCells #[z] n = nRow n (fun _ => z) := by
  rw [← Array.toList_inj, toList_madeCells_one]
  unfold nRow
  exact List.ext_getElem (by simp) fun j h1 h2 => by simp
/-- A row of numbers. -/
def NIw (w : World) (B N : Nat) (f : Nat → Int) : Prop := w.heap[B]? = some (.cells (nRow N fun j => .int .i64 (f j)) 3 (0, 0))
section
variable {w w' : World} {B N : Nat} {f : Nat → Int}
theorem NIw.at (h : NIw w B N f) {i : Nat} (hi : i < N) : w.cell? ⟨B, i, none⟩ = some (.int .i64 (f i)) := (cell_of_row _ _ i _ _ _ h).trans (nRow_at hi)
theorem NIw.fz (h : NIw w B N f) (i : Nat) : w.frozen? ⟨B, i, none⟩ = false := frozen_of_row _ _ i _ _ h
theorem NIw.set (h : NIw w B N f) (i : Nat) (v : Int) : NIw (w.setCell ⟨B, i, none⟩ (.int .i64 v)) B N (nSet f i v) := by
  unfold NIw
  rw [heap_setCell_same w B i _ _ _ h, nRow_set]
  congr 2
  unfold nRow
  congr 1
  refine List.map_congr_left fun j _ => ?_
  simp only [nSet]
  split <;> rfl
theorem NIw.grown (h : NIw w B N f) {r : Option Nat} (hg : w.grownBy w' r) (hne : some B ≠ r) : NIw w' B N f := (hg.block B (row_lt h) hne).trans h
end
theorem make_intsN (n : Nat) (hn : n ≤ 1048576) (w : World) : (Instr.makeSlice 59 (.int .i64 (n : Int)) (.int .i64 (n : Int))).run Try.prog w = .ok (.slice (some ⟨w.heap.size, 0, none⟩) n n) (w.alloc (.cells (nRow n (fun _ => .int .i64 0)) 3)) := by
  obtain ⟨i0, hi, hz0, hz1, hz2⟩ := info_parts Try.infoInt
  have h := run_makeSlice (P := Try.prog) w 59 3 i0 (.int .i64 0) Try.underlying59 hi hz0 .i64 .i64 (n : Int) (n : Int) (by omega) (by omega) (by rw [hz1]; omega) (by rw [hz2]; omega) (by omega)
  rw [hz1] at h
  simp only [Int.toNat_natCast, Nat.mul_one] at h
  rw [← nRow_made]
  exact h
/-- The key of a base's first eight bytes. -/
def k8 (X : ByteArray) : Lit := .string (X.data.toList.take 8)
/-- What newFinder leaves: the finder's block, its map, its row. -/
structure NFw (X : ByteArray) (B M N m : Nat) (w : World) : Prop where
  fd : w.heap[B]? = some (fnd X M N m (64 * (X.size : Int)))
  nx : ∃ f, NIw w N m f
  mp : ∃ k D, Mp w M k D ∧ IsMap D ∧ k ≤ X.size ∧ Maps.has D (k8 X) = true ∧ D.atKey (k8 X) (.lit (.int .i64 0)) = .lit (.int .i64 0)
  mb : M ≠ B
  nb : N ≠ B
/-- The state of its loop. -/
structure NFl (w0 : World) (X : ByteArray) (m i : Nat) (w : World) : Prop where
  fd : w.heap[w0.heap.size + 1]? = some (fnd X w0.heap.size (w0.heap.size + 1 + 1) m (64 * (X.size : Int)))
  nx : ∃ f, NIw w (w0.heap.size + 1 + 1) m f
  mp : ∃ k D, Mp w w0.heap.size k D ∧ IsMap D ∧ k + i ≤ m ∧ (i < m → i = 0 → Maps.has D (k8 X) = true ∧ D.atKey (k8 X) (.lit (.int .i64 0)) = .lit (.int .i64 0))
  b : Below w0.heap.size w0 w
theorem grown_self2 (w : World) (r : Option Nat) : w.grownBy w r := ⟨rfl, rfl, rfl, Nat.le_refl _, fun _ _ _ => rfl⟩
theorem grown_setI {w0 w : World} {B i : Nat} {v : Value} (h : w0.grownBy w (some B)) : w0.grownBy (w.setCell ⟨B, i, none⟩ v) (some B) :=
  ⟨h.os, h.tape, h.output, by simpa using h.size, fun k hk hkP => (Below.heap_setCell w _ _ k (fun he => hkP (by rw [he]))).trans (h.block k hk hkP)⟩
set_option maxHeartbeats 4000000 in
set_option maxRecDepth 4000 in
theorem newFinder_any (X : ByteArray) (w : World) (h : 8 ≤ X.size) (hX : X.size ≤ 1048576) :
    Calls Try.prog 16 #[.string X] w fun e w' => ∃ B M N, e = .returned (.pointer (some ⟨B, 0, none⟩)) ∧ w.heap.size ≤ B ∧ w.heap.size ≤ M ∧ w.heap.size ≤ N ∧ NFw X B M N (X.size - 7) w' ∧ Below w.heap.size w w' := by
  have hmm := make_map X.size w
  obtain ⟨m, hm⟩ : ∃ m, m = X.size - 7 := ⟨_, rfl⟩
  have hmk := fun w' => make_intsN m (by omega) w'
  have i1 : IntKind.i64.wrap ((X.size : Int) - 8) = (X.size : Int) - 8 := IntWalk.i64_in _ (by omega)
  have i2 : IntKind.i64.wrap ((X.size : Int) - 8 + 1) = (m : Int) := by rw [IntWalk.i64_in _ (by omega)]; omega
  have i3 : IntKind.i64.wrap (64 * (X.size : Int)) = 64 * (X.size : Int) := IntWalk.i64_in _ (by omega)
  have i4 : (X.size : Int) - 8 + 1 = (m : Int) := by omega
  rw [← hm]
  have i5 : IntKind.i64.wrap ((m : Int) - 1) = (m : Int) - 1 := IntWalk.i64_in _ (by omega)
  have i6 : (0 : Int) ≤ (m : Int) := by omega
  have HM := Lib.hid hm
  clear hm
  go_enter Try.func16, Try.ntmps16
  go_upto_region 4 with fail
  obtain ⟨w3, hw3⟩ : ∃ w3, w3 = ((w.alloc (.map #[] 0)).alloc (.cells #[.string X, .map (some w.heap.size), .slice (some ⟨w.heap.size + 1 + 1, 0, none⟩) m m, .int .i64 (64 * (X.size : Int)), .pointer none] 62)).alloc (.cells (nRow m fun _ => .int .i64 0) 3) := ⟨_, rfl⟩
  have HST : Hid (NFl w X m m w3) := by
    obtain ⟨h1, h2, h3, h4⟩ := heap3 w (.map #[] 0) (.cells #[.string X, .map (some w.heap.size), .slice (some ⟨w.heap.size + 1 + 1, 0, none⟩) m m, .int .i64 (64 * (X.size : Int)), .pointer none] 62) (.cells (nRow m fun _ => .int .i64 0) 3)
    rw [← hw3] at h1 h2 h3 h4
    refine ⟨h2, ⟨fun _ => 0, h3⟩, ⟨0, .map [], ?_, isMap_empty, by omega, fun h => absurd h (Nat.lt_irrefl _)⟩, h4⟩
    rw [hw3]
    exact ((World.ownsMap_made (H := Unit) w Try.prog 9 (plainElem Try.prog 3)).alloc _).alloc _
  rw [← hw3]
  have HX8 : Hid (8 ≤ X.size ∧ X.size ≤ 1048576) := ⟨h, hX⟩
  clear hw3 hmm hmk i1 i2 i3 i4 i5 i6
  go_loopw [4] (fun iv wr => ∃ (z : Int) (i : Nat), iv = .int .i64 z ∧ Hid (z = (i : Int) - 1) ∧ i ≤ m ∧ Hid (NFl w X m i wr)) (fun iv _ => (intOf iv + 1).toNat)
  case atStart => exact ⟨_, m, rfl, rfl, Nat.le_refl _, HST.out⟩
  case round =>
    clear HST
    obtain ⟨z, i, rfl, HZ, hi, HN⟩ := hrel
    rcases i with _ | j
    · obtain rfl : z = -1 := by have := HZ.out; omega
      clear HZ
      go_wp2_with fail
      go_ret
      obtain ⟨k, D, h1, h2, h3, h4⟩ := HN.out.mp
      have hm := HM.out
      refine ⟨w.heap.size + 1, w.heap.size, w.heap.size + 1 + 1, rfl, by omega, Nat.le_refl _, by omega, ⟨HN.out.fd, HN.out.nx, ⟨k, D, h1, h2, by omega, h4 (by omega) rfl⟩, by omega, by omega⟩, HN.out.b⟩
    · obtain rfl : z = (j : Int) := by have := HZ.out; omega
      clear HZ
      have hm := HM.out
      have hj8 : j + 8 ≤ X.size := by omega
      have hmB : m ≤ 1048576 := by omega
      obtain ⟨M, hM⟩ : ∃ M, M = w.heap.size := ⟨_, rfl⟩
      obtain ⟨B, hB⟩ : ∃ B, B = w.heap.size + 1 := ⟨_, rfl⟩
      obtain ⟨N, hN⟩ : ∃ N, N = w.heap.size + 1 + 1 := ⟨_, rfl⟩
      have hfd := HN.out.fd
      obtain ⟨f, hnx⟩ := HN.out.nx
      obtain ⟨k, D, hmap, hD, hkm, -⟩ := HN.out.mp
      have hbl := HN.out.b
      rw [← hN, ← hB, ← hM] at hfd
      rw [← hN] at hnx
      rw [← hM] at hmap
      rw [← hN, ← hB, ← hM]
      clear HN
      obtain ⟨K, hK⟩ : ∃ K, K = Lit.string ((X.data.toList.drop j).take 8) := ⟨_, rfl⟩
      have hkey : keyOf Try.prog 9 (.string (X.extract j (j + 8))) = some K := by
        rw [keyOf_string_mk Try.underlying9 (by rw [ByteArray.size_extract]; unfold maxLen; omega), ext_bytes, show j + 8 - j = 8 by omega, hK]
      have c1 : wr.cell? ⟨B, 1, none⟩ = some (.map (some M)) := cell_of_row wr B 1 _ _ _ hfd
      have c2 : wr.cell? ⟨B, 2, none⟩ = some (.slice (some ⟨N, 0, none⟩) m m) := cell_of_row wr B 2 _ _ _ hfd
      have fz := hnx.fz j
      have j1 : IntKind.i64.wrap ((j : Int) + 8) = (j : Int) + 8 := IntWalk.i64_in _ (by omega)
      have j2 : (0 : Int) ≤ (j : Int) := by omega
      have j3 : j < m := by omega
      have c3 := hnx.at j3
      have hg1 : ∀ v, wr.grownBy (wr.setCell ⟨N, j, none⟩ v) (some N) := fun v => grown_setI (grown_self2 wr _)
      have hms : ∀ v, Mp (wr.setCell ⟨N, j, none⟩ v) M k D := fun v => hmap.kept (hg1 v) (by simp; omega)
      have c1' : ∀ v, (wr.setCell ⟨N, j, none⟩ v).cell? ⟨B, 1, none⟩ = some (.map (some M)) := fun v => cell_of_row _ B 1 _ _ _ (((hg1 v).block B (row_lt hfd) (by simp; omega)).trans hfd)
      have hNB : N ≠ B := by omega
      have hBN : B ≠ N := by omega
      have HFD := Lib.hid hfd
      have HNX := Lib.hid hnx
      have HDM := Lib.hid hD
      have HKK := Lib.hid hK
      have HBL := Lib.hid hbl
      have HMM := Lib.hid hM
      have HBB := Lib.hid hB
      have HNN := Lib.hid hN
      have HG1 := Lib.hid hg1
      have HNXT : Hid (∀ (c : Int) w5, Mp w5 M (k + 1) (D.put K (.lit (.int .i64 (j : Int)))) → (wr.setCell ⟨N, j, none⟩ (.int .i64 c)).grownBy w5 (some M) → NFl w X m j w5) := fun c w5 hm5 hg5 => by
        have hfd2 := ((hg1 (.int .i64 c)).block B (row_lt hfd) (by simp; omega)).trans hfd
        refine ⟨?_, ⟨nSet f j c, ?_⟩, ⟨k + 1, _, by rw [← hM]; exact hm5, hD.put _ _, by omega, fun _ h0 => ?_⟩, ?_⟩
        · rw [← hN, ← hB, ← hM]
          exact (hg5.block B (row_lt hfd2) (by simp; omega)).trans hfd2
        · rw [← hN]
          exact (hnx.set j c).grown hg5 (by simp; omega)
        · subst h0
          have e : K = k8 X := by rw [hK, List.drop_zero, k8]
          rw [e]
          exact ⟨has_put_same hD (by trivial) _, atKey_put_same hD (by trivial) _ _⟩
        · have hs := hbl.size
          exact (hbl.setCell (p := ⟨N, j, none⟩) (by simp only; omega) _).grown hg5 (by simp; omega) (fun q hq => by cases hq; omega)
      clear hfd hnx hD hK hbl hg1 hM hB hN hi hm
      cases hH : Maps.has D K with
      | true =>
        go_wp2_with (first
          | (at_lookup; refine wpList_lookup_own_ok_int _ rfl _ _ 58 rfl 9 3 .i64 str_keyed Try.underlying58 Try.underlying3 (zero_int _) M k D rfl hmap _ _ rfl hkey ?_; intro c hat hwc; rw [hH])
          | (at_mapUpdate; refine wpList_mapUpdate_own _ rfl _ _ _ 58 rfl 9 3 str_keyed Try.underlying58 _ M k D rfl (hms _) (by unfold maxLen; omega) _ _ _ rfl rfl hkey _ [] (plainElem_int Try.underlying3 (WalkArith.wf_i64 (by omega))) ?_; intro w5 hm5 hg5))
        go_roundw
        case rel => exact ⟨(j : Int) - 1, j, by go_num, rfl, by omega, HNXT.out _ _ hm5 hg5⟩
        case measure => simp [intOf]
      | false =>
        go_wp2_with (first
          | (at_lookup; refine wpList_lookup_own_ok_int _ rfl _ _ 58 rfl 9 3 .i64 str_keyed Try.underlying58 Try.underlying3 (zero_int _) M k D rfl hmap _ _ rfl hkey ?_; intro c hat hwc; rw [hH])
          | (at_mapUpdate; refine wpList_mapUpdate_own _ rfl _ _ _ 58 rfl 9 3 str_keyed Try.underlying58 _ M k D rfl (hms _) (by unfold maxLen; omega) _ _ _ rfl rfl hkey _ [] (plainElem_int Try.underlying3 (WalkArith.wf_i64 (by omega))) ?_; intro w5 hm5 hg5))
        go_roundw
        case rel => exact ⟨(j : Int) - 1, j, by go_num, rfl, by omega, HNXT.out _ _ hm5 hg5⟩
        case measure => simp [intOf]
end Go.Proofs.Ytlgaindeheaodaa
