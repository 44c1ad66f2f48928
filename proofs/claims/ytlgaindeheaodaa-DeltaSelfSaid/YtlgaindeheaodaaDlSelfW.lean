/-
  The walks of newFinder at a short base and of longest where it finds the whole base, or nothing.
-/
import Derived.Test.YtlgaindeheaodaaDlNew
namespace Go.Proofs.Ytlgaindeheaodaa
open Go.RowKit Go.Maps Go.WideMaps

set_option maxHeartbeats 2000000 in
set_option maxRecDepth 4000 in
theorem newFinder_small (X : ByteArray) (w : World) (h : X.size < 8) :
    Calls Try.prog 16 #[.string X] w fun e w' => e = .returned (.pointer (some ⟨w.heap.size + 1, 0, none⟩)) ∧ w'.heap[w.heap.size + 1]? = some (fnd X w.heap.size (w.heap.size + 1 + 1) 0 (64 * (X.size : Int))) ∧ Mp w' w.heap.size 0 (.map []) ∧ Below w.heap.size w w' := by
  have hmm := make_map X.size w
  have hmk := mk0
  have i1 : IntKind.i64.wrap ((X.size : Int) - 8) = (X.size : Int) - 8 := IntWalk.i64_in _ (by omega)
  have i2 : IntKind.i64.wrap ((X.size : Int) - 8 + 1) = (X.size : Int) - 8 + 1 := IntWalk.i64_in _ (by omega)
  have i3 : IntKind.i64.wrap (64 * (X.size : Int)) = 64 * (X.size : Int) := IntWalk.i64_in _ (by omega)
  have i6 : ¬ (0 : Int) < (X.size : Int) - 8 + 1 := by omega
  have i7 : (X.size : Int) - 8 + 1 ≤ 0 := by omega
  go_enter Try.func16, Try.ntmps16
  go_upto_region 4 with fail
  obtain ⟨w3, hw3⟩ : ∃ w3, w3 = ((w.alloc (.map #[] 0)).alloc (.cells #[.string X, .map (some w.heap.size), .slice (some ⟨w.heap.size + 1 + 1, 0, none⟩) 0 0, .int .i64 (64 * (X.size : Int)), .pointer none] 62)).alloc (.cells #[] 3) := ⟨_, rfl⟩
  obtain ⟨P, hP⟩ : ∃ P : World → Prop, P = fun w' => w'.heap[w.heap.size + 1]? = some (fnd X w.heap.size (w.heap.size + 1 + 1) 0 (64 * (X.size : Int))) ∧ Mp w' w.heap.size 0 (.map []) ∧ Below w.heap.size w w' := ⟨_, rfl⟩
  have HST : Hid (P w3) := by
    obtain ⟨h1, h2, h3, h4⟩ := heap3 w (.map #[] 0) (.cells #[.string X, .map (some w.heap.size), .slice (some ⟨w.heap.size + 1 + 1, 0, none⟩) 0 0, .int .i64 (64 * (X.size : Int)), .pointer none] 62) (.cells #[] 3)
    rw [← hw3] at h1 h2 h3 h4
    show P w3
    rw [hP]
    refine ⟨h2, ?_, h4⟩
    rw [hw3]
    exact ((World.ownsMap_made (H := Unit) w Try.prog 9 (plainElem Try.prog 3)).alloc _).alloc _
  rw [← hw3]
  have HPP := Lib.hid hP
  clear hw3 hP hmm hmk i1 i2 i3 i6 i7
  go_loopw [4] (fun i wr => i = .int .i64 (-1) ∧ Hid (P wr)) (fun _ _ => 0)
  case atStart => exact ⟨rfl, HST.out⟩
  case round =>
    clear HST
    obtain ⟨rfl, HW⟩ := hrel
    go_wp2_with fail
    go_ret
    have h2 := HW.out
    rw [HPP.out] at h2
    exact ⟨rfl, h2⟩

set_option maxHeartbeats 2000000 in
set_option maxRecDepth 4000 in
theorem longest_self (X : ByteArray) (B M N m k : Nat) (D : DataW Unit) (f : Nat → Int) (w : World) (hX8 : 8 ≤ X.size) (hX : X.size ≤ 1048576) (hm : 0 < m) (hB : w.heap[B]? = some (fnd X M N m (64 * (X.size : Int)))) (hN : NIw w N m f) (hM : Mp w M k D) (hH : Maps.has D (k8 X) = true) (hA : D.atKey (k8 X) (.lit (.int .i64 0)) = .lit (.int .i64 0)) (hNB : N ≠ B) :
    Calls Try.prog 18 #[.pointer (some ⟨B, 0, none⟩), .string X] w fun e w' => e = .returned (.tuple #[.int .i64 0, .int .i64 (X.size : Int)]) ∧ w.grownBy w' (some B) ∧ ∃ sp, w'.heap[B]? = some (fnd X M N m sp) := by
  obtain ⟨K, hK⟩ : ∃ K, K = k8 X := ⟨_, rfl⟩
  rw [← hK] at hH hA
  have hkey : keyOf Try.prog 9 (.string (X.extract 0 8)) = some K := by
    rw [keyOf_string_mk Try.underlying9 (by rw [ByteArray.size_extract]; unfold maxLen; omega), ext_bytes, hK]
    rfl
  have hlk : ∀ w', Mp w' M k D → (Instr.lookup 58 (.map (some M)) (.string (X.extract 0 8)) true).run Try.prog w' = .ok (.tuple #[.int .i64 0, .bool true]) w' := fun w' h => by
    obtain ⟨v, ps, h1, h2⟩ := h.look_ok str_keyed Try.underlying58 (zero_int w') (plainElem_int Try.underlying3 (by decide)) hkey
    rw [hA] at h2
    obtain ⟨c, rfl, hc, _⟩ := plainElem_int_inv Try.underlying3 h2
    simp only [Prod.mk.injEq, DataW.lit.injEq, Lit.int.injEq, true_and] at hc
    rw [hH, ← hc.1] at h1
    exact h1
  have l0 : w.cell? ⟨B, 0, none⟩ = some (.string X) := cell_of_row w B 0 _ _ _ hB
  have l1 : w.cell? ⟨B, 1, none⟩ = some (.map (some M)) := cell_of_row w B 1 _ _ _ hB
  have l2 : w.cell? ⟨B, 2, none⟩ = some (.slice (some ⟨N, 0, none⟩) m m) := cell_of_row w B 2 _ _ _ hB
  have l3 : w.cell? ⟨B, 3, none⟩ = some (.int .i64 (64 * (X.size : Int))) := cell_of_row w B 3 _ _ _ hB
  have n0 : w.cell? ⟨N, 0, none⟩ = some (.int .i64 (f 0)) := hN.at hm
  have f3 := frozen_of_row w B 3 _ _ hB
  have hlk1 := fun n => hlk (w.drewN n) hM
  have x8 : ¬ (X.size : Int) < 8 := by omega
  go_enter Try.func18, Try.ntmps18
  go_wp2
  go_quiet (fail)
  go_wp2
  have HB := Lib.hid hB
  have HN := Lib.hid hN
  clear hB hN hM hlk hlk1 hkey hK
  obtain ⟨wq, hwq⟩ : ∃ wq, wq = w.drewN nq := ⟨_, rfl⟩
  have HBq : Hid (wq.heap[B]? = some (fnd X M N m (64 * (X.size : Int)))) := by rw [hwq]; exact HB.out
  have q0 : wq.cell? ⟨B, 0, none⟩ = some (.string X) := by rw [hwq]; exact l0
  have q1 : wq.cell? ⟨B, 1, none⟩ = some (.map (some M)) := by rw [hwq]; exact l1
  have q2 : wq.cell? ⟨B, 2, none⟩ = some (.slice (some ⟨N, 0, none⟩) m m) := by rw [hwq]; exact l2
  have q3 : wq.cell? ⟨B, 3, none⟩ = some (.int .i64 (64 * (X.size : Int))) := by rw [hwq]; exact l3
  have m0 : wq.cell? ⟨N, 0, none⟩ = some (.int .i64 (f 0)) := by rw [hwq]; exact n0
  have qf : wq.frozen? ⟨B, 3, none⟩ = false := by rw [hwq]; exact f3
  have HNq : Hid (NIw wq N m f) := by rw [hwq]; exact HN.out
  have HQ : Hid (w.grownBy wq (some B)) := by rw [hwq]; exact ⟨rfl, rfl, rfl, Nat.le_refl _, fun _ _ _ => rfl⟩
  rw [← hwq]
  clear hwq l0 l1 l2 l3 n0 f3
  obtain ⟨R, hR⟩ : ∃ R, R = (fun wr => wq.grownBy wr (some B) ∧ ∃ sp, wr.heap[B]? = some (fnd X M N m sp)) := ⟨_, rfl⟩
  have HR := Lib.hid hR
  clear hR
  have HXX : Hid (X.extract 0 X.size = X) := by
    show _ = _
    exact ba_ext (by rw [ext_bytes, List.drop_zero, List.take_of_length_le (by rw [list_len]; omega)])
  have HS : Hid (∀ w, Calls Try.prog 27 #[.string X, .string X] w fun e w' => e = .returned (.int .i64 (X.size : Int)) ∧ ∃ k, w' = w.drewN k) := fun w => shared_same X w hX
  have e1 : IntKind.i64.wrap (64 * (X.size : Int) - 1) = 64 * (X.size : Int) - 1 := IntWalk.i64_in _ (by omega)
  have e2 : IntKind.i64.wrap (64 * (X.size : Int) - 1 - (X.size : Int)) = 64 * (X.size : Int) - 1 - (X.size : Int) := IntWalk.i64_in _ (by omega)
  have s1 : ¬ (64 * (X.size : Int) ≤ 0) := by omega
  have x0 : 0 < X.size := by omega
  have x1 : (0 : Int) < (X.size : Int) := by omega
  obtain ⟨v0, hv0⟩ : ∃ v0, v0 = f 0 := ⟨_, rfl⟩
  rw [← hv0] at m0
  clear hv0
  go_loopw [6, 8, 9] (fun i fv n wr => (i = .int .i64 0 ∧ fv = .int .i64 0 ∧ n = .int .i64 0 ∧ wr = wq) ∨ (i = .int .i64 v0 ∧ fv = .int .i64 0 ∧ n = .int .i64 (X.size : Int) ∧ R wr)) (fun _ _ n _ => X.size - (intOf n).toNat)
  case atStart => exact .inl ⟨rfl, rfl, rfl, rfl⟩
  case round =>
    rcases hrel with ⟨rfl, rfl, rfl, rfl⟩ | ⟨rfl, rfl, rfl, hr⟩
    · have hBN : B ≠ N := Ne.symm hNB
      go_wp2
      obtain ⟨wa, hwa⟩ : ∃ wa, wa = wr.setCell ⟨B, 3, none⟩ (.int .i64 (64 * (X.size : Int) - 1)) := ⟨_, rfl⟩
      have HBa : Hid (wa.heap[B]? = some (fnd X M N m (64 * (X.size : Int) - 1))) := by rw [hwa]; exact fnd_set HBq.out
      have HGa : Hid (wr.grownBy wa (some B)) := by rw [hwa]; exact grown_set ⟨rfl, rfl, rfl, Nat.le_refl _, fun _ _ _ => rfl⟩
      have a0 : wa.cell? ⟨B, 0, none⟩ = some (.string X) := cell_of_row wa B 0 _ _ _ HBa.out
      have a2 : wa.cell? ⟨B, 2, none⟩ = some (.slice (some ⟨N, 0, none⟩) m m) := cell_of_row wa B 2 _ _ _ HBa.out
      have a3 : wa.cell? ⟨B, 3, none⟩ = some (.int .i64 (64 * (X.size : Int) - 1)) := cell_of_row wa B 3 _ _ _ HBa.out
      have am : wa.cell? ⟨N, 0, none⟩ = some (.int .i64 v0) := by
        rw [← m0]
        exact World.cell?_of_block (HGa.out.block N (row_lt HNq.out) (by simpa using hNB))
      have af : wa.frozen? ⟨B, 3, none⟩ = false := frozen_of_row wa B 3 _ _ HBa.out
      rw [← hwa]
      clear hwa q0 q1 q2 q3 m0 qf HBq
      go_quiet (fail)
      go_wp2_with (go_at_call 27; (with_reducible refine (HS.out _).mono ?_); rintro e w2 ⟨rfl, dk, rfl⟩)
      go_roundw
      case rel =>
        refine .inr ⟨rfl, rfl, rfl, ?_⟩
        rw [HR.out]
        exact ⟨grown_set (grown_drewN HGa.out _), _, fnd_set HBa.out⟩
      case measure => simp [intOf]; omega
    · have HRW := Lib.hid hr
      have xx : ¬ (X.size : Int) < (X.size : Int) := by omega
      clear hr x0 x1 s1
      by_cases hv : (0 : Int) ≤ v0
      · go_wp2
        go_ret2
        have h := HRW.out
        rw [HR.out] at h
        exact ⟨rfl, ⟨h.1.os.trans HQ.out.os, h.1.tape.trans HQ.out.tape, h.1.output.trans HQ.out.output, Nat.le_trans HQ.out.size h.1.size, fun j hj hne => (h.1.block j (Nat.lt_of_lt_of_le hj HQ.out.size) hne).trans (HQ.out.block j hj hne)⟩, h.2⟩
      · go_wp2
        go_ret2
        have h := HRW.out
        rw [HR.out] at h
        exact ⟨rfl, ⟨h.1.os.trans HQ.out.os, h.1.tape.trans HQ.out.tape, h.1.output.trans HQ.out.output, Nat.le_trans HQ.out.size h.1.size, fun j hj hne => (h.1.block j (Nat.lt_of_lt_of_le hj HQ.out.size) hne).trans (HQ.out.block j hj hne)⟩, h.2⟩

set_option maxHeartbeats 2000000 in
set_option maxRecDepth 4000 in
theorem longest_none (X s : ByteArray) (B M N : Nat) (sp : Int) (w : World) (hs : 8 ≤ s.size) (hs2 : s.size ≤ 1048576) (hB : w.heap[B]? = some (fnd X M N 0 sp)) (hM : Mp w M 0 (.map [])) :
    Calls Try.prog 18 #[.pointer (some ⟨B, 0, none⟩), .string s] w fun e w' => e = .returned (.tuple #[.int .i64 0, .int .i64 0]) ∧ ∃ k, w' = w.drewN k := by
  obtain ⟨K, hK⟩ : ∃ K, K = k8 s := ⟨_, rfl⟩
  have hkey : keyOf Try.prog 9 (.string (s.extract 0 8)) = some K := by
    rw [keyOf_string_mk Try.underlying9 (by rw [ByteArray.size_extract]; unfold maxLen; omega), ext_bytes, hK]
    rfl
  have hlk : ∀ w', Mp w' M 0 (.map []) → (Instr.lookup 58 (.map (some M)) (.string (s.extract 0 8)) true).run Try.prog w' = .ok (.tuple #[.int .i64 0, .bool false]) w' := fun w' h => by
    obtain ⟨v, ps, h1, h2⟩ := h.look_ok str_keyed Try.underlying58 (zero_int w') (plainElem_int Try.underlying3 (by decide)) hkey
    rw [show (DataW.map [] : DataW Unit).atKey K (.lit (.int .i64 0)) = .lit (.int .i64 0) by rw [hK]; rfl] at h2
    obtain ⟨c, rfl, hc, _⟩ := plainElem_int_inv Try.underlying3 h2
    simp only [Prod.mk.injEq, DataW.lit.injEq, Lit.int.injEq, true_and] at hc
    rw [show Maps.has (.map [] : DataW Unit) K = false by rw [hK]; rfl, ← hc.1] at h1
    exact h1
  have l1 : w.cell? ⟨B, 1, none⟩ = some (.map (some M)) := cell_of_row w B 1 _ _ _ hB
  have hlk1 := fun n => hlk (w.drewN n) hM
  have x8 : ¬ (s.size : Int) < 8 := by omega
  clear hkey hlk hK hM hB
  go_enter Try.func18, Try.ntmps18
  go_wp2
  go_quiet (fail)
  go_wp2
  go_ret2
  exact ⟨rfl, _, rfl⟩
end Go.Proofs.Ytlgaindeheaodaa
