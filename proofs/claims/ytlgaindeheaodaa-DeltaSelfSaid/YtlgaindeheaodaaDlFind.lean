/-
  The finder, at bases of none and of eight bytes.
-/
import Derived.Test.YtlgaindeheaodaaDlMake
namespace Go.Proofs.Ytlgaindeheaodaa
open Go.RowKit Go.Maps Go.WideMaps

theorem mk1 (w : World) : (Instr.makeSlice 59 (.int .i64 1) (.int .i64 1)).run Try.prog w = .ok (.slice (some ⟨w.heap.size, 0, none⟩) 1 1) (w.alloc (.cells #[.int .i64 0] 3)) := by kernel_rfl
theorem mk0 (w : World) : (Instr.makeSlice 59 (.int .i64 0) (.int .i64 0)).run Try.prog w = .ok (.slice (some ⟨w.heap.size, 0, none⟩) 0 0) (w.alloc (.cells #[] 3)) := by kernel_rfl

set_option maxHeartbeats 1000000 in
set_option maxRecDepth 4000 in
theorem longest_short (rest : ByteArray) (p : Value) (w : World) (h : rest.size < 8) :
    Calls Try.prog 18 #[p, .string rest] w fun e w' => e = .returned (.tuple #[.int .i64 0, .int .i64 0]) ∧ w' = w := by
  go_enter Try.func18, Try.ntmps18
  go_wp2
  go_ret2
  exact ⟨rfl, rfl⟩

/-- The finder's block. -/
def fnd (base : ByteArray) (M N n : Nat) (sp : Int) : Obj := .cells #[.string base, .map (some M), .slice (some ⟨N, 0, none⟩) n n, .int .i64 sp, .pointer none] 62 (0, 0)
abbrev Mp (w : World) (M n : Nat) (C : DataW Unit) : Prop := w.ownsMap Try.prog 9 (plainElem (H := Unit) Try.prog 3) M n C
def C1 (base : ByteArray) : DataW Unit := (DataW.map []).put (.string base.data.toList) (.lit (.int .i64 0))

theorem heap3 (w : World) (a b c : Obj) : (((w.alloc a).alloc b).alloc c).heap[w.heap.size]? = some a ∧ (((w.alloc a).alloc b).alloc c).heap[w.heap.size + 1]? = some b ∧ (((w.alloc a).alloc b).alloc c).heap[w.heap.size + 1 + 1]? = some c ∧ Below w.heap.size w (((w.alloc a).alloc b).alloc c) := by
  have h1 := heap_alloc_new w a
  have h2 := heap_alloc_new (w.alloc a) b
  have h3 := heap_alloc_new ((w.alloc a).alloc b) c
  rw [show (w.alloc a).heap.size = w.heap.size + 1 by simp] at h2
  rw [show ((w.alloc a).alloc b).heap.size = w.heap.size + 1 + 1 by simp] at h3
  have h1' := row_alloc (o' := b) h1 (row_lt h1)
  have h1'' := row_alloc (o' := c) h1' (row_lt h1')
  have h2' := row_alloc (o' := c) h2 (row_lt h2)
  exact ⟨h1'', h2', h3, below_new (below_new (below_new (Below.refl _ _) _) _) _⟩

set_option maxHeartbeats 2000000 in
set_option maxRecDepth 4000 in
theorem newFinder_0 (base : ByteArray) (w : World) (h : base.size = 0) :
    Calls Try.prog 16 #[.string base] w fun e w' => ∃ B o, e = .returned (.pointer (some ⟨B, 0, none⟩)) ∧ w.heap.size ≤ B ∧ w'.heap[B]? = some o ∧ NoRow o ∧ Below w.heap.size w w' := by
  have hmm := make_map 0 w
  have hmk := mk0
  go_enter Try.func16, Try.ntmps16
  go_wp2
  go_loopw [4] (fun i wr => i = .int .i64 (-1) ∧ ∃ o, wr.heap[w.heap.size + 1]? = some o ∧ NoRow o ∧ Below w.heap.size w wr) (fun _ _ => 0)
  case atStart => exact ⟨rfl, _, (heap3 _ _ _ _).2.1, (by decide : 62 ≠ 5), (heap3 _ _ _ _).2.2.2⟩
  case round =>
    obtain ⟨rfl, o, h1, h2, h3⟩ := hrel
    go_wp2
    go_ret
    exact ⟨_, o, rfl, Nat.le_succ _, h1, h2, h3⟩

set_option maxHeartbeats 2000000 in
set_option maxRecDepth 4000 in
theorem newFinder_8 (base : ByteArray) (w : World) (h : base.size = 8) :
    Calls Try.prog 16 #[.string base] w fun e w' => ∃ B M N o, e = .returned (.pointer (some ⟨B, 0, none⟩)) ∧ w.heap.size ≤ B ∧ w.heap.size ≤ M ∧ w.heap.size ≤ N ∧ M ≠ B ∧ N ≠ B ∧ w'.heap[B]? = some (fnd base M N 1 512) ∧ w'.heap[N]? = some (.cells #[.int .i64 (-1)] 3 (0, 0)) ∧ w'.heap[M]? = some o ∧ NoRow o ∧ Mp w' M 1 (C1 base) ∧ Below w.heap.size w w' := by
  have hmm := make_map 8 w
  have hmk := mk1
  obtain ⟨D, hD⟩ : ∃ D, D = (DataW.map [] : DataW Unit) := ⟨_, rfl⟩
  obtain ⟨K, hK⟩ : ∃ K, K = Lit.string base.data.toList := ⟨_, rfl⟩
  have hkey : keyOf Try.prog 9 (.string (base.extract 0 8)) = some K := by
    rw [keyOf_string_mk Try.underlying9 (by rw [ByteArray.size_extract]; unfold maxLen; omega), ext_bytes, hK]
    rw [List.drop_zero, List.take_of_length_le (by rw [list_len]; omega)]
  have h2 : Maps.has D K = false := by rw [hD, hK]; rfl
  have HC : Hid (D.put K (.lit (.int .i64 0)) = C1 base) := by show _ = _; rw [hD, hK]; rfl
  have hmap : ∀ b c, Mp (((w.alloc (.map #[] 0)).alloc b).alloc c) w.heap.size 0 D := fun b c => by
    rw [hD]
    exact ((World.ownsMap_made (H := Unit) w Try.prog 9 (plainElem Try.prog 3)).alloc b).alloc c
  clear hD hK
  go_enter Try.func16, Try.ntmps16
  go_wp2
  obtain ⟨R, hR⟩ : ∃ R, R = (fun wr => ∃ o, wr.heap[w.heap.size + 1]? = some (fnd base w.heap.size (w.heap.size + 1 + 1) 1 512) ∧ wr.heap[w.heap.size + 1 + 1]? = some (.cells #[.int .i64 (-1)] 3 (0, 0)) ∧ wr.heap[w.heap.size]? = some o ∧ NoRow o ∧ Mp wr w.heap.size 1 (C1 base) ∧ Below w.heap.size w wr) := ⟨_, rfl⟩
  have HR := Lib.hid hR
  clear hR
  go_loopw [4] (fun i wr => (i = .int .i64 0 ∧ wr = ((w.alloc (.map #[] 0)).alloc (.cells #[.string base, .map (some w.heap.size), .slice (some ⟨w.heap.size + 1 + 1, 0, none⟩) 1 1, .int .i64 512, .pointer none] 62)).alloc (.cells #[.int .i64 0] 3)) ∨ (i = .int .i64 (-1) ∧ R wr)) (fun i _ => (intOf i + 1).toNat)
  case atStart => exact .inl ⟨rfl, rfl⟩
  case round =>
    rcases hrel with ⟨rfl, rfl⟩ | ⟨rfl, hr⟩
    · go_wp2_with (first
        | (at_lookup; refine wpList_lookup_own_ok_int _ rfl _ _ 58 rfl 9 3 .i64 str_keyed Try.underlying58 Try.underlying3 (zero_int _) w.heap.size 0 D rfl (hmap _ _) _ _ rfl hkey ?_; intro c hat hwc)
        | (at_mapUpdate; refine wpList_mapUpdate_own _ rfl _ _ _ 58 rfl 9 3 str_keyed Try.underlying58 _ w.heap.size 0 D rfl (hmap _ _) (by unfold maxLen; omega) _ _ _ rfl rfl hkey _ [] (plainElem_int Try.underlying3 (by decide)) ?_; intro w3 hm3 hg3))
      refine ⟨.inr ⟨rfl, ?_⟩, by decide⟩
      rw [HR.out]
      obtain ⟨g0, g1, g2, g3⟩ := heap3 w (.map #[] 0) (.cells #[.string base, .map (some w.heap.size), .slice (some ⟨w.heap.size + 1 + 1, 0, none⟩) 1 1, .int .i64 512, .pointer none] 62) (.cells #[.int .i64 (-1)] 3)
      rw [HC.out] at hm3
      have hm3' := hm3
      obtain ⟨es, clock, hm, _⟩ := hm3'
      exact ⟨_, (hg3.block _ (row_lt g1) (by simp)).trans g1, (hg3.block _ (row_lt g2) (by simp; omega)).trans g2, hm, trivial, hm3, g3.grown hg3 (by simp; omega) (fun j hj => by cases hj; exact Nat.le_refl _)⟩
    · have HRW := Lib.hid hr
      clear hr
      go_wp2
      go_ret
      have h := HRW.out
      rw [HR.out] at h
      obtain ⟨o, h1, h2, h3, h4, h5, h6⟩ := h
      exact ⟨_, _, _, o, rfl, Nat.le_succ _, Nat.le_refl _, by omega, by omega, by omega, h1, h2, h3, h4, h5, h6⟩

set_option maxHeartbeats 2000000 in
set_option maxRecDepth 4000 in
theorem shared_same (X : ByteArray) (w : World) (hX : X.size ≤ 1048576) :
    Calls Try.prog 27 #[.string X, .string X] w fun e w' => e = .returned (.int .i64 X.size) ∧ ∃ k, w' = w.drewN k := by
  go_enter Try.func27, Try.ntmps27
  go_wp2
  go_loopw [5] (fun i wr => ∃ (k m : Nat), k ≤ X.size ∧ i = .int .i64 k ∧ wr = w.drewN m) (fun i _ => X.size - (intOf i).toNat)
  case atStart => exact ⟨0, 0, by omega, rfl, rfl⟩
  case round =>
    obtain ⟨k, m, hk, rfl, rfl⟩ := hrel
    by_cases hlt : k < X.size
    · go_wp2
      go_quiet (fail)
      go_wp2
      go_roundw
      case rel => exact ⟨k + 1, _, by omega, by go_num, rfl⟩
      case measure => simp [intOf]; omega
    · obtain rfl : k = X.size := by omega
      go_wp2
      go_quiet (fail)
      go_wp2
      go_ret
      exact ⟨rfl, _, World.drewN_drewN _ _ _⟩

theorem grown_set {w0 w : World} {B : Nat} {v : Value} (h : w0.grownBy w (some B)) : w0.grownBy (w.setCell ⟨B, 3, none⟩ v) (some B) :=
  ⟨h.os, h.tape, h.output, by simpa using h.size, fun k hk hkP => (Below.heap_setCell w _ _ k (fun he => hkP (by rw [he]))).trans (h.block k hk hkP)⟩
theorem grown_drewN {w0 w : World} {r : Option Nat} (h : w0.grownBy w r) (n : Nat) : w0.grownBy (w.drewN n) r := ⟨h.os, h.tape, h.output, h.size, h.block⟩
theorem fnd_set {w : World} {X : ByteArray} {B M N n : Nat} {s t : Int} (h : w.heap[B]? = some (fnd X M N n s)) : (w.setCell ⟨B, 3, none⟩ (.int .i64 t)).heap[B]? = some (fnd X M N n t) := by
  have h' := heap_setCell_same w B 3 _ _ (.int .i64 t) h
  rw [h']
  rfl

set_option maxHeartbeats 2000000 in
set_option maxRecDepth 4000 in
theorem longest_8 (X : ByteArray) (B M N : Nat) (w : World) (hX : X.size = 8) (hB : w.heap[B]? = some (fnd X M N 1 512)) (hN : w.heap[N]? = some (.cells #[.int .i64 (-1)] 3 (0, 0))) (hM : Mp w M 1 (C1 X)) (hNB : N ≠ B) :
    Calls Try.prog 18 #[.pointer (some ⟨B, 0, none⟩), .string X] w fun e w' => e = .returned (.tuple #[.int .i64 0, .int .i64 8]) ∧ w.grownBy w' (some B) ∧ ∃ sp, w'.heap[B]? = some (fnd X M N 1 sp) := by
  obtain ⟨K, hK⟩ : ∃ K, K = Lit.string X.data.toList := ⟨_, rfl⟩
  have hkey : keyOf Try.prog 9 (.string (X.extract 0 8)) = some K := by
    rw [keyOf_string_mk Try.underlying9 (by rw [ByteArray.size_extract]; unfold maxLen; omega), ext_bytes, hK]
    rw [List.drop_zero, List.take_of_length_le (by rw [list_len]; omega)]
  have hlk : ∀ w', Mp w' M 1 (C1 X) → (Instr.lookup 58 (.map (some M)) (.string (X.extract 0 8)) true).run Try.prog w' = .ok (.tuple #[.int .i64 0, .bool true]) w' := fun w' h => by
    obtain ⟨v, ps, h1, h2⟩ := h.look_ok str_keyed Try.underlying58 (zero_int w') (plainElem_int Try.underlying3 (by decide)) hkey
    have h3 : Maps.has (C1 X) K = true := by rw [hK]; exact has_put_same isMap_empty (by trivial) _
    have h4 : (C1 X).atKey K (.lit (.int .i64 0)) = .lit (.int .i64 0) := by rw [hK]; exact atKey_put_same isMap_empty (by trivial) _ _
    rw [h4] at h2
    obtain ⟨c, rfl, hc, _⟩ := plainElem_int_inv Try.underlying3 h2
    simp only [Prod.mk.injEq, DataW.lit.injEq, Lit.int.injEq, true_and] at hc
    rw [h3, ← hc.1] at h1
    exact h1
  have l0 : w.cell? ⟨B, 0, none⟩ = some (.string X) := cell_of_row w B 0 _ _ _ hB
  have l1 : w.cell? ⟨B, 1, none⟩ = some (.map (some M)) := cell_of_row w B 1 _ _ _ hB
  have l2 : w.cell? ⟨B, 2, none⟩ = some (.slice (some ⟨N, 0, none⟩) 1 1) := cell_of_row w B 2 _ _ _ hB
  have l3 : w.cell? ⟨B, 3, none⟩ = some (.int .i64 512) := cell_of_row w B 3 _ _ _ hB
  have n0 : w.cell? ⟨N, 0, none⟩ = some (.int .i64 (-1)) := cell_of_row w N 0 _ _ _ hN
  have f3 := frozen_of_row w B 3 _ _ hB
  have hlk1 := fun n => hlk (w.drewN n) hM
  go_enter Try.func18, Try.ntmps18
  go_wp2
  go_quiet (fail)
  go_wp2
  have HB := Lib.hid hB
  have HN := Lib.hid hN
  clear hB hN hM hlk hlk1 hkey hK
  obtain ⟨wq, hwq⟩ : ∃ wq, wq = w.drewN nq := ⟨_, rfl⟩
  have HBq : Hid (wq.heap[B]? = some (fnd X M N 1 512)) := by rw [hwq]; exact HB.out
  have q0 : wq.cell? ⟨B, 0, none⟩ = some (.string X) := by rw [hwq]; exact l0
  have q1 : wq.cell? ⟨B, 1, none⟩ = some (.map (some M)) := by rw [hwq]; exact l1
  have q2 : wq.cell? ⟨B, 2, none⟩ = some (.slice (some ⟨N, 0, none⟩) 1 1) := by rw [hwq]; exact l2
  have q3 : wq.cell? ⟨B, 3, none⟩ = some (.int .i64 512) := by rw [hwq]; exact l3
  have m0 : wq.cell? ⟨N, 0, none⟩ = some (.int .i64 (-1)) := by rw [hwq]; exact n0
  have qf : wq.frozen? ⟨B, 3, none⟩ = false := by rw [hwq]; exact f3
  have HNq : Hid (wq.heap[N]? = some (.cells #[.int .i64 (-1)] 3 (0, 0))) := by rw [hwq]; exact HN.out
  have HQ : Hid (w.grownBy wq (some B)) := by rw [hwq]; exact ⟨rfl, rfl, rfl, Nat.le_refl _, fun _ _ _ => rfl⟩
  rw [← hwq]
  clear hwq l0 l1 l2 l3 n0 f3
  obtain ⟨R, hR⟩ : ∃ R, R = (fun wr => wq.grownBy wr (some B) ∧ ∃ sp, wr.heap[B]? = some (fnd X M N 1 sp)) := ⟨_, rfl⟩
  have HR := Lib.hid hR
  clear hR
  have HXX : Hid (X.extract 0 8 = X) := by
    show _ = _
    exact ba_ext (by rw [ext_bytes, List.drop_zero, List.take_of_length_le (by rw [list_len]; omega)])
  have HS : Hid (∀ w, Calls Try.prog 27 #[.string (X.extract 0 8), .string X] w fun e w' => e = .returned (.int .i64 8) ∧ ∃ k, w' = w.drewN k) := fun w => by
    have h := shared_same X w (by omega)
    rw [hX] at h
    rw [HXX.out]
    exact h
  go_loopw [6, 8, 9] (fun i f n wr => (i = .int .i64 0 ∧ f = .int .i64 0 ∧ n = .int .i64 0 ∧ wr = wq) ∨ (i = .int .i64 (-1) ∧ f = .int .i64 0 ∧ n = .int .i64 8 ∧ R wr)) (fun i _ _ _ => (intOf i + 1).toNat)
  case atStart => exact .inl ⟨rfl, rfl, rfl, rfl⟩
  case round =>
    rcases hrel with ⟨rfl, rfl, rfl, rfl⟩ | ⟨rfl, rfl, rfl, hr⟩
    · have hBN : B ≠ N := Ne.symm hNB
      have x0 : 0 < X.size := by omega
      go_wp2
      obtain ⟨wa, hwa⟩ : ∃ wa, wa = wr.setCell ⟨B, 3, none⟩ (.int .i64 511) := ⟨_, rfl⟩
      have HBa : Hid (wa.heap[B]? = some (fnd X M N 1 511)) := by rw [hwa]; exact fnd_set HBq.out
      have HGa : Hid (wr.grownBy wa (some B)) := by rw [hwa]; exact grown_set ⟨rfl, rfl, rfl, Nat.le_refl _, fun _ _ _ => rfl⟩
      have a0 : wa.cell? ⟨B, 0, none⟩ = some (.string X) := cell_of_row wa B 0 _ _ _ HBa.out
      have a2 : wa.cell? ⟨B, 2, none⟩ = some (.slice (some ⟨N, 0, none⟩) 1 1) := cell_of_row wa B 2 _ _ _ HBa.out
      have a3 : wa.cell? ⟨B, 3, none⟩ = some (.int .i64 511) := cell_of_row wa B 3 _ _ _ HBa.out
      have am : wa.cell? ⟨N, 0, none⟩ = some (.int .i64 (-1)) := cell_of_row wa N 0 _ _ _ (by rw [hwa]; exact (Below.heap_setCell wr ⟨B, 3, none⟩ (.int .i64 511) N hNB).trans HNq.out)
      have af : wa.frozen? ⟨B, 3, none⟩ = false := frozen_of_row wa B 3 _ _ HBa.out
      rw [← hwa]
      clear hwa q0 q1 q2 q3 m0 qf HBq
      go_quiet (fail)
      go_wp2_with (go_at_call 27; refine (HS.out _).mono ?_; rintro e w2 ⟨rfl, dk, rfl⟩)
      go_roundw
      case rel =>
        refine .inr ⟨rfl, rfl, rfl, ?_⟩
        rw [HR.out]
        first
          | exact ⟨grown_drewN (grown_set HGa.out) _, _, fnd_set HBa.out⟩
          | exact ⟨grown_set (grown_drewN HGa.out _), _, fnd_set HBa.out⟩
          | exact ⟨grown_set (grown_drewN (grown_drewN HGa.out _) _), _, fnd_set HBa.out⟩
      case measure => decide
    · have HRW := Lib.hid hr
      clear hr
      go_wp2
      go_ret2
      have h := HRW.out
      rw [HR.out] at h
      exact ⟨rfl, ⟨h.1.os.trans HQ.out.os, h.1.tape.trans HQ.out.tape, h.1.output.trans HQ.out.output, Nat.le_trans HQ.out.size h.1.size, fun j hj hne => (h.1.block j (Nat.lt_of_lt_of_le hj HQ.out.size) hne).trans (HQ.out.block j hj hne)⟩, h.2⟩
end Go.Proofs.Ytlgaindeheaodaa
