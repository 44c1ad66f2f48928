/-
  The walks of Less and of the reference's.
-/
import Derived.Test.YtbleabfgekeneaaGreatDoorTrPlain
import Derived.Test.YtbleabfgekeneaaGreatDoorObNumPk
import Derived.Test.YtbleabfgekeneaaGreatDoorRow
namespace Go.Proofs.YtbleabfgekeneaaGreatDoor
open Go.RowKit

theorem key_dir {e : En} (h : e.m = 4) : keyE e = e.n ++ ⟨#[47]⟩ := if_pos h
theorem key_file {e : En} (h : ¬ e.m = 4) : keyE e = e.n := if_neg h
theorem key_len (e : En) : (keyE e).size ≤ e.n.size + 1 := by
  unfold keyE
  split
  · rw [← list_len, app_list, List.length_append, list_len]; exact Nat.le_refl _
  · omega
set_option maxHeartbeats 1000000 in
theorem sortKey_any (m : Int) (n i : ByteArray) (w : World) (hs : n.size ≤ 140737488355328) :
    Calls Tryz.prog 151 #[.agg #[.int .i64 m, .string n, .string i]] w fun e w' => e = .returned (.string (keyE ⟨m, n, i⟩)) ∧ Below w.heap.size w w' := by
  obtain ⟨K, hK⟩ : ∃ K, K = keyE ⟨m, n, i⟩ := ⟨_, rfl⟩
  rw [← hK]
  have hb : Below w.heap.size w (w.alloc (.cells #[.int .i64 m, .string n, .string i] 85)) := below_new (Below.refl _ _) _
  by_cases h : m = 4
  · have HK : Hid (K = n ++ ⟨#[47]⟩) := by rw [hK]; exact key_dir h
    have h4 : (m == 4) = true := by rw [h]; rfl
    clear hK h
    go_enter Tryz.func151, Tryz.ntmps151
    go_wp2
    go_ret
    exact ⟨by rw [HK.out]; rfl, hb⟩
  · have HK : Hid (K = n) := by rw [hK]; exact key_file h
    have h4 : (m == 4) = false := by simpa using h
    clear hK
    go_enter Tryz.func151, Tryz.ntmps151
    go_wp2
    go_ret
    exact ⟨by rw [HK.out]; rfl, hb⟩
set_option maxHeartbeats 1000000 in
theorem rkey_any (m : Int) (n i : ByteArray) (w : World) (hs : n.size ≤ 140737488355328) :
    Calls Tryz.prog 136 #[.agg #[.int .i64 m, .string n, .string i]] w fun e w' => e = .returned (.string (keyE ⟨m, n, i⟩)) ∧ Below w.heap.size w w' := by
  obtain ⟨K, hK⟩ : ∃ K, K = keyE ⟨m, n, i⟩ := ⟨_, rfl⟩
  rw [← hK]
  have hb : Below w.heap.size w (w.alloc (.cells #[.int .i64 m, .string n, .string i] 85)) := below_new (Below.refl _ _) _
  by_cases h : m = 4
  · have HK : Hid (K = n ++ ⟨#[47]⟩) := by rw [hK]; exact key_dir h
    have h4 : (m == 4) = true := by rw [h]; rfl
    clear hK h
    go_enter Tryz.func136, Tryz.ntmps136
    go_wp2
    go_ret
    exact ⟨by rw [HK.out]; rfl, hb⟩
  · have HK : Hid (K = n) := by rw [hK]; exact key_file h
    have h4 : (m == 4) = false := by simpa using h
    clear hK
    go_enter Tryz.func136, Tryz.ntmps136
    go_wp2
    go_ret
    exact ⟨by rw [HK.out]; rfl, hb⟩

/-- The two boxes of two entries. -/
theorem two_ent (w : World) (a b : En) : ∃ w1, w1 = (w.alloc (.cells #[.int .i64 a.m, .string a.n, .string a.i] 85)).alloc (.cells #[.int .i64 b.m, .string b.n, .string b.i] 85) ∧ Below w.heap.size w w1 ∧
    (w1.cell? ⟨w.heap.size, 0, none⟩ = some (.int .i64 a.m) ∧ w1.cell? ⟨w.heap.size, 1, none⟩ = some (.string a.n) ∧ w1.cell? ⟨w.heap.size, 2, none⟩ = some (.string a.i)) ∧
    (w1.cell? ⟨w.heap.size + 1, 0, none⟩ = some (.int .i64 b.m) ∧ w1.cell? ⟨w.heap.size + 1, 1, none⟩ = some (.string b.n) ∧ w1.cell? ⟨w.heap.size + 1, 2, none⟩ = some (.string b.i)) := by
  have h0 := row_alloc (o' := .cells #[.int .i64 b.m, .string b.n, .string b.i] 85) (heap_alloc_new w (.cells #[.int .i64 a.m, .string a.n, .string a.i] 85)) (by simp)
  have h1 := heap_alloc_new (w.alloc (.cells #[.int .i64 a.m, .string a.n, .string a.i] 85)) (.cells #[.int .i64 b.m, .string b.n, .string b.i] 85)
  rw [World.size_alloc] at h1
  exact ⟨_, rfl, below_new (below_new (Below.refl _ _) _) _, ⟨cell_of_row _ _ 0 _ _ _ h0, cell_of_row _ _ 1 _ _ _ h0, cell_of_row _ _ 2 _ _ _ h0⟩, cell_of_row _ _ 0 _ _ _ h1, cell_of_row _ _ 1 _ _ _ h1, cell_of_row _ _ 2 _ _ _ h1⟩
set_option maxHeartbeats 2000000 in
set_option maxRecDepth 4000 in
theorem tless_any (a b : En) (w : World) (ha : a.n.size ≤ 140737488355328) (hb : b.n.size ≤ 140737488355328) :
    Calls Tryz.prog 133 #[.agg #[.int .i64 a.m, .string a.n, .string a.i], .agg #[.int .i64 b.m, .string b.n, .string b.i]] w fun e w' => e = .returned (.bool (lessE a b)) ∧ Below w.heap.size w w' := by
  obtain ⟨w1, hw1, hbw, ⟨a0, a1, a2⟩, b0, b1, b2⟩ := two_ent w a b
  have HB := Lib.hid hbw
  have HW := Lib.hid hw1
  obtain ⟨m, n, i⟩ := a
  obtain ⟨m', n', i'⟩ := b
  simp only at *
  have C1 := Lib.hid (fun (x : BelW w1) => Calls.bel_class (x := x) (sortKey_any m n i x.w ha))
  have C2 := Lib.hid (fun (x : BelW w1) => Calls.bel_class (x := x) (sortKey_any m' n' i' x.w hb))
  obtain ⟨R, hR⟩ : ∃ R, R = lessE ⟨m, n, i⟩ ⟨m', n', i'⟩ := ⟨_, rfl⟩
  rw [← hR]
  unfold lessE at hR
  obtain ⟨k1, hk1⟩ : ∃ k, k = keyE ⟨m, n, i⟩ := ⟨_, rfl⟩
  obtain ⟨k2, hk2⟩ : ∃ k, k = keyE ⟨m', n', i'⟩ := ⟨_, rfl⟩
  rw [← hk1, ← hk2] at hR
  rw [← hk1] at C1
  rw [← hk2] at C2
  have HR := Lib.hid hR
  have q0 : ∀ x : BelW w1, x.w.cell? ⟨w.heap.size, 0, none⟩ = some (.int .i64 m) := fun x => cell_bel a0 x.h
  have q1 : ∀ x : BelW w1, x.w.cell? ⟨w.heap.size, 1, none⟩ = some (.string n) := fun x => cell_bel a1 x.h
  have q2 : ∀ x : BelW w1, x.w.cell? ⟨w.heap.size, 2, none⟩ = some (.string i) := fun x => cell_bel a2 x.h
  have r0 : ∀ x : BelW w1, x.w.cell? ⟨w.heap.size + 1, 0, none⟩ = some (.int .i64 m') := fun x => cell_bel b0 x.h
  have r1 : ∀ x : BelW w1, x.w.cell? ⟨w.heap.size + 1, 1, none⟩ = some (.string n') := fun x => cell_bel b1 x.h
  have r2 : ∀ x : BelW w1, x.w.cell? ⟨w.heap.size + 1, 2, none⟩ = some (.string i') := fun x => cell_bel b2 x.h
  have hq : Nonempty (BelW w1) := ⟨⟨w1, Below.refl _ _⟩⟩
  clear hR hk1 hk2 ha hb hw1 hbw a0 a1 a2 b0 b1 b2
  go_enter Tryz.func133, Tryz.ntmps133
  go_upto_region 1 with fail
  rw [← HW.out]
  refine wp_region_bel (w0 := w1) (Below.refl _ _) (by kernel_rfl) (by kernel_rfl) ?_
  repeat (go_big_quiet_step ((go_at_call 151; first | (with_reducible exact C1.out _) | (with_reducible exact C2.out _))))
  refine wpQuiet_nil ?_
  rintro _ ⟨x, rfl⟩
  have HX := Lib.hid (HB.out.trans (x.h.mono HB.out.size))
  go_wp2
  go_ret
  exact ⟨by rw [HR.out]; rfl, HX.out⟩
set_option maxHeartbeats 2000000 in
set_option maxRecDepth 4000 in
theorem trless_any (a b : En) (w : World) (ha : a.n.size ≤ 140737488355328) (hb : b.n.size ≤ 140737488355328) :
    Calls Tryz.prog 112 #[.agg #[.int .i64 a.m, .string a.n, .string a.i], .agg #[.int .i64 b.m, .string b.n, .string b.i]] w fun e w' => e = .returned (.bool (lessE a b)) ∧ Below w.heap.size w w' := by
  obtain ⟨w1, hw1, hbw, ⟨a0, a1, a2⟩, b0, b1, b2⟩ := two_ent w a b
  have HB := Lib.hid hbw
  have HW := Lib.hid hw1
  obtain ⟨m, n, i⟩ := a
  obtain ⟨m', n', i'⟩ := b
  simp only at *
  have C1 := Lib.hid (fun (x : BelW w1) => Calls.bel_class (x := x) (rkey_any m n i x.w ha))
  have C2 := Lib.hid (fun (x : BelW w1) => Calls.bel_class (x := x) (rkey_any m' n' i' x.w hb))
  obtain ⟨R, hR⟩ : ∃ R, R = lessE ⟨m, n, i⟩ ⟨m', n', i'⟩ := ⟨_, rfl⟩
  rw [← hR]
  unfold lessE at hR
  obtain ⟨k1, hk1⟩ : ∃ k, k = keyE ⟨m, n, i⟩ := ⟨_, rfl⟩
  obtain ⟨k2, hk2⟩ : ∃ k, k = keyE ⟨m', n', i'⟩ := ⟨_, rfl⟩
  rw [← hk1, ← hk2] at hR
  rw [← hk1] at C1
  rw [← hk2] at C2
  have HR := Lib.hid hR
  have q0 : ∀ x : BelW w1, x.w.cell? ⟨w.heap.size, 0, none⟩ = some (.int .i64 m) := fun x => cell_bel a0 x.h
  have q1 : ∀ x : BelW w1, x.w.cell? ⟨w.heap.size, 1, none⟩ = some (.string n) := fun x => cell_bel a1 x.h
  have q2 : ∀ x : BelW w1, x.w.cell? ⟨w.heap.size, 2, none⟩ = some (.string i) := fun x => cell_bel a2 x.h
  have r0 : ∀ x : BelW w1, x.w.cell? ⟨w.heap.size + 1, 0, none⟩ = some (.int .i64 m') := fun x => cell_bel b0 x.h
  have r1 : ∀ x : BelW w1, x.w.cell? ⟨w.heap.size + 1, 1, none⟩ = some (.string n') := fun x => cell_bel b1 x.h
  have r2 : ∀ x : BelW w1, x.w.cell? ⟨w.heap.size + 1, 2, none⟩ = some (.string i') := fun x => cell_bel b2 x.h
  have hq : Nonempty (BelW w1) := ⟨⟨w1, Below.refl _ _⟩⟩
  clear hR hk1 hk2 ha hb hw1 hbw a0 a1 a2 b0 b1 b2
  go_enter Tryz.func112, Tryz.ntmps112
  go_upto_region 1 with fail
  rw [← HW.out]
  refine wp_region_bel (w0 := w1) (Below.refl _ _) (by kernel_rfl) (by kernel_rfl) ?_
  repeat (go_big_quiet_step ((go_at_call 136; first | (with_reducible exact C1.out _) | (with_reducible exact C2.out _))))
  refine wpQuiet_nil ?_
  rintro _ ⟨x, rfl⟩
  have HX := Lib.hid (HB.out.trans (x.h.mono HB.out.size))
  go_wp2
  go_ret
  exact ⟨by rw [HR.out]; rfl, HX.out⟩
end Go.Proofs.YtbleabfgekeneaaGreatDoor
