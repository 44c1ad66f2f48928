/-
  The walks of simil's Common, scorer, Score, Best and AtLeast.
-/
import Derived.Test.YtddcogcjmmjpkaaSmAg
namespace Go.Proofs.Ytddcogcjmmjpkaa
open Go.RowKit Go.Maps Go.WideMaps

theorem store_func (P : Program) (w : World) (a : Addr) (m : Mode) (fn : Fn) (fi ca : Array Value) : (store a (.func fn fi ca) m).run P w = stored P w a (.func fn fi ca) m := run_store P w a _ m rfl

/-- What two strings share; their score. -/
def shS (a b : ByteArray) : Nat := shr (split a.data.toList) (split b.data.toList)
def scS (a b : ByteArray) : Nat := scr (split a.data.toList) (split b.data.toList) a.size b.size
theorem size_join (a : ByteArray) : a.size = (join (split a.data.toList)).length := by rw [split_join, list_len]
theorem shS_le (a b : ByteArray) : shS a b ≤ a.size := by rw [size_join a]; exact shr_le _ _
theorem shS_le2 (a b : ByteArray) : shS a b ≤ b.size := by rw [size_join b]; exact shr_le2 _ _
theorem scS_le (a b : ByteArray) : scS a b ≤ 100 := scr_le _ _ (size_join a)

set_option maxHeartbeats 2000000 in
theorem common_any (a b : ByteArray) (r : Nat) (w : World) (ha : a.size ≤ 1048576) (hb : b.size ≤ 1048576) (hr : r = shS a b) :
    Calls Try.prog 23 #[.string a, .string b] w fun e w' => e = .returned (.int .i64 r) ∧ Below w.heap.size w w' := by
  have HL : Hid ((split a.data.toList).length ≤ 1048576) := by have := split_lines a; show _ ≤ _; omega
  have HR : Hid (r = shr (split a.data.toList) (split b.data.toList)) := hr
  clear hr
  go_enter Try.func23, Try.ntmps23
  go_wp2_with (first
    | (go_at_call 61; ((with_reducible refine (against_any a w ha).mono ?_); rintro e w1 ⟨B, rfl, hag, hb1⟩))
    | (go_at_call 94; ((with_reducible refine (against1_any b _ B r w1 hb hag HL.out HR.out).mono ?_); rintro e w2 ⟨rfl, hb2⟩)))
  go_ret
  exact ⟨rfl, hb1.trans (hb2.mono hb1.size)⟩

/-- A function that scores against a. -/
def Sc (w : World) (a : ByteArray) (B C : Nat) : Prop := ∃ D, w.heap[B]? = some (.cells #[.string a] 9 (0, 0)) ∧ w.heap[C]? = some (.cells #[.func (.func 94) #[] #[.pointer (some ⟨D, 0, none⟩)]] 77 (0, 0)) ∧ Ag w (split a.data.toList) D
theorem Sc.below {w w' : World} {a : ByteArray} {B C : Nat} (h : Sc w a B C) (hb : Below w.heap.size w w') : Sc w' a B C := by
  obtain ⟨D, h1, h2, h3⟩ := h
  exact ⟨D, (hb.block B (row_lt h1)).trans h1, (hb.block C (row_lt h2)).trans h2, h3.below hb⟩

set_option maxHeartbeats 2000000 in
theorem scorer_any (a : ByteArray) (w : World) (ha : a.size ≤ 1048576) :
    Calls Try.prog 63 #[.string a] w fun e w' => ∃ B C, e = .returned (.func (.func 95) #[] #[.pointer (some ⟨B, 0, none⟩), .pointer (some ⟨C, 0, none⟩)]) ∧ Sc w' a B C ∧ Below w.heap.size w w' := by
  have hmf := make_fun Try.prog
  have hsf := store_func Try.prog
  go_enter Try.func63, Try.ntmps63
  go_upto_region 1 with fail
  obtain ⟨W1, hW1⟩ : ∃ W1, W1 = w.alloc (.cells #[.string a] 9) := ⟨_, rfl⟩
  have hbx : W1.heap[w.heap.size]? = some (.cells #[.string a] 9 (0, 0)) := by rw [hW1]; exact heap_alloc_new w _
  have hb1 : Below w.heap.size w W1 := by rw [hW1]; exact below_new (Below.refl _ _) _
  rw [← hW1]
  clear hW1
  obtain ⟨B, hB⟩ : ∃ B, B = w.heap.size := ⟨_, rfl⟩
  rw [← hB] at hbx ⊢
  have HB := Lib.hid hB
  clear hB
  have cb := cell_of_row W1 B 0 _ _ _ hbx
  go_wp2_with (go_at_call 61; ((with_reducible refine (against_any a _ ha).mono ?_); rintro e w2 ⟨D, rfl, hag, hb2⟩))
  go_ret
  have hbx2 := (hb2.block B (row_lt hbx)).trans hbx
  have hb3 := hb1.trans (hb2.mono hb1.size)
  exact ⟨B, w2.heap.size, rfl, ⟨D, row_alloc hbx2 (row_lt hbx2), heap_alloc_new w2 _, hag.below (below_new (Below.refl _ _) _)⟩, below_new hb3 _⟩

set_option maxHeartbeats 2000000 in
theorem scorer1_any (a b : ByteArray) (B C r : Nat) (w : World) (ha : a.size ≤ 1048576) (hb : b.size ≤ 1048576) (hsc : Sc w a B C) (hr : r = scS a b) :
    Calls Try.prog 95 #[.string b, .pointer (some ⟨B, 0, none⟩), .pointer (some ⟨C, 0, none⟩)] w fun e w' => e = .returned (.int .i64 r) ∧ Below w.heap.size w w' := by
  have HL : Hid ((split a.data.toList).length ≤ 1048576) := by have := split_lines a; show _ ≤ _; omega
  obtain ⟨D, h1, h2, hag⟩ := hsc
  have c1 := cell_of_row w B 0 _ _ _ h1
  have c2 := cell_of_row w C 0 _ _ _ h2
  obtain ⟨m, hm⟩ : ∃ m, m = shS a b := ⟨_, rfl⟩
  have hm1 : m ≤ 1048576 := by have := shS_le a b; omega
  have HM : Hid (m = shr (split a.data.toList) (split b.data.toList)) := hm
  have HR : Hid (r = if max a.size b.size = 0 then 100 else 100 * m / max a.size b.size) := by show _ = _; rw [hr, hm]; rfl
  clear hr h1 h2 hm
  by_cases hab : a.size < b.size
  · have HR0 : Hid (r = 100 * m / b.size) := by show _ = _; rw [HR.out, if_neg (by omega), Nat.max_eq_right (by omega)]
    have d0 : ((b.size : Int) == 0) = false := by rw [beq_eq_false_iff_ne]; omega
    have hb0 : ¬ (b.size : Int) = 0 := by omega
    clear HR
    go_enter Try.func95, Try.ntmps95
    go_wp2_with (go_at_call 94; ((with_reducible refine (against1_any b _ D m w hb hag HL.out HM.out).mono ?_); rintro e w2 ⟨rfl, hb2⟩))
    go_ret
    exact ⟨by rw [HR0.out]; rfl, hb2⟩
  · by_cases h0 : a.size = 0
    · have HR0 : Hid (r = 100) := by show _ = _; rw [HR.out, if_pos (by omega)]
      have d0 : ((a.size : Int) == 0) = true := by rw [h0]; rfl
      clear HR h0
      go_enter Try.func95, Try.ntmps95
      go_wp2
      go_ret
      exact ⟨by rw [HR0.out]; rfl, Below.refl _ _⟩
    · have HR0 : Hid (r = 100 * m / a.size) := by show _ = _; rw [HR.out, if_neg (by omega), Nat.max_eq_left (by omega)]
      have d0 : ((a.size : Int) == 0) = false := by rw [beq_eq_false_iff_ne]; omega
      clear HR
      go_enter Try.func95, Try.ntmps95
      go_wp2_with (go_at_call 94; ((with_reducible refine (against1_any b _ D m w hb hag HL.out HM.out).mono ?_); rintro e w2 ⟨rfl, hb2⟩))
      go_ret
      exact ⟨by rw [HR0.out]; rfl, hb2⟩

set_option maxHeartbeats 2000000 in
theorem score_any (a b : ByteArray) (r : Nat) (w : World) (ha : a.size ≤ 1048576) (hb : b.size ≤ 1048576) (hr : r = scS a b) :
    Calls Try.prog 25 #[.string a, .string b] w fun e w' => e = .returned (.int .i64 r) ∧ Below w.heap.size w w' := by
  have HR := Lib.hid hr
  clear hr
  go_enter Try.func25, Try.ntmps25
  go_wp2_with (first
    | (go_at_call 63; ((with_reducible refine (scorer_any a w ha).mono ?_); rintro e w1 ⟨B, C, rfl, hsc, hb1⟩))
    | (go_at_call 95; ((with_reducible refine (scorer1_any a b B C r w1 ha hb hsc HR.out).mono ?_); rintro e w2 ⟨rfl, hb2⟩)))
  go_ret
  exact ⟨rfl, hb1.trans (hb2.mono hb1.size)⟩

set_option maxHeartbeats 2000000 in
theorem atLeast_any (a b : ByteArray) (least : Int) (r : Bool) (w : World) (ha : a.size ≤ 1048576) (hb : b.size ≤ 1048576) (hr : r = decide (least ≤ (scS a b : Int))) :
    Calls Try.prog 27 #[.string a, .string b, .int .i64 least] w fun e w' => e = .returned (.bool r) ∧ Below w.heap.size w w' := by
  obtain ⟨m, hm⟩ : ∃ m, m = scS a b := ⟨_, rfl⟩
  have HM := Lib.hid hm
  rw [← hm] at hr
  have d0 := hr.symm
  clear hr hm
  go_enter Try.func27, Try.ntmps27
  go_wp2_with (go_at_call 25; ((with_reducible refine (score_any a b m w ha hb HM.out).mono ?_); rintro e w2 ⟨rfl, hb2⟩))
  go_ret
  exact ⟨by simp [d0], hb2⟩
end Go.Proofs.Ytddcogcjmmjpkaa
