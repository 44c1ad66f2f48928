/-
  The walk of the law HistoAnchors.
-/
import Derived.Test.YthgmiehojblomaaHsRAnch
import Derived.Test.YthgmiehojblomaaDfSA
namespace Go.Proofs.Ythgmiehojblomaa
open Go.RowKit

theorem is_str (s : ByteArray) : ∃ l : List UInt8, s = str l := ⟨s.data.toList, rfl⟩
section
variable {W : World} {la lb : List (List UInt8)} {p q : Option Addr} {n m c d : Nat}
set_option maxHeartbeats 4000000 in
set_option maxRecDepth 4000 in
theorem hsAnchors_walk (s : ByteArray) (A : SA W la p n c) (B : SA W lb q m d) : Calls Try.prog 4 #[.slice p n c, .slice q m d, .string s] W fun e W' => e = .returned (.bool true) ∧ Below W.heap.size W W' := by
  obtain ⟨sa, hsa⟩ : ∃ sa, sa = smallL la := ⟨_, rfl⟩
  obtain ⟨sb, hsb⟩ : ∃ sb, sb = smallL lb := ⟨_, rfl⟩
  have HS1 := Lib.hid (hsmall_any la p c n sa W A.len A.row (by have := A.few; omega) A.short hsa)
  have HS2 := Lib.hid (hsmall_any lb q d m sb W B.len B.row (by have := B.few; omega) B.short hsb)
  have HLV := Lib.hid (fun w => hlives_any w)
  by_cases hs : sa = true ∧ sb = true
  · obtain ⟨rfl, rfl⟩ := hs
    have hn := (smallL_out hsa.symm).1
    have hm := (smallL_out hsb.symm).1
    rw [← A.len] at hn
    rw [← B.len] at hm
    obtain ⟨o, ho⟩ : ∃ o, o = anc la lb := ⟨_, rfl⟩
    have HAC := hAnchor_any la lb p q c d n m W A.len B.len A.row B.row (by omega) (by omega) A.short B.short
    have HRC := fun (w : World) (hb : Below W.heap.size W w) => ranchor_any la lb p q c d n m w A.len B.len (A.row.below hb) (B.row.below hb) (by omega) (by omega)
    rw [← ho] at HAC HRC
    obtain ⟨C, hC⟩ : ∃ C, C = la.count s.data.toList := ⟨_, rfl⟩
    have HCA : Hid (∀ w : World, Below W.heap.size W w → Calls Try.prog 15 #[.slice p n c, .string s] w fun e w' => e = .returned (.int .i64 (C : Int)) ∧ w = w') := fun w hb => hcount_any la s.data.toList p c n C w A.len (A.row.below hb) (by omega) hC
    have HCB : Hid (∀ w : World, Below W.heap.size W w → Calls Try.prog 16 #[.slice p n c, .string s] w fun e w' => e = .returned (.int .i64 (C : Int)) ∧ w = w') := fun w hb => rcount_any la s.data.toList p c n C w A.len (A.row.below hb) (by omega) hC
    clear ho hsa hsb A B hC hn hm
    cases o with
    | none =>
      simp only [ancV] at HAC HRC
      have HAC := Lib.hid HAC
      have HRC := Lib.hid HRC
      go_enter Try.func4, Try.ntmps4
      go_upto_region 4 with (first
        | (go_at_call 8; first
          | ((with_reducible refine HS1.out.mono ?_); rintro e w' ⟨rfl, rfl⟩)
          | ((with_reducible refine HS2.out.mono ?_); rintro e w' ⟨rfl, rfl⟩))
        | (go_at_call 13; ((refine HAC.out.mono ?_); rintro e w1 ⟨rfl, hb1⟩; have HB1 := Lib.hid hb1; clear hb1)))
      obtain ⟨X, hX⟩ : ∃ X, X = w1.heap.size := ⟨_, rfl⟩
      rw [← hX]
      obtain ⟨w2, hw2⟩ : ∃ w2, w2 = w1.alloc (.cells #[.int .i64 0, .int .i64 0, .int .i64 0] 30) := ⟨_, rfl⟩
      rw [← hw2]
      have hx2 : w2.heap[X]? = some (.cells #[.int .i64 0, .int .i64 0, .int .i64 0] 30 (0, 0)) := by rw [hw2, hX]; exact heap_alloc_new _ _
      have HX2 := Lib.hid hx2
      have HB2 : Hid (Below W.heap.size W w2) := by show Below _ _ _; rw [hw2]; exact below_new HB1.out _
      clear hx2 hw2 hX
      go_upto_region 5 with (go_at_call 14; ((refine (HRC.out _ HB2.out).mono ?_); rintro e w3 ⟨rfl, hb3⟩; have HX3 := Lib.hid ((hb3.block _ (row_lt HX2.out)).trans HX2.out); have HB3 := Lib.hid (HB2.out.trans (hb3.mono HB2.out.size)); clear hb3))
      obtain ⟨Y, hY⟩ : ∃ Y, Y = w3.heap.size := ⟨_, rfl⟩
      rw [← hY]
      obtain ⟨w4, hw4⟩ : ∃ w4, w4 = w3.alloc (.cells #[.int .i64 0, .int .i64 0, .int .i64 0] 30) := ⟨_, rfl⟩
      rw [← hw4]
      have hy4 : w4.heap[Y]? = some (.cells #[.int .i64 0, .int .i64 0, .int .i64 0] 30 (0, 0)) := by rw [hw4, hY]; exact heap_alloc_new _ _
      have HY4 := Lib.hid hy4
      have hx4 : w4.heap[X]? = some (.cells #[.int .i64 0, .int .i64 0, .int .i64 0] 30 (0, 0)) := by rw [hw4]; exact row_alloc HX3.out (row_lt HX3.out)
      have HX4 := Lib.hid hx4
      have HB4 : Hid (Below W.heap.size W w4) := by show Below _ _ _; rw [hw4]; exact below_new HB3.out _
      clear hx4 hy4 hw4 hY
      go_wp2_with (first
        | (go_at_call 9; ((with_reducible refine (HLV.out _).mono ?_); rintro e w5 ⟨rfl, hb5⟩; have hx5 := (hb5.block _ (row_lt HX4.out)).trans HX4.out; have hy5 := (hb5.block _ (row_lt HY4.out)).trans HY4.out; have x0 := cell_of_row w5 X 0 _ _ _ hx5; have x1 := cell_of_row w5 X 1 _ _ _ hx5; have x2 := cell_of_row w5 X 2 _ _ _ hx5; have y0 := cell_of_row w5 Y 0 _ _ _ hy5; have y1 := cell_of_row w5 Y 1 _ _ _ hy5; have y2 := cell_of_row w5 Y 2 _ _ _ hy5; have HB5 := Lib.hid (HB4.out.trans (hb5.mono HB4.out.size)); clear hx5 hy5 hb5))
        | (go_at_call 15; ((with_reducible refine (HCA.out _ HB5.out).mono ?_); rintro e w' ⟨rfl, rfl⟩))
        | (go_at_call 16; ((with_reducible refine (HCB.out _ HB5.out).mono ?_); rintro e w' ⟨rfl, rfl⟩)))
      go_ret
      exact ⟨rfl, HB5.out⟩
    | some r =>
      obtain ⟨ra, rb, rn⟩ := r
      simp only [ancV, Ru.val] at HAC HRC
      have HAC := Lib.hid HAC
      have HRC := Lib.hid HRC
      go_enter Try.func4, Try.ntmps4
      go_upto_region 4 with (first
        | (go_at_call 8; first
          | ((with_reducible refine HS1.out.mono ?_); rintro e w' ⟨rfl, rfl⟩)
          | ((with_reducible refine HS2.out.mono ?_); rintro e w' ⟨rfl, rfl⟩))
        | (go_at_call 13; ((refine HAC.out.mono ?_); rintro e w1 ⟨rfl, hb1⟩; have HB1 := Lib.hid hb1; clear hb1)))
      obtain ⟨X, hX⟩ : ∃ X, X = w1.heap.size := ⟨_, rfl⟩
      rw [← hX]
      obtain ⟨w2, hw2⟩ : ∃ w2, w2 = w1.alloc (.cells #[.int .i64 (ra : Int), .int .i64 (rb : Int), .int .i64 (rn : Int)] 30) := ⟨_, rfl⟩
      rw [← hw2]
      have hx2 : w2.heap[X]? = some (.cells #[.int .i64 (ra : Int), .int .i64 (rb : Int), .int .i64 (rn : Int)] 30 (0, 0)) := by rw [hw2, hX]; exact heap_alloc_new _ _
      have HX2 := Lib.hid hx2
      have HB2 : Hid (Below W.heap.size W w2) := by show Below _ _ _; rw [hw2]; exact below_new HB1.out _
      clear hx2 hw2 hX
      go_upto_region 5 with (go_at_call 14; ((refine (HRC.out _ HB2.out).mono ?_); rintro e w3 ⟨rfl, hb3⟩; have HX3 := Lib.hid ((hb3.block _ (row_lt HX2.out)).trans HX2.out); have HB3 := Lib.hid (HB2.out.trans (hb3.mono HB2.out.size)); clear hb3))
      obtain ⟨Y, hY⟩ : ∃ Y, Y = w3.heap.size := ⟨_, rfl⟩
      rw [← hY]
      obtain ⟨w4, hw4⟩ : ∃ w4, w4 = w3.alloc (.cells #[.int .i64 (ra : Int), .int .i64 (rb : Int), .int .i64 (rn : Int)] 30) := ⟨_, rfl⟩
      rw [← hw4]
      have hy4 : w4.heap[Y]? = some (.cells #[.int .i64 (ra : Int), .int .i64 (rb : Int), .int .i64 (rn : Int)] 30 (0, 0)) := by rw [hw4, hY]; exact heap_alloc_new _ _
      have HY4 := Lib.hid hy4
      have hx4 : w4.heap[X]? = some (.cells #[.int .i64 (ra : Int), .int .i64 (rb : Int), .int .i64 (rn : Int)] 30 (0, 0)) := by rw [hw4]; exact row_alloc HX3.out (row_lt HX3.out)
      have HX4 := Lib.hid hx4
      have HB4 : Hid (Below W.heap.size W w4) := by show Below _ _ _; rw [hw4]; exact below_new HB3.out _
      clear hx4 hy4 hw4 hY
      go_wp2_with (first
        | (go_at_call 9; ((with_reducible refine (HLV.out _).mono ?_); rintro e w5 ⟨rfl, hb5⟩; have hx5 := (hb5.block _ (row_lt HX4.out)).trans HX4.out; have hy5 := (hb5.block _ (row_lt HY4.out)).trans HY4.out; have x0 := cell_of_row w5 X 0 _ _ _ hx5; have x1 := cell_of_row w5 X 1 _ _ _ hx5; have x2 := cell_of_row w5 X 2 _ _ _ hx5; have y0 := cell_of_row w5 Y 0 _ _ _ hy5; have y1 := cell_of_row w5 Y 1 _ _ _ hy5; have y2 := cell_of_row w5 Y 2 _ _ _ hy5; have HB5 := Lib.hid (HB4.out.trans (hb5.mono HB4.out.size)); clear hx5 hy5 hb5))
        | (go_at_call 15; ((with_reducible refine (HCA.out _ HB5.out).mono ?_); rintro e w' ⟨rfl, rfl⟩))
        | (go_at_call 16; ((with_reducible refine (HCB.out _ HB5.out).mono ?_); rintro e w' ⟨rfl, rfl⟩)))
      go_ret
      exact ⟨rfl, HB5.out⟩
  · have hi2 := Below.refl W.heap.size W
    clear hsa hsb A B
    rcases sa with _ | _ <;> rcases sb with _ | _
    all_goals try (exact absurd ⟨rfl, rfl⟩ hs)
    all_goals clear hs
    all_goals go_enter Try.func4, Try.ntmps4
    all_goals go_wp2_with (first
      | (go_at_call 8; first
        | ((with_reducible refine HS1.out.mono ?_); rintro e w' ⟨rfl, rfl⟩)
        | ((with_reducible refine HS2.out.mono ?_); rintro e w' ⟨rfl, rfl⟩))
      | (go_at_call 9; ((with_reducible refine (HLV.out _).mono ?_); rintro e w3 ⟨rfl, hb3⟩)))
    all_goals go_ret
    all_goals exact ⟨rfl, hb3⟩
end
end Go.Proofs.Ythgmiehojblomaa
