/-
  The walk of the law package's own check.
-/
import Derived.Test.YtalbphlmebhjoaaDoorObRParse
namespace Go.Proofs.YtalbphlmebhjoaaDoor
open Go.RowKit

/-- What the laws read. -/
structure ObTab (w : World) : Prop where
  wo : WoTab w
  st : StrTab w
  kt : KTab w
theorem ObTab.below {w w' : World} (h : ObTab w) (hb : Below w.heap.size w w') : ObTab w' := ⟨h.wo.below hb, h.st.below hb, h.kt.below hb⟩
theorem ob_c1 : str (bytesL 1 [97, 98]) = ⟨#[98, 108, 111, 98, 32, 50, 0, 97, 98]⟩ ∧ bytesE 1 [97, 98] = 0 := by
  constructor
  · rw [bytesL_ok (by decide)]
    refine ba_ext ?_
    rw [str_list, encL]
    show _ ++ 32 :: (Lib.decDigits 2 ++ _) = _
    rw [Lib.decDigits_one (by decide)]
    decide
  · decide
theorem ob_c2 : prs [116, 114, 101, 101, 32, 49, 0, 120] = (2, [120], 0) := by decide +kernel
theorem ob_c3 : prs [98, 108, 111, 98, 32, 50, 0, 120] = (0, [], 3) := by decide +kernel
theorem ob_c4 : prs [98, 108, 111, 98, 32, 48, 49, 0, 120] = (0, [], 2) := by decide +kernel
theorem ob_c5 : str (idL 0 []) = ⟨#[]⟩ := by rw [idL, if_neg (by decide)]; rfl
/-- Two worlds on. -/
theorem parse_told {s : ByteArray} {w w' : World} {k c : Nat} {b : List UInt8} (hs : s.size ≤ 4000000) (h : ObTab w) (hb : Below w.heap.size w w') (hp : prs s.data.toList = (k, b, c)) :
    Calls Tryd.prog 12 #[.string s] w' fun e w'' => e = .returned (.tuple #[.agg #[.int .i64 (k : Int), .string (str b)], .int .i64 (c : Int)]) ∧ Below w.heap.size w w'' ∧ Below w'.heap.size w' w'' :=
  (parse_any s w' (h.wo.below hb) (h.st.below hb) hs).mono fun e w'' ⟨he, hb2⟩ => ⟨by rw [he, hp], hb.trans (hb2.mono hb.size), hb2⟩

set_option maxHeartbeats 4000000 in
set_option maxRecDepth 10000 in
theorem lives_any (w : World) (h : ObTab w) :
    Calls Tryd.prog 6 #[] w fun e w' => e = .returned (.bool true) ∧ Below w.heap.size w w' := by
  have HB1 : Hid (∀ w', Below w.heap.size w w' → Calls Tryd.prog 7 #[.agg #[.int .i64 1, .string ⟨#[97, 98]⟩]] w' fun e w'' => e = .returned (.tuple #[.string ⟨#[98, 108, 111, 98, 32, 50, 0, 97, 98]⟩, .int .i64 0]) ∧ Below w.heap.size w w'') := fun w' hb =>
    (bytes_any 1 ⟨#[97, 98]⟩ w' (h.wo.below hb) (h.st.below hb) (by decide)).mono fun e w'' ⟨he, hb2⟩ => ⟨by rw [he]; show Ending.returned (.tuple #[.string (str (bytesL 1 [97, 98])), .int .i64 ((bytesE 1 [97, 98] : Nat) : Int)]) = _; rw [ob_c1.1, ob_c1.2]; rfl, hb.trans (hb2.mono hb.size)⟩
  have HP1 : Hid (∀ w', Below w.heap.size w w' → Calls Tryd.prog 12 #[.string ⟨#[116, 114, 101, 101, 32, 49, 0, 120]⟩] w' fun e w'' => e = .returned (.tuple #[.agg #[.int .i64 2, .string ⟨#[120]⟩], .int .i64 0]) ∧ Below w.heap.size w w'' ∧ Below w'.heap.size w' w'') := fun w' hb => parse_told (by decide) h hb ob_c2
  have HP2 : Hid (∀ w', Below w.heap.size w w' → Calls Tryd.prog 12 #[.string ⟨#[98, 108, 111, 98, 32, 50, 0, 120]⟩] w' fun e w'' => e = .returned (.tuple #[.agg #[.int .i64 0, .string ⟨#[]⟩], .int .i64 3]) ∧ Below w.heap.size w w'' ∧ Below w'.heap.size w' w'') := fun w' hb => parse_told (by decide) h hb ob_c3
  have HP3 : Hid (∀ w', Below w.heap.size w w' → Calls Tryd.prog 12 #[.string ⟨#[98, 108, 111, 98, 32, 48, 49, 0, 120]⟩] w' fun e w'' => e = .returned (.tuple #[.agg #[.int .i64 0, .string ⟨#[]⟩], .int .i64 2]) ∧ Below w.heap.size w w'' ∧ Below w'.heap.size w' w'') := fun w' hb => parse_told (by decide) h hb ob_c4
  have HT := Lib.hid h
  clear h
  go_enter Tryd.func6, Tryd.ntmps6
  go_upto_region 3 with (first
    | (go_at_call 7; ((with_reducible refine (HB1.out _ (Below.refl _ _)).mono ?_); rintro e w2 ⟨rfl, hb2⟩))
    | (go_at_call 12; ((with_reducible refine (HP1.out _ hb2).mono ?_); rintro e w3 ⟨rfl, hb3, hc3⟩)))
  obtain ⟨O, hO⟩ : ∃ O, O = w3.heap.size := ⟨_, rfl⟩
  obtain ⟨w4, hw4⟩ : ∃ w4, w4 = w3.alloc (.cells #[.int .i64 2, .string ⟨#[120]⟩] 23) := ⟨_, rfl⟩
  have hrow : w4.heap[O]? = some (.cells #[.int .i64 2, .string ⟨#[120]⟩] 23 (0, 0)) := by rw [hw4, hO]; exact heap_alloc_new _ _
  have hb4 : Below w.heap.size w w4 := by rw [hw4]; exact hb3.alloc hb3.size _
  rw [← hw4, ← hO]
  have hO4 : O < w4.heap.size := by rw [hw4, World.size_alloc]; omega
  have HRW := Lib.hid hrow
  have HB4 := Lib.hid hb4
  clear hO hw4 hrow hb4 hb2 hb3 hc3
  go_upto_region 4 with (go_at_call 12; ((with_reducible refine (HP2.out _ HB4.out).mono ?_); rintro e w5 ⟨rfl, hb5, hc5⟩))
  have hb6 : Below w4.heap.size w4 (w5.alloc (.cells #[.int .i64 0, .string ⟨#[]⟩] 23)) := hc5.alloc hc5.size _
  obtain ⟨w6, hw6⟩ : ∃ w6, w6 = w5.alloc (.cells #[.int .i64 0, .string ⟨#[]⟩] 23) := ⟨_, rfl⟩
  rw [← hw6] at hb6 ⊢
  have HB6 := Lib.hid hb6
  have HW6 : Hid (Below w.heap.size w w6) := HB4.out.trans (hb6.mono HB4.out.size)
  generalize w5.heap.size = O2 at *
  clear hw6 hb6 hb5 hc5
  go_upto_region 5 with (go_at_call 12; ((with_reducible refine (HP3.out _ HW6.out).mono ?_); rintro e w7 ⟨rfl, hb7, hc7⟩))
  have hb8 : Below w6.heap.size w6 (w7.alloc (.cells #[.int .i64 0, .string ⟨#[]⟩] 23)) := hc7.alloc hc7.size _
  obtain ⟨w8, hw8⟩ : ∃ w8, w8 = w7.alloc (.cells #[.int .i64 0, .string ⟨#[]⟩] 23) := ⟨_, rfl⟩
  rw [← hw8] at hb8 ⊢
  have hr8 : w8.heap[O]? = some (.cells #[.int .i64 2, .string ⟨#[120]⟩] 23 (0, 0)) := (hb8.block O (Nat.lt_of_lt_of_le hO4 HB6.out.size)).trans ((HB6.out.block O hO4).trans HRW.out)
  have HW8 : Hid (Below w.heap.size w w8) := HW6.out.trans (hb8.mono HW6.out.size)
  generalize w7.heap.size = O3 at *
  have k0 : ∀ x : BelW w8, x.w.cell? ⟨O, 0, none⟩ = some (.int .i64 2) := fun x => cell_bel (cell_of_row w8 O 0 _ _ _ hr8) x.h
  have k1 : ∀ x : BelW w8, x.w.cell? ⟨O, 1, none⟩ = some (.string ⟨#[120]⟩) := fun x => cell_bel (cell_of_row w8 O 1 _ _ _ hr8) x.h
  have hq : Nonempty (BelW w8) := ⟨⟨w8, Below.refl _ _⟩⟩
  obtain ⟨d, hd⟩ : ∃ d, d = str (idL 2 [120]) := ⟨_, rfl⟩
  have HT8 : Hid (∀ x : BelW w8, ObTab x.w) := fun x => (HT.out.below HW8.out).below x.h
  have C1 : Hid (∀ x : BelW w8, Calls Tryd.prog 14 #[.int .i64 3] x.w fun e w'' => e = .returned (.string ⟨#[99, 111, 109, 109, 105, 116]⟩) ∧ ∃ y : BelW w8, w'' = y.w) := fun x => Calls.same_class (x := x) (word_any 3 x.w (HT8.out x).wo)
  have C2 : Hid (∀ x : BelW w8, Calls Tryd.prog 16 #[.string ⟨#[116, 97, 103]⟩] x.w fun e w'' => e = .returned (.int .i64 4) ∧ ∃ y : BelW w8, w'' = y.w) := fun x => Calls.same_class (x := x) (kind_any _ x.w (HT8.out x).wo)
  have C3 : Hid (∀ x : BelW w8, Calls Tryd.prog 16 #[.string ⟨#[120]⟩] x.w fun e w'' => e = .returned (.int .i64 0) ∧ ∃ y : BelW w8, w'' = y.w) := fun x => Calls.same_class (x := x) (kind_any _ x.w (HT8.out x).wo)
  have C4 : Hid (∀ x : BelW w8, Calls Tryd.prog 9 #[.agg #[.int .i64 0, .string ⟨#[]⟩]] x.w fun e w'' => e = .returned (.string ⟨#[]⟩) ∧ ∃ y : BelW w8, w'' = y.w) := fun x => Calls.bel_class (x := x) (by
    have := id_any 0 ⟨#[]⟩ x.w (HT8.out x).wo (HT8.out x).st (HT8.out x).kt (by decide)
    rw [← ob_c5]
    exact this)
  have C5 : Hid (∀ x : BelW w8, Calls Tryd.prog 9 #[.agg #[.int .i64 2, .string ⟨#[120]⟩]] x.w fun e w'' => e = .returned (.string d) ∧ ∃ y : BelW w8, w'' = y.w) := fun x => Calls.bel_class (x := x) (by
    have := id_any 2 ⟨#[120]⟩ x.w (HT8.out x).wo (HT8.out x).st (HT8.out x).kt (by decide)
    rw [hd]
    exact this)
  have C6 : Hid (∀ x : BelW w8, Calls Tryd.prog 10 #[.agg #[.int .i64 2, .string ⟨#[120]⟩]] x.w fun e w'' => e = .returned (.string d) ∧ ∃ y : BelW w8, w'' = y.w) := fun x => Calls.bel_class (x := x) (by
    have := rid_any 2 ⟨#[120]⟩ x.w (by decide)
    rw [hd]
    exact this)
  have C7 : Hid (∀ x : BelW w8, Calls Tryd.prog 11 #[.agg #[.int .i64 2, .string ⟨#[120]⟩], .agg #[.int .i64 2, .string ⟨#[120]⟩]] x.w fun e w'' => e = .returned (.bool true) ∧ ∃ y : BelW w8, w'' = y.w) := fun x => Calls.bel_class (x := x) (same_any 2 2 ⟨#[120]⟩ ⟨#[120]⟩ true x.w (by simp))
  clear hd hw8 hb8 hb7 hc7 hr8 HB1 HP1 HP2 HP3 HT HT8 HRW HB4 HB6 HW6 hO4
  refine wp_region_bel (w0 := w8) (Below.refl _ _) (by kernel_rfl) (by kernel_rfl) ?_
  repeat (go_big_quiet_step (first
    | (go_at_call 14; with_reducible exact C1.out _)
    | (go_at_call 16; first | (with_reducible exact C2.out _) | (with_reducible exact C3.out _))
    | (go_at_call 9; first | (with_reducible exact C4.out _) | (with_reducible exact C5.out _))
    | (go_at_call 10; with_reducible exact C6.out _)
    | (go_at_call 11; with_reducible exact C7.out _)))
  refine wpQuiet_nil ?_
  rintro _ ⟨x, rfl⟩
  have HX := Lib.hid (HW8.out.trans (x.h.mono HW8.out.size))
  go_wp2
  go_ret
  exact ⟨rfl, HX.out⟩
end Go.Proofs.YtalbphlmebhjoaaDoor
