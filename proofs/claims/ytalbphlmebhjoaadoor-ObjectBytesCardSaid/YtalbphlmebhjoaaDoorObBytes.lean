/-
  The walks of Bytes and of the reference's Check and Bytes.
-/
import Derived.Test.YtalbphlmebhjoaaDoorObLen
import Derived.Lib.ItoaLen
import Derived.BigQuiet
import Derived.Deep.QuietTactic
namespace Go.Proofs.YtalbphlmebhjoaaDoor
open Go.RowKit

/-- A world in which what was there is as it was. -/
structure BelW (w0 : World) where
  w : World
  h : Below w0.heap.size w0 w
theorem wp_region_bel {P : Program} {id : Nat} {Q : Exit → Act → World → Prop} {a : Act} {w w0 : World} {l : List Oper} (hi : Below w0.heap.size w0 w) (hm : P.follows .mixedOrders = true) (hB : Region.lexB .any l.toArray = true)
    (h : wpQuiet P l.toArray (fun w' => ∃ x : BelW w0, w' = x.w) (fun a' => ∀ w', (∃ x : BelW w0, w' = x.w) → Q .normal a' w') l a) : (Code.region id l.toArray true).wp P Q a w :=
  wp_region_quiet (C := fun w' => ∃ x : BelW w0, w' = x.w) hm hB ⟨⟨w.drew, hi.drew⟩, rfl⟩ (by simpa using h)
theorem Calls.bel_class {P : Program} {f : FuncId} {args : Array Value} {w0 : World} {x : BelW w0} {v : Value} (h : Calls P f args x.w fun e w' => e = .returned v ∧ Below x.w.heap.size x.w w') :
    Calls P f args x.w fun e w'' => e = .returned v ∧ ∃ y : BelW w0, w'' = y.w :=
  h.mono fun _ w' ⟨he, hw⟩ => ⟨he, ⟨w', x.h.trans (hw.mono x.h.size)⟩, rfl⟩
theorem Calls.same_class {P : Program} {f : FuncId} {args : Array Value} {w0 : World} {x : BelW w0} {v : Value} (h : Calls P f args x.w fun e w' => e = .returned v ∧ w' = x.w) :
    Calls P f args x.w fun e w'' => e = .returned v ∧ ∃ y : BelW w0, w'' = y.w :=
  h.mono fun _ w' ⟨he, hw⟩ => ⟨he, x, hw⟩

theorem wordL_le (k : Int) : (wordL k).length ≤ 6 := by
  unfold wordL
  repeat (split; · decide)
  decide
theorem itoa_nat (n : Nat) : Lib.itoa (n : Int) = Lib.decDigits n := by rw [Lib.itoa, if_neg (by omega)]; simp
theorem enc_str (k : Int) (b : ByteArray) : str (wordL k) ++ ⟨#[32]⟩ ++ str (Lib.decDigits b.size) ++ ⟨#[0]⟩ ++ b = str (encL k b.data.toList) := by
  refine ba_ext ?_
  rw [str_list, encL]
  simp only [app_list, str_list, list_len]
  simp
theorem bytesE_kind {k : Int} {l : List UInt8} (h : wordL k = []) : bytesE k l = 140 := by rw [bytesE, if_pos h]
theorem bytesE_big {k : Int} {l : List UInt8} (h : wordL k ≠ []) (h2 : 1048576 < l.length) : bytesE k l = 4 := by rw [bytesE, if_neg h, if_pos h2]
theorem bytesE_ok {k : Int} {l : List UInt8} (h : wordL k ≠ []) (h2 : ¬ 1048576 < l.length) : bytesE k l = 0 := by rw [bytesE, if_neg h, if_neg h2]
theorem bytesL_err {k : Int} {l : List UInt8} (h : bytesE k l ≠ 0) : bytesL k l = [] := by rw [bytesL, if_neg h]
theorem bytesL_ok {k : Int} {l : List UInt8} (h : bytesE k l = 0) : bytesL k l = encL k l := by rw [bytesL, if_pos h]

set_option maxHeartbeats 2000000 in
set_option maxRecDepth 4000 in
theorem bytes_any (k : Int) (b : ByteArray) (w : World) (h : WoTab w) (h2 : StrTab w) (hb : b.size ≤ 140737488355328) :
    Calls Tryd.prog 7 #[.agg #[.int .i64 k, .string b]] w fun e w' => e = .returned (.tuple #[.string (str (bytesL k b.data.toList)), .int .i64 (bytesE k b.data.toList : Int)]) ∧ Below w.heap.size w w' := by
  obtain ⟨t, ht⟩ : ∃ t, t = str (wordL k) := ⟨_, rfl⟩
  have hts : t.size ≤ 6 := by rw [ht, str_size]; exact wordL_le k
  have HWd : Hid (∀ w', Below w.heap.size w w' → Calls Tryd.prog 14 #[.int .i64 k] w' fun e w'' => e = .returned (.string t) ∧ w'' = w') := fun w' hb => by
    rw [ht]
    exact word_any k w' (h.below hb)
  have hx := heap_alloc_new w (.cells #[.int .i64 k, .string b] 23)
  have hbx : Below w.heap.size w (w.alloc (.cells #[.int .i64 k, .string b] 23)) := (Below.refl _ _).alloc (Nat.le_refl _) _
  obtain ⟨w1, hw1⟩ : ∃ w1, w1 = w.alloc (.cells #[.int .i64 k, .string b] 23) := ⟨_, rfl⟩
  have HW1 := Lib.hid hw1
  rw [← hw1] at hx hbx
  have c0 := cell_of_row w1 w.heap.size 0 _ _ _ hx
  have c1 := cell_of_row w1 w.heap.size 1 _ _ _ hx
  have c0 : w1.cell? ⟨w.heap.size, 0, none⟩ = some (.int .i64 k) := c0
  have c1 : w1.cell? ⟨w.heap.size, 1, none⟩ = some (.string b) := c1
  have HBX := Lib.hid hbx
  clear hw1 hx hbx
  by_cases hk : wordL k = []
  · have HR : Hid (bytesL k b.data.toList = [] ∧ (bytesE k b.data.toList) = 140) := ⟨bytesL_err (by rw [bytesE_kind hk]; decide), bytesE_kind hk⟩
    have f1 : t.toList.isEmpty = true := by rw [ByteArray.toList_eq, ht, str_list, hk]; rfl
    have f2 : (t.toList == []) = true := by rw [ByteArray.toList_eq, ht, str_list, hk]; rfl
    clear ht hk
    go_enter Tryd.func7, Tryd.ntmps7
    go_upto_region 1 with fail
    rw [← HW1.out]
    go_wp2_with (go_at_call 14; ((with_reducible refine (HWd.out _ HBX.out).mono ?_); rintro e w2 ⟨rfl, rfl⟩))
    go_ret2
    exact ⟨by rw [HR.out.1, HR.out.2]; rfl, HBX.out⟩
  have f1 : t.toList.isEmpty = false := by
    rw [ByteArray.toList_eq, ht, str_list]
    cases hx : wordL k with
    | nil => exact absurd hx hk
    | cons a l => rfl
  have f2 : (t.toList == []) = false := by rw [ByteArray.toList_eq, ht, str_list, beq_eq_false_iff_ne]; exact hk
  by_cases hbig : 1048576 < b.size
  · have HR : Hid (bytesL k b.data.toList = [] ∧ (bytesE k b.data.toList) = 4) := ⟨bytesL_err (by rw [bytesE_big hk (by rw [list_len]; exact hbig)]; decide), bytesE_big hk (by rw [list_len]; exact hbig)⟩
    clear ht hk
    go_enter Tryd.func7, Tryd.ntmps7
    go_upto_region 1 with fail
    rw [← HW1.out]
    go_wp2_with (go_at_call 14; ((with_reducible refine (HWd.out _ HBX.out).mono ?_); rintro e w2 ⟨rfl, rfl⟩))
    go_ret2
    exact ⟨by rw [HR.out.1, HR.out.2]; rfl, HBX.out⟩
  · obtain ⟨d, hd⟩ : ∃ d, d = str (Lib.decDigits b.size) := ⟨_, rfl⟩
    have hds : d.size ≤ 21 := by rw [hd, str_size, ← itoa_nat]; exact Lib.itoa_length_le _ (by omega) (by omega)
    have HIt := Lib.hid (fun (x : BelW w1) => Calls.bel_class (x := x) (v := .string d) (by
      have := itoa_any (b.size : Int) x.w (by omega) (by omega) ((h2.below HBX.out).below x.h)
      rw [itoa_nat, ← hd] at this
      exact this))
    have HR : Hid (bytesL k b.data.toList = encL k b.data.toList ∧ (bytesE k b.data.toList) = 0) := ⟨bytesL_ok (bytesE_ok hk (by rw [list_len]; exact hbig)), bytesE_ok hk (by rw [list_len]; exact hbig)⟩
    have HE : Hid (t ++ ⟨#[32]⟩ ++ d ++ ⟨#[0]⟩ ++ b = str (encL k b.data.toList)) := by show _ = _; rw [ht, hd]; exact enc_str k b
    have k1 : ∀ x : BelW w1, x.w.cell? ⟨w.heap.size, 1, none⟩ = some (.string b) := fun x => cell_bel c1 x.h
    have hq : Nonempty (BelW w1) := ⟨⟨w1, Below.refl _ _⟩⟩
    clear ht hk hd
    go_enter Tryd.func7, Tryd.ntmps7
    go_upto_region 1 with fail
    rw [← HW1.out]
    go_wp2_with (go_at_call 14; ((with_reducible refine (HWd.out _ HBX.out).mono ?_); rintro e w2 ⟨rfl, rfl⟩))
    refine wp_region_bel (w0 := w2) (Below.refl _ _) (by kernel_rfl) (by kernel_rfl) ?_
    repeat (go_big_quiet_step ((go_at_call 18; exact HIt.out _)))
    refine wpQuiet_nil ?_
    rintro _ ⟨x, rfl⟩
    have HX := Lib.hid (HBX.out.trans (x.h.mono HBX.out.size))
    go_wp2
    go_ret2
    exact ⟨by rw [HR.out.1, HR.out.2, ← HE.out]; rfl, HX.out⟩
end Go.Proofs.YtalbphlmebhjoaaDoor
