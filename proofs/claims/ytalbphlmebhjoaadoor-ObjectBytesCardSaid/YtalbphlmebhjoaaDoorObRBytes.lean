/-
  The walks of the reference's Check and Bytes, of both Id and of Same.
-/
import Derived.Test.YtalbphlmebhjoaaDoorObBytes
import Derived.Test.YtalbphlmebhjoaaDoorIdROf
namespace Go.Proofs.YtalbphlmebhjoaaDoor
open Go.RowKit

set_option maxHeartbeats 2000000 in
theorem rcheck_any (k : Int) (b : ByteArray) (w : World) (hb : b.size ≤ 140737488355328) :
    Calls Tryd.prog 19 #[.agg #[.int .i64 k, .string b]] w fun e w' => e = .returned (.int .i64 (bytesE k b.data.toList : Int)) ∧ Below w.heap.size w w' := by
  obtain ⟨t, ht⟩ : ∃ t, t = str (wordL k) := ⟨_, rfl⟩
  have HWd : Hid (∀ w', Calls Tryd.prog 15 #[.int .i64 k] w' fun e w'' => e = .returned (.string t) ∧ w'' = w') := fun w' => by
    rw [ht]
    exact rword_any k w'
  have hx := heap_alloc_new w (.cells #[.int .i64 k, .string b] 23)
  have hbx : Below w.heap.size w (w.alloc (.cells #[.int .i64 k, .string b] 23)) := (Below.refl _ _).alloc (Nat.le_refl _) _
  obtain ⟨w1, hw1⟩ : ∃ w1, w1 = w.alloc (.cells #[.int .i64 k, .string b] 23) := ⟨_, rfl⟩
  have HW1 := Lib.hid hw1
  rw [← hw1] at hx hbx
  have c0 := cell_of_row w1 w.heap.size 0 _ _ _ hx
  have c1 := cell_of_row w1 w.heap.size 1 _ _ _ hx
  have c0 : w1.cell? ⟨w.heap.size, 0, none⟩ = some (.int .i64 k) := c0
  have c1 : w1.cell? ⟨w.heap.size, 1, none⟩ = some (.string b) := c1
  have HBX := Lib.hid hbx
  clear hw1 hx hbx
  by_cases hk : wordL k = []
  · have HR : Hid ((bytesE k b.data.toList) = 140) := bytesE_kind hk
    have f1 : t.toList.isEmpty = true := by rw [ByteArray.toList_eq, ht, str_list, hk]; rfl
    have f2 : (t.toList == []) = true := by rw [ByteArray.toList_eq, ht, str_list, hk]; rfl
    clear ht hk
    go_enter Tryd.func19, Tryd.ntmps19
    go_upto_region 1 with fail
    rw [← HW1.out]
    go_wp2_with (go_at_call 15; ((with_reducible refine (HWd.out _).mono ?_); rintro e w2 ⟨rfl, rfl⟩))
    go_ret
    exact ⟨by rw [HR.out]; rfl, HBX.out⟩
  have f1 : t.toList.isEmpty = false := by
    rw [ByteArray.toList_eq, ht, str_list]
    cases hx : wordL k with
    | nil => exact absurd hx hk
    | cons a l => rfl
  have f2 : (t.toList == []) = false := by rw [ByteArray.toList_eq, ht, str_list, beq_eq_false_iff_ne]; exact hk
  by_cases hbig : 1048576 < b.size
  · have HR : Hid ((bytesE k b.data.toList) = 4) := bytesE_big hk (by rw [list_len]; exact hbig)
    clear ht hk
    go_enter Tryd.func19, Tryd.ntmps19
    go_upto_region 1 with fail
    rw [← HW1.out]
    go_wp2_with (go_at_call 15; ((with_reducible refine (HWd.out _).mono ?_); rintro e w2 ⟨rfl, rfl⟩))
    go_ret
    exact ⟨by rw [HR.out]; rfl, HBX.out⟩
  · have HR : Hid ((bytesE k b.data.toList) = 0) := bytesE_ok hk (by rw [list_len]; exact hbig)
    clear ht hk
    go_enter Tryd.func19, Tryd.ntmps19
    go_upto_region 1 with fail
    rw [← HW1.out]
    go_wp2_with (go_at_call 15; ((with_reducible refine (HWd.out _).mono ?_); rintro e w2 ⟨rfl, rfl⟩))
    go_ret
    exact ⟨by rw [HR.out]; rfl, HBX.out⟩

set_option maxHeartbeats 2000000 in
set_option maxRecDepth 4000 in
theorem rbytes_any (k : Int) (b : ByteArray) (w : World) (hb : b.size ≤ 140737488355328) :
    Calls Tryd.prog 8 #[.agg #[.int .i64 k, .string b]] w fun e w' => e = .returned (.tuple #[.string (str (bytesL k b.data.toList)), .int .i64 (bytesE k b.data.toList : Int)]) ∧ Below w.heap.size w w' := by
  obtain ⟨E, hE⟩ : ∃ E, E = bytesE k b.data.toList := ⟨_, rfl⟩
  have HCh : Hid (∀ w', Calls Tryd.prog 19 #[.agg #[.int .i64 k, .string b]] w' fun e w'' => e = .returned (.int .i64 (E : Int)) ∧ Below w'.heap.size w' w'') := fun w' => by
    rw [hE]
    exact rcheck_any k b w' hb
  have hx := heap_alloc_new w (.cells #[.int .i64 k, .string b] 23)
  have hbx : Below w.heap.size w (w.alloc (.cells #[.int .i64 k, .string b] 23)) := (Below.refl _ _).alloc (Nat.le_refl _) _
  obtain ⟨w1, hw1⟩ : ∃ w1, w1 = w.alloc (.cells #[.int .i64 k, .string b] 23) := ⟨_, rfl⟩
  have HW1 := Lib.hid hw1
  rw [← hw1] at hx hbx
  have c0 := cell_of_row w1 w.heap.size 0 _ _ _ hx
  have c1 := cell_of_row w1 w.heap.size 1 _ _ _ hx
  have c0 : w1.cell? ⟨w.heap.size, 0, none⟩ = some (.int .i64 k) := c0
  have c1 : w1.cell? ⟨w.heap.size, 1, none⟩ = some (.string b) := c1
  have HBX := Lib.hid hbx
  clear hw1 hx hbx
  rw [← hE]
  by_cases h0 : E = 0
  · subst h0
    have hne : wordL k ≠ [] := fun h => by rw [bytesE_kind h] at hE; cases hE
    have hsz : b.size ≤ 1048576 := by
      rcases Nat.lt_or_ge 1048576 b.size with h | h
      · rw [bytesE_big hne (by rw [list_len]; exact h)] at hE
        cases hE
      · exact h
    obtain ⟨t, ht⟩ : ∃ t, t = str (wordL k) := ⟨_, rfl⟩
    have hts : t.size ≤ 6 := by rw [ht, str_size]; exact wordL_le k
    obtain ⟨d, hd⟩ : ∃ d, d = str (Lib.decDigits b.size) := ⟨_, rfl⟩
    have hds : d.size ≤ 21 := by rw [hd, str_size, ← itoa_nat]; exact Lib.itoa_length_le _ (by omega) (by omega)
    have HR : Hid (bytesL k b.data.toList = encL k b.data.toList) := bytesL_ok hE.symm
    have HE : Hid (t ++ ⟨#[32]⟩ ++ d ++ ⟨#[0]⟩ ++ b = str (encL k b.data.toList)) := by show _ = _; rw [ht, hd]; exact enc_str k b
    have HDg : Hid (∀ w2 : World, ∀ x : BelW w2, Calls Tryd.prog 20 #[.int .i64 (b.size : Int)] x.w fun e w'' => e = .returned (.string d) ∧ ∃ y : BelW w2, w'' = y.w) := fun w2 x => Calls.bel_class (x := x) (by rw [hd]; exact rdigits_any b.size x.w (by omega))
    have HWd : Hid (∀ w2 : World, ∀ x : BelW w2, Calls Tryd.prog 15 #[.int .i64 k] x.w fun e w'' => e = .returned (.string t) ∧ ∃ y : BelW w2, w'' = y.w) := fun w2 x => Calls.same_class (x := x) (by rw [ht]; exact rword_any k x.w)
    clear ht hd hE hne
    go_enter Tryd.func8, Tryd.ntmps8
    go_upto_region 1 with fail
    rw [← HW1.out]
    go_wp2_with (go_at_call 19; ((with_reducible refine (HCh.out _).mono ?_); rintro e w2 ⟨rfl, hb2⟩))
    have HB2 := Lib.hid (HBX.out.trans (hb2.mono HBX.out.size))
    have k0 : ∀ x : BelW w2, x.w.cell? ⟨w.heap.size, 0, none⟩ = some (.int .i64 k) := fun x => cell_bel (cell_bel c0 hb2) x.h
    have k1 : ∀ x : BelW w2, x.w.cell? ⟨w.heap.size, 1, none⟩ = some (.string b) := fun x => cell_bel (cell_bel c1 hb2) x.h
    have hq : Nonempty (BelW w2) := ⟨⟨w2, Below.refl _ _⟩⟩
    clear c0 c1 hb2
    refine wp_region_bel (w0 := w2) (Below.refl _ _) (by kernel_rfl) (by kernel_rfl) ?_
    repeat (go_big_quiet_step (first | (go_at_call 20; exact HDg.out _ _) | (go_at_call 15; exact HWd.out _ _)))
    refine wpQuiet_nil ?_
    rintro _ ⟨x, rfl⟩
    have HX := Lib.hid (HB2.out.trans (x.h.mono HB2.out.size))
    go_wp2
    go_ret2
    exact ⟨by rw [HR.out, ← HE.out]; rfl, HX.out⟩
  · have HR : Hid (bytesL k b.data.toList = []) := bytesL_err (by rw [← hE]; exact h0)
    have f1 : ((E : Int) != 0) = true := by simpa using h0
    clear hE h0
    go_enter Tryd.func8, Tryd.ntmps8
    go_upto_region 1 with fail
    rw [← HW1.out]
    go_wp2_with (go_at_call 19; ((with_reducible refine (HCh.out _).mono ?_); rintro e w2 ⟨rfl, hb2⟩))
    go_ret2
    exact ⟨by rw [HR.out]; rfl, HBX.out.trans (hb2.mono HBX.out.size)⟩

/-- An object's ID. -/
def idL (k : Int) (b : List UInt8) : List UInt8 := if bytesE k b = 0 then ofC (str (encL k b)) else []
theorem bytesL_len {k : Int} {b : ByteArray} : (bytesL k b.data.toList).length ≤ 2000000 := by
  unfold bytesL
  split
  · rename_i h
    have hb : b.size ≤ 1048576 := by
      rcases Nat.lt_or_ge 1048576 b.size with h' | h'
      · exfalso
        by_cases hw : wordL k = []
        · rw [bytesE_kind hw] at h; cases h
        · rw [bytesE_big hw (by rw [list_len]; exact h')] at h; cases h
      · exact h'
    have h1 : (Lib.decDigits b.size).length ≤ 21 := by rw [← itoa_nat]; exact Lib.itoa_length_le _ (by omega) (by omega)
    have h2 := wordL_le k
    unfold encL
    simp only [List.length_append, List.length_cons, list_len]
    omega
  · simp

set_option maxHeartbeats 2000000 in
set_option maxRecDepth 4000 in
theorem id_any (k : Int) (b : ByteArray) (w : World) (h : WoTab w) (h2 : StrTab w) (h3 : KTab w) (hb : b.size ≤ 140737488355328) :
    Calls Tryd.prog 9 #[.agg #[.int .i64 k, .string b]] w fun e w' => e = .returned (.string (str (idL k b.data.toList))) ∧ Below w.heap.size w w' := by
  obtain ⟨E, hE⟩ : ∃ E, E = bytesE k b.data.toList := ⟨_, rfl⟩
  obtain ⟨s, hs⟩ : ∃ s, s = str (bytesL k b.data.toList) := ⟨_, rfl⟩
  have hsl : s.size ≤ 2000000 := by rw [hs, str_size]; exact bytesL_len
  have HBy : Hid (∀ w', Below w.heap.size w w' → Calls Tryd.prog 7 #[.agg #[.int .i64 k, .string b]] w' fun e w'' => e = .returned (.tuple #[.string s, .int .i64 (E : Int)]) ∧ Below w.heap.size w w'') := fun w' hw => by
    rw [hE, hs]
    exact (bytes_any k b w' (h.below hw) (h2.below hw) hb).mono fun e w'' ⟨he, hb2⟩ => ⟨he, hw.trans (hb2.mono hw.size)⟩
  have HOf : Hid (∀ w', Below w.heap.size w w' → Calls Tryd.prog 21 #[.string s] w' fun e w'' => e = .returned (.string (str (ofC s))) ∧ Below w.heap.size w w'') := fun w' hw =>
    (of_any s w' (by omega) (h3.below hw)).mono fun e w'' ⟨he, hb2⟩ => ⟨he, hw.trans (hb2.mono hw.size)⟩
  have hx := heap_alloc_new w (.cells #[.int .i64 k, .string b] 23)
  have hbx : Below w.heap.size w (w.alloc (.cells #[.int .i64 k, .string b] 23)) := (Below.refl _ _).alloc (Nat.le_refl _) _
  obtain ⟨w1, hw1⟩ : ∃ w1, w1 = w.alloc (.cells #[.int .i64 k, .string b] 23) := ⟨_, rfl⟩
  have HW1 := Lib.hid hw1
  rw [← hw1] at hx hbx
  have c0 := cell_of_row w1 w.heap.size 0 _ _ _ hx
  have c1 := cell_of_row w1 w.heap.size 1 _ _ _ hx
  have c0 : w1.cell? ⟨w.heap.size, 0, none⟩ = some (.int .i64 k) := c0
  have c1 : w1.cell? ⟨w.heap.size, 1, none⟩ = some (.string b) := c1
  have HBX := Lib.hid hbx
  clear hw1 hx hbx
  by_cases h0 : E = 0
  · subst h0
    have HR : Hid (str (idL k b.data.toList) = str (ofC s)) := by show _ = _; rw [idL, if_pos hE.symm, hs, bytesL_ok hE.symm]
    clear hE hs
    go_enter Tryd.func9, Tryd.ntmps9
    go_upto_region 1 with fail
    rw [← HW1.out]
    go_wp2_with (first
      | (go_at_call 7; ((with_reducible refine (HBy.out _ HBX.out).mono ?_); rintro e w2 ⟨rfl, hb2⟩))
      | (go_at_call 21; ((with_reducible refine (HOf.out _ hb2).mono ?_); rintro e w3 ⟨rfl, hb3⟩)))
    go_ret
    exact ⟨by rw [HR.out]; rfl, hb3⟩
  · have HR : Hid (str (idL k b.data.toList) = ⟨#[]⟩) := by show _ = _; rw [idL, if_neg (by rw [← hE]; exact h0)]; rfl
    have f1 : ((E : Int) != 0) = true := by simpa using h0
    clear hE hs h0
    go_enter Tryd.func9, Tryd.ntmps9
    go_upto_region 1 with fail
    rw [← HW1.out]
    go_wp2_with (go_at_call 7; ((with_reducible refine (HBy.out _ HBX.out).mono ?_); rintro e w2 ⟨rfl, hb2⟩))
    go_ret
    exact ⟨by rw [HR.out]; rfl, hb2⟩

set_option maxHeartbeats 2000000 in
set_option maxRecDepth 4000 in
theorem rid_any (k : Int) (b : ByteArray) (w : World) (hb : b.size ≤ 140737488355328) :
    Calls Tryd.prog 10 #[.agg #[.int .i64 k, .string b]] w fun e w' => e = .returned (.string (str (idL k b.data.toList))) ∧ Below w.heap.size w w' := by
  obtain ⟨E, hE⟩ : ∃ E, E = bytesE k b.data.toList := ⟨_, rfl⟩
  obtain ⟨s, hs⟩ : ∃ s, s = str (bytesL k b.data.toList) := ⟨_, rfl⟩
  have hsl : s.size ≤ 2000000 := by rw [hs, str_size]; exact bytesL_len
  have HBy : Hid (∀ w', Below w.heap.size w w' → Calls Tryd.prog 8 #[.agg #[.int .i64 k, .string b]] w' fun e w'' => e = .returned (.tuple #[.string s, .int .i64 (E : Int)]) ∧ Below w.heap.size w w'') := fun w' hw => by
    rw [hE, hs]
    exact (rbytes_any k b w' hb).mono fun e w'' ⟨he, hb2⟩ => ⟨he, hw.trans (hb2.mono hw.size)⟩
  have HOf : Hid (∀ w', Below w.heap.size w w' → Calls Tryd.prog 22 #[.string s] w' fun e w'' => e = .returned (.string (str (ofC s))) ∧ Below w.heap.size w w'') := fun w' hw =>
    (rof_any s w' (by omega)).mono fun e w'' ⟨he, hb2⟩ => ⟨he, hw.trans (hb2.mono hw.size)⟩
  have hx := heap_alloc_new w (.cells #[.int .i64 k, .string b] 23)
  have hbx : Below w.heap.size w (w.alloc (.cells #[.int .i64 k, .string b] 23)) := (Below.refl _ _).alloc (Nat.le_refl _) _
  obtain ⟨w1, hw1⟩ : ∃ w1, w1 = w.alloc (.cells #[.int .i64 k, .string b] 23) := ⟨_, rfl⟩
  have HW1 := Lib.hid hw1
  rw [← hw1] at hx hbx
  have c0 := cell_of_row w1 w.heap.size 0 _ _ _ hx
  have c1 := cell_of_row w1 w.heap.size 1 _ _ _ hx
  have c0 : w1.cell? ⟨w.heap.size, 0, none⟩ = some (.int .i64 k) := c0
  have c1 : w1.cell? ⟨w.heap.size, 1, none⟩ = some (.string b) := c1
  have HBX := Lib.hid hbx
  clear hw1 hx hbx
  by_cases h0 : E = 0
  · subst h0
    have HR : Hid (str (idL k b.data.toList) = str (ofC s)) := by show _ = _; rw [idL, if_pos hE.symm, hs, bytesL_ok hE.symm]
    clear hE hs
    go_enter Tryd.func10, Tryd.ntmps10
    go_upto_region 1 with fail
    rw [← HW1.out]
    go_wp2_with (first
      | (go_at_call 8; ((with_reducible refine (HBy.out _ HBX.out).mono ?_); rintro e w2 ⟨rfl, hb2⟩))
      | (go_at_call 22; ((with_reducible refine (HOf.out _ hb2).mono ?_); rintro e w3 ⟨rfl, hb3⟩)))
    go_ret
    exact ⟨by rw [HR.out]; rfl, hb3⟩
  · have HR : Hid (str (idL k b.data.toList) = ⟨#[]⟩) := by show _ = _; rw [idL, if_neg (by rw [← hE]; exact h0)]; rfl
    have f1 : ((E : Int) != 0) = true := by simpa using h0
    clear hE hs h0
    go_enter Tryd.func10, Tryd.ntmps10
    go_upto_region 1 with fail
    rw [← HW1.out]
    go_wp2_with (go_at_call 8; ((with_reducible refine (HBy.out _ HBX.out).mono ?_); rintro e w2 ⟨rfl, hb2⟩))
    go_ret
    exact ⟨by rw [HR.out]; rfl, hb2⟩
end Go.Proofs.YtalbphlmebhjoaaDoor
