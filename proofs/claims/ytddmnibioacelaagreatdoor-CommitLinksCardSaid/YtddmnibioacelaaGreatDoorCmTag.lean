/-
  The walks of CheckTag and TagBody.
-/
import Derived.Test.YtddmnibioacelaaGreatDoorCmBodyPk
namespace Go.Proofs.YtddmnibioacelaaGreatDoor
open Go Go.RowKit Go.Maps Go.WideMaps

/-- The cells of a tag that is laid down. -/
theorem tg_at {w : World} {E : Nat} {v0 v1 v2 v3 v4 v5 v6 v7 : Value} (h : w.heap[E]? = some (.cells #[v0, v1, v2, v3, v4, v5, v6, v7] 37 (0, 0))) :
    w.cell? ⟨E, 0, none⟩ = some v0 ∧ w.cell? ⟨E, 1, none⟩ = some v1 ∧ w.cell? ⟨E, 2, none⟩ = some v2 ∧ w.cell? ⟨E, 3, none⟩ = some v3 ∧ w.cell? ⟨E, 4, none⟩ = some v4 ∧ w.cell? ⟨E, 5, none⟩ = some v5 ∧ w.cell? ⟨E, 6, none⟩ = some v6 ∧ w.cell? ⟨E, 7, none⟩ = some v7 :=
  ⟨cell_of_row _ _ 0 _ _ _ h, cell_of_row _ _ 1 _ _ _ h, cell_of_row _ _ 2 _ _ _ h, cell_of_row _ _ 3 _ _ _ h, cell_of_row _ _ 4 _ _ _ h, cell_of_row _ _ 5 _ _ _ h, cell_of_row _ _ 6 _ _ _ h, cell_of_row _ _ 7 _ _ _ h⟩
theorem tg_frz {w : World} {E : Nat} {v0 v1 v2 v3 v4 v5 v6 v7 : Value} (h : w.heap[E]? = some (.cells #[v0, v1, v2, v3, v4, v5, v6, v7] 37 (0, 0))) :
    w.frozen? ⟨E, 0, none⟩ = false ∧ w.frozen? ⟨E, 1, none⟩ = false ∧ w.frozen? ⟨E, 2, none⟩ = false ∧ w.frozen? ⟨E, 3, none⟩ = false ∧ w.frozen? ⟨E, 4, none⟩ = false ∧ w.frozen? ⟨E, 5, none⟩ = false ∧ w.frozen? ⟨E, 6, none⟩ = false ∧ w.frozen? ⟨E, 7, none⟩ = false := ⟨frozen_of_row _ _ 0 _ _ h, frozen_of_row _ _ 1 _ _ h, frozen_of_row _ _ 2 _ _ h, frozen_of_row _ _ 3 _ _ h, frozen_of_row _ _ 4 _ _ h, frozen_of_row _ _ 5 _ _ h, frozen_of_row _ _ 6 _ _ h, frozen_of_row _ _ 7 _ _ h⟩
theorem tg_row {w : World} {E : Nat} {c0 c1 c2 c3 c4 c5 c6 c7 v0 v1 v2 v3 v4 v5 v6 v7 : Value} (h0 : w.heap[E]? = some (.cells #[c0, c1, c2, c3, c4, c5, c6, c7] 37 (0, 0))) :
    ((((((((w.setCell ⟨E, 0, none⟩ v0).setCell ⟨E, 1, none⟩ v1).setCell ⟨E, 2, none⟩ v2).setCell ⟨E, 3, none⟩ v3).setCell ⟨E, 4, none⟩ v4).setCell ⟨E, 5, none⟩ v5).setCell ⟨E, 6, none⟩ v6).setCell ⟨E, 7, none⟩ v7).heap[E]? = some (.cells #[v0, v1, v2, v3, v4, v5, v6, v7] 37 (0, 0)) := by
  have h1 : (w.setCell ⟨E, 0, none⟩ v0).heap[E]? = some (.cells #[v0, c1, c2, c3, c4, c5, c6, c7] 37 (0, 0)) := by
    have h := heap_setCell_same w E 0 _ 37 v0 h0
    simp only [List.setIfInBounds_toArray, List.set_cons_zero, List.set_cons_succ] at h
    exact h
  have h2 : ((w.setCell ⟨E, 0, none⟩ v0).setCell ⟨E, 1, none⟩ v1).heap[E]? = some (.cells #[v0, v1, c2, c3, c4, c5, c6, c7] 37 (0, 0)) := by
    have h := heap_setCell_same (w.setCell ⟨E, 0, none⟩ v0) E 1 _ 37 v1 h1
    simp only [List.setIfInBounds_toArray, List.set_cons_zero, List.set_cons_succ] at h
    exact h
  have h3 : (((w.setCell ⟨E, 0, none⟩ v0).setCell ⟨E, 1, none⟩ v1).setCell ⟨E, 2, none⟩ v2).heap[E]? = some (.cells #[v0, v1, v2, c3, c4, c5, c6, c7] 37 (0, 0)) := by
    have h := heap_setCell_same ((w.setCell ⟨E, 0, none⟩ v0).setCell ⟨E, 1, none⟩ v1) E 2 _ 37 v2 h2
    simp only [List.setIfInBounds_toArray, List.set_cons_zero, List.set_cons_succ] at h
    exact h
  have h4 : ((((w.setCell ⟨E, 0, none⟩ v0).setCell ⟨E, 1, none⟩ v1).setCell ⟨E, 2, none⟩ v2).setCell ⟨E, 3, none⟩ v3).heap[E]? = some (.cells #[v0, v1, v2, v3, c4, c5, c6, c7] 37 (0, 0)) := by
    have h := heap_setCell_same (((w.setCell ⟨E, 0, none⟩ v0).setCell ⟨E, 1, none⟩ v1).setCell ⟨E, 2, none⟩ v2) E 3 _ 37 v3 h3
    simp only [List.setIfInBounds_toArray, List.set_cons_zero, List.set_cons_succ] at h
    exact h
  have h5 : (((((w.setCell ⟨E, 0, none⟩ v0).setCell ⟨E, 1, none⟩ v1).setCell ⟨E, 2, none⟩ v2).setCell ⟨E, 3, none⟩ v3).setCell ⟨E, 4, none⟩ v4).heap[E]? = some (.cells #[v0, v1, v2, v3, v4, c5, c6, c7] 37 (0, 0)) := by
    have h := heap_setCell_same ((((w.setCell ⟨E, 0, none⟩ v0).setCell ⟨E, 1, none⟩ v1).setCell ⟨E, 2, none⟩ v2).setCell ⟨E, 3, none⟩ v3) E 4 _ 37 v4 h4
    simp only [List.setIfInBounds_toArray, List.set_cons_zero, List.set_cons_succ] at h
    exact h
  have h6 : ((((((w.setCell ⟨E, 0, none⟩ v0).setCell ⟨E, 1, none⟩ v1).setCell ⟨E, 2, none⟩ v2).setCell ⟨E, 3, none⟩ v3).setCell ⟨E, 4, none⟩ v4).setCell ⟨E, 5, none⟩ v5).heap[E]? = some (.cells #[v0, v1, v2, v3, v4, v5, c6, c7] 37 (0, 0)) := by
    have h := heap_setCell_same (((((w.setCell ⟨E, 0, none⟩ v0).setCell ⟨E, 1, none⟩ v1).setCell ⟨E, 2, none⟩ v2).setCell ⟨E, 3, none⟩ v3).setCell ⟨E, 4, none⟩ v4) E 5 _ 37 v5 h5
    simp only [List.setIfInBounds_toArray, List.set_cons_zero, List.set_cons_succ] at h
    exact h
  have h7 : (((((((w.setCell ⟨E, 0, none⟩ v0).setCell ⟨E, 1, none⟩ v1).setCell ⟨E, 2, none⟩ v2).setCell ⟨E, 3, none⟩ v3).setCell ⟨E, 4, none⟩ v4).setCell ⟨E, 5, none⟩ v5).setCell ⟨E, 6, none⟩ v6).heap[E]? = some (.cells #[v0, v1, v2, v3, v4, v5, v6, c7] 37 (0, 0)) := by
    have h := heap_setCell_same ((((((w.setCell ⟨E, 0, none⟩ v0).setCell ⟨E, 1, none⟩ v1).setCell ⟨E, 2, none⟩ v2).setCell ⟨E, 3, none⟩ v3).setCell ⟨E, 4, none⟩ v4).setCell ⟨E, 5, none⟩ v5) E 6 _ 37 v6 h6
    simp only [List.setIfInBounds_toArray, List.set_cons_zero, List.set_cons_succ] at h
    exact h
  have h8 : ((((((((w.setCell ⟨E, 0, none⟩ v0).setCell ⟨E, 1, none⟩ v1).setCell ⟨E, 2, none⟩ v2).setCell ⟨E, 3, none⟩ v3).setCell ⟨E, 4, none⟩ v4).setCell ⟨E, 5, none⟩ v5).setCell ⟨E, 6, none⟩ v6).setCell ⟨E, 7, none⟩ v7).heap[E]? = some (.cells #[v0, v1, v2, v3, v4, v5, v6, v7] 37 (0, 0)) := by
    have h := heap_setCell_same (((((((w.setCell ⟨E, 0, none⟩ v0).setCell ⟨E, 1, none⟩ v1).setCell ⟨E, 2, none⟩ v2).setCell ⟨E, 3, none⟩ v3).setCell ⟨E, 4, none⟩ v4).setCell ⟨E, 5, none⟩ v5).setCell ⟨E, 6, none⟩ v6) E 7 _ 37 v7 h7
    simp only [List.setIfInBounds_toArray, List.set_cons_zero, List.set_cons_succ] at h
    exact h
  exact h8
theorem set8_below {B E : Nat} {w0 w : World} {v0 v1 v2 v3 v4 v5 v6 v7 : Value} (h : Below B w0 w) (hE : B ≤ E) : Below B w0 ((((((((w.setCell ⟨E, 0, none⟩ v0).setCell ⟨E, 1, none⟩ v1).setCell ⟨E, 2, none⟩ v2).setCell ⟨E, 3, none⟩ v3).setCell ⟨E, 4, none⟩ v4).setCell ⟨E, 5, none⟩ v5).setCell ⟨E, 6, none⟩ v6).setCell ⟨E, 7, none⟩ v7) :=
  ((((((((h.setCell (p := ⟨E, 0, none⟩) hE _).setCell (p := ⟨E, 1, none⟩) hE _).setCell (p := ⟨E, 2, none⟩) hE _).setCell (p := ⟨E, 3, none⟩) hE _).setCell (p := ⟨E, 4, none⟩) hE _).setCell (p := ⟨E, 5, none⟩) hE _).setCell (p := ⟨E, 6, none⟩) hE _).setCell (p := ⟨E, 7, none⟩) hE _)
/-- What CheckTag answers, by what has been found. -/
def codeG (b1 b2 b3 b4 z : Bool) (xs : Nat) : Nat := if b1 = false ∨ b2 = true ∨ b3 = false ∨ b4 = false ∨ z = true then 1 else if 4096 < xs then 4 else 0
theorem chkG_code (g : Tg) : chkG g = codeG (isId g.o) (decide (wordL g.k = [])) (tagN g.n.data.toList) (okPn g.g) (decide (0 ≤ Lib.indexByte g.x.data.toList 0)) g.x.size := by
  rw [ib_any, chkG, okG, noZ, codeG]
  rcases isId g.o with _ | _
  · simp
  by_cases hk : wordL g.k = []
  · simp [hk]
  rcases tagN g.n.data.toList with _ | _
  · simp
  rcases okPn g.g with _ | _
  · simp
  rcases (g.x.data.toList.any fun b => b == 0) with _ | _
  · simp [hk]
  · simp
theorem str_eqn (l : List UInt8) : ((str l).toList == (⟨#[]⟩ : ByteArray).toList) = decide (l = []) := by
  rw [ByteArray.toList_eq, ByteArray.toList_eq, str_list]
  show (l == []) = _
  cases l <;> rfl

set_option maxHeartbeats 4000000 in
set_option maxRecDepth 4000 in
theorem gcheck_any (g : Tg) (w : World) (hO : WoTab w)
    (hs : g.o.size ≤ 140737488355328 ∧ g.n.size ≤ 140737488355328 ∧ g.g.n.size ≤ 140737488355328 ∧ g.g.m.size ≤ 140737488355328) :
    Calls Tryz.prog 21 #[.agg #[.string g.o, .int .i64 g.k, .string g.n, .string g.g.n, .string g.g.m, .int .i64 g.g.t, .int .i64 g.g.z, .string g.x]] w
      fun e w' => e = .returned (.int .i64 (chkG g : Int)) ∧ Below w.heap.size w w' := by
  obtain ⟨R, hR⟩ : ∃ R, R = chkG g := ⟨_, rfl⟩
  rw [← hR]
  rw [chkG_code] at hR
  obtain ⟨t, k, n, ⟨an, am, aT, az⟩, x⟩ := g
  simp only at *
  obtain ⟨hs1, hs2, hs3, hs4⟩ := hs
  obtain ⟨b1, hb1⟩ : ∃ b, b = isId t := ⟨_, rfl⟩
  obtain ⟨b2, hb2⟩ : ∃ b, b = decide (wordL k = []) := ⟨_, rfl⟩
  obtain ⟨b3, hb3⟩ : ∃ b, b = tagN n.data.toList := ⟨_, rfl⟩
  obtain ⟨b4, hb4⟩ : ∃ b, b = okPn ⟨an, am, aT, az⟩ := ⟨_, rfl⟩
  obtain ⟨z, hz⟩ : ∃ b, b = decide (0 ≤ Lib.indexByte x.data.toList 0) := ⟨_, rfl⟩
  rw [← hb1, ← hb2, ← hb3, ← hb4, ← hz] at hR
  have HR := Lib.hid hR
  obtain ⟨w1, hw1⟩ : ∃ w1, w1 = w.alloc (.cells #[.string t, .int .i64 k, .string n, .string an, .string am, .int .i64 aT, .int .i64 az, .string x] 37) := ⟨_, rfl⟩
  have hx := heap_alloc_new w (.cells #[.string t, .int .i64 k, .string n, .string an, .string am, .int .i64 aT, .int .i64 az, .string x] 37)
  rw [← hw1] at hx
  have hbx : Below w.heap.size w w1 := by rw [hw1]; exact below_new (Below.refl _ _) _
  have hlt : w.heap.size < w1.heap.size := row_lt hx
  obtain ⟨W, hW⟩ : ∃ W, W = str (wordL k) := ⟨_, rfl⟩
  have hWe : (W.toList == (⟨#[]⟩ : ByteArray).toList) = b2 := by rw [hW, hb2]; exact str_eqn _
  have hWe2 : (W.toList == []) = b2 := by
    rw [← hWe, ByteArray.toList_eq ⟨#[]⟩]
  have HI : Hid (∀ w', Calls Tryz.prog 35 #[.string t] w' fun e w'' => e = .returned (.bool b1) ∧ w' = w'') := fun w' => by rw [hb1]; exact is_any t w' hs1
  have HD : Hid (Calls Tryz.prog 51 #[.int .i64 k] w1 fun e w'' => e = .returned (.string W) ∧ w1 = w'') := (word_any k w1 (hO.below hbx)).mono fun e w' ⟨he, hw⟩ => ⟨by rw [he, hW], hw.symm⟩
  have HN : Hid (∀ w', Calls Tryz.prog 53 #[.string n] w' fun e w'' => e = .returned (.bool b3) ∧ w' = w'') := fun w' => by
    rw [hb3]
    exact (tagName_any n w' hs2).mono fun e w'' ⟨he, hw⟩ => ⟨he, hw.symm⟩
  have HA : Hid (∀ w', Below w1.heap.size w1 w' → Calls Tryz.prog 37 #[.agg #[.string an, .string am, .int .i64 aT, .int .i64 az]] w' fun e w'' => e = .returned (.bool b4) ∧ Below w1.heap.size w1 w'') := fun w' hb => by
    rw [hb4]
    exact (person_any ⟨an, am, aT, az⟩ w' hs3 hs4).mono fun e w'' ⟨he, hw⟩ => ⟨he, hb.trans (hw.mono hb.size)⟩
  have HZ : Hid (∀ w', Calls Tryz.prog 38 #[.string x, .string ⟨#[0]⟩] w' fun e w'' => e = .returned (.bool z) ∧ w' = w'') := fun w' => by
    rw [hz]
    exact (Tryz.strings_Contains_one x 0 w').mono fun e w'' ⟨he, hw⟩ => ⟨he, hw.symm⟩
  have HX := Lib.hid hx
  have HLT := Lib.hid hlt
  have HBX := Lib.hid hbx
  have HW1 := Lib.hid hw1
  have hb0 := Below.refl w1.heap.size w1
  obtain ⟨x0, x1, x2, x3, x4, x5, x6, x7⟩ := tg_at hx
  clear hR hs1 hs2 hs3 hs4 hb1 hb2 hb3 hb4 hz hw1 hx hbx hlt hW hO
  rcases b1 with _ | _
  · have HQ : Hid (R = 1) := by show _ = _; rw [HR.out, codeG, if_pos (.inl rfl)]
    clear HR
    go_enter Tryz.func21, Tryz.ntmps21
    go_upto_region 1 with fail
    rw [← HW1.out]
    go_wp2_with (first
          | (go_at_call 35; ((with_reducible refine (HI.out _).mono ?_); rintro e wa ⟨rfl, rfl⟩))
          | (go_at_call 51; ((with_reducible refine (HD.out).mono ?_); rintro e wb ⟨rfl, rfl⟩))
          | (go_at_call 53; ((with_reducible refine (HN.out _).mono ?_); rintro e wc ⟨rfl, rfl⟩))
          | (go_at_call 37; ((with_reducible refine (HA.out _ hb0).mono ?_); rintro e wd ⟨rfl, hb3⟩; obtain ⟨u0, u1, u2, u3, u4, u5, u6, u7⟩ := tg_at ((hb3.block _ HLT.out).trans HX.out)))
          | (go_at_call 38; ((with_reducible refine (HZ.out _).mono ?_); rintro e we ⟨rfl, rfl⟩)))
    go_ret
    exact ⟨by rw [HQ.out]; rfl, HBX.out.trans (hb0.mono HBX.out.size)⟩
  rcases b2 with _ | _
  case true =>
    have HQ : Hid (R = 1) := by show _ = _; rw [HR.out, codeG, if_pos (.inr (.inl rfl))]
    clear HR
    go_enter Tryz.func21, Tryz.ntmps21
    go_upto_region 1 with fail
    rw [← HW1.out]
    go_wp2_with (first
          | (go_at_call 35; ((with_reducible refine (HI.out _).mono ?_); rintro e wa ⟨rfl, rfl⟩))
          | (go_at_call 51; ((with_reducible refine (HD.out).mono ?_); rintro e wb ⟨rfl, rfl⟩))
          | (go_at_call 53; ((with_reducible refine (HN.out _).mono ?_); rintro e wc ⟨rfl, rfl⟩))
          | (go_at_call 37; ((with_reducible refine (HA.out _ hb0).mono ?_); rintro e wd ⟨rfl, hb3⟩; obtain ⟨u0, u1, u2, u3, u4, u5, u6, u7⟩ := tg_at ((hb3.block _ HLT.out).trans HX.out)))
          | (go_at_call 38; ((with_reducible refine (HZ.out _).mono ?_); rintro e we ⟨rfl, rfl⟩)))
    go_ret
    exact ⟨by rw [HQ.out]; rfl, HBX.out.trans (hb0.mono HBX.out.size)⟩
  rcases b3 with _ | _
  · have HQ : Hid (R = 1) := by show _ = _; rw [HR.out, codeG, if_pos (.inr (.inr (.inl rfl)))]
    clear HR
    go_enter Tryz.func21, Tryz.ntmps21
    go_upto_region 1 with fail
    rw [← HW1.out]
    go_wp2_with (first
          | (go_at_call 35; ((with_reducible refine (HI.out _).mono ?_); rintro e wa ⟨rfl, rfl⟩))
          | (go_at_call 51; ((with_reducible refine (HD.out).mono ?_); rintro e wb ⟨rfl, rfl⟩))
          | (go_at_call 53; ((with_reducible refine (HN.out _).mono ?_); rintro e wc ⟨rfl, rfl⟩))
          | (go_at_call 37; ((with_reducible refine (HA.out _ hb0).mono ?_); rintro e wd ⟨rfl, hb3⟩; obtain ⟨u0, u1, u2, u3, u4, u5, u6, u7⟩ := tg_at ((hb3.block _ HLT.out).trans HX.out)))
          | (go_at_call 38; ((with_reducible refine (HZ.out _).mono ?_); rintro e we ⟨rfl, rfl⟩)))
    go_ret
    exact ⟨by rw [HQ.out]; rfl, HBX.out.trans (hb0.mono HBX.out.size)⟩
  rcases b4 with _ | _
  · have HQ : Hid (R = 1) := by show _ = _; rw [HR.out, codeG, if_pos (.inr (.inr (.inr (.inl rfl))))]
    clear HR
    go_enter Tryz.func21, Tryz.ntmps21
    go_upto_region 1 with fail
    rw [← HW1.out]
    go_wp2_with (first
          | (go_at_call 35; ((with_reducible refine (HI.out _).mono ?_); rintro e wa ⟨rfl, rfl⟩))
          | (go_at_call 51; ((with_reducible refine (HD.out).mono ?_); rintro e wb ⟨rfl, rfl⟩))
          | (go_at_call 53; ((with_reducible refine (HN.out _).mono ?_); rintro e wc ⟨rfl, rfl⟩))
          | (go_at_call 37; ((with_reducible refine (HA.out _ hb0).mono ?_); rintro e wd ⟨rfl, hb3⟩; obtain ⟨u0, u1, u2, u3, u4, u5, u6, u7⟩ := tg_at ((hb3.block _ HLT.out).trans HX.out)))
          | (go_at_call 38; ((with_reducible refine (HZ.out _).mono ?_); rintro e we ⟨rfl, rfl⟩)))
    go_ret
    exact ⟨by rw [HQ.out]; rfl, HBX.out.trans (hb3.mono HBX.out.size)⟩
  rcases z with _ | _
  case true =>
    have HQ : Hid (R = 1) := by show _ = _; rw [HR.out, codeG, if_pos (.inr (.inr (.inr (.inr rfl))))]
    clear HR
    go_enter Tryz.func21, Tryz.ntmps21
    go_upto_region 1 with fail
    rw [← HW1.out]
    go_wp2_with (first
          | (go_at_call 35; ((with_reducible refine (HI.out _).mono ?_); rintro e wa ⟨rfl, rfl⟩))
          | (go_at_call 51; ((with_reducible refine (HD.out).mono ?_); rintro e wb ⟨rfl, rfl⟩))
          | (go_at_call 53; ((with_reducible refine (HN.out _).mono ?_); rintro e wc ⟨rfl, rfl⟩))
          | (go_at_call 37; ((with_reducible refine (HA.out _ hb0).mono ?_); rintro e wd ⟨rfl, hb3⟩; obtain ⟨u0, u1, u2, u3, u4, u5, u6, u7⟩ := tg_at ((hb3.block _ HLT.out).trans HX.out)))
          | (go_at_call 38; ((with_reducible refine (HZ.out _).mono ?_); rintro e we ⟨rfl, rfl⟩)))
    go_ret
    exact ⟨by rw [HQ.out]; rfl, HBX.out.trans (hb3.mono HBX.out.size)⟩
  have HR2 : Hid (R = if 4096 < x.size then 4 else 0) := by show _ = _; rw [HR.out, codeG, if_neg (by simp)]
  clear HR
  by_cases h1 : 4096 < x.size
  · have HQ : Hid (R = 4) := by show _ = _; rw [HR2.out, if_pos h1]
    have g1 : (4096 : Int) < (x.size : Int) := by omega
    go_enter Tryz.func21, Tryz.ntmps21
    go_upto_region 1 with fail
    rw [← HW1.out]
    go_wp2_with (first
      | (go_at_call 35; ((with_reducible refine (HI.out _).mono ?_); rintro e wa ⟨rfl, rfl⟩))
      | (go_at_call 51; ((with_reducible refine (HD.out).mono ?_); rintro e wb ⟨rfl, rfl⟩))
      | (go_at_call 53; ((with_reducible refine (HN.out _).mono ?_); rintro e wc ⟨rfl, rfl⟩))
      | (go_at_call 37; ((with_reducible refine (HA.out _ hb0).mono ?_); rintro e wd ⟨rfl, hb3⟩; obtain ⟨u0, u1, u2, u3, u4, u5, u6, u7⟩ := tg_at ((hb3.block _ HLT.out).trans HX.out)))
      | (go_at_call 38; ((with_reducible refine (HZ.out _).mono ?_); rintro e we ⟨rfl, rfl⟩)))
    go_ret
    exact ⟨by rw [HQ.out]; rfl, HBX.out.trans (hb3.mono HBX.out.size)⟩
  · have HQ : Hid (R = 0) := by show _ = _; rw [HR2.out, if_neg h1]
    have g1 : ¬ (4096 : Int) < (x.size : Int) := by omega
    go_enter Tryz.func21, Tryz.ntmps21
    go_upto_region 1 with fail
    rw [← HW1.out]
    go_wp2_with (first
      | (go_at_call 35; ((with_reducible refine (HI.out _).mono ?_); rintro e wa ⟨rfl, rfl⟩))
      | (go_at_call 51; ((with_reducible refine (HD.out).mono ?_); rintro e wb ⟨rfl, rfl⟩))
      | (go_at_call 53; ((with_reducible refine (HN.out _).mono ?_); rintro e wc ⟨rfl, rfl⟩))
      | (go_at_call 37; ((with_reducible refine (HA.out _ hb0).mono ?_); rintro e wd ⟨rfl, hb3⟩; obtain ⟨u0, u1, u2, u3, u4, u5, u6, u7⟩ := tg_at ((hb3.block _ HLT.out).trans HX.out)))
      | (go_at_call 38; ((with_reducible refine (HZ.out _).mono ?_); rintro e we ⟨rfl, rfl⟩)))
    go_ret
    exact ⟨by rw [HQ.out]; rfl, HBX.out.trans (hb3.mono HBX.out.size)⟩

theorem wordL_size (k : Int) : (str (wordL k)).size ≤ 6 := by
  rw [str_size]
  unfold wordL
  repeat' split
  all_goals decide
theorem tagN_size {n : ByteArray} (h : tagN n.data.toList = true) : n.size ≤ 64 := by
  simp only [tagN, Bool.and_eq_true, decide_eq_true_eq] at h
  rw [← list_len]
  exact h.2.1

set_option maxHeartbeats 4000000 in
set_option maxRecDepth 4000 in
theorem gbody_any (g : Tg) (w : World) (hT : StrTab w) (hO : WoTab w)
    (hs : g.o.size ≤ 140737488355328 ∧ g.n.size ≤ 140737488355328 ∧ g.g.n.size ≤ 140737488355328 ∧ g.g.m.size ≤ 140737488355328) :
    Calls Tryz.prog 19 #[.agg #[.string g.o, .int .i64 g.k, .string g.n, .string g.g.n, .string g.g.m, .int .i64 g.g.t, .int .i64 g.g.z, .string g.x]] w
      fun e w' => e = .returned (.tuple #[.string (str (bodyG g)), .int .i64 (chkG g : Int)]) ∧ Below w.heap.size w w' := by
  have hck := fun w' hb => gcheck_any g w' hb hs
  obtain ⟨C, hC⟩ : ∃ C, C = chkG g := ⟨_, rfl⟩
  obtain ⟨R, hR⟩ : ∃ R, R = str (bodyG g) := ⟨_, rfl⟩
  have hok := @chkG_ok g
  rw [← hC] at hck hok ⊢
  rw [← hR]
  unfold bodyG at hR
  rw [← hC] at hR
  obtain ⟨t, k, n, ⟨an, am, aT, az⟩, x⟩ := g
  simp only at hs hck hok
  obtain ⟨w1, hw1⟩ : ∃ w1, w1 = w.alloc (.cells #[.string t, .int .i64 k, .string n, .string an, .string am, .int .i64 aT, .int .i64 az, .string x] 37) := ⟨_, rfl⟩
  have hx := heap_alloc_new w (.cells #[.string t, .int .i64 k, .string n, .string an, .string am, .int .i64 aT, .int .i64 az, .string x] 37)
  rw [← hw1] at hx
  have hbx : Below w.heap.size w w1 := by rw [hw1]; exact below_new (Below.refl _ _) _
  have HCK := Lib.hid (hck w1 (hO.below hbx))
  have HBX := Lib.hid hbx
  have HW1 := Lib.hid hw1
  have HX := Lib.hid hx
  obtain ⟨x0, x1, x2, x3, x4, x5, x6, x7⟩ := tg_at hx
  by_cases h0 : C = 0
  case neg =>
    have HQ : Hid (R = ⟨#[]⟩) := by show _ = _; rw [hR, if_neg h0]; rfl
    have g0 : ((C : Int) != 0) = true := by simp; omega
    clear hck hok hR hw1 hx hbx h0 hs hT hC hO
    go_enter Tryz.func19, Tryz.ntmps19
    go_upto_region 1 with fail
    rw [← HW1.out]
    go_wp2_with (go_at_call 21; ((with_reducible refine (HCK.out).mono ?_); rintro e w2 ⟨rfl, hb2⟩))
    go_ret2
    exact ⟨by rw [HQ.out]; rfl, HBX.out.trans (hb2.mono HBX.out.size)⟩
  have g0 : ((C : Int) != 0) = false := by simp [h0]
  obtain ⟨ho, hx4⟩ := hok h0
  obtain ⟨i1, i2, i3, i4, -⟩ := okG_parts ho
  simp only at i1 i2 i3 i4 hx4
  have ht40 := isId_size i1
  have hn64 := tagN_size i3
  obtain ⟨A, hA⟩ : ∃ A, A = whoL ⟨an, am, aT, az⟩ := ⟨_, rfl⟩
  have hA1 : A.size ≤ 157 := by rw [hA]; exact whoL_size i4
  obtain ⟨W, hW⟩ : ∃ W, W = str (wordL k) := ⟨_, rfl⟩
  have hW1 : W.size ≤ 6 := by rw [hW]; exact wordL_size k
  obtain ⟨l1, hl1⟩ : ∃ l1, l1 = lineB ⟨#[111, 98, 106, 101, 99, 116]⟩ t := ⟨_, rfl⟩
  obtain ⟨l2, hl2⟩ : ∃ l2, l2 = lineB ⟨#[116, 121, 112, 101]⟩ W := ⟨_, rfl⟩
  obtain ⟨l3, hl3⟩ : ∃ l3, l3 = lineB ⟨#[116, 97, 103]⟩ n := ⟨_, rfl⟩
  obtain ⟨l4, hl4⟩ : ∃ l4, l4 = lineB ⟨#[116, 97, 103, 103, 101, 114]⟩ A := ⟨_, rfl⟩
  have hl1s : l1.size ≤ 60 := by rw [hl1, lineB_size, ht40]; decide
  have hl2s : l2.size ≤ 60 := by rw [hl2, lineB_size]; show 4 + W.size + 2 ≤ 60; omega
  have hl3s : l3.size ≤ 100 := by rw [hl3, lineB_size]; show 3 + n.size + 2 ≤ 100; omega
  have hl4s : l4.size ≤ 200 := by rw [hl4, lineB_size]; show 6 + A.size + 2 ≤ 200; omega
  have HR : Hid (l1 ++ l2 ++ l3 ++ l4 ++ ⟨#[10]⟩ ++ x = R) := by
    show _ = _
    rw [hR, if_pos h0, encG]
    refine ba_ext ?_
    rw [str_list]
    simp only [app_list, hl1, hl2, hl3, hl4, lineB_list, hA, hW]
    show lineL wObj t.data.toList ++ lineL wTyp (wordL k) ++ lineL wTag n.data.toList ++ lineL wTgr (whoL ⟨an, am, aT, az⟩).data.toList ++ [10] ++ x.data.toList = _
    simp only [List.append_assoc]
    rfl
  have HL1 : Hid (∀ y : BelW w1, Calls Tryz.prog 34 #[.string ⟨#[111, 98, 106, 101, 99, 116]⟩, .string t] y.w fun e w'' => e = .returned (.string l1) ∧ ∃ z : BelW w1, w'' = z.w) := fun y => by rw [hl1]; exact Calls.same_class (line_any _ _ y.w (by decide) (by omega))
  have HL2 : Hid (∀ y : BelW w1, Calls Tryz.prog 34 #[.string ⟨#[116, 121, 112, 101]⟩, .string W] y.w fun e w'' => e = .returned (.string l2) ∧ ∃ z : BelW w1, w'' = z.w) := fun y => by rw [hl2]; exact Calls.same_class (line_any _ _ y.w (by decide) (by omega))
  have HL3 : Hid (∀ y : BelW w1, Calls Tryz.prog 34 #[.string ⟨#[116, 97, 103]⟩, .string n] y.w fun e w'' => e = .returned (.string l3) ∧ ∃ z : BelW w1, w'' = z.w) := fun y => by rw [hl3]; exact Calls.same_class (line_any _ _ y.w (by decide) (by omega))
  have HL4 : Hid (∀ y : BelW w1, Calls Tryz.prog 34 #[.string ⟨#[116, 97, 103, 103, 101, 114]⟩, .string A] y.w fun e w'' => e = .returned (.string l4) ∧ ∃ z : BelW w1, w'' = z.w) := fun y => by rw [hl4]; exact Calls.same_class (line_any _ _ y.w (by decide) (by omega))
  have pa := okPn_parts i4
  simp only at pa
  have HA : Hid (∀ y : BelW w1, Calls Tryz.prog 25 #[.agg #[.string an, .string am, .int .i64 aT, .int .i64 az]] y.w fun e w'' => e = .returned (.string A) ∧ ∃ z : BelW w1, w'' = z.w) := fun y => by
    rw [hA]
    exact Calls.bel_class (fmt_any ⟨an, am, aT, az⟩ y.w ((hT.below hbx).below y.h) hs.2.2.1 hs.2.2.2 (by simp only; omega) (by simp only; omega) (by simp only; omega))
  have HD : Hid (∀ y : BelW w1, Calls Tryz.prog 51 #[.int .i64 k] y.w fun e w'' => e = .returned (.string W) ∧ ∃ z : BelW w1, w'' = z.w) := fun y => by
    rw [hW]
    exact Calls.same_class ((word_any k y.w ((hO.below hbx).below y.h)).mono fun e w' h => h)
  have k0 : ∀ y : BelW w1, y.w.cell? ⟨w.heap.size, 0, none⟩ = some (.string t) := fun y => cell_bel x0 y.h
  have k1 : ∀ y : BelW w1, y.w.cell? ⟨w.heap.size, 1, none⟩ = some (.int .i64 k) := fun y => cell_bel x1 y.h
  have k2 : ∀ y : BelW w1, y.w.cell? ⟨w.heap.size, 2, none⟩ = some (.string n) := fun y => cell_bel x2 y.h
  have k3 : ∀ y : BelW w1, y.w.cell? ⟨w.heap.size, 3, none⟩ = some (.string an) := fun y => cell_bel x3 y.h
  have k4 : ∀ y : BelW w1, y.w.cell? ⟨w.heap.size, 4, none⟩ = some (.string am) := fun y => cell_bel x4 y.h
  have k5 : ∀ y : BelW w1, y.w.cell? ⟨w.heap.size, 5, none⟩ = some (.int .i64 aT) := fun y => cell_bel x5 y.h
  have k6 : ∀ y : BelW w1, y.w.cell? ⟨w.heap.size, 6, none⟩ = some (.int .i64 az) := fun y => cell_bel x6 y.h
  have k7 : ∀ y : BelW w1, y.w.cell? ⟨w.heap.size, 7, none⟩ = some (.string x) := fun y => cell_bel x7 y.h
  have HC0 := Lib.hid h0
  clear hck hok hR hw1 hx hbx h0 hs hT hC hO ho i1 i2 i3 i4 hA hW hl1 hl2 hl3 hl4 pa ht40
  go_enter Tryz.func19, Tryz.ntmps19
  go_upto_region 1 with fail
  rw [← HW1.out]
  go_upto_region 4 with (go_at_call 21; ((with_reducible refine (HCK.out).mono ?_); rintro e w2 ⟨rfl, hb2⟩))
  clear x0 x1 x2 x3 x4 x5 x6 x7 HCK
  have hq : Nonempty (BelW w1) := ⟨⟨w1, Below.refl _ _⟩⟩
  refine wp_region_bel (w0 := w1) hb2 (by kernel_rfl) (by kernel_rfl) ?_
  repeat (go_big_quiet_step (first
    | (go_at_call 25; (with_reducible exact HA.out _))
    | (go_at_call 51; (with_reducible exact HD.out _))
    | (go_at_call 34; first | (with_reducible exact HL1.out _) | (with_reducible exact HL2.out _) | (with_reducible exact HL3.out _) | (with_reducible exact HL4.out _))))
  refine wpQuiet_nil ?_
  rintro _ ⟨z, rfl⟩
  have d7 := k7 z
  have HZ := Lib.hid z.h
  obtain ⟨wz, hwz⟩ : ∃ wz, wz = z.w := ⟨_, rfl⟩
  rw [← hwz] at d7 HZ ⊢
  clear k0 k1 k2 k3 k4 k5 k6 k7 hwz z
  go_wp2_with fail
  go_ret2
  exact ⟨by rw [HC0.out, ← HR.out]; rfl, HBX.out.trans (HZ.out.mono HBX.out.size)⟩
end Go.Proofs.YtddmnibioacelaaGreatDoor
