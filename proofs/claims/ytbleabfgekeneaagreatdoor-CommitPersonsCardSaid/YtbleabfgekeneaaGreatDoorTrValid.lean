/-
  What the functions of tree read; the walks of valid and of the reference's May.
-/
import Derived.Test.YtbleabfgekeneaaGreatDoorTrLess
import Derived.Test.YtbleabfgekeneaaGreatDoorPtRPartPk
import Derived.Test.YtbleabfgekeneaaGreatDoorIdRDigit
import Derived.Test.YtbleabfgekeneaaGreatDoorIdHexPk
import Derived.Test.YtbleabfgekeneaaGreatDoorShelf
namespace Go.Proofs.YtbleabfgekeneaaGreatDoor
open Go.RowKit

/-- What the functions of tree read of package-level variables. -/
structure TrTab (w : World) : Prop where
  ml : ∃ m, w.cell? ⟨1, 0, none⟩ = some (.int .i64 m)
  c1 : w.cell? ⟨5, 1, none⟩ = some (.string (str (wordM 1)))
  c2 : w.cell? ⟨5, 2, none⟩ = some (.string (str (wordM 2)))
  c3 : w.cell? ⟨5, 3, none⟩ = some (.string (str (wordM 3)))
  c4 : w.cell? ⟨5, 4, none⟩ = some (.string (str (wordM 4)))
theorem TrTab.below {w w' : World} (h : TrTab w) (hb : Below w.heap.size w w') : TrTab w' :=
  ⟨by obtain ⟨m, hm⟩ := h.ml; exact ⟨m, cell_bel hm hb⟩, cell_bel h.c1 hb, cell_bel h.c2 hb, cell_bel h.c3 hb, cell_bel h.c4 hb⟩
theorem flatN_ne (s : ByteArray) : decide (0 ≤ Lib.indexByte s.data.toList 47) = !flatN s := by
  unfold flatN
  by_cases h : 0 ≤ Lib.indexByte s.data.toList 47
  · simp [h, Int.not_lt.mpr h]
  · simp [h, Int.not_le.mp h]

set_option maxHeartbeats 2000000 in
set_option maxRecDepth 4000 in
theorem valid_any (e : En) (w : World) (hT : TrTab w) (hn : e.n.size ≤ 1048576) (hi : e.i.size ≤ 140737488355328) :
    Calls Tryz.prog 132 #[.agg #[.int .i64 e.m, .string e.n, .string e.i]] w fun x w' => x = .returned (.bool (okEn e)) ∧ Below w.heap.size w w' := by
  obtain ⟨m, n, i⟩ := e
  simp only at hn hi ⊢
  obtain ⟨P, hP⟩ : ∃ P, P = isP n := ⟨_, rfl⟩
  obtain ⟨F, hF⟩ : ∃ F, F = flatN n := ⟨_, rfl⟩
  obtain ⟨I, hI⟩ : ∃ I, I = isId i := ⟨_, rfl⟩
  obtain ⟨R, hR⟩ : ∃ R, R = okEn ⟨m, n, i⟩ := ⟨_, rfl⟩
  rw [← hR]
  have HR : Hid (R = (decide (1 ≤ m) && (decide (m ≤ 4) && (P && (F && I))))) := by
    show _ = _
    rw [hR, okEn, hP, hF, hI]
  have HP : Hid (∀ w', Below w.heap.size w w' → Calls Tryz.prog 150 #[.string n] w' fun e w'' => e = .returned (.bool P) ∧ Below w'.heap.size w' w'') := fun w' hb => by
    obtain ⟨z, hz⟩ := (hT.below hb).ml
    rw [hP]
    exact pis_any n z w' hn hz
  have HF : Hid (∀ w', Calls Tryz.prog 38 #[.string n, .string ⟨#[47]⟩] w' fun e w'' => e = .returned (.bool !F) ∧ w'' = w') := fun w' => by
    rw [hF, ← flatN_ne]
    exact Tryz.strings_Contains_one n 47 w'
  have HI : Hid (∀ w', Calls Tryz.prog 35 #[.string i] w' fun e w'' => e = .returned (.bool I) ∧ w' = w'') := fun w' => by
    rw [hI]
    exact is_any i w' hi
  have hx := heap_alloc_new w (.cells #[.int .i64 m, .string n, .string i] 85)
  have hbx : Below w.heap.size w (w.alloc (.cells #[.int .i64 m, .string n, .string i] 85)) := below_new (Below.refl _ _) _
  have hbl : w.heap.size < (w.alloc (.cells #[.int .i64 m, .string n, .string i] 85)).heap.size := by simp
  obtain ⟨w1, hw1⟩ : ∃ w1, w1 = w.alloc (.cells #[.int .i64 m, .string n, .string i] 85) := ⟨_, rfl⟩
  have HW1 := Lib.hid hw1
  rw [← hw1] at hx hbx hbl
  have a0 : w1.cell? ⟨w.heap.size, 0, none⟩ = some (.int .i64 m) := cell_of_row w1 _ 0 _ _ _ hx
  have a1 : w1.cell? ⟨w.heap.size, 1, none⟩ = some (.string n) := cell_of_row w1 _ 1 _ _ _ hx
  have a2 : w1.cell? ⟨w.heap.size, 2, none⟩ = some (.string i) := cell_of_row w1 _ 2 _ _ _ hx
  have HB := Lib.hid hbx
  have HT := Lib.hid hT
  clear hP hF hI hR hw1 hx hT hbx hn hi
  have hc : (decide (1 ≤ m) = false) ∨ (decide (1 ≤ m) = true ∧ decide (m ≤ 4) = false) ∨ (decide (1 ≤ m) = true ∧ decide (m ≤ 4) = true) := by
    cases decide (1 ≤ m) <;> cases decide (m ≤ 4) <;> simp
  rcases hc with h1 | ⟨h1, h2⟩ | ⟨h1, h2⟩
  · have HX : Hid (R = false) := by show _ = _; rw [HR.out, h1]; rfl
    clear HR
    go_enter Tryz.func132, Tryz.ntmps132
    go_upto_region 1 with fail
    rw [← HW1.out]
    go_wp2
    go_ret
    exact ⟨by rw [HX.out]; rfl, HB.out⟩
  · have HX : Hid (R = false) := by show _ = _; rw [HR.out, h1, h2]; rfl
    clear HR
    go_enter Tryz.func132, Tryz.ntmps132
    go_upto_region 1 with fail
    rw [← HW1.out]
    go_wp2
    go_ret
    exact ⟨by rw [HX.out]; rfl, HB.out⟩
  · have HX : Hid (R = (P && (F && I))) := by show _ = _; rw [HR.out, h1, h2]; rfl
    clear HR
    rcases P with _ | _
    · go_enter Tryz.func132, Tryz.ntmps132
      go_upto_region 1 with fail
      rw [← HW1.out]
      go_wp2_with (go_at_call 150; ((with_reducible refine (HP.out _ HB.out).mono ?_); rintro e w2 ⟨rfl, hb2⟩; have b1 := cell_bel a1 hb2; have b2 := cell_bel a2 hb2))
      go_ret
      exact ⟨by rw [HX.out]; rfl, HB.out.trans (hb2.mono HB.out.size)⟩
    · rcases F with _ | _
      · go_enter Tryz.func132, Tryz.ntmps132
        go_upto_region 1 with fail
        rw [← HW1.out]
        go_wp2_with (first
          | (go_at_call 150; ((with_reducible refine (HP.out _ HB.out).mono ?_); rintro e w2 ⟨rfl, hb2⟩; have b1 := cell_bel a1 hb2; have b2 := cell_bel a2 hb2))
          | (go_at_call 38; ((with_reducible refine (HF.out _).mono ?_); rintro e w3 ⟨rfl, rfl⟩)))
        go_ret
        exact ⟨by rw [HX.out]; rfl, HB.out.trans (hb2.mono HB.out.size)⟩
      · go_enter Tryz.func132, Tryz.ntmps132
        go_upto_region 1 with fail
        rw [← HW1.out]
        go_wp2_with (first
          | (go_at_call 150; ((with_reducible refine (HP.out _ HB.out).mono ?_); rintro e w2 ⟨rfl, hb2⟩; have b1 := cell_bel a1 hb2; have b2 := cell_bel a2 hb2))
          | (go_at_call 38; ((with_reducible refine (HF.out _).mono ?_); rintro e w3 ⟨rfl, rfl⟩))
          | (go_at_call 35; ((with_reducible refine (HI.out _).mono ?_); rintro e w4 ⟨rfl, rfl⟩)))
        go_ret
        exact ⟨by rw [HX.out]; rfl, HB.out.trans (hb2.mono HB.out.size)⟩
set_option maxHeartbeats 2000000 in
set_option maxRecDepth 4000 in
theorem may_any (e : En) (w : World) (hn : e.n.size ≤ 1048576) (hi : e.i.size ≤ 140737488355328) :
    Calls Tryz.prog 111 #[.agg #[.int .i64 e.m, .string e.n, .string e.i]] w fun x w' => x = .returned (.bool (okEn e)) ∧ Below w.heap.size w w' := by
  obtain ⟨m, n, i⟩ := e
  simp only at hn hi ⊢
  obtain ⟨P, hP⟩ : ∃ P, P = isP n := ⟨_, rfl⟩
  obtain ⟨K, hK⟩ : ∃ K, K = Lib.indexByte n.data.toList 47 := ⟨_, rfl⟩
  obtain ⟨F, hF⟩ : ∃ F, F = decide (K < 0) := ⟨_, rfl⟩
  obtain ⟨I, hI⟩ : ∃ I, I = isId i := ⟨_, rfl⟩
  obtain ⟨R, hR⟩ : ∃ R, R = okEn ⟨m, n, i⟩ := ⟨_, rfl⟩
  rw [← hR]
  have HR : Hid (R = (decide (1 ≤ m) && (decide (m ≤ 4) && (P && (F && I))))) := by
    show _ = _
    rw [hR, okEn, hP, hF, hI, hK]; rfl
  have HP : Hid (∀ w', Below w.heap.size w w' → Calls Tryz.prog 135 #[.string n] w' fun e w'' => e = .returned (.bool P) ∧ Below w'.heap.size w' w'') := fun w' hb => by
    rw [hP]
    exact pris_any n w' hn
  have HF : Hid (∀ w', Calls Tryz.prog 109 #[.string n, .int .u8 47, .int .i64 0] w' fun e w'' => e = .returned (.int .i64 K) ∧ w'' = w') := fun w' => by
    rw [hK]
    exact rfindB_any n 47 47 w' rfl (by omega)
  have HI : Hid (∀ w', Calls Tryz.prog 40 #[.string i] w' fun e w'' => e = .returned (.bool I) ∧ w' = w'') := fun w' => by
    rw [hI]
    exact ris_any i w' hi
  have hx := heap_alloc_new w (.cells #[.int .i64 m, .string n, .string i] 85)
  have hbx : Below w.heap.size w (w.alloc (.cells #[.int .i64 m, .string n, .string i] 85)) := below_new (Below.refl _ _) _
  have hbl : w.heap.size < (w.alloc (.cells #[.int .i64 m, .string n, .string i] 85)).heap.size := by simp
  obtain ⟨w1, hw1⟩ : ∃ w1, w1 = w.alloc (.cells #[.int .i64 m, .string n, .string i] 85) := ⟨_, rfl⟩
  have HW1 := Lib.hid hw1
  rw [← hw1] at hx hbx hbl
  have a0 : w1.cell? ⟨w.heap.size, 0, none⟩ = some (.int .i64 m) := cell_of_row w1 _ 0 _ _ _ hx
  have a1 : w1.cell? ⟨w.heap.size, 1, none⟩ = some (.string n) := cell_of_row w1 _ 1 _ _ _ hx
  have a2 : w1.cell? ⟨w.heap.size, 2, none⟩ = some (.string i) := cell_of_row w1 _ 2 _ _ _ hx
  have HB := Lib.hid hbx
  clear hP hK hI hR hw1 hx hbx hn hi
  have hc : (decide (1 ≤ m) = false) ∨ (decide (1 ≤ m) = true ∧ decide (m ≤ 4) = false) ∨ (decide (1 ≤ m) = true ∧ decide (m ≤ 4) = true) := by
    cases decide (1 ≤ m) <;> cases decide (m ≤ 4) <;> simp
  rcases hc with h1 | ⟨h1, h2⟩ | ⟨h1, h2⟩
  · have HX : Hid (R = false) := by show _ = _; rw [HR.out, h1]; rfl
    clear HR
    go_enter Tryz.func111, Tryz.ntmps111
    go_upto_region 1 with fail
    rw [← HW1.out]
    go_wp2
    go_ret
    exact ⟨by rw [HX.out]; rfl, HB.out⟩
  · have HX : Hid (R = false) := by show _ = _; rw [HR.out, h1, h2]; rfl
    clear HR
    go_enter Tryz.func111, Tryz.ntmps111
    go_upto_region 1 with fail
    rw [← HW1.out]
    go_wp2
    go_ret
    exact ⟨by rw [HX.out]; rfl, HB.out⟩
  · have HX : Hid (R = (P && (F && I))) := by show _ = _; rw [HR.out, h1, h2]; rfl
    clear HR
    rcases P with _ | _
    · go_enter Tryz.func111, Tryz.ntmps111
      go_upto_region 1 with fail
      rw [← HW1.out]
      go_wp2_with (go_at_call 135; ((with_reducible refine (HP.out _ HB.out).mono ?_); rintro e w2 ⟨rfl, hb2⟩; have b1 := cell_bel a1 hb2; have b2 := cell_bel a2 hb2))
      go_ret
      exact ⟨by rw [HX.out]; rfl, HB.out.trans (hb2.mono HB.out.size)⟩
    · have hFK := hF.symm
      clear hF
      rcases F with _ | _
      · go_enter Tryz.func111, Tryz.ntmps111
        go_upto_region 1 with fail
        rw [← HW1.out]
        go_wp2_with (first
          | (go_at_call 135; ((with_reducible refine (HP.out _ HB.out).mono ?_); rintro e w2 ⟨rfl, hb2⟩; have b1 := cell_bel a1 hb2; have b2 := cell_bel a2 hb2))
          | (go_at_call 109; ((with_reducible refine (HF.out _).mono ?_); rintro e w3 ⟨rfl, rfl⟩)))
        go_ret
        exact ⟨by rw [HX.out]; rfl, HB.out.trans (hb2.mono HB.out.size)⟩
      · go_enter Tryz.func111, Tryz.ntmps111
        go_upto_region 1 with fail
        rw [← HW1.out]
        go_wp2_with (first
          | (go_at_call 135; ((with_reducible refine (HP.out _ HB.out).mono ?_); rintro e w2 ⟨rfl, hb2⟩; have b1 := cell_bel a1 hb2; have b2 := cell_bel a2 hb2))
          | (go_at_call 109; ((with_reducible refine (HF.out _).mono ?_); rintro e w3 ⟨rfl, rfl⟩))
          | (go_at_call 40; ((with_reducible refine (HI.out _).mono ?_); rintro e w4 ⟨rfl, rfl⟩)))
        go_ret
        exact ⟨by rw [HX.out]; rfl, HB.out.trans (hb2.mono HB.out.size)⟩
end Go.Proofs.YtbleabfgekeneaaGreatDoor
