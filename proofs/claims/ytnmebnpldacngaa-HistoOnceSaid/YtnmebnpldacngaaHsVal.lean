/-
  Plain mathematics: the histogram script is right, and costs no less than the least one.
-/
import Derived.Test.YtnmebnpldacngaaHsPart
import Derived.Test.YtnmebnpldacngaaDfFrom
namespace Go.Proofs.Ytnmebnpldacngaa

section
variable {α : Type} [DecidableEq α]
omit [DecidableEq α] in
theorem ch_wide {A B : List α} {l : List Rn} {i j i' j' i2 j2 : Nat} (h : Ch A B l i j i' j') (h1 : i2 ≤ i) (h2 : j2 ≤ j) : Ch A B l i2 j2 i' j' := by
  cases l with
  | nil => exact ⟨Nat.le_trans h1 h.1, Nat.le_trans h2 h.2⟩
  | cons r l =>
    obtain ⟨x, y, n, h3, h4, h5, h6, h7⟩ := h
    exact ⟨x, y, n, h3, h4, by omega, by omega, h7⟩
omit [DecidableEq α] in
theorem ch_app {A B : List α} : ∀ {l1 l2 : List Rn} {i j i1 j1 i2 j2 : Nat}, Ch A B l1 i j i1 j1 → Ch A B l2 i1 j1 i2 j2 → Ch A B (l1 ++ l2) i j i2 j2
  | [], _, _, _, _, _, _, _, h, g => ch_wide g h.1 h.2
  | _ :: _, _, _, _, _, _, _, _, h, g => by
    obtain ⟨a, b, n, h1, h2, h3, h4, h5, h6, h7, h8⟩ := h
    exact ⟨a, b, n, h1, h2, h3, h4, h5, h6, h7, ch_app h8 g⟩
omit [DecidableEq α] in
theorem kp_ch {A B : List α} {a b n i j : Nat} (hi : i ≤ a) (hj : j ≤ b) (ha : a + n ≤ A.length) (hb : b + n ≤ B.length) (h : (A.drop a).take n = (B.drop b).take n) : Ch A B (kp (a : Int) (b : Int) (n : Int)) i j (a + n) (b + n) := by
  unfold kp
  split
  · exact ⟨a, b, n, rfl, by omega, hi, hj, ha, hb, h, Nat.le_refl _, Nat.le_refl _⟩
  · exact ⟨by omega, by omega⟩
omit [DecidableEq α] in
/-- Runs of parts are runs of the whole. -/
theorem ch_shift {A B X Y : List α} {n m i j : Nat} (hX : X = (A.drop i).take n) (hY : Y = (B.drop j).take m) (hi : i + n ≤ A.length) (hj : j + m ≤ B.length) : ∀ {l : List Rn} {a b a' b' : Nat}, Ch X Y l a b a' b' →
    Ch A B (l.flatMap fun r => kp ((i : Int) + r.a) ((j : Int) + r.b) r.n) (i + a) (j + b) (i + a') (j + b')
  | [], _, _, _, _, h => ⟨Nat.add_le_add_left h.1 _, Nat.add_le_add_left h.2 _⟩
  | _ :: _, _, _, _, _, h => by
    obtain ⟨a, b, c, rfl, h2, h3, h4, h5, h6, h7, h8⟩ := h
    have hxl : X.length = n := by rw [hX, List.length_take, List.length_drop]; omega
    have hyl : Y.length = m := by rw [hY, List.length_take, List.length_drop]; omega
    rw [List.flatMap_cons]
    have hk := kp_ch (A := A) (B := B) (a := i + a) (b := j + b) (n := c) (i := i + a) (j := j + b) (Nat.le_refl _) (Nat.le_refl _) (by omega) (by omega) (by rw [← sub_list hX (by omega), ← sub_list hY (by omega)]; exact h7)
    have := ch_app hk (by have := ch_shift hX hY hi hj h8; rw [← Nat.add_assoc, ← Nat.add_assoc] at this; exact this)
    exact ch_wide this (by omega) (by omega)
theorem anc_take {X Y : List α} {r : Ru} (h : anc X Y = some r) : 1 ≤ r.n ∧ r.a + r.n ≤ X.length ∧ r.b + r.n ≤ Y.length ∧ (X.drop r.a).take r.n = (Y.drop r.b).take r.n := by
  have h1 := anc_is X Y
  rw [h] at h1
  refine ⟨h1.1.pos, h1.1.la, h1.1.lb, List.ext_getElem? fun k => ?_⟩
  rcases Nat.lt_or_ge k r.n with hk | hk
  · rw [List.getElem?_take_of_lt hk, List.getElem?_take_of_lt hk, List.getElem?_drop, List.getElem?_drop]
    exact h1.1.eq k hk
  · rw [List.getElem?_take_eq_none hk, List.getElem?_take_eq_none hk]
end
theorem csuf_take {α : Type} [DecidableEq α] (a b : List α) : (a.drop (a.length - csuf a b)).take (csuf a b) = (b.drop (b.length - csuf a b)).take (csuf a b) := by
  have h := cpre_take a.reverse b.reverse
  have hl := csuf_le a b
  unfold csuf at hl ⊢
  rw [List.take_reverse, List.take_reverse, List.reverse_inj] at h
  rw [List.take_of_length_le (by rw [List.length_drop]; omega), List.take_of_length_le (by rw [List.length_drop]; omega), h]
/-- The runs that the histogram keeps follow one another. -/
theorem sp_ch (A B : List (List UInt8)) (hA : A.length ≤ 4096) (hB : B.length ≤ 4096) : ∀ (k : Nat) (X Y : List (List UInt8)) (n m i j : Nat), X = (A.drop i).take n → Y = (B.drop j).take m → i + n ≤ A.length → j + m ≤ B.length → n + m < k → Ch A B (sp LSr k X Y i j) i j (i + n) (j + m)
  | 0, _, _, _, _, _, _, _, _, _, _, h => absurd h (Nat.not_lt_zero _)
  | k + 1, X, Y, n, m, i, j, hX, hY, hi, hj, hk => by
    have hxl : X.length = n := by rw [hX, List.length_take, List.length_drop]; omega
    have hyl : Y.length = m := by rw [hY, List.length_take, List.length_drop]; omega
    obtain ⟨C, hC⟩ : ∃ C, C = cpre X Y := ⟨_, rfl⟩
    obtain ⟨T, hT⟩ : ∃ T, T = tl X Y := ⟨_, rfl⟩
    have hCle := cpre_le X Y
    have hTle := csuf_le (X.drop C) (Y.drop C)
    have hTT : T = csuf (X.drop C) (Y.drop C) := by rw [hT, tl, hC]
    rw [← hTT, List.length_drop, List.length_drop, hxl, hyl] at hTle
    rw [hxl, hyl, ← hC] at hCle
    have hix : inr X Y X = (X.drop C).take (n - C - T) := by rw [inr, hxl, ← hC, ← hT]
    have hiy : inr X Y Y = (Y.drop C).take (m - C - T) := by rw [inr, hyl, ← hC, ← hT]
    have hxi : inr X Y X = (A.drop (i + C)).take (n - C - T) := by rw [hix]; exact sub_list hX (by omega)
    have hyi : inr X Y Y = (B.drop (j + C)).take (m - C - T) := by rw [hiy]; exact sub_list hY (by omega)
    have hxl2 : (inr X Y X).length = n - C - T := by rw [inr_len, hxl, ← hC, ← hT]
    have hyl2 : (inr X Y Y).length = m - C - T := by rw [inr_len, hyl, ← hC, ← hT]
    rw [sp, hxl2, hyl2, ← hC, ← hT]
    have h1 : Ch A B (kp (i : Int) (j : Int) (C : Int)) i j (i + C) (j + C) := kp_ch (Nat.le_refl _) (Nat.le_refl _) (by omega) (by omega) (by
      have h2 := cpre_take X Y
      rw [← hC] at h2
      have e1 := sub_list (a := 0) (l := C) hX (by omega)
      have e2 := sub_list (a := 0) (l := C) hY (by omega)
      simp only [List.drop_zero, Nat.add_zero] at e1 e2
      rw [← e1, ← e2, h2])
    have h3 : Ch A B (kp ((i : Int) + C + (n - C - T : Nat)) ((j : Int) + C + (m - C - T : Nat)) T) (i + C + (n - C - T)) (j + C + (m - C - T)) (i + n) (j + m) := by
      have h4 := kp_ch (A := A) (B := B) (a := i + C + (n - C - T)) (b := j + C + (m - C - T)) (n := T) (i := i + C + (n - C - T)) (j := j + C + (m - C - T)) (Nat.le_refl _) (Nat.le_refl _) (by omega) (by omega) (by
        have h5 := csuf_take (X.drop C) (Y.drop C)
        rw [← hTT, List.length_drop, List.length_drop, hxl, hyl, List.drop_drop, List.drop_drop] at h5
        have e1 := sub_list (a := C + (n - C - T)) (l := T) hX (by omega)
        have e2 := sub_list (a := C + (m - C - T)) (l := T) hY (by omega)
        rw [← Nat.add_assoc] at e1 e2
        rw [← e1, ← e2]
        exact h5)
      rw [show i + C + (n - C - T) + T = i + n by omega, show j + C + (m - C - T) + T = j + m by omega] at h4
      exact h4
    refine ch_app h1 (ch_app (i1 := i + C + (n - C - T)) (j1 := j + C + (m - C - T)) ?_ h3)
    split
    · exact ⟨by omega, by omega⟩
    · unfold mid
      cases ha : anc (inr X Y X) (inr X Y Y) with
      | none =>
        simp only
        have h6 := lsr_ch (x := inr X Y X) (y := inr X Y Y) (by omega) (by omega)
        have h7 := ch_shift hxi hyi (by omega) (by omega) h6
        rw [hxl2, hyl2, Nat.add_zero, Nat.add_zero] at h7
        exact h7
      | some r =>
        obtain ⟨r1, r2, r3, r4⟩ := anc_take ha
        rw [hxl2] at r2
        rw [hyl2] at r3
        simp only
        have g1 := sp_ch A B hA hB k ((inr X Y X).take r.a) ((inr X Y Y).take r.b) r.a r.b (i + C) (j + C) (by have := sub_list (a := 0) (l := r.a) hxi (by omega); simpa using this) (by have := sub_list (a := 0) (l := r.b) hyi (by omega); simpa using this) (by omega) (by omega) (by omega)
        have g2 := kp_ch (A := A) (B := B) (a := i + C + r.a) (b := j + C + r.b) (n := r.n) (i := i + C + r.a) (j := j + C + r.b) (Nat.le_refl _) (Nat.le_refl _) (by omega) (by omega) (by rw [← sub_list hxi (by omega), ← sub_list hyi (by omega)]; exact r4)
        have g3 := sp_ch A B hA hB k ((inr X Y X).drop (r.a + r.n)) ((inr X Y Y).drop (r.b + r.n)) (n - C - T - (r.a + r.n)) (m - C - T - (r.b + r.n)) (i + C + (r.a + r.n)) (j + C + (r.b + r.n))
          (by have := sub_list (a := r.a + r.n) (l := n - C - T - (r.a + r.n)) hxi (by omega); rw [List.take_of_length_le (by rw [List.length_drop]; omega)] at this; exact this)
          (by have := sub_list (a := r.b + r.n) (l := m - C - T - (r.b + r.n)) hyi (by omega); rw [List.take_of_length_le (by rw [List.length_drop]; omega)] at this; exact this) (by omega) (by omega) (by omega)
        rw [show i + C + (r.a + r.n) + (n - C - T - (r.a + r.n)) = i + C + (n - C - T) by omega, show j + C + (r.b + r.n) + (m - C - T - (r.b + r.n)) = j + C + (m - C - T) by omega] at g3
        rw [show i + C + r.a + r.n = i + C + (r.a + r.n) by omega, show j + C + r.b + r.n = j + C + (r.b + r.n) by omega] at g2
        have := ch_app g1 (ch_app g2 g3)
        exact this
end Go.Proofs.Ytnmebnpldacngaa
