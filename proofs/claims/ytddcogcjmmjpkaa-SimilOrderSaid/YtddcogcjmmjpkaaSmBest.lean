/-
  The walks of the reference's Score, Above and Best, and of Best.
-/
import Derived.Test.YtddcogcjmmjpkaaSmRef
namespace Go.Proofs.Ytddcogcjmmjpkaa
open Go.RowKit Go.Maps Go.WideMaps

theorem empty_is {a : ByteArray} (h : a.size = 0) : a.toList.isEmpty = true := by
  rw [ByteArray.toList_eq]
  have : a.data.toList = [] := List.eq_nil_of_length_eq_zero (by rw [list_len]; exact h)
  rw [this]; rfl
theorem empty_not {a : ByteArray} (h : ¬ a.size = 0) : a.toList.isEmpty = false := by
  rw [ByteArray.toList_eq]
  cases hl : a.data.toList with
  | nil => have := congrArg List.length hl; rw [list_len] at this; exact absurd (by simpa using this) h
  | cons x r => rfl
theorem sc_one (a b : ByteArray) (h : a.size = 0 ∨ b.size = 0) (h2 : ¬ (a.size = 0 ∧ b.size = 0)) : scS a b = 0 := by
  unfold scS scr
  have h0 : shr (split a.data.toList) (split b.data.toList) = 0 := by
    have h3 := shS_le a b
    have h4 := shS_le2 a b
    unfold shS at h3 h4
    omega
  rw [if_neg (by omega), h0, Nat.mul_zero, Nat.zero_div]

set_option maxHeartbeats 2000000 in
theorem rscore_any (a b : ByteArray) (r : Nat) (w : World) (ha : a.size ≤ 1048576) (hb : b.size ≤ 1048576) (hr : r = scS a b) :
    Calls Try.prog 26 #[.string a, .string b] w fun e w' => e = .returned (.int .i64 r) ∧ Below w.heap.size w w' := by
  by_cases ha0 : a.size = 0
  · have e1 := empty_is ha0
    by_cases hb0 : b.size = 0
    · have e2 := empty_is hb0
      have HR : Hid (r = 100) := by show _ = _; rw [hr]; unfold scS scr; rw [if_pos (by omega)]
      clear hr ha0 hb0
      go_enter Try.func26, Try.ntmps26
      go_wp2
      go_ret
      exact ⟨by rw [HR.out]; rfl, Below.refl _ _⟩
    · have e2 := empty_not hb0
      have HR : Hid (r = 0) := by show _ = _; rw [hr]; exact sc_one a b (.inl ha0) (fun h => hb0 h.2)
      clear hr ha0 hb0
      go_enter Try.func26, Try.ntmps26
      go_wp2
      go_ret
      exact ⟨by rw [HR.out]; rfl, Below.refl _ _⟩
  · have e1 := empty_not ha0
    by_cases hb0 : b.size = 0
    · have e2 := empty_is hb0
      have HR : Hid (r = 0) := by show _ = _; rw [hr]; exact sc_one a b (.inr hb0) (fun h => ha0 h.1)
      clear hr ha0 hb0
      go_enter Try.func26, Try.ntmps26
      go_wp2
      go_ret
      exact ⟨by rw [HR.out]; rfl, Below.refl _ _⟩
    · have e2 := empty_not hb0
      obtain ⟨m, hm⟩ : ∃ m, m = shS a b := ⟨_, rfl⟩
      have hm1 : m ≤ 1048576 := by have := shS_le a b; omega
      have HM := Lib.hid hm
      have HR : Hid (r = 100 * m / max a.size b.size) := by show _ = _; rw [hr, hm]; unfold scS scr; rw [if_neg (by omega)]; rfl
      clear hr hm
      by_cases hab : a.size < b.size
      · have HR0 : Hid (r = 100 * m / b.size) := by show _ = _; rw [HR.out, Nat.max_eq_right (by omega)]
        have hz : ¬ (b.size : Int) = 0 := by omega
        clear HR
        go_enter Try.func26, Try.ntmps26
        go_wp2_with (go_at_call 24; ((with_reducible refine (rcommon_any a b m w ha hb HM.out).mono ?_); rintro e w2 ⟨rfl, hb2⟩))
        go_ret
        exact ⟨by rw [HR0.out]; rfl, hb2⟩
      · have HR0 : Hid (r = 100 * m / a.size) := by show _ = _; rw [HR.out, Nat.max_eq_left (by omega)]
        have hz : ¬ (a.size : Int) = 0 := by omega
        clear HR
        go_enter Try.func26, Try.ntmps26
        go_wp2_with (go_at_call 24; ((with_reducible refine (rcommon_any a b m w ha hb HM.out).mono ?_); rintro e w2 ⟨rfl, hb2⟩))
        go_ret
        exact ⟨by rw [HR0.out]; rfl, hb2⟩

set_option maxHeartbeats 2000000 in
theorem above_any (a b : ByteArray) (least : Int) (r : Bool) (w : World) (ha : a.size ≤ 1048576) (hb : b.size ≤ 1048576) (hr : r = decide (least ≤ (scS a b : Int))) :
    Calls Try.prog 28 #[.string a, .string b, .int .i64 least] w fun e w' => e = .returned (.bool r) ∧ Below w.heap.size w w' := by
  obtain ⟨m, hm⟩ : ∃ m, m = scS a b := ⟨_, rfl⟩
  have HM := Lib.hid hm
  rw [← hm] at hr
  have d0 := hr.symm
  clear hr hm
  go_enter Try.func28, Try.ntmps28
  go_wp2_with (go_at_call 26; ((with_reducible refine (rscore_any a b m w ha hb HM.out).mono ?_); rintro e w2 ⟨rfl, hb2⟩))
  go_ret
  exact ⟨by simp [d0], hb2⟩

/-- The scores of a list. -/
def scores (a : ByteArray) (ls : List (List UInt8)) : List Nat := ls.map fun l => scS a (str l)
theorem scores_len (a : ByteArray) (ls : List (List UInt8)) : (scores a ls).length = ls.length := by simp [scores]

set_option maxHeartbeats 2000000 in
set_option maxRecDepth 4000 in
theorem best_any (a : ByteArray) (ls : List (List UInt8)) (p : Option Addr) (c n : Nat) (R : Int × Nat) (w : World) (ha : a.size ≤ 1048576) (hn : n = ls.length) (hp : SRw w p ls) (hl : n ≤ 1048576) (hx : ∀ x ∈ ls, x.length ≤ 1048576) (hR : R = bst (-1) 0 0 (scores a ls)) :
    Calls Try.prog 29 #[.string a, .slice p n c] w fun e w' => e = .returned (.tuple #[.int .i64 R.1, .int .i64 R.2]) ∧ Below w.heap.size w w' := by
  obtain ⟨L, hL⟩ : ∃ L, L = scores a ls := ⟨_, rfl⟩
  have HLL : Hid (L.length = ls.length) := by show _ = _; rw [hL, scores_len]
  have HL := Lib.hid hL
  rw [← hL] at hR
  have HR : Hid (R = bst (-1) 0 0 (L.drop 0)) := hR
  have HN := Lib.hid hn
  have HX := Lib.hid hx
  have HP := Lib.hid hp
  clear hL hR hn hx hp
  go_enter Try.func29, Try.ntmps29
  go_wp2_with (go_at_call 63; ((with_reducible refine (scorer_any a w ha).mono ?_); rintro e w1 ⟨B, C, rfl, hsc, hb1⟩))
  have HSC := Lib.hid hsc
  have HB1 := Lib.hid hb1
  clear hsc hb1
  go_loopw [6, 7, 16] (fun iv sv kv wr => ∃ (k s : Nat) (i : Int), k ≤ n ∧ iv = .int .i64 i ∧ sv = .int .i64 s ∧ kv = .int .i64 k ∧ -1 ≤ i ∧ i ≤ 1048576 ∧ s ≤ 100 ∧ Hid (Below w1.heap.size w1 wr) ∧ Hid (R = bst i s k (L.drop k))) (fun _ _ kv _ => n - (intOf kv).toNat)
  case atStart => exact ⟨0, 0, -1, by omega, rfl, rfl, rfl, by omega, by omega, by omega, Below.refl _ _, HR.out⟩
  case round =>
    clear HR
    obtain ⟨k, s, i, hk, rfl, rfl, rfl, hi1, hi2, hs, HB, HR⟩ := hrel
    by_cases hlt : k < n
    · have hkl : k < ls.length := by rw [← HN.out]; exact hlt
      have hkL : k < L.length := by rw [HLL.out]; exact hkl
      obtain ⟨g, o, rfl, hg, a0⟩ := (HP.out.below (HB1.out.trans (HB.out.mono HB1.out.size))) k hkl
      obtain ⟨t, ht⟩ : ∃ t, t = str ls[k] := ⟨_, rfl⟩
      rw [← ht] at a0
      have hts : t.size ≤ 1048576 := by rw [ht, str_size]; exact HX.out _ (List.getElem_mem hkl)
      have hbd := bst_drop i s k L hkL
      obtain ⟨z, hz⟩ : ∃ z, z = L[k] := ⟨_, rfl⟩
      have hz2 : z = scS a t := by rw [hz, ht]; simp only [HL.out, scores, List.getElem_map]
      have hz3 : z ≤ 100 := by rw [hz2]; exact scS_le a t
      rw [← hz] at hbd
      have HZ := Lib.hid hz2
      have hsc := HSC.out.below HB.out
      have HS1 := Lib.hid hsc
      clear ht hz hz2 hkl hkL hg hsc
      by_cases hc : i < 0 ∨ s < z
      · rw [if_pos hc] at hbd
        have HR2 : Hid (R = bst k z (k + 1) (L.drop (k + 1))) := by show _ = _; rw [HR.out, hbd]
        clear hbd HR
        by_cases hi : i < 0
        · have d1 : decide (i < 0) = true := decide_eq_true hi
          clear hc hi
          go_wp2_with (go_at_call 95; ((with_reducible refine (scorer1_any a t B C z _ ha hts HS1.out HZ.out).mono ?_); rintro e w2 ⟨rfl, hb2⟩; have HB2 := Lib.hid (HB.out.trans (hb2.mono HB.out.size)); clear hb2))
          go_roundw
          case rel => exact ⟨k + 1, z, k, by omega, rfl, rfl, by go_num, by omega, by omega, hz3, HB2, HR2⟩
          case measure => simp [intOf]; omega
        · have d1 : decide (i < 0) = false := decide_eq_false hi
          have hc2 : s < z := hc.resolve_left hi
          have d2 : decide (s < z) = true := decide_eq_true hc2
          clear hc hi hc2
          go_wp2_with (go_at_call 95; ((with_reducible refine (scorer1_any a t B C z _ ha hts HS1.out HZ.out).mono ?_); rintro e w2 ⟨rfl, hb2⟩; have HB2 := Lib.hid (HB.out.trans (hb2.mono HB.out.size)); clear hb2))
          go_roundw
          case rel => exact ⟨k + 1, z, k, by omega, rfl, rfl, by go_num, by omega, by omega, hz3, HB2, HR2⟩
          case measure => simp [intOf]; omega
      · rw [if_neg hc] at hbd
        have HR2 : Hid (R = bst i s (k + 1) (L.drop (k + 1))) := by show _ = _; rw [HR.out, hbd]
        have d1 : decide (i < 0) = false := decide_eq_false (fun h => hc (.inl h))
        have d2 : decide (s < z) = false := decide_eq_false (fun h => hc (.inr h))
        clear hbd HR hc
        go_wp2_with (go_at_call 95; ((with_reducible refine (scorer1_any a t B C z _ ha hts HS1.out HZ.out).mono ?_); rintro e w2 ⟨rfl, hb2⟩; have HB2 := Lib.hid (HB.out.trans (hb2.mono HB.out.size)); clear hb2))
        go_roundw
        case rel => exact ⟨k + 1, s, i, by omega, rfl, rfl, by go_num, hi1, hi2, hs, HB2, HR2⟩
        case measure => simp [intOf]; omega
    · obtain rfl : k = n := by omega
      have HE : Hid (R = (i, s)) := by
        show _ = _
        rw [HR.out, List.drop_of_length_le (by rw [HLL.out, ← HN.out]; exact Nat.le_refl _)]
        rfl
      clear HR
      go_wp2
      go_ret2
      exact ⟨by rw [HE.out]; rfl, HB1.out.trans (HB.out.mono HB1.out.size)⟩

set_option maxHeartbeats 2000000 in
set_option maxRecDepth 4000 in
theorem rbest_any (a : ByteArray) (ls : List (List UInt8)) (p : Option Addr) (c n : Nat) (R : Int × Nat) (w : World) (ha : a.size ≤ 1048576) (hn : n = ls.length) (hp : SRw w p ls) (hl : n ≤ 1048576) (hx : ∀ x ∈ ls, x.length ≤ 1048576) (hR : R = bst (-1) 0 0 (scores a ls)) :
    Calls Try.prog 30 #[.string a, .slice p n c] w fun e w' => e = .returned (.tuple #[.int .i64 R.1, .int .i64 R.2]) ∧ Below w.heap.size w w' := by
  obtain ⟨L, hL⟩ : ∃ L, L = scores a ls := ⟨_, rfl⟩
  have HLL : Hid (L.length = ls.length) := by show _ = _; rw [hL, scores_len]
  have HL := Lib.hid hL
  rw [← hL] at hR
  have HR : Hid (R = bst (-1) 0 0 (L.drop 0)) := hR
  have HN := Lib.hid hn
  have HX := Lib.hid hx
  have HP := Lib.hid hp
  clear hL hR hn hx hp
  go_enter Try.func30, Try.ntmps30
  go_wp2
  go_loopw [6, 7, 12] (fun iv sv kv wr => ∃ (k s : Nat) (i : Int), k ≤ n ∧ iv = .int .i64 i ∧ sv = .int .i64 s ∧ kv = .int .i64 k ∧ -1 ≤ i ∧ i ≤ 1048576 ∧ s ≤ 100 ∧ Hid (Below w.heap.size w wr) ∧ Hid (R = bst i s k (L.drop k))) (fun _ _ kv _ => n - (intOf kv).toNat)
  case atStart => exact ⟨0, 0, -1, by omega, rfl, rfl, rfl, by omega, by omega, by omega, Below.refl _ _, HR.out⟩
  case round =>
    clear HR
    obtain ⟨k, s, i, hk, rfl, rfl, rfl, hi1, hi2, hs, HB, HR⟩ := hrel
    by_cases hlt : k < n
    · have hkl : k < ls.length := by rw [← HN.out]; exact hlt
      have hkL : k < L.length := by rw [HLL.out]; exact hkl
      obtain ⟨g, o, rfl, hg, a0⟩ := (HP.out.below HB.out) k hkl
      obtain ⟨t, ht⟩ : ∃ t, t = str ls[k] := ⟨_, rfl⟩
      rw [← ht] at a0
      have hts : t.size ≤ 1048576 := by rw [ht, str_size]; exact HX.out _ (List.getElem_mem hkl)
      have hbd := bst_drop i s k L hkL
      obtain ⟨z, hz⟩ : ∃ z, z = L[k] := ⟨_, rfl⟩
      have hz2 : z = scS a t := by rw [hz, ht]; simp only [HL.out, scores, List.getElem_map]
      have hz3 : z ≤ 100 := by rw [hz2]; exact scS_le a t
      rw [← hz] at hbd
      have HZ := Lib.hid hz2
      clear ht hz hz2 hkl hkL hg
      by_cases hc : i < 0 ∨ s < z
      · rw [if_pos hc] at hbd
        have HR2 : Hid (R = bst k z (k + 1) (L.drop (k + 1))) := by show _ = _; rw [HR.out, hbd]
        clear hbd HR
        by_cases hi : i < 0
        · have d1 : decide (i < 0) = true := decide_eq_true hi
          clear hc hi
          go_wp2_with (go_at_call 26; ((with_reducible refine (rscore_any a t z _ ha hts HZ.out).mono ?_); rintro e w2 ⟨rfl, hb2⟩; have HB2 := Lib.hid (HB.out.trans (hb2.mono HB.out.size)); clear hb2))
          go_roundw
          case rel => exact ⟨k + 1, z, k, by omega, rfl, rfl, by go_num, by omega, by omega, hz3, HB2, HR2⟩
          case measure => simp [intOf]; omega
        · have d1 : decide (i < 0) = false := decide_eq_false hi
          have hc2 : s < z := hc.resolve_left hi
          have d2 : decide (s < z) = true := decide_eq_true hc2
          clear hc hi hc2
          go_wp2_with (go_at_call 26; ((with_reducible refine (rscore_any a t z _ ha hts HZ.out).mono ?_); rintro e w2 ⟨rfl, hb2⟩; have HB2 := Lib.hid (HB.out.trans (hb2.mono HB.out.size)); clear hb2))
          go_roundw
          case rel => exact ⟨k + 1, z, k, by omega, rfl, rfl, by go_num, by omega, by omega, hz3, HB2, HR2⟩
          case measure => simp [intOf]; omega
      · rw [if_neg hc] at hbd
        have HR2 : Hid (R = bst i s (k + 1) (L.drop (k + 1))) := by show _ = _; rw [HR.out, hbd]
        have d1 : decide (i < 0) = false := decide_eq_false (fun h => hc (.inl h))
        have d2 : decide (s < z) = false := decide_eq_false (fun h => hc (.inr h))
        clear hbd HR hc
        go_wp2_with (go_at_call 26; ((with_reducible refine (rscore_any a t z _ ha hts HZ.out).mono ?_); rintro e w2 ⟨rfl, hb2⟩; have HB2 := Lib.hid (HB.out.trans (hb2.mono HB.out.size)); clear hb2))
        go_roundw
        case rel => exact ⟨k + 1, s, i, by omega, rfl, rfl, by go_num, hi1, hi2, hs, HB2, HR2⟩
        case measure => simp [intOf]; omega
    · obtain rfl : k = n := by omega
      have HE : Hid (R = (i, s)) := by
        show _ = _
        rw [HR.out, List.drop_of_length_le (by rw [HLL.out, ← HN.out]; exact Nat.le_refl _)]
        rfl
      clear HR
      go_wp2
      go_ret2
      exact ⟨by rw [HE.out]; rfl, HB.out⟩
end Go.Proofs.Ytddcogcjmmjpkaa
