/-
  The walks of ToLF, ToCRLF, Binary, RoundTrips, and of the reference's.
-/
import Derived.Test.YthfnnbeaggkhkabLnBasic
namespace Go.Proofs.Ythfnnbeaggkhkab
open Go.RowKit

theorem lf_drop (s : ByteArray) (k : Nat) (h : k < s.size) : lf (s.data.toList.drop k) = if crAt s.data.toList k = true then lf (s.data.toList.drop (k + 1)) else s[k] :: lf (s.data.toList.drop (k + 1)) := by
  rw [drop_byte s k h, lf]
  unfold crAt
  rw [getD_at s k h]
  simp
theorem rt_drop (s : ByteArray) (k : Nat) (h : k < s.size) : rt (s.data.toList.drop k) = if crAt s.data.toList k = true then false else rt (s.data.toList.drop (k + 1)) := by
  rw [drop_byte s k h, rt]
  unfold crAt
  rw [getD_at s k h]
  simp
/-- The byte ahead of an offset. -/
def prv (l : List UInt8) (k : Nat) : UInt8 := if k = 0 then 0 else l.getD (k - 1) 0
theorem prv_next (s : ByteArray) (k : Nat) (h : k < s.size) : prv s.data.toList (k + 1) = s[k] := by
  rw [prv, if_neg (by omega), Nat.add_sub_cancel, getD_at s k h]
theorem crlf_drop (s : ByteArray) (k : Nat) (h : k < s.size) : crlf (prv s.data.toList k) (s.data.toList.drop k) = (if s[k] = 10 ∧ prv s.data.toList k ≠ 13 then [13, s[k]] else [s[k]]) ++ crlf (prv s.data.toList (k + 1)) (s.data.toList.drop (k + 1)) := by
  rw [drop_byte s k h, crlf, prv_next s k h]
theorem drop_zero' (l : List UInt8) : l.drop 0 = l := rfl
theorem one_u8 (c : Int) : ∀ u ∈ [Value.int .u8 c], u.oneCell' = true := by intro u hu; simp at hu; subst hu; rfl

set_option maxHeartbeats 2000000 in
set_option maxRecDepth 4000 in
theorem toLF_any (s r : ByteArray) (w : World) (hs : s.size ≤ 1048576) (hr : r.data.toList = lf s.data.toList) :
    Calls Try.prog 18 #[.string s] w fun e w' => e = .returned (.string r) ∧ Below w.heap.size w w' := by
  have HR : Hid (r.data.toList = [] ++ lf (s.data.toList.drop 0)) := hr
  clear hr
  obtain ⟨i0, hi, hz0, hz1, hz2⟩ := info_parts Try.info5
  go_enter Try.func18, Try.ntmps18
  go_wp2_with (at_make; refine wpList_make_own _ rfl _ _ 33 rfl w.heap.size 5 i0 (.int .u8 0) 1 Try.underlying33 hi hz0 hz1 _ _ _ s.size rfl rfl (by omega) (by rw [hz2]; omega) (by unfold maxLen; omega) (Nat.le_refl _) ?_)
  intro w1 hown1 hgrow1
  have hb1 : Below w.heap.size w w1 := (Below.refl _ _).grown hgrow1 (Nat.le_refl _) (by simp)
  have ho1 : Ow w1 w.heap.size (.slice (some ⟨w.heap.size, 0, none⟩) 0 s.size) [] := hown1
  clear hown1 hgrow1
  go_wp2
  go_loopw [3, 10] (fun v i wr => ∃ (k : Nat) (l : List UInt8), k ≤ s.size ∧ i = .int .i64 k ∧ l.length ≤ k ∧ r.data.toList = l ++ lf (s.data.toList.drop k) ∧ Ow wr w.heap.size v l ∧ Below w.heap.size w wr) (fun _ i _ => s.size - (intOf i).toNat)
  case atStart => exact ⟨0, [], by omega, rfl, by simp, HR.out, ho1, hb1⟩
  case round =>
    clear ho1 hb1 HR
    obtain ⟨k, l, hk, rfl, hll, hR, ho, hb⟩ := hrel
    by_cases hlt : k < s.size
    · rw [lf_drop s k hlt] at hR
      have hgk := getD_at s k hlt
      cases hcr : crAt s.data.toList k with
      | true =>
        rw [hcr, if_pos rfl] at hR
        have HR : Hid (r.data.toList = l ++ lf (s.data.toList.drop (k + 1))) := hR
        have hl2 : l.length ≤ k + 1 := by omega
        have HC : Hid (∀ w, Calls Try.prog 33 #[.string s, .int .i64 k] w fun e w' => e = .returned (.bool true) ∧ w = w') := fun w => crlfAt_any s k true w hlt (by omega) hcr
        clear hR hcr hgk
        go_wp2_with (go_at_call 33; ((with_reducible refine (HC.out _).mono ?_); rintro e w1 ⟨rfl, rfl⟩))
        go_roundw
        case rel => exact ⟨k + 1, l, by omega, by go_num, hl2, HR.out, ho, hb⟩
        case measure => simp [intOf]; omega
      | false =>
        rw [hcr, if_neg (by decide)] at hR
        have HR : Hid (r.data.toList = (l ++ [s[k]]) ++ lf (s.data.toList.drop (k + 1))) := by show _ = _; rw [hR]; simp
        have hl2 : (l ++ [s[k]]).length ≤ k + 1 := by simp; omega
        have HC : Hid (∀ w, Calls Try.prog 33 #[.string s, .int .i64 k] w fun e w' => e = .returned (.bool false) ∧ w = w') := fun w => crlfAt_any s k false w hlt (by omega) hcr
        clear hR hcr hgk
        unfold Ow at ho
        go_wp2_with (first | (go_at_call 33; ((with_reducible refine (HC.out _).mono ?_); rintro e w1 ⟨rfl, rfl⟩)) | (at_builtin; refine wpList_append_own _ rfl _ _ 33 rfl w.heap.size 5 i0 (.int .u8 0) 1 1 Try.underlying33 hi hz0 hz1 hz2 rfl (by decide) _ _ _ rfl (ho.alloc _) ⟨wr.heap.size, 0, none⟩ 1 1 [.int .u8 s[k].toNat] rfl rfl (new_cell wr _ _) (one_u8 _) (by unfold maxLen; omega) (by omega) (by have := hb.size; simp; omega) ?_; intro v3 w3 ho3 hg3 _))
        have hb3 := app_step hb ho hg3 (Nat.le_refl _) hb.size
        have ho4 := Ow.one (c := s[k]) ho3
        clear ho hg3 ho3
        go_wp2
        go_roundw
        case rel => exact ⟨k + 1, l ++ [s[k]], by omega, by go_num, hl2, HR.out, ho4, hb3⟩
        case measure => simp [intOf]; omega
    · obtain rfl : k = s.size := by omega
      have HX : Hid (r = str l) := ba_ext (by rw [hR, drop_none s s.size (Nat.le_refl _)]; simp [lf, str])
      have hcv : (convert 33 9 u3).run Try.prog wr = .ok (.string (str l)) wr := conv_owned (P := Try.prog) 33 9 5 Try.underlying33 Try.underlying5 Try.underlying9 ho
      clear hR ho hlt
      go_wp2
      go_ret
      exact ⟨ret_str HX.out.symm, hb⟩

set_option maxHeartbeats 2000000 in
set_option maxRecDepth 4000 in
theorem rLf_any (s r : ByteArray) (w : World) (hs : s.size ≤ 1048576) (hr : r.data.toList = lf s.data.toList) :
    Calls Try.prog 19 #[.string s] w fun e w' => e = .returned (.string r) ∧ Below w.heap.size w w' := by
  have HR : Hid (r.data.toList = [] ++ lf (s.data.toList.drop 0)) := hr
  clear hr
  obtain ⟨i0, hi, hz0, hz1, hz2⟩ := info_parts Try.info5
  go_enter Try.func19, Try.ntmps19
  go_wp2
  have hb1 : Below w.heap.size w w := Below.refl _ _
  have ho1 : Ow w w.heap.size (.slice none 0 0) [] := Ow.nil _ _
  go_loopw [3, 7] (fun v i wr => ∃ (k : Nat) (l : List UInt8), k ≤ s.size ∧ i = .int .i64 k ∧ l.length ≤ k ∧ r.data.toList = l ++ lf (s.data.toList.drop k) ∧ Ow wr w.heap.size v l ∧ Below w.heap.size w wr) (fun _ i _ => s.size - (intOf i).toNat)
  case atStart => exact ⟨0, [], by omega, rfl, by simp, HR.out, ho1, hb1⟩
  case round =>
    clear ho1 hb1 HR
    obtain ⟨k, l, hk, rfl, hll, hR, ho, hb⟩ := hrel
    by_cases hlt : k < s.size
    · rw [lf_drop s k hlt] at hR
      have hgk := getD_at s k hlt
      cases hcr : crAt s.data.toList k with
      | true =>
        rw [hcr, if_pos rfl] at hR
        have HR : Hid (r.data.toList = l ++ lf (s.data.toList.drop (k + 1))) := hR
        have hl2 : l.length ≤ k + 1 := by omega
        unfold crAt at hcr
        rw [decide_eq_true_eq, hgk, head_drop] at hcr
        obtain ⟨h1, h2⟩ := hcr
        by_cases h3 : k + 1 < s.size
        · rw [dif_pos h3] at h2
          obtain ⟨m, hm⟩ : ∃ m, m = k + 1 := ⟨_, rfl⟩
          have hm2 : m < s.size := by omega
          have h4 : s[m] = 10 := by subst hm; simpa using h2
          have i1 : IntKind.i64.wrap ((k : Int) + 1) = (m : Int) := by rw [IntWalk.i64_in _ (by omega)]; omega
          have a1 : ((s[k].toNat : Int) != 13) = false := u8_isn (n := 13) (by decide) h1
          have a2 : ((s[m].toNat : Int) != 10) = false := u8_isn (n := 10) (by decide) h4
          have a3 : ((m : Int) == (s.size : Int)) = false := by simp; omega
          have HM : Hid (m = k + 1) := hm
          clear hR hgk h1 h2 h4 h3 hm
          go_wp2
          go_roundw
          case rel => exact ⟨k + 1, l, by omega, by rw [← HM.out], hl2, HR.out, ho, hb⟩
          case measure => have := HM.out; simp [intOf]; omega
        · rw [dif_neg h3] at h2; cases h2
      | false =>
        rw [hcr, if_neg (by decide)] at hR
        have HR : Hid (r.data.toList = (l ++ [s[k]]) ++ lf (s.data.toList.drop (k + 1))) := by show _ = _; rw [hR]; simp
        have hl2 : (l ++ [s[k]]).length ≤ k + 1 := by simp; omega
        unfold crAt at hcr
        rw [decide_eq_false_iff_not, hgk, head_drop] at hcr
        obtain ⟨m, hm⟩ : ∃ m, m = k + 1 := ⟨_, rfl⟩
        have i1 : IntKind.i64.wrap ((k : Int) + 1) = (m : Int) := by rw [IntWalk.i64_in _ (by omega)]; omega
        have HM : Hid (m = k + 1) := hm
        by_cases h1 : s[k] = 13
        · have a1 : ((s[k].toNat : Int) != 13) = false := u8_isn (n := 13) (by decide) h1
          by_cases h3 : k + 1 < s.size
          · have hm2 : m < s.size := by omega
            have h4 : s[m] ≠ 10 := by
              subst hm
              intro h4
              exact hcr ⟨h1, by rw [dif_pos h3, h4]⟩
            have a2 : ((s[m].toNat : Int) != 10) = true := u8_notn (n := 10) (by decide) h4
            have a3 : ((m : Int) == (s.size : Int)) = false := by simp; omega
            clear hR hcr hgk h1 h4 h3 hm
            unfold Ow at ho
            go_wp2_with (at_builtin; refine wpList_append_own _ rfl _ _ 33 rfl w.heap.size 5 i0 (.int .u8 0) 1 1 Try.underlying33 hi hz0 hz1 hz2 rfl (by decide) _ _ _ rfl (ho.alloc _) ⟨wr.heap.size, 0, none⟩ 1 1 [.int .u8 s[k].toNat] rfl rfl (new_cell wr _ _) (one_u8 _) (by unfold maxLen; omega) (by omega) (by have := hb.size; simp; omega) ?_; intro v3 w3 ho3 hg3 _)
            have hb3 := app_step hb ho hg3 (Nat.le_refl _) hb.size
            have ho4 := Ow.one (c := s[k]) ho3
            clear ho hg3 ho3
            go_wp2
            go_roundw
            case rel => exact ⟨k + 1, l ++ [s[k]], by omega, by rw [← HM.out], hl2, HR.out, ho4, hb3⟩
            case measure => have := HM.out; simp [intOf]; omega
          · have a3 : ((m : Int) == (s.size : Int)) = true := by simp; omega
            clear hR hcr hgk h1 h3 hm
            unfold Ow at ho
            go_wp2_with (at_builtin; refine wpList_append_own _ rfl _ _ 33 rfl w.heap.size 5 i0 (.int .u8 0) 1 1 Try.underlying33 hi hz0 hz1 hz2 rfl (by decide) _ _ _ rfl (ho.alloc _) ⟨wr.heap.size, 0, none⟩ 1 1 [.int .u8 s[k].toNat] rfl rfl (new_cell wr _ _) (one_u8 _) (by unfold maxLen; omega) (by omega) (by have := hb.size; simp; omega) ?_; intro v3 w3 ho3 hg3 _)
            have hb3 := app_step hb ho hg3 (Nat.le_refl _) hb.size
            have ho4 := Ow.one (c := s[k]) ho3
            clear ho hg3 ho3
            go_wp2
            go_roundw
            case rel => exact ⟨k + 1, l ++ [s[k]], by omega, by rw [← HM.out], hl2, HR.out, ho4, hb3⟩
            case measure => have := HM.out; simp [intOf]; omega
        · have a1 : ((s[k].toNat : Int) != 13) = true := u8_notn (n := 13) (by decide) h1
          clear hR hcr hgk h1 hm
          by_cases h3 : m = s.size
          all_goals
            first
              | (have a3 : ((m : Int) == (s.size : Int)) = true := by simp; omega)
              | (have a3 : ((m : Int) == (s.size : Int)) = false := by simp; omega)
            have H3 := Lib.hid h3
            clear h3
            unfold Ow at ho
            go_wp2_with (at_builtin; refine wpList_append_own _ rfl _ _ 33 rfl w.heap.size 5 i0 (.int .u8 0) 1 1 Try.underlying33 hi hz0 hz1 hz2 rfl (by decide) _ _ _ rfl (ho.alloc _) ⟨wr.heap.size, 0, none⟩ 1 1 [.int .u8 s[k].toNat] rfl rfl (new_cell wr _ _) (one_u8 _) (by unfold maxLen; omega) (by omega) (by have := hb.size; simp; omega) ?_; intro v3 w3 ho3 hg3 _)
            have hb3 := app_step hb ho hg3 (Nat.le_refl _) hb.size
            have ho4 := Ow.one (c := s[k]) ho3
            clear ho hg3 ho3
            go_wp2
            go_roundw
            case rel => exact ⟨k + 1, l ++ [s[k]], by omega, by rw [← HM.out], hl2, HR.out, ho4, hb3⟩
            case measure => have := HM.out; simp [intOf]; omega
    · obtain rfl : k = s.size := by omega
      have HX : Hid (r = str l) := ba_ext (by rw [hR, drop_none s s.size (Nat.le_refl _)]; simp [lf, str])
      have hcv : (convert 33 9 u3).run Try.prog wr = .ok (.string (str l)) wr := conv_owned (P := Try.prog) 33 9 5 Try.underlying33 Try.underlying5 Try.underlying9 ho
      clear hR ho hlt
      go_wp2
      go_ret
      exact ⟨ret_str HX.out.symm, hb⟩

set_option maxHeartbeats 2000000 in
set_option maxRecDepth 4000 in
theorem toCRLF_any (s r : ByteArray) (w : World) (hs : s.size ≤ 1048576) (hr : r.data.toList = crlf 0 s.data.toList) :
    Calls Try.prog 20 #[.string s] w fun e w' => e = .returned (.string r) ∧ Below w.heap.size w w' := by
  have HR : Hid (r.data.toList = [] ++ crlf (prv s.data.toList 0) (s.data.toList.drop 0)) := hr
  clear hr
  obtain ⟨i0, hi, hz0, hz1, hz2⟩ := info_parts Try.info5
  go_enter Try.func20, Try.ntmps20
  go_wp2_with (at_make; refine wpList_make_own _ rfl _ _ 33 rfl w.heap.size 5 i0 (.int .u8 0) 1 Try.underlying33 hi hz0 hz1 _ _ _ s.size rfl rfl (by omega) (by rw [hz2]; omega) (by unfold maxLen; omega) (Nat.le_refl _) ?_)
  intro w1 hown1 hgrow1
  have hb1 : Below w.heap.size w w1 := (Below.refl _ _).grown hgrow1 (Nat.le_refl _) (by simp)
  have ho1 : Ow w1 w.heap.size (.slice (some ⟨w.heap.size, 0, none⟩) 0 s.size) [] := hown1
  clear hown1 hgrow1
  go_wp2
  go_loopw [3, 10] (fun v i wr => ∃ (k : Nat) (l : List UInt8), k ≤ s.size ∧ i = .int .i64 k ∧ l.length ≤ 2 * k ∧ r.data.toList = l ++ crlf (prv s.data.toList k) (s.data.toList.drop k) ∧ Ow wr w.heap.size v l ∧ Below w.heap.size w wr) (fun _ i _ => s.size - (intOf i).toNat)
  case atStart => exact ⟨0, [], by omega, rfl, by simp, HR.out, ho1, hb1⟩
  case round =>
    clear ho1 hb1 HR
    obtain ⟨k, l, hk, rfl, hll, hR, ho, hb⟩ := hrel
    by_cases hlt : k < s.size
    · rw [crlf_drop s k hlt] at hR
      by_cases h10 : s[k] = 10
      · have a1 : ((s[k].toNat : Int) == 10) = true := u8_is (n := 10) (by decide) h10
        by_cases h0 : k = 0
        · have hp : prv s.data.toList k ≠ 13 := by rw [prv, if_pos h0]; decide
          have a2 : ((k : Int) == 0) = true := by simp; omega
          rw [if_pos ⟨h10, hp⟩] at hR
          have HR : Hid (r.data.toList = ((l ++ [13]) ++ [s[k]]) ++ crlf (prv s.data.toList (k + 1)) (s.data.toList.drop (k + 1))) := by show _ = _; rw [hR]; simp
          have hl2 : ((l ++ [13]) ++ [s[k]]).length ≤ 2 * (k + 1) := by simp; omega
          clear hR hp h10 h0
          have hl3 : (l ++ [13]).length ≤ 2 * k + 1 := by simp; omega
          unfold Ow at ho
          go_wp2_with (first | (at_builtin; refine wpList_append_own _ rfl _ _ 33 rfl w.heap.size 5 i0 (.int .u8 0) 1 1 Try.underlying33 hi hz0 hz1 hz2 rfl (by decide) _ _ _ rfl (ho.alloc _) ⟨wr.heap.size, 0, none⟩ 1 1 [.int .u8 13] rfl rfl (new_cell wr _ _) (one_u8 _) (by unfold maxLen; omega) (by omega) (by have := hb.size; simp; omega) ?_; intro v2 w2 ho2 hg2 _; have hb2 := app_step hb ho hg2 (Nat.le_refl _) hb.size; have ho2 := Ow.one (c := 13) ho2; unfold Ow at ho2) | (at_builtin; refine wpList_append_own _ rfl _ _ 33 rfl w.heap.size 5 i0 (.int .u8 0) 1 1 Try.underlying33 hi hz0 hz1 hz2 rfl (by decide) _ _ _ rfl (ho2.alloc _) ⟨w2.heap.size, 0, none⟩ 1 1 [.int .u8 s[k].toNat] rfl rfl (new_cell w2 _ _) (one_u8 _) (by unfold maxLen; omega) (by omega) (by have := hb2.size; simp; omega) ?_; intro v3 w3 ho3 hg3 _))
          have hb3 := app_step hb2 ho2 hg3 (Nat.le_refl _) hb2.size
          have ho4 : Ow w3 w.heap.size v3 ((l ++ [13]) ++ [s[k]]) := Ow.one (c := s[k]) ho3
          clear ho hg3 ho3 ho2 hb2
          go_wp2
          go_roundw
          case rel => exact ⟨k + 1, (l ++ [13]) ++ [s[k]], by omega, by go_num, hl2, HR.out, ho4, hb3⟩
          case measure => simp [intOf]; omega
        · obtain ⟨j, hj⟩ : ∃ j, j + 1 = k := ⟨k - 1, by omega⟩
          have hj2 : j < s.size := by omega
          have i1 : IntKind.i64.wrap ((k : Int) - 1) = (j : Int) := by rw [IntWalk.i64_in _ (by omega)]; omega
          have a2 : ((k : Int) == 0) = false := by simp; omega
          have hpv : prv s.data.toList k = s[j] := by rw [prv, if_neg h0, show k - 1 = j by omega, getD_at s j hj2]
          by_cases h13 : s[j] = 13
          · have a3 : ((s[j].toNat : Int) != 13) = false := u8_isn (n := 13) (by decide) h13
            rw [if_neg (by rw [hpv]; simp [h13])] at hR
            have HR : Hid (r.data.toList = (l ++ [s[k]]) ++ crlf (prv s.data.toList (k + 1)) (s.data.toList.drop (k + 1))) := by show _ = _; rw [hR]; simp
            have hl2 : (l ++ [s[k]]).length ≤ 2 * (k + 1) := by simp; omega
            clear hR hpv h10 h13 h0 hj
            unfold Ow at ho
            go_wp2_with (at_builtin; refine wpList_append_own _ rfl _ _ 33 rfl w.heap.size 5 i0 (.int .u8 0) 1 1 Try.underlying33 hi hz0 hz1 hz2 rfl (by decide) _ _ _ rfl (ho.alloc _) ⟨wr.heap.size, 0, none⟩ 1 1 [.int .u8 s[k].toNat] rfl rfl (new_cell wr _ _) (one_u8 _) (by unfold maxLen; omega) (by omega) (by have := hb.size; simp; omega) ?_; intro v3 w3 ho3 hg3 _)
            have hb3 := app_step hb ho hg3 (Nat.le_refl _) hb.size
            have ho4 := Ow.one (c := s[k]) ho3
            clear ho hg3 ho3
            go_wp2
            go_roundw
            case rel => exact ⟨k + 1, l ++ [s[k]], by omega, by go_num, hl2, HR.out, ho4, hb3⟩
            case measure => simp [intOf]; omega
          · have a3 : ((s[j].toNat : Int) != 13) = true := u8_notn (n := 13) (by decide) h13
            rw [if_pos ⟨h10, by rw [hpv]; exact h13⟩] at hR
            have HR : Hid (r.data.toList = ((l ++ [13]) ++ [s[k]]) ++ crlf (prv s.data.toList (k + 1)) (s.data.toList.drop (k + 1))) := by show _ = _; rw [hR]; simp
            have hl2 : ((l ++ [13]) ++ [s[k]]).length ≤ 2 * (k + 1) := by simp; omega
            clear hR hpv h10 h13 h0 hj
            have hl3 : (l ++ [13]).length ≤ 2 * k + 1 := by simp; omega
            unfold Ow at ho
            go_wp2_with (first | (at_builtin; refine wpList_append_own _ rfl _ _ 33 rfl w.heap.size 5 i0 (.int .u8 0) 1 1 Try.underlying33 hi hz0 hz1 hz2 rfl (by decide) _ _ _ rfl (ho.alloc _) ⟨wr.heap.size, 0, none⟩ 1 1 [.int .u8 13] rfl rfl (new_cell wr _ _) (one_u8 _) (by unfold maxLen; omega) (by omega) (by have := hb.size; simp; omega) ?_; intro v2 w2 ho2 hg2 _; have hb2 := app_step hb ho hg2 (Nat.le_refl _) hb.size; have ho2 := Ow.one (c := 13) ho2; unfold Ow at ho2) | (at_builtin; refine wpList_append_own _ rfl _ _ 33 rfl w.heap.size 5 i0 (.int .u8 0) 1 1 Try.underlying33 hi hz0 hz1 hz2 rfl (by decide) _ _ _ rfl (ho2.alloc _) ⟨w2.heap.size, 0, none⟩ 1 1 [.int .u8 s[k].toNat] rfl rfl (new_cell w2 _ _) (one_u8 _) (by unfold maxLen; omega) (by omega) (by have := hb2.size; simp; omega) ?_; intro v3 w3 ho3 hg3 _))
            have hb3 := app_step hb2 ho2 hg3 (Nat.le_refl _) hb2.size
            have ho4 : Ow w3 w.heap.size v3 ((l ++ [13]) ++ [s[k]]) := Ow.one (c := s[k]) ho3
            clear ho hg3 ho3 ho2 hb2
            go_wp2
            go_roundw
            case rel => exact ⟨k + 1, (l ++ [13]) ++ [s[k]], by omega, by go_num, hl2, HR.out, ho4, hb3⟩
            case measure => simp [intOf]; omega
      · have a1 : ((s[k].toNat : Int) == 10) = false := u8_not (n := 10) (by decide) h10
        rw [if_neg (fun x => h10 x.1)] at hR
        have HR : Hid (r.data.toList = (l ++ [s[k]]) ++ crlf (prv s.data.toList (k + 1)) (s.data.toList.drop (k + 1))) := by show _ = _; rw [hR]; simp
        have hl2 : (l ++ [s[k]]).length ≤ 2 * (k + 1) := by simp; omega
        clear hR h10
        unfold Ow at ho
        go_wp2_with (at_builtin; refine wpList_append_own _ rfl _ _ 33 rfl w.heap.size 5 i0 (.int .u8 0) 1 1 Try.underlying33 hi hz0 hz1 hz2 rfl (by decide) _ _ _ rfl (ho.alloc _) ⟨wr.heap.size, 0, none⟩ 1 1 [.int .u8 s[k].toNat] rfl rfl (new_cell wr _ _) (one_u8 _) (by unfold maxLen; omega) (by omega) (by have := hb.size; simp; omega) ?_; intro v3 w3 ho3 hg3 _)
        have hb3 := app_step hb ho hg3 (Nat.le_refl _) hb.size
        have ho4 := Ow.one (c := s[k]) ho3
        clear ho hg3 ho3
        go_wp2
        go_roundw
        case rel => exact ⟨k + 1, l ++ [s[k]], by omega, by go_num, hl2, HR.out, ho4, hb3⟩
        case measure => simp [intOf]; omega
    · obtain rfl : k = s.size := by omega
      have HX : Hid (r = str l) := ba_ext (by rw [hR, drop_none s s.size (Nat.le_refl _)]; simp [crlf, str])
      have hcv : (convert 33 9 u3).run Try.prog wr = .ok (.string (str l)) wr := conv_owned (P := Try.prog) 33 9 5 Try.underlying33 Try.underlying5 Try.underlying9 ho
      clear hR ho hlt
      go_wp2
      go_ret
      exact ⟨ret_str HX.out.symm, hb⟩

set_option maxHeartbeats 2000000 in
set_option maxRecDepth 4000 in
theorem rCrlf_any (s r : ByteArray) (w : World) (hs : s.size ≤ 1048576) (hr : r.data.toList = crlf 0 s.data.toList) :
    Calls Try.prog 21 #[.string s] w fun e w' => e = .returned (.string r) ∧ Below w.heap.size w w' := by
  have HR : Hid (r.data.toList = [] ++ crlf (prv s.data.toList 0) (s.data.toList.drop 0)) := hr
  clear hr
  obtain ⟨i0, hi, hz0, hz1, hz2⟩ := info_parts Try.info5
  go_enter Try.func21, Try.ntmps21
  go_wp2
  have hb1 : Below w.heap.size w w := Below.refl _ _
  have ho1 : Ow w w.heap.size (.slice none 0 0) [] := Ow.nil _ _
  go_loopw [3, 7] (fun v i wr => ∃ (k : Nat) (l : List UInt8), k ≤ s.size ∧ i = .int .i64 k ∧ l.length ≤ 2 * k ∧ r.data.toList = l ++ crlf (prv s.data.toList k) (s.data.toList.drop k) ∧ Ow wr w.heap.size v l ∧ Below w.heap.size w wr) (fun _ i _ => s.size - (intOf i).toNat)
  case atStart => exact ⟨0, [], by omega, rfl, by simp, HR.out, ho1, hb1⟩
  case round =>
    clear ho1 hb1 HR
    obtain ⟨k, l, hk, rfl, hll, hR, ho, hb⟩ := hrel
    by_cases hlt : k < s.size
    · rw [crlf_drop s k hlt] at hR
      by_cases h10 : s[k] = 10
      · have a1 : ((s[k].toNat : Int) == 10) = true := u8_is (n := 10) (by decide) h10
        by_cases h0 : k = 0
        · have hp : prv s.data.toList k ≠ 13 := by rw [prv, if_pos h0]; decide
          have a2 : ((k : Int) == 0) = true := by simp; omega
          rw [if_pos ⟨h10, hp⟩] at hR
          have HR : Hid (r.data.toList = ((l ++ [13]) ++ [s[k]]) ++ crlf (prv s.data.toList (k + 1)) (s.data.toList.drop (k + 1))) := by show _ = _; rw [hR]; simp
          have hl2 : ((l ++ [13]) ++ [s[k]]).length ≤ 2 * (k + 1) := by simp; omega
          clear hR hp h10 h0
          have hl3 : (l ++ [13]).length ≤ 2 * k + 1 := by simp; omega
          unfold Ow at ho
          go_wp2_with (first | (at_builtin; refine wpList_append_own _ rfl _ _ 33 rfl w.heap.size 5 i0 (.int .u8 0) 1 1 Try.underlying33 hi hz0 hz1 hz2 rfl (by decide) _ _ _ rfl (ho.alloc _) ⟨wr.heap.size, 0, none⟩ 1 1 [.int .u8 13] rfl rfl (new_cell wr _ _) (one_u8 _) (by unfold maxLen; omega) (by omega) (by have := hb.size; simp; omega) ?_; intro v2 w2 ho2 hg2 _; have hb2 := app_step hb ho hg2 (Nat.le_refl _) hb.size; have ho2 := Ow.one (c := 13) ho2; unfold Ow at ho2) | (at_builtin; refine wpList_append_own _ rfl _ _ 33 rfl w.heap.size 5 i0 (.int .u8 0) 1 1 Try.underlying33 hi hz0 hz1 hz2 rfl (by decide) _ _ _ rfl (ho2.alloc _) ⟨w2.heap.size, 0, none⟩ 1 1 [.int .u8 s[k].toNat] rfl rfl (new_cell w2 _ _) (one_u8 _) (by unfold maxLen; omega) (by omega) (by have := hb2.size; simp; omega) ?_; intro v3 w3 ho3 hg3 _))
          have hb3 := app_step hb2 ho2 hg3 (Nat.le_refl _) hb2.size
          have ho4 : Ow w3 w.heap.size v3 ((l ++ [13]) ++ [s[k]]) := Ow.one (c := s[k]) ho3
          clear ho hg3 ho3 ho2 hb2
          go_wp2
          go_roundw
          case rel => exact ⟨k + 1, (l ++ [13]) ++ [s[k]], by omega, by go_num, hl2, HR.out, ho4, hb3⟩
          case measure => simp [intOf]; omega
        · obtain ⟨j, hj⟩ : ∃ j, j + 1 = k := ⟨k - 1, by omega⟩
          have hj2 : j < s.size := by omega
          have i1 : IntKind.i64.wrap ((k : Int) - 1) = (j : Int) := by rw [IntWalk.i64_in _ (by omega)]; omega
          have a2 : ((k : Int) == 0) = false := by simp; omega
          have hpv : prv s.data.toList k = s[j] := by rw [prv, if_neg h0, show k - 1 = j by omega, getD_at s j hj2]
          by_cases h13 : s[j] = 13
          · have a3 : ((s[j].toNat : Int) != 13) = false := u8_isn (n := 13) (by decide) h13
            rw [if_neg (by rw [hpv]; simp [h13])] at hR
            have HR : Hid (r.data.toList = (l ++ [s[k]]) ++ crlf (prv s.data.toList (k + 1)) (s.data.toList.drop (k + 1))) := by show _ = _; rw [hR]; simp
            have hl2 : (l ++ [s[k]]).length ≤ 2 * (k + 1) := by simp; omega
            clear hR hpv h10 h13 h0 hj
            unfold Ow at ho
            go_wp2_with (at_builtin; refine wpList_append_own _ rfl _ _ 33 rfl w.heap.size 5 i0 (.int .u8 0) 1 1 Try.underlying33 hi hz0 hz1 hz2 rfl (by decide) _ _ _ rfl (ho.alloc _) ⟨wr.heap.size, 0, none⟩ 1 1 [.int .u8 s[k].toNat] rfl rfl (new_cell wr _ _) (one_u8 _) (by unfold maxLen; omega) (by omega) (by have := hb.size; simp; omega) ?_; intro v3 w3 ho3 hg3 _)
            have hb3 := app_step hb ho hg3 (Nat.le_refl _) hb.size
            have ho4 := Ow.one (c := s[k]) ho3
            clear ho hg3 ho3
            go_wp2
            go_roundw
            case rel => exact ⟨k + 1, l ++ [s[k]], by omega, by go_num, hl2, HR.out, ho4, hb3⟩
            case measure => simp [intOf]; omega
          · have a3 : ((s[j].toNat : Int) != 13) = true := u8_notn (n := 13) (by decide) h13
            rw [if_pos ⟨h10, by rw [hpv]; exact h13⟩] at hR
            have HR : Hid (r.data.toList = ((l ++ [13]) ++ [s[k]]) ++ crlf (prv s.data.toList (k + 1)) (s.data.toList.drop (k + 1))) := by show _ = _; rw [hR]; simp
            have hl2 : ((l ++ [13]) ++ [s[k]]).length ≤ 2 * (k + 1) := by simp; omega
            clear hR hpv h10 h13 h0 hj
            have hl3 : (l ++ [13]).length ≤ 2 * k + 1 := by simp; omega
            unfold Ow at ho
            go_wp2_with (first | (at_builtin; refine wpList_append_own _ rfl _ _ 33 rfl w.heap.size 5 i0 (.int .u8 0) 1 1 Try.underlying33 hi hz0 hz1 hz2 rfl (by decide) _ _ _ rfl (ho.alloc _) ⟨wr.heap.size, 0, none⟩ 1 1 [.int .u8 13] rfl rfl (new_cell wr _ _) (one_u8 _) (by unfold maxLen; omega) (by omega) (by have := hb.size; simp; omega) ?_; intro v2 w2 ho2 hg2 _; have hb2 := app_step hb ho hg2 (Nat.le_refl _) hb.size; have ho2 := Ow.one (c := 13) ho2; unfold Ow at ho2) | (at_builtin; refine wpList_append_own _ rfl _ _ 33 rfl w.heap.size 5 i0 (.int .u8 0) 1 1 Try.underlying33 hi hz0 hz1 hz2 rfl (by decide) _ _ _ rfl (ho2.alloc _) ⟨w2.heap.size, 0, none⟩ 1 1 [.int .u8 s[k].toNat] rfl rfl (new_cell w2 _ _) (one_u8 _) (by unfold maxLen; omega) (by omega) (by have := hb2.size; simp; omega) ?_; intro v3 w3 ho3 hg3 _))
            have hb3 := app_step hb2 ho2 hg3 (Nat.le_refl _) hb2.size
            have ho4 : Ow w3 w.heap.size v3 ((l ++ [13]) ++ [s[k]]) := Ow.one (c := s[k]) ho3
            clear ho hg3 ho3 ho2 hb2
            go_wp2
            go_roundw
            case rel => exact ⟨k + 1, (l ++ [13]) ++ [s[k]], by omega, by go_num, hl2, HR.out, ho4, hb3⟩
            case measure => simp [intOf]; omega
      · have a1 : ((s[k].toNat : Int) == 10) = false := u8_not (n := 10) (by decide) h10
        rw [if_neg (fun x => h10 x.1)] at hR
        have HR : Hid (r.data.toList = (l ++ [s[k]]) ++ crlf (prv s.data.toList (k + 1)) (s.data.toList.drop (k + 1))) := by show _ = _; rw [hR]; simp
        have hl2 : (l ++ [s[k]]).length ≤ 2 * (k + 1) := by simp; omega
        clear hR h10
        unfold Ow at ho
        go_wp2_with (at_builtin; refine wpList_append_own _ rfl _ _ 33 rfl w.heap.size 5 i0 (.int .u8 0) 1 1 Try.underlying33 hi hz0 hz1 hz2 rfl (by decide) _ _ _ rfl (ho.alloc _) ⟨wr.heap.size, 0, none⟩ 1 1 [.int .u8 s[k].toNat] rfl rfl (new_cell wr _ _) (one_u8 _) (by unfold maxLen; omega) (by omega) (by have := hb.size; simp; omega) ?_; intro v3 w3 ho3 hg3 _)
        have hb3 := app_step hb ho hg3 (Nat.le_refl _) hb.size
        have ho4 := Ow.one (c := s[k]) ho3
        clear ho hg3 ho3
        go_wp2
        go_roundw
        case rel => exact ⟨k + 1, l ++ [s[k]], by omega, by go_num, hl2, HR.out, ho4, hb3⟩
        case measure => simp [intOf]; omega
    · obtain rfl : k = s.size := by omega
      have HX : Hid (r = str l) := ba_ext (by rw [hR, drop_none s s.size (Nat.le_refl _)]; simp [crlf, str])
      have hcv : (convert 33 9 u3).run Try.prog wr = .ok (.string (str l)) wr := conv_owned (P := Try.prog) 33 9 5 Try.underlying33 Try.underlying5 Try.underlying9 ho
      clear hR ho hlt
      go_wp2
      go_ret
      exact ⟨ret_str HX.out.symm, hb⟩

/-- What is left to look at of the first n bytes. -/
theorem bin_drop (s : ByteArray) (n k : Nat) (h : k < s.size) : bin (n + 1) (s.data.toList.drop k) = if s[k] = 0 then true else bin n (s.data.toList.drop (k + 1)) := by
  rw [drop_byte s k h, bin]
theorem bin_none (s : ByteArray) (n k : Nat) (h : s.size ≤ k) : bin n (s.data.toList.drop k) = false := by
  rw [drop_none s k h]
  cases n <;> rfl
set_option maxHeartbeats 2000000 in
set_option maxRecDepth 4000 in
theorem binary_any (s : ByteArray) (b : Bool) (w : World) (hs : s.size ≤ 1048576) (hb : bin 8000 s.data.toList = b) :
    Calls Try.prog 22 #[.string s] w fun e w' => e = .returned (.bool b) ∧ w = w' := by
  obtain ⟨M, hM⟩ : ∃ M, M = min 8000 s.size := ⟨_, rfl⟩
  have HR : Hid (b = bin (8000 - 0) (s.data.toList.drop 0)) := hb.symm
  have hM1 : M ≤ 8000 := by omega
  have hM2 : M ≤ s.size := by omega
  have HM : Hid (M = 8000 ∨ M = s.size) := by show _ ∨ _; omega
  have hmin : (if (s.size : Int) < 8000 then (s.size : Int) else 8000) = (M : Int) := by split <;> omega
  have hmin2 : (if (8000 : Int) < (s.size : Int) then (8000 : Int) else (s.size : Int)) = (M : Int) := by split <;> omega
  have hmin3 : min (8000 : Int) (s.size : Int) = (M : Int) := by omega
  clear hb hM
  go_enter Try.func22, Try.ntmps22
  go_wp2
  clear hmin hmin2 hmin3
  go_loop [7] (fun i => ∃ (k : Nat), k ≤ M ∧ i = .int .i64 k ∧ b = bin (8000 - k) (s.data.toList.drop k)) (fun i => M - (intOf i).toNat)
  case atStart => exact ⟨0, by omega, rfl, HR.out⟩
  case round =>
    clear HR
    obtain ⟨k, hk, rfl, hR⟩ := hrel
    by_cases hlt : k < M
    · have hks : k < s.size := by omega
      rw [show 8000 - k = (8000 - (k + 1)) + 1 by omega, bin_drop s _ k hks] at hR
      by_cases h0 : s[k] = 0
      · have a1 : ((s[k].toNat : Int) == 0) = true := u8_is (n := 0) (by decide) h0
        rw [if_pos h0] at hR
        have HR : Hid (b = true) := hR
        clear hR h0
        go_wp2
        go_ret
        exact ⟨ret_bool HR.out.symm, rfl⟩
      · have a1 : ((s[k].toNat : Int) == 0) = false := u8_not (n := 0) (by decide) h0
        rw [if_neg h0] at hR
        have HR : Hid (b = bin (8000 - (k + 1)) (s.data.toList.drop (k + 1))) := hR
        clear hR h0
        go_wp2
        go_round
        case rel => exact ⟨k + 1, by omega, by go_num, HR.out⟩
        case measure => simp [intOf]; omega
    · have HX : Hid (b = false) := by
        show _ = _
        rw [hR]
        rcases HM.out with h | h
        · rw [show 8000 - k = 0 by omega]; rfl
        · exact bin_none s _ k (by omega)
      clear hR
      go_wp2
      go_ret
      exact ⟨ret_bool HX.out.symm, rfl⟩
set_option maxHeartbeats 2000000 in
set_option maxRecDepth 4000 in
theorem rBinary_any (s : ByteArray) (b : Bool) (w : World) (hs : s.size ≤ 1048576) (hb : bin 8000 s.data.toList = b) :
    Calls Try.prog 23 #[.string s] w fun e w' => e = .returned (.bool b) ∧ w = w' := by
  have HR : Hid (b = bin (8000 - 0) (s.data.toList.drop 0)) := hb.symm
  clear hb
  go_enter Try.func23, Try.ntmps23
  go_wp2
  go_loop [3] (fun i => ∃ (k : Nat), k ≤ s.size ∧ k ≤ 8000 ∧ i = .int .i64 k ∧ b = bin (8000 - k) (s.data.toList.drop k)) (fun i => s.size - (intOf i).toNat)
  case atStart => exact ⟨0, by omega, by omega, rfl, HR.out⟩
  case round =>
    clear HR
    obtain ⟨k, hk, hk8, rfl, hR⟩ := hrel
    by_cases hlt : k < s.size
    · by_cases h8 : k < 8000
      · have d8 : decide ((k : Int) < 8000) = true := by simp; omega
        rw [show 8000 - k = (8000 - (k + 1)) + 1 by omega, bin_drop s _ k hlt] at hR
        by_cases h0 : s[k] = 0
        · have a1 : ((s[k].toNat : Int) == 0) = true := u8_is (n := 0) (by decide) h0
          rw [if_pos h0] at hR
          have HR : Hid (b = true) := hR
          clear hR h0
          go_wp2
          go_ret
          exact ⟨ret_bool HR.out.symm, rfl⟩
        · have a1 : ((s[k].toNat : Int) == 0) = false := u8_not (n := 0) (by decide) h0
          rw [if_neg h0] at hR
          have HR : Hid (b = bin (8000 - (k + 1)) (s.data.toList.drop (k + 1))) := hR
          clear hR h0
          go_wp2
          go_round
          case rel => exact ⟨k + 1, by omega, by omega, by go_num, HR.out⟩
          case measure => simp [intOf]; omega
      · have HX : Hid (b = false) := by show _ = _; rw [hR, show 8000 - k = 0 by omega]; rfl
        have d8 : decide ((k : Int) < 8000) = false := by simp; omega
        clear hR
        go_wp2
        go_ret
        exact ⟨ret_bool HX.out.symm, rfl⟩
    · have HX : Hid (b = false) := by show _ = _; rw [hR]; exact bin_none s _ k (by omega)
      clear hR
      go_wp2
      go_ret
      exact ⟨ret_bool HX.out.symm, rfl⟩
set_option maxHeartbeats 2000000 in
set_option maxRecDepth 4000 in
theorem roundTrips_any (s : ByteArray) (b : Bool) (w : World) (hs : s.size ≤ 1048576) (hb : rt s.data.toList = b) :
    Calls Try.prog 24 #[.string s] w fun e w' => e = .returned (.bool b) ∧ w = w' := by
  have HR : Hid (b = rt (s.data.toList.drop 0)) := hb.symm
  clear hb
  go_enter Try.func24, Try.ntmps24
  go_wp2
  go_loop [6] (fun i => ∃ (k : Nat), k ≤ s.size ∧ i = .int .i64 k ∧ b = rt (s.data.toList.drop k)) (fun i => s.size - (intOf i).toNat)
  case atStart => exact ⟨0, by omega, rfl, HR.out⟩
  case round =>
    clear HR
    obtain ⟨k, hk, rfl, hR⟩ := hrel
    by_cases hlt : k < s.size
    · rw [rt_drop s k hlt] at hR
      cases hcr : crAt s.data.toList k with
      | true =>
        rw [hcr, if_pos rfl] at hR
        have HR : Hid (b = false) := hR
        have HC : Hid (∀ w, Calls Try.prog 33 #[.string s, .int .i64 k] w fun e w' => e = .returned (.bool true) ∧ w = w') := fun w => crlfAt_any s k true w hlt (by omega) hcr
        clear hR hcr
        go_wp2_with (go_at_call 33; ((with_reducible refine (HC.out _).mono ?_); rintro e w1 ⟨rfl, rfl⟩))
        go_ret
        exact ⟨ret_bool HR.out.symm, rfl⟩
      | false =>
        rw [hcr, if_neg (by decide)] at hR
        have HR : Hid (b = rt (s.data.toList.drop (k + 1))) := hR
        have HC : Hid (∀ w, Calls Try.prog 33 #[.string s, .int .i64 k] w fun e w' => e = .returned (.bool false) ∧ w = w') := fun w => crlfAt_any s k false w hlt (by omega) hcr
        clear hR hcr
        go_wp2_with (go_at_call 33; ((with_reducible refine (HC.out _).mono ?_); rintro e w1 ⟨rfl, rfl⟩))
        go_round
        case rel => exact ⟨k + 1, by omega, by go_num, HR.out⟩
        case measure => simp [intOf]; omega
    · have HX : Hid (b = true) := by show _ = _; rw [hR, drop_none s k (by omega)]; rfl
      clear hR
      go_wp2
      go_ret
      exact ⟨ret_bool HX.out.symm, rfl⟩
set_option maxHeartbeats 2000000 in
set_option maxRecDepth 4000 in
theorem rBack_any (s : ByteArray) (b : Bool) (w : World) (hs : s.size ≤ 500000) (hb : rt s.data.toList = b) :
    Calls Try.prog 25 #[.string s] w fun e w' => e = .returned (.bool b) ∧ Below w.heap.size w w' := by
  obtain ⟨c, hc⟩ : ∃ c, c = str (crlf 0 s.data.toList) := ⟨_, rfl⟩
  obtain ⟨r, hr⟩ : ∃ r, r = str (lf c.data.toList) := ⟨_, rfl⟩
  have hcs : c.size ≤ 1000000 := by rw [hc, str_size]; have := crlf_len s.data.toList 0; rw [list_len] at this; omega
  have HC : Hid (∀ w, Calls Try.prog 21 #[.string s] w fun e w' => e = .returned (.string c) ∧ Below w.heap.size w w') := fun w => rCrlf_any s c w (by omega) (by rw [hc, str_list])
  have HL : Hid (∀ w, Calls Try.prog 19 #[.string c] w fun e w' => e = .returned (.string r) ∧ Below w.heap.size w w') := fun w => rLf_any c r w (by omega) (by rw [hr, str_list])
  have hrl : r.data.toList = lf (crlf 0 s.data.toList) := by rw [hr, str_list, hc, str_list]
  cases b with
  | true =>
    obtain rfl : r = s := ba_ext (by rw [hrl]; exact (back_iff _).2 hb)
    clear hc hr hrl hb
    go_enter Try.func25, Try.ntmps25
    go_wp2_with (first
      | (go_at_call 21; ((with_reducible refine (HC.out _).mono ?_); rintro e w1 ⟨rfl, hb1⟩))
      | (go_at_call 19; ((with_reducible refine (HL.out _).mono ?_); rintro e w2 ⟨rfl, hb2⟩)))
    go_ret
    exact ⟨rfl, hb1.trans (hb2.mono hb1.size)⟩
  | false =>
    have hne : r ≠ s := fun e => by
      have : rt s.data.toList = true := (back_iff _).1 (by rw [← hrl, e])
      rw [this] at hb; cases hb
    have he := ba_ne hne
    clear hc hr hrl hb hne
    go_enter Try.func25, Try.ntmps25
    go_wp2_with (first
      | (go_at_call 21; ((with_reducible refine (HC.out _).mono ?_); rintro e w1 ⟨rfl, hb1⟩))
      | (go_at_call 19; ((with_reducible refine (HL.out _).mono ?_); rintro e w2 ⟨rfl, hb2⟩)))
    go_ret
    exact ⟨rfl, hb1.trans (hb2.mono hb1.size)⟩
end Go.Proofs.Ythfnnbeaggkhkab
