/-
  The walk of the law package's own check of fixed inputs.
-/
import Derived.Test.YtgnljpcnkmogfaaDoorOctInv
namespace Go.Proofs.YtgnljpcnkmogfaaDoor
open Go.RowKit

theorem digs300 : digs 300 = [172, 2] := by rw [digs_big (by decide), digs_small (by decide)]; decide
theorem digs1 : digs 1 = [1] := by rw [digs_small (by decide)]; decide
theorem str_eq (l : List UInt8) : str l = ⟨l.toArray⟩ := rfl

theorem lv_put : (⟨#[112]⟩ : ByteArray) ++ str (digs 300) = ⟨#[112, 172, 2]⟩ := by rw [digs300]; rfl
theorem lv_take1 : takeAt (⟨#[120, 172, 2]⟩ : ByteArray).data.toList 1 = (300, 3, 0) := by decide +kernel
theorem lv_take2 : takeAt (⟨#[128, 0]⟩ : ByteArray).data.toList 0 = (0, 0, 2) := by decide +kernel
theorem lv_text : takeText (⟨#[2, 97, 98, 99]⟩ : ByteArray) 0 = (⟨#[97, 98]⟩, 3, 0) := by
  have h : takeAt (⟨#[2, 97, 98, 99]⟩ : ByteArray).data.toList 0 = (2, ((1 : Nat) : Int), 0) := by decide +kernel
  rw [takeText_ok h (by decide) (by decide)]
  rfl
theorem lv_word : takeWord (⟨#[0, 0, 1, 2]⟩ : ByteArray) 0 = (258, 4, 0) := by decide +kernel
theorem lv_sum : crc (⟨#[49, 50, 51, 52, 53, 54, 55, 56, 57]⟩ : ByteArray).data.toList = 3421780262 := by decide +kernel
theorem lv_seal : ∃ b, sealOf (⟨#[97, 98]⟩ : ByteArray) = b ∧ b.size ≤ 100 ∧ openOf b = (⟨#[97, 98]⟩, true) := by
  refine ⟨_, rfl, by decide +kernel, ?_⟩
  have h : (sealOf ⟨#[97, 98]⟩).size = 6 := by decide +kernel
  have h2 : be (((sealOf ⟨#[97, 98]⟩).data.toList.drop 2).take 4) = crc ((sealOf ⟨#[97, 98]⟩).extract 0 2).data.toList := by decide +kernel
  have h3 : (sealOf ⟨#[97, 98]⟩).extract 0 2 = ⟨#[97, 98]⟩ := by decide +kernel
  unfold openOf
  rw [h, if_neg (by decide), if_pos h2, h3]
theorem lv_ptext : (⟨#[]⟩ : ByteArray) ++ lp ⟨#[97]⟩ = ⟨#[1, 97]⟩ := by
  rw [lp, show (⟨#[97]⟩ : ByteArray).size = 1 from rfl, digs1]; rfl
theorem lv_pword : (⟨#[]⟩ : ByteArray) ++ str (wbytes 258) = ⟨#[0, 0, 1, 2]⟩ := by decide +kernel

section
variable {w0 w : World} (h : Inv w0 w)
include h
theorem lc_take1 : Calls Tryd.prog 11 #[.string { data := #[120, 172, 2] }, .int .i64 1] w fun e w' => e = .returned (.tuple #[.int .u64 300, .int .i64 3, .int .i64 0]) ∧ Inv w0 w' := take_inv h _ _ (by decide) _ _ _ lv_take1
theorem lc_take2 : Calls Tryd.prog 11 #[.string { data := #[128, 0] }, .int .i64 0] w fun e w' => e = .returned (.tuple #[.int .u64 0, .int .i64 0, .int .i64 2]) ∧ Inv w0 w' := take_inv h _ _ (by decide) _ _ _ lv_take2
theorem lc_text : Calls Tryd.prog 13 #[.string { data := #[2, 97, 98, 99] }, .int .i64 0] w fun e w' => e = .returned (.tuple #[.string { data := #[97, 98] }, .int .i64 3, .int .i64 0]) ∧ Inv w0 w' := takeText_inv h _ _ (by decide) _ _ _ lv_text
theorem lc_word : Calls Tryd.prog 15 #[.string { data := #[0, 0, 1, 2] }, .int .i64 0] w fun e w' => e = .returned (.tuple #[.int .u32 258, .int .i64 4, .int .i64 0]) ∧ Inv w0 w' := takeWord_inv h _ _ (by decide) _ _ _ lv_word
theorem lc_sum : Calls Tryd.prog 27 #[.string { data := #[49, 50, 51, 52, 53, 54, 55, 56, 57] }] w fun e w' => e = .returned (.int .u32 3421780262) ∧ Inv w0 w' := sum_inv h _ (by decide) _ lv_sum
theorem lc_put : Calls Tryd.prog 18 #[.string { data := #[112] }, .int .u64 300] w fun e w' => e = .returned (.string { data := #[112, 172, 2] }) ∧ Inv w0 w' := by
  have := put_inv h ⟨#[112]⟩ 300 (by decide) (by decide)
  rw [lv_put] at this
  exact this
theorem lc_ptext : Calls Tryd.prog 19 #[.string { data := #[] }, .string { data := #[97] }] w fun e w' => e = .returned (.string { data := #[1, 97] }) ∧ Inv w0 w' := by
  have := text_inv h ⟨#[]⟩ ⟨#[97]⟩ (by decide) (by decide)
  rw [lv_ptext] at this
  exact this
theorem lc_pword : Calls Tryd.prog 20 #[.string { data := #[] }, .int .u32 258] w fun e w' => e = .returned (.string { data := #[0, 0, 1, 2] }) ∧ Inv w0 w' := by
  have := word_inv h ⟨#[]⟩ 258 (by decide) (by decide)
  rw [lv_pword] at this
  exact this
end

set_option maxHeartbeats 1000000 in
set_option maxRecDepth 10000 in
theorem lives_inv {w0 w : World} (h : Inv w0 w) : Calls Tryd.prog 17 #[] w fun e w' => e = .returned (.bool true) ∧ Inv w0 w' := by
  obtain ⟨sb, hsb, hsz, hob⟩ := lv_seal
  have HS : Hid (sealOf (⟨#[97, 98]⟩ : ByteArray) = sb) := hsb
  have HO : Hid (openOf sb = (⟨#[97, 98]⟩, true)) := hob
  clear hsb hob
  go_enter Tryd.func17, Tryd.ntmps17
  go_wp2_with (first
    | (go_at_call 11; first | ((with_reducible refine (lc_take1 (by assumption)).mono ?_); rintro e w' ⟨rfl, hi⟩) | ((with_reducible refine (lc_take2 (by assumption)).mono ?_); rintro e w' ⟨rfl, hi⟩))
    | (go_at_call 13; ((with_reducible refine (lc_text (by assumption)).mono ?_); rintro e w' ⟨rfl, hi⟩))
    | (go_at_call 15; ((with_reducible refine (lc_word (by assumption)).mono ?_); rintro e w' ⟨rfl, hi⟩))
    | (go_at_call 26; ((with_reducible refine (seal_inv (by assumption) _ (by decide) _ HS.out).mono ?_); rintro e w' ⟨rfl, hi⟩))
    | (go_at_call 24; ((with_reducible refine (open_inv (by assumption) _ (by omega) _ _ HO.out).mono ?_); rintro e w' ⟨rfl, hi⟩))
    | (go_at_call 27; ((with_reducible refine (lc_sum (by assumption)).mono ?_); rintro e w' ⟨rfl, hi⟩))
    | (go_at_call 18; ((with_reducible refine (lc_put (by assumption)).mono ?_); rintro e w' ⟨rfl, hi⟩))
    | (go_at_call 19; ((with_reducible refine (lc_ptext (by assumption)).mono ?_); rintro e w' ⟨rfl, hi⟩))
    | (go_at_call 20; ((with_reducible refine (lc_pword (by assumption)).mono ?_); rintro e w' ⟨rfl, hi⟩)))
  go_ret
  exact ⟨rfl, ‹_›⟩
end Go.Proofs.YtgnljpcnkmogfaaDoor
