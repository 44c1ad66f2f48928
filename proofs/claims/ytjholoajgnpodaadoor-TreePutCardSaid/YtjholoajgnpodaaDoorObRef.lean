/-
  The walks of the reference's Word, Kind, Find, Number and Digits.
-/
import Derived.Test.YtjholoajgnpodaaDoorObPlain
import Derived.Test.YtjholoajgnpodaaDoorAid
import Derived.Test.YtjholoajgnpodaaDoorIdHex
namespace Go.Proofs.YtjholoajgnpodaaDoor
open Go.RowKit

/-- The kind of a word, the kinds from k on. -/
def kindF (l : List UInt8) (k : Nat) : Nat := if kindL l = 0 ∨ k ≤ kindL l then kindL l else 0
theorem str_ne {s : ByteArray} {l : List UInt8} (h : s.data.toList ≠ l) : ((str l).toList == s.toList) = false := ba_ne fun e => h (by rw [← e]; rfl)

/-- An index, told from further on. -/
def shI (k : Nat) (x : Int) : Int := if x = -1 then -1 else k + x
theorem shI_hit (l : List UInt8) (c : UInt8) (k : Nat) : shI k (Lib.indexByte (c :: l) c) = k := by
  unfold shI
  rw [Lib.indexByte]
  simp
theorem shI_miss (l : List UInt8) (b c : UInt8) (k : Nat) (h : b ≠ c) : shI k (Lib.indexByte (b :: l) c) = shI (k + 1) (Lib.indexByte l c) := by
  unfold shI
  have hbc : (b == c) = false := beq_eq_false_iff_ne.mpr h
  rw [Lib.indexByte, hbc, if_neg Bool.false_ne_true]
  by_cases hx : Lib.indexByte l c = -1
  · rw [hx]
    rfl
  · have := Lib.indexByte_ge l c
    have hb : (Lib.indexByte l c == -1) = false := by simpa using hx
    rw [hb, if_neg Bool.false_ne_true, if_neg (by omega), if_neg hx]
    omega

set_option maxHeartbeats 1000000 in
theorem rfindF_any (s : ByteArray) (c : UInt8) (z : Int) (f : Nat) (w : World) (hf : f ≤ s.size) (hz : z = (c.toNat : Int)) (hs : s.size ≤ 140737488355328) :
    Calls Tryd.prog 44 #[.string s, .int .u8 z, .int .i64 (f : Int)] w fun e w' => e = .returned (.int .i64 (shI f (Lib.indexByte (s.data.toList.drop f) c))) ∧ w' = w := by
  obtain ⟨R, hR⟩ : ∃ R, R = shI f (Lib.indexByte (s.data.toList.drop f) c) := ⟨_, rfl⟩
  rw [← hR]
  have HR := Lib.hid hR
  clear hR
  have HZ := Lib.hid hz
  clear hz
  go_enter Tryd.func44, Tryd.ntmps44
  go_wp2
  go_loop [7] (fun iv => ∃ k : Nat, k ≤ s.size ∧ iv = .int .i64 (k : Int) ∧ Hid (R = shI k (Lib.indexByte (s.data.toList.drop k) c))) (fun iv => s.size - (intOf iv).toNat)
  case atStart => exact ⟨f, by omega, rfl, HR.out⟩
  case round =>
    clear HR
    obtain ⟨k, hk, rfl, HR⟩ := hrel
    by_cases hlt : k < s.size
    · have hx := HR.out
      rw [drop_byte s k hlt] at hx
      by_cases hc : s[k] = c
      · have e1 : ((s[k].toNat : Int) == z) = true := by rw [HZ.out, hc]; simp
        rw [hc, shI_hit] at hx
        have HX := Lib.hid hx
        clear hx HR hc
        go_wp2
        go_ret
        exact ⟨by rw [HX.out]; rfl, rfl⟩
      · have e1 : ((s[k].toNat : Int) == z) = false := by
          rw [HZ.out, beq_eq_false_iff_ne]
          intro e
          exact hc (UInt8.toNat_inj.mp (by omega))
        rw [shI_miss _ _ _ _ hc] at hx
        have HX := Lib.hid hx
        clear hx HR hc
        go_wp2
        go_round
        case rel => exact ⟨k + 1, by omega, by go_num, HX.out⟩
        case measure => simp [intOf]; omega
    · obtain rfl : k = s.size := by omega
      have HX : Hid (R = -1) := by
        show _ = _
        rw [HR.out, drop_none s _ (Nat.le_refl _)]
        rfl
      clear HR
      go_wp2
      go_ret
      exact ⟨by rw [HX.out]; rfl, rfl⟩
theorem rfindB_any (s : ByteArray) (c : UInt8) (z : Int) (w : World) (hz : z = (c.toNat : Int)) (hs : s.size ≤ 140737488355328) :
    Calls Tryd.prog 44 #[.string s, .int .u8 z, .int .i64 0] w fun e w' => e = .returned (.int .i64 (Lib.indexByte s.data.toList c)) ∧ w' = w :=
  (rfindF_any s c z 0 w (Nat.zero_le _) hz hs).mono fun e w' ⟨he, hw⟩ => ⟨by rw [he, List.drop_zero, shI]; split <;> (refine ret_int ?_; omega), hw⟩
end Go.Proofs.YtjholoajgnpodaaDoor
