/-
  The walks of the reference's Word, Kind, Find, Number and Digits.
-/
import Derived.Test.YtalbphlmebhjoaaDoorObPlain
import Derived.Test.YtalbphlmebhjoaaDoorAid
import Derived.Test.YtalbphlmebhjoaaDoorIdHex
namespace Go.Proofs.YtalbphlmebhjoaaDoor
open Go.RowKit

set_option maxHeartbeats 1000000 in
theorem rword_any (k : Int) (w : World) :
    Calls Tryd.prog 15 #[.int .i64 k] w fun e w' => e = .returned (.string (str (wordL k))) ∧ w' = w := by
  by_cases h1 : k = 1
  · subst h1
    go_enter Tryd.func15, Tryd.ntmps15
    go_wp2
    go_ret
    exact ⟨rfl, rfl⟩
  by_cases h2 : k = 2
  · subst h2
    go_enter Tryd.func15, Tryd.ntmps15
    go_wp2
    go_ret
    exact ⟨rfl, rfl⟩
  by_cases h3 : k = 3
  · subst h3
    go_enter Tryd.func15, Tryd.ntmps15
    go_wp2
    go_ret
    exact ⟨rfl, rfl⟩
  by_cases h4 : k = 4
  · subst h4
    go_enter Tryd.func15, Tryd.ntmps15
    go_wp2
    go_ret
    exact ⟨rfl, rfl⟩
  · have e1 : (k == 1) = false := by simpa using h1
    have e2 : (k == 2) = false := by simpa using h2
    have e3 : (k == 3) = false := by simpa using h3
    have e4 : (k == 4) = false := by simpa using h4
    have HR : Hid (str (wordL k) = ⟨#[]⟩) := by show _ = _; rw [wordL, if_neg h1, if_neg h2, if_neg h3, if_neg h4]; rfl
    clear h1 h2 h3 h4
    go_enter Tryd.func15, Tryd.ntmps15
    go_wp2
    go_ret
    exact ⟨by rw [HR.out]; rfl, rfl⟩

/-- The kind of a word, the kinds from k on. -/
def kindF (l : List UInt8) (k : Nat) : Nat := if kindL l = 0 ∨ k ≤ kindL l then kindL l else 0
theorem str_ne {s : ByteArray} {l : List UInt8} (h : s.data.toList ≠ l) : ((str l).toList == s.toList) = false := ba_ne fun e => h (by rw [← e]; rfl)

set_option maxHeartbeats 2000000 in
theorem rkind_any (s : ByteArray) (w : World) :
    Calls Tryd.prog 17 #[.string s] w fun e w' => e = .returned (.int .i64 (kindL s.data.toList : Int)) ∧ w' = w := by
  have HW : Hid (∀ k : Int, ∀ w, Calls Tryd.prog 15 #[.int .i64 k] w fun e w' => e = .returned (.string (str (wordL k))) ∧ w' = w) := rword_any
  go_enter Tryd.func17, Tryd.ntmps17
  go_wp2
  go_loop [3] (fun iv => ∃ k : Nat, 1 ≤ k ∧ k ≤ 5 ∧ iv = .int .i64 (k : Int) ∧ Hid (∀ j : Nat, 1 ≤ j → j < k → s.data.toList ≠ wordL (j : Int))) (fun iv => 5 - (intOf iv).toNat)
  case atStart => exact ⟨1, by omega, by omega, rfl, fun j h1 h2 => by omega⟩
  case round =>
    obtain ⟨k, h1, h5, rfl, HN⟩ := hrel
    by_cases hlt : k ≤ 4
    · obtain ⟨t, ht⟩ : ∃ t, t = str (wordL (k : Int)) := ⟨_, rfl⟩
      have HC : Hid (∀ w, Calls Tryd.prog 15 #[.int .i64 (k : Int)] w fun e w' => e = .returned (.string t) ∧ w' = w) := fun w => by
        have h := HW.out (k : Int) w
        rw [← ht] at h
        exact h
      by_cases hs : s = t
      · subst hs
        have HK : Hid ((kindL s.data.toList : Int) = (k : Int)) := by show _ = _; rw [ht]; exact kind_word (by omega)
        clear ht
        go_wp2_with (go_at_call 15; ((with_reducible refine (HC.out _).mono ?_); rintro e w1 ⟨rfl, rfl⟩))
        go_ret
        exact ⟨by rw [HK.out]; rfl, rfl⟩
      · have hne : (t.toList == s.toList) = false := ba_ne fun e => hs e.symm
        have HN2 : Hid (∀ j : Nat, 1 ≤ j → j < k + 1 → s.data.toList ≠ wordL (j : Int)) := fun j h1 h2 => by
          rcases Nat.lt_or_ge j k with h | h
          · exact HN.out j h1 h
          · obtain rfl : j = k := by omega
            intro e
            exact hs (ba_ext (by rw [ht, e]; rfl))
        clear ht hs HN
        go_wp2_with (go_at_call 15; ((with_reducible refine (HC.out _).mono ?_); rintro e w1 ⟨rfl, rfl⟩))
        go_round
        case rel => exact ⟨k + 1, by omega, by omega, by go_num, HN2.out⟩
        case measure => simp [intOf]; omega
    · obtain rfl : k = 5 := by omega
      have HK : Hid (kindL s.data.toList = 0) := by
        show _ = _
        rcases Nat.eq_zero_or_pos (kindL s.data.toList) with h | h
        · exact h
        · exact absurd (word_kind (by omega)).symm (HN.out _ h (by have := kindL_le s.data.toList; omega))
      clear HN
      go_wp2
      go_ret
      exact ⟨by rw [HK.out]; rfl, rfl⟩

/-- An index, told from further on. -/
def shI (k : Nat) (x : Int) : Int := if x = -1 then -1 else k + x
theorem shI_hit (l : List UInt8) (c : UInt8) (k : Nat) : shI k (Lib.indexByte (c :: l) c) = k := by
  unfold shI
  rw [Lib.indexByte]
  simp
theorem shI_miss (l : List UInt8) (b c : UInt8) (k : Nat) (h : b ≠ c) : shI k (Lib.indexByte (b :: l) c) = shI (k + 1) (Lib.indexByte l c) := by
  unfold shI
  have hbc : (b == c) = false := beq_eq_false_iff_ne.mpr h
  rw [Lib.indexByte, hbc, if_neg Bool.false_ne_true]
  by_cases hx : Lib.indexByte l c = -1
  · rw [hx]
    rfl
  · have := Lib.indexByte_ge l c
    have hb : (Lib.indexByte l c == -1) = false := by simpa using hx
    rw [hb, if_neg Bool.false_ne_true, if_neg (by omega), if_neg hx]
    omega

set_option maxHeartbeats 1000000 in
theorem rfindB_any (s : ByteArray) (c : UInt8) (z : Int) (w : World) (hz : z = (c.toNat : Int)) (hs : s.size ≤ 140737488355328) :
    Calls Tryd.prog 25 #[.string s, .int .u8 z, .int .i64 0] w fun e w' => e = .returned (.int .i64 (Lib.indexByte s.data.toList c)) ∧ w' = w := by
  obtain ⟨R, hR⟩ : ∃ R, R = Lib.indexByte s.data.toList c := ⟨_, rfl⟩
  rw [← hR]
  have HR : Hid (R = shI 0 (Lib.indexByte (s.data.toList.drop 0) c)) := by
    show _ = _
    rw [hR, List.drop_zero, shI]
    split <;> omega
  clear hR
  have HZ := Lib.hid hz
  clear hz
  go_enter Tryd.func25, Tryd.ntmps25
  go_wp2
  go_loop [7] (fun iv => ∃ k : Nat, k ≤ s.size ∧ iv = .int .i64 (k : Int) ∧ Hid (R = shI k (Lib.indexByte (s.data.toList.drop k) c))) (fun iv => s.size - (intOf iv).toNat)
  case atStart => exact ⟨0, by omega, rfl, HR.out⟩
  case round =>
    clear HR
    obtain ⟨k, hk, rfl, HR⟩ := hrel
    by_cases hlt : k < s.size
    · have hx := HR.out
      rw [drop_byte s k hlt] at hx
      by_cases hc : s[k] = c
      · have e1 : ((s[k].toNat : Int) == z) = true := by rw [HZ.out, hc]; simp
        rw [hc, shI_hit] at hx
        have HX := Lib.hid hx
        clear hx HR hc
        go_wp2
        go_ret
        exact ⟨by rw [HX.out]; rfl, rfl⟩
      · have e1 : ((s[k].toNat : Int) == z) = false := by
          rw [HZ.out, beq_eq_false_iff_ne]
          intro e
          exact hc (UInt8.toNat_inj.mp (by omega))
        rw [shI_miss _ _ _ _ hc] at hx
        have HX := Lib.hid hx
        clear hx HR hc
        go_wp2
        go_round
        case rel => exact ⟨k + 1, by omega, by go_num, HX.out⟩
        case measure => simp [intOf]; omega
    · obtain rfl : k = s.size := by omega
      have HX : Hid (R = -1) := by
        show _ = _
        rw [HR.out, drop_none s _ (Nat.le_refl _)]
        rfl
      clear HR
      go_wp2
      go_ret
      exact ⟨by rw [HX.out]; rfl, rfl⟩
end Go.Proofs.YtalbphlmebhjoaaDoor
