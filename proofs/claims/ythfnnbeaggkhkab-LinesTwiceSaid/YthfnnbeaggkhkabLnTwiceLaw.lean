/-
  The walk of the law LinesTwice.
-/
import Derived.Test.YthfnnbeaggkhkabLnCleanSLaw
namespace Go.Proofs.Ythfnnbeaggkhkab
open Go.RowKit

/-- No carriage return. -/
def nocr (l : List UInt8) : Bool := l.all (· != 13)
theorem nocr_rt {l : List UInt8} (h : nocr l = true) : rt l = true := rt_none l fun c hc => by
  have := List.all_eq_true.1 h c hc
  simpa using this
theorem nocr_next (s : ByteArray) (k : Nat) (h : k < s.size) : nocr (s.data.toList.take (k + 1)) = (nocr (s.data.toList.take k) && (s[k] != 13)) := by
  rw [take_snoc s k h]
  simp [nocr]

set_option maxHeartbeats 2000000 in
set_option maxRecDepth 4000 in
theorem lnTwice_walk (s : ByteArray) (W : World) : Calls Try.prog 7 #[.string s] W fun e W' => e = .returned (.bool true) ∧ Below W.heap.size W W' := by
  have hb0 := Below.refl W.heap.size W
  by_cases h1 : 5000 < s.size
  · go_enter Try.func7, Try.ntmps7
    go_wp2_with (go_at_call 10; ((with_reducible refine (lives_inv hb0).mono ?_); rintro e w' ⟨rfl, hi⟩))
    go_ret
    exact ⟨rfl, hi⟩
  · obtain ⟨m, hm⟩ : ∃ m, m = str (clean s.data.toList) := ⟨_, rfl⟩
    obtain ⟨c, hc⟩ : ∃ c, c = str (crlf 0 s.data.toList) := ⟨_, rfl⟩
    obtain ⟨a, ha⟩ : ∃ a, a = str (lf s.data.toList) := ⟨_, rfl⟩
    have HM : Hid (m.data.toList = clean s.data.toList) := by show _ = _; rw [hm, str_list]
    have HC : Hid (c.data.toList = crlf 0 s.data.toList) := by show _ = _; rw [hc, str_list]
    have HA : Hid (a.data.toList = lf s.data.toList) := by show _ = _; rw [ha, str_list]
    have HM2 : Hid (m.data.toList = clean m.data.toList) := by show _ = _; rw [HM.out, clean_twice]
    have HC2 : Hid (c.data.toList = crlf 0 c.data.toList) := by show _ = _; rw [HC.out, crlf_twice]
    have HA2 : Hid (a.data.toList = lf c.data.toList) := by show _ = _; rw [HA.out, HC.out, lf_crlf]
    have hcs : c.size ≤ 10000 := by
      have := crlf_len s.data.toList 0
      rw [← HC.out, list_len, list_len] at this; omega
    have hms : m.size ≤ 15000 := by
      have h1 := cfold_len (split s.data.toList)
      have h2 := split_le s.data.toList
      rw [split_join, list_len] at h1
      rw [list_len] at h2
      have h3 : m.size = (cfold (split s.data.toList)).1.length := by rw [← list_len, HM.out]; rfl
      omega
    clear hm hc ha
    go_enter Try.func7, Try.ntmps7
    go_wp2
    go_loop [3, 13] (fun nv i => ∃ (k : Nat) (b : Bool), k ≤ s.size ∧ i = .int .i64 k ∧ nv = .bool b ∧ Hid (b = nocr (s.data.toList.take k))) (fun _ i => s.size - (intOf i).toNat)
    case atStart => exact ⟨0, true, by omega, rfl, rfl, rfl⟩
    case round =>
      obtain ⟨k, b, hk, rfl, rfl, HB⟩ := hrel
      by_cases hlt : k < s.size
      · have hn := nocr_next s k hlt
        rw [← HB.out] at hn
        cases b with
        | true =>
          rw [Bool.true_and] at hn
          by_cases h13 : s[k] = 13
          · have a1 : ((s[k].toNat : Int) != 13) = false := u8_isn (n := 13) (by decide) h13
            have HX : Hid (false = nocr (s.data.toList.take (k + 1))) := by show _ = _; rw [hn, h13]; rfl
            clear hn h13
            go_wp2
            go_round
            case rel => exact ⟨k + 1, false, by omega, by go_num, rfl, HX⟩
            case measure => simp [intOf]; omega
          · have a1 : ((s[k].toNat : Int) != 13) = true := u8_notn (n := 13) (by decide) h13
            have HX : Hid (true = nocr (s.data.toList.take (k + 1))) := by show _ = _; rw [hn]; simp [h13]
            clear hn h13
            go_wp2
            go_round
            case rel => exact ⟨k + 1, true, by omega, by go_num, rfl, HX⟩
            case measure => simp [intOf]; omega
        | false =>
          have HX : Hid (false = nocr (s.data.toList.take (k + 1))) := by show _ = _; rw [hn]; rfl
          clear hn
          go_wp2
          go_round
          case rel => exact ⟨k + 1, false, by omega, by go_num, rfl, HX⟩
          case measure => simp [intOf]; omega
      · have hkn : s.data.toList.take k = s.data.toList := List.take_of_length_le (by rw [list_len]; omega)
        cases b with
        | true =>
          have HAS : Hid (s.data.toList = lf s.data.toList) := by show _ = _; rw [lf_rt _ (nocr_rt (by rw [← hkn]; exact HB.out.symm))]
          obtain rfl : a = s := ba_ext (by rw [HA.out]; exact HAS.out.symm)
          clear hkn HB HAS
          go_wp2_with (first
            | (go_at_call 20; first | ((with_reducible refine (toCRLF_inv (by assumption) a c (by omega) HC.out).mono ?_); rintro e w1 ⟨rfl, h1⟩) | ((with_reducible refine (toCRLF_inv (by assumption) c c (by omega) HC2.out).mono ?_); rintro e w2 ⟨rfl, h2⟩))
            | (go_at_call 26; first | ((with_reducible refine (clean_inv (by assumption) a m (by omega) HM.out).mono ?_); rintro e w3 ⟨rfl, h3⟩) | ((with_reducible refine (clean_inv (by assumption) m m (by omega) HM2.out).mono ?_); rintro e w4 ⟨rfl, h4⟩))
            | (go_at_call 18; first | ((with_reducible refine (toLF_inv (by assumption) a a (by omega) HA.out).mono ?_); rintro e w5 ⟨rfl, h5⟩) | ((with_reducible refine (toLF_inv (by assumption) c a (by omega) HA2.out).mono ?_); rintro e w6 ⟨rfl, h6⟩))
            | (go_at_call 10; ((with_reducible refine (lives_inv (by assumption)).mono ?_); rintro e w9 ⟨rfl, h9⟩)))
          go_ret
          exact ⟨rfl, h9⟩
        | false =>
          clear hkn HB
          go_wp2_with (first
            | (go_at_call 20; first | ((with_reducible refine (toCRLF_inv (by assumption) s c (by omega) HC.out).mono ?_); rintro e w1 ⟨rfl, h1⟩) | ((with_reducible refine (toCRLF_inv (by assumption) c c (by omega) HC2.out).mono ?_); rintro e w2 ⟨rfl, h2⟩))
            | (go_at_call 26; first | ((with_reducible refine (clean_inv (by assumption) s m (by omega) HM.out).mono ?_); rintro e w3 ⟨rfl, h3⟩) | ((with_reducible refine (clean_inv (by assumption) m m (by omega) HM2.out).mono ?_); rintro e w4 ⟨rfl, h4⟩))
            | (go_at_call 18; first | ((with_reducible refine (toLF_inv (by assumption) s a (by omega) HA.out).mono ?_); rintro e w5 ⟨rfl, h5⟩) | ((with_reducible refine (toLF_inv (by assumption) c a (by omega) HA2.out).mono ?_); rintro e w6 ⟨rfl, h6⟩))
            | (go_at_call 10; ((with_reducible refine (lives_inv (by assumption)).mono ?_); rintro e w9 ⟨rfl, h9⟩)))
          go_ret
          exact ⟨rfl, h9⟩
end Go.Proofs.Ythfnnbeaggkhkab
