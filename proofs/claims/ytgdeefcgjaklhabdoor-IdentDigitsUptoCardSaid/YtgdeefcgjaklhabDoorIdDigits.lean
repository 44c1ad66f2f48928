/-
  The walk of the law IdentDigits.
-/
import Derived.Test.YtgdeefcgjaklhabDoorIdInv
import Derived.Test.YtgdeefcgjaklhabDoorIdRoundPlain
namespace Go.Proofs.YtgdeefcgjaklhabDoor
open Go.RowKit

set_option maxHeartbeats 2000000 in
set_option maxRecDepth 10000 in
theorem digits_walk (s : ByteArray) (w : World) (hs : s.size ≤ 70368744177664) (ht : KTab w) :
    Calls Tryd.prog 4 #[.string s] w fun e w' => e = .returned (.bool true) ∧ Below w.heap.size w w' := by
  have h0 := IdInv.self ht
  obtain ⟨X, hX⟩ : ∃ X, X = str (hexL s.data.toList) := ⟨_, rfl⟩
  have hXl : X.size ≤ 140737488355328 := by rw [hX, str_size, hexL_len, list_len]; omega
  have hXi : isId X = decide (s.size = 20) := by rw [hX]; exact isId_hex s
  have HX : Hid (str (hexL s.data.toList) = X) := hX.symm
  have HXX : Hid (X = str (hexL s.data.toList)) := hX
  clear hX ht
  cases hp : isId s with
  | true =>
    have h40 := isId_size hp
    obtain ⟨R, hR⟩ : ∃ R, R = str (rawL s.data.toList 20) := ⟨_, rfl⟩
    have hRl : R.size ≤ 70368744177664 := by rw [hR, str_size]; simp [rawL]
    have HP : Hid (isId s = true) := hp
    have HR1 : Hid (rawR s true = R) := by show _ = _; rw [rawR, if_pos rfl, hR]
    have HR2 : Hid (str (hexL R.data.toList) = s) := by
      show _ = _
      rw [hR, str_list, hex_raw _ (isId_dig hp) 20 (by rw [list_len]; omega), List.take_of_length_le (by rw [list_len]; omega)]
      exact ba_ext rfl
    have HY : Hid (isId X = false) := by show _ = _; rw [hXi, h40]; rfl
    have HB : Hid (rawR X false = (⟨#[]⟩ : ByteArray)) := by show _ = _; rw [rawR, if_neg (by decide)]
    have e20 : ((s.size : Int) == 20) = false := by simp; omega
    clear hp h40 hR hXi
    go_enter Tryd.func4, Tryd.ntmps4
    go_wp2_with (first
      | (go_at_call 7; ((with_reducible refine (lives_inv (by assumption)).mono ?_); rintro e w' ⟨rfl, hi⟩))
      | (go_at_call 14; first
        | ((with_reducible refine (raw_inv (by assumption) s (by omega) R true HP.out HR1.out).mono ?_); rintro e w' ⟨rfl, hi⟩)
        | ((with_reducible refine (raw_inv (by assumption) X (by omega) _ false HY.out HB.out).mono ?_); rintro e w' ⟨rfl, hi⟩))
      | (go_at_call 15; ((with_reducible refine (rraw_inv (by assumption) s (by omega) R true HP.out HR1.out).mono ?_); rintro e w' ⟨rfl, hi⟩))
      | (go_at_call 16; first
        | ((with_reducible refine (hex_inv (by assumption) s (by omega) X HX.out).mono ?_); rintro e w' ⟨rfl, hi⟩)
        | ((with_reducible refine (hex_inv (by assumption) R (by omega) s HR2.out).mono ?_); rintro e w' ⟨rfl, hi⟩))
      | (go_at_call 19; ((with_reducible refine (rhex_inv (by assumption) s (by omega) X HX.out).mono ?_); rintro e w' ⟨rfl, hi⟩))
      | (go_at_call 17; ((with_reducible refine (is_inv (by assumption) s (by omega) true HP.out).mono ?_); rintro e w' ⟨rfl, hi⟩))
      | (go_at_call 18; ((with_reducible refine (ris_inv (by assumption) s (by omega) true HP.out).mono ?_); rintro e w' ⟨rfl, hi⟩)))
    go_ret
    exact ⟨rfl, (‹IdInv w _›).1⟩
  | false =>
    have HP : Hid (isId s = false) := hp
    have HR1 : Hid (rawR s false = (⟨#[]⟩ : ByteArray)) := by show _ = _; rw [rawR, if_neg (by decide)]
    clear hp
    by_cases h20 : s.size = 20
    · have HY : Hid (isId X = true) := by show _ = _; rw [hXi, h20]; rfl
      have HB : Hid (rawR X true = s) := by
        show _ = _
        rw [rawR, if_pos rfl, HXX.out, str_list, raw_hex _ 20 (by rw [list_len]; omega), List.take_of_length_le (by rw [list_len]; omega)]
        exact ba_ext rfl
      have e20 : ((s.size : Int) == 20) = true := by rw [h20]; rfl
      clear h20 hXi
      go_enter Tryd.func4, Tryd.ntmps4
      go_wp2_with (first
        | (go_at_call 7; ((with_reducible refine (lives_inv (by assumption)).mono ?_); rintro e w' ⟨rfl, hi⟩))
        | (go_at_call 14; first
          | ((with_reducible refine (raw_inv (by assumption) s (by omega) _ false HP.out HR1.out).mono ?_); rintro e w' ⟨rfl, hi⟩)
          | ((with_reducible refine (raw_inv (by assumption) X (by omega) s true HY.out HB.out).mono ?_); rintro e w' ⟨rfl, hi⟩))
        | (go_at_call 15; ((with_reducible refine (rraw_inv (by assumption) s (by omega) _ false HP.out HR1.out).mono ?_); rintro e w' ⟨rfl, hi⟩))
        | (go_at_call 16; ((with_reducible refine (hex_inv (by assumption) s (by omega) X HX.out).mono ?_); rintro e w' ⟨rfl, hi⟩))
        | (go_at_call 19; ((with_reducible refine (rhex_inv (by assumption) s (by omega) X HX.out).mono ?_); rintro e w' ⟨rfl, hi⟩))
        | (go_at_call 17; ((with_reducible refine (is_inv (by assumption) s (by omega) false HP.out).mono ?_); rintro e w' ⟨rfl, hi⟩))
        | (go_at_call 18; ((with_reducible refine (ris_inv (by assumption) s (by omega) false HP.out).mono ?_); rintro e w' ⟨rfl, hi⟩)))
      go_ret
      exact ⟨rfl, (‹IdInv w _›).1⟩
    · have HY : Hid (isId X = false) := by show _ = _; rw [hXi]; simp [h20]
      have HB : Hid (rawR X false = (⟨#[]⟩ : ByteArray)) := by show _ = _; rw [rawR, if_neg (by decide)]
      have e20 : ((s.size : Int) == 20) = false := by simp; omega
      clear h20 hXi
      go_enter Tryd.func4, Tryd.ntmps4
      go_wp2_with (first
        | (go_at_call 7; ((with_reducible refine (lives_inv (by assumption)).mono ?_); rintro e w' ⟨rfl, hi⟩))
        | (go_at_call 14; first
          | ((with_reducible refine (raw_inv (by assumption) s (by omega) _ false HP.out HR1.out).mono ?_); rintro e w' ⟨rfl, hi⟩)
          | ((with_reducible refine (raw_inv (by assumption) X (by omega) _ false HY.out HB.out).mono ?_); rintro e w' ⟨rfl, hi⟩))
        | (go_at_call 15; ((with_reducible refine (rraw_inv (by assumption) s (by omega) _ false HP.out HR1.out).mono ?_); rintro e w' ⟨rfl, hi⟩))
        | (go_at_call 16; ((with_reducible refine (hex_inv (by assumption) s (by omega) X HX.out).mono ?_); rintro e w' ⟨rfl, hi⟩))
        | (go_at_call 19; ((with_reducible refine (rhex_inv (by assumption) s (by omega) X HX.out).mono ?_); rintro e w' ⟨rfl, hi⟩))
        | (go_at_call 17; ((with_reducible refine (is_inv (by assumption) s (by omega) false HP.out).mono ?_); rintro e w' ⟨rfl, hi⟩))
        | (go_at_call 18; ((with_reducible refine (ris_inv (by assumption) s (by omega) false HP.out).mono ?_); rintro e w' ⟨rfl, hi⟩)))
      go_ret
      exact ⟨rfl, (‹IdInv w _›).1⟩
end Go.Proofs.YtgdeefcgjaklhabDoor
