/-
  Plain mathematics of hexadecimal there and back.
-/
import Derived.Test.YtpkgiojicbdcfaaGreatDoorIdRaw
import Derived.Test.YtpkgiojicbdcfaaGreatDoorLawPostPk
namespace Go.Proofs.YtpkgiojicbdcfaaGreatDoor
open Go.RowKit

theorem half_dig : ∀ n : Fin 16, halfOf (dig16 n.val) = some n.val := by decide
theorem hv_dig {n : Nat} (h : n < 16) : hv (dig16 n) = n := by rw [hv, half_dig ⟨n, h⟩]; rfl
theorem dig_of_half : ∀ b : Fin 256, (halfOf (UInt8.ofNat b.val)).isSome = true → dig16 (hv (UInt8.ofNat b.val)) = UInt8.ofNat b.val := by decide +kernel
theorem dig_half {b : UInt8} (h : (halfOf b).isSome = true) : dig16 (hv b) = b := by
  have e : UInt8.ofNat b.toNat = b := by simp
  have := dig_of_half ⟨b.toNat, UInt8.toNat_lt b⟩
  simp only [e] at this
  exact this h
theorem hexL_dig (l : List UInt8) : allDig (hexL l) = true := by
  induction l with
  | nil => rfl
  | cons b l ih =>
    have hb := UInt8.toNat_lt b
    rw [hexL, allDig, List.all_cons, List.all_cons, half_dig ⟨b.toNat / 16, by omega⟩, half_dig ⟨b.toNat % 16, by omega⟩]
    exact ih
theorem hexL_at (l : List UInt8) (i : Nat) (h : i < l.length) : (hexL l).getD (2 * i) 0 = dig16 ((l.getD i 0).toNat / 16) ∧ (hexL l).getD (2 * i + 1) 0 = dig16 ((l.getD i 0).toNat % 16) := by
  induction l generalizing i with
  | nil => simp at h
  | cons b l ih =>
    cases i with
    | zero => exact ⟨rfl, rfl⟩
    | succ i =>
      have := ih i (by simpa using h)
      rw [show 2 * (i + 1) = 2 * i + 1 + 1 by omega, hexL]
      exact this
theorem raw_hex (l : List UInt8) (n : Nat) (h : n ≤ l.length) : rawL (hexL l) n = l.take n := by
  induction n with
  | zero => rfl
  | succ n ih =>
    have ha := hexL_at l n (by omega)
    have hb := UInt8.toNat_lt (l.getD n 0)
    rw [rawL_next, ih (by omega), ha.1, ha.2, hv_dig (by omega), hv_dig (by omega), List.take_succ_eq_append_getElem (by omega : n < l.length), show (l.getD n 0).toNat / 16 * 16 + (l.getD n 0).toNat % 16 = (l.getD n 0).toNat by omega]
    congr 2
    simp [List.getD_eq_getElem?_getD, List.getElem?_eq_getElem (by omega : n < l.length)]
theorem hex_raw (l : List UInt8) (hd : allDig l = true) (n : Nat) (h : 2 * n ≤ l.length) : hexL (rawL l n) = l.take (2 * n) := by
  induction n with
  | zero => rfl
  | succ n ih =>
    have h1 : 2 * n < l.length := by omega
    have h2 : 2 * n + 1 < l.length := by omega
    have g1 : l.getD (2 * n) 0 = l[2 * n] := by simp [List.getD_eq_getElem?_getD, List.getElem?_eq_getElem h1]
    have g2 : l.getD (2 * n + 1) 0 = l[2 * n + 1] := by simp [List.getD_eq_getElem?_getD, List.getElem?_eq_getElem h2]
    have d1 := dig_half (List.all_eq_true.1 hd l[2 * n] (List.getElem_mem _))
    have d2 := dig_half (List.all_eq_true.1 hd l[2 * n + 1] (List.getElem_mem _))
    have x1 := hv_lt l[2 * n]
    have x2 := hv_lt l[2 * n + 1]
    rw [rawL_next, hexL_append, ih (by omega), g1, g2, show 2 * (n + 1) = 2 * n + 1 + 1 by omega, List.take_succ_eq_append_getElem h2, List.take_succ_eq_append_getElem h1, List.append_assoc]
    congr 1
    have e : (UInt8.ofNat (hv l[2 * n] * 16 + hv l[2 * n + 1])).toNat = hv l[2 * n] * 16 + hv l[2 * n + 1] := by simp; omega
    rw [hexL, hexL, e, show (hv l[2 * n] * 16 + hv l[2 * n + 1]) / 16 = hv l[2 * n] by omega, show (hv l[2 * n] * 16 + hv l[2 * n + 1]) % 16 = hv l[2 * n + 1] by omega, d1, d2]
    rfl
theorem isId_hex (s : ByteArray) : isId (str (hexL s.data.toList)) = decide (s.size = 20) := by
  rw [isId, str_size, hexL_len, list_len, str_list, hexL_dig, Bool.and_true]
  congr 1
  apply propext
  omega
end Go.Proofs.YtpkgiojicbdcfaaGreatDoor
