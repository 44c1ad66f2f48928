/-
  Plain mathematics of the laws: hexadecimal there and back; what Find answers to what Short gives.
-/
import Derived.Test.YtgdeefcgjaklhabDoorIdShortPlain
import Derived.Test.YtgdeefcgjaklhabDoorIdRaw
import Derived.Test.YtgdeefcgjaklhabDoorIdHex
namespace Go.Proofs.YtgdeefcgjaklhabDoor
open Go.RowKit

theorem half_dig : ∀ n : Fin 16, halfOf (dig16 n.val) = some n.val := by decide
theorem hv_dig {n : Nat} (h : n < 16) : hv (dig16 n) = n := by rw [hv, half_dig ⟨n, h⟩]; rfl
theorem dig_of_half : ∀ b : Fin 256, (halfOf (UInt8.ofNat b.val)).isSome = true → dig16 (hv (UInt8.ofNat b.val)) = UInt8.ofNat b.val := by decide +kernel
theorem dig_half {b : UInt8} (h : (halfOf b).isSome = true) : dig16 (hv b) = b := by
  have e : UInt8.ofNat b.toNat = b := by simp
  have := dig_of_half ⟨b.toNat, UInt8.toNat_lt b⟩
  simp only [e] at this
  exact this h
theorem hexL_dig (l : List UInt8) : allDig (hexL l) = true := by
  induction l with
  | nil => rfl
  | cons b l ih =>
    have hb := UInt8.toNat_lt b
    rw [hexL, allDig, List.all_cons, List.all_cons, half_dig ⟨b.toNat / 16, by omega⟩, half_dig ⟨b.toNat % 16, by omega⟩]
    exact ih
theorem hexL_at (l : List UInt8) (i : Nat) (h : i < l.length) : (hexL l).getD (2 * i) 0 = dig16 ((l.getD i 0).toNat / 16) ∧ (hexL l).getD (2 * i + 1) 0 = dig16 ((l.getD i 0).toNat % 16) := by
  induction l generalizing i with
  | nil => simp at h
  | cons b l ih =>
    cases i with
    | zero => exact ⟨rfl, rfl⟩
    | succ i =>
      have := ih i (by simpa using h)
      rw [show 2 * (i + 1) = 2 * i + 1 + 1 by omega, hexL]
      exact this
theorem raw_hex (l : List UInt8) (n : Nat) (h : n ≤ l.length) : rawL (hexL l) n = l.take n := by
  induction n with
  | zero => rfl
  | succ n ih =>
    have ha := hexL_at l n (by omega)
    have hb := UInt8.toNat_lt (l.getD n 0)
    rw [rawL_next, ih (by omega), ha.1, ha.2, hv_dig (by omega), hv_dig (by omega), List.take_succ_eq_append_getElem (by omega : n < l.length), show (l.getD n 0).toNat / 16 * 16 + (l.getD n 0).toNat % 16 = (l.getD n 0).toNat by omega]
    congr 2
    simp [List.getD_eq_getElem?_getD, List.getElem?_eq_getElem (by omega : n < l.length)]
theorem hex_raw (l : List UInt8) (hd : allDig l = true) (n : Nat) (h : 2 * n ≤ l.length) : hexL (rawL l n) = l.take (2 * n) := by
  induction n with
  | zero => rfl
  | succ n ih =>
    have h1 : 2 * n < l.length := by omega
    have h2 : 2 * n + 1 < l.length := by omega
    have g1 : l.getD (2 * n) 0 = l[2 * n] := by simp [List.getD_eq_getElem?_getD, List.getElem?_eq_getElem h1]
    have g2 : l.getD (2 * n + 1) 0 = l[2 * n + 1] := by simp [List.getD_eq_getElem?_getD, List.getElem?_eq_getElem h2]
    have d1 := dig_half (List.all_eq_true.1 hd l[2 * n] (List.getElem_mem _))
    have d2 := dig_half (List.all_eq_true.1 hd l[2 * n + 1] (List.getElem_mem _))
    have x1 := hv_lt l[2 * n]
    have x2 := hv_lt l[2 * n + 1]
    rw [rawL_next, hexL_append, ih (by omega), g1, g2, show 2 * (n + 1) = 2 * n + 1 + 1 by omega, List.take_succ_eq_append_getElem h2, List.take_succ_eq_append_getElem h1, List.append_assoc]
    congr 1
    have e : (UInt8.ofNat (hv l[2 * n] * 16 + hv l[2 * n + 1])).toNat = hv l[2 * n] * 16 + hv l[2 * n + 1] := by simp; omega
    rw [hexL, hexL, e, show (hv l[2 * n] * 16 + hv l[2 * n + 1]) / 16 = hv l[2 * n] by omega, show (hv l[2 * n] * 16 + hv l[2 * n + 1]) % 16 = hv l[2 * n + 1] by omega, d1, d2]
    rfl
theorem isId_hex (s : ByteArray) : isId (str (hexL s.data.toList)) = decide (s.size = 20) := by
  rw [isId, str_size, hexL_len, list_len, str_list, hexL_dig, Bool.and_true]
  congr 1
  apply propext
  omega

theorem keptL_ge (id : ByteArray) : ∀ (L : List ByteArray) (n : Nat), n ≤ keptL id L n
  | [], n => Nat.le_refl _
  | s :: L, n => by
    rw [keptL_cons]
    have h := keptL_ge id L (stepK id n s)
    have : n ≤ stepK id n s := by unfold stepK; split <;> omega
    omega
theorem keptL_all (id : ByteArray) : ∀ (L : List ByteArray) (n : Nat) (o : ByteArray), o ∈ L → o ≠ id → isId o = true → lcp id.data.toList o.data.toList + 1 ≤ keptL id L n
  | s :: L, n, o, hm, h1, h2 => by
    rw [keptL_cons]
    rcases List.mem_cons.1 hm with rfl | hm
    · have h := keptL_ge id L (stepK id n o)
      have : lcp id.data.toList o.data.toList + 1 ≤ stepK id n o := by rw [stepK, if_pos ⟨h1, h2⟩]; omega
      omega
    · exact keptL_all id L _ o hm h1 h2
theorem keptL_some (id : ByteArray) : ∀ (L : List ByteArray) (n : Nat), keptL id L n = n ∨ ∃ o ∈ L, o ≠ id ∧ isId o = true ∧ keptL id L n = lcp id.data.toList o.data.toList + 1
  | [], n => .inl rfl
  | s :: L, n => by
    rw [keptL_cons]
    rcases keptL_some id L (stepK id n s) with h | ⟨o, ho, h⟩
    · rw [h]
      by_cases hs : s ≠ id ∧ isId s = true
      · rw [stepK, if_pos hs]
        by_cases hn : lcp id.data.toList s.data.toList + 1 ≤ n
        · exact .inl (by omega)
        · exact .inr ⟨s, by simp, hs.1, hs.2, by omega⟩
      · rw [stepK, if_neg hs]; exact .inl rfl
    · exact .inr ⟨o, by simp [ho], h⟩

theorem findL_skips {h f : ByteArray} : ∀ (L : List ByteArray), (∀ o ∈ L, good h o = false ∨ o = f) → findL h L f = findL h [] f
  | [], _ => rfl
  | s :: L, hs => by rw [findL_skip (hs s (by simp)), findL_skips L (fun o ho => hs o (by simp [ho]))]
theorem findL_amb {h f : ByteArray} (hf : f.toList.isEmpty = false) : ∀ (L : List ByteArray), (∃ o ∈ L, good h o = true ∧ o ≠ f) → findL h L f = (⟨#[]⟩, 401)
  | [], hs => by obtain ⟨o, ho, _⟩ := hs; cases ho
  | s :: L, hs => by
    by_cases hg : good h s = true ∧ s ≠ f
    · exact findL_two hg.1 hg.2 hf
    · rw [findL, if_neg hg]
      obtain ⟨o, ho, h1, h2⟩ := hs
      rcases List.mem_cons.1 ho with rfl | ho
      · exact absurd ⟨h1, h2⟩ hg
      · exact findL_amb hf L ⟨o, ho, h1, h2⟩
theorem ext_data (id : ByteArray) (n : Nat) : (id.extract 0 n).data.toList = id.data.toList.take n := by rw [Lib.extract_data]; simp
theorem allDig_take {l : List UInt8} (h : allDig l = true) (n : Nat) : allDig (l.take n) = true :=
  List.all_eq_true.2 fun x hx => List.all_eq_true.1 h x (List.mem_of_mem_take hx)
theorem id_full {id : ByteArray} (hi : isId id = true) : id.toList.isEmpty = false := by
  have := isId_size hi
  rw [ByteArray.toList_eq]
  cases h : id.data.toList with
  | nil => rw [← list_len, h] at this; cases this
  | cons a l => rfl
theorem good_ext {id o : ByteArray} {n : Nat} (hi : isId id = true) (ho : isId o = true) (hn : n ≤ 40) : good (id.extract 0 n) o = decide (n ≤ lcp id.data.toList o.data.toList) := by
  rw [good, ho, ext_data, pre_lcp _ _ _ (by rw [list_len, isId_size hi]; exact hn)]; rfl
theorem lcp_self (l : List UInt8) : lcp l l = l.length := by
  induction l with
  | nil => rfl
  | cons a l ih => rw [lcp, if_pos rfl, ih]; rfl
theorem good_self {id : ByteArray} {n : Nat} (hi : isId id = true) (hn : n ≤ 40) : good (id.extract 0 n) id = true := by
  rw [good_ext hi hi hn, lcp_self, list_len, isId_size hi]
  simpa using hn
theorem ext_ok {id : ByteArray} {n : Nat} (hi : isId id = true) (h1 : 4 ≤ n) (h2 : n ≤ 40) : ¬ ((id.extract 0 n).size < 4 ∨ 40 < (id.extract 0 n).size ∨ allDig (id.extract 0 n).data.toList = false) := by
  rw [ByteArray.size_extract, isId_size hi, ext_data, allDig_take (isId_dig hi)]
  simp; omega
theorem ne_empty {id : ByteArray} (hi : isId id = true) : id ≠ ⟨#[]⟩ := by
  intro e
  have := isId_size hi
  rw [e] at this
  cases this
theorem lv_em' : (⟨#[]⟩ : ByteArray).toList.isEmpty = true := by rw [ByteArray.toList_eq]; rfl
/-- What Short gives resolves to the ID. -/
theorem short_finds {id : ByteArray} {L : List ByteArray} (hi : isId id = true) : findS (id.extract 0 (keptL id L 7)) (id :: L) = (id, 0) := by
  have hk := keptL_le hi L 7 (by omega)
  rw [findS_ok (ext_ok hi (by omega) hk.2), findL_one (good_self hi hk.2) (ne_empty hi) lv_em', findL_skips L, findL_end (id_full hi)]
  intro o ho
  by_cases h1 : o = id
  · exact .inr h1
  · cases h2 : isId o with
    | false => exact .inl (by rw [good, h2]; rfl)
    | true =>
      have := keptL_all id L 7 o ho h1 h2
      exact .inl (by rw [good_ext hi h2 hk.2]; simp; omega)
/-- One digit less is ambiguous. -/
theorem short_less {id : ByteArray} {L : List ByteArray} (hi : isId id = true) (h7 : keptL id L 7 ≠ 7) : findS (id.extract 0 (keptL id L 7 - 1)) (id :: L) = (⟨#[]⟩, 401) := by
  have hk := keptL_le hi L 7 (by omega)
  rw [findS_ok (ext_ok hi (by omega) (by omega)), findL_one (good_self hi (by omega)) (ne_empty hi) lv_em']
  refine findL_amb (id_full hi) L ?_
  rcases keptL_some id L 7 with h | ⟨o, ho, h1, h2, h3⟩
  · exact absurd h h7
  · exact ⟨o, ho, by rw [good_ext hi h2 (by omega)]; simp; omega, h1⟩
end Go.Proofs.YtgdeefcgjaklhabDoor
