/-
  The walks of Seal and Open, and of the reference's.
-/
import Derived.Test.YtgnljpcnkmogfaaDoorOctSum
import Derived.Test.YtgnljpcnkmogfaaDoorOctWord
import Derived.Test.YtgnljpcnkmogfaaDoorOctTakeWord
namespace Go.Proofs.YtgnljpcnkmogfaaDoor
open Go.RowKit

def sealOf (s : ByteArray) : ByteArray := s ++ str (wbytes (crc s.data.toList))
/-- What Open answers. -/
def openOf (s : ByteArray) : ByteArray × Bool :=
  if s.size < 4 then (⟨#[]⟩, false) else if be ((s.data.toList.drop (s.size - 4)).take 4) = crc (s.extract 0 (s.size - 4)).data.toList then (s.extract 0 (s.size - 4), true) else (⟨#[]⟩, false)

set_option maxHeartbeats 400000 in
set_option maxRecDepth 4000 in
theorem seal_any (s : ByteArray) (w : World) (hs : s.size ≤ 1125899906842624) (ht : ∀ i, i < 16 → w.cell? ⟨0, i, none⟩ = some (.int .u32 (tab i : Nat))) :
    Calls Tryd.prog 26 #[.string s] w fun e w' => e = .returned (.string (sealOf s)) ∧ Below w.heap.size w w' := by
  have hc := sum_any s w (by omega) ht
  clear ht
  have hl := crc_lt s.data.toList
  obtain ⟨c, hcc⟩ : ∃ c, c = crc s.data.toList := ⟨_, rfl⟩
  rw [← hcc] at hc hl
  have HC : Hid (c = crc s.data.toList) := hcc
  clear hcc
  go_enter Tryd.func26, Tryd.ntmps26
  go_wp2_with (first | (go_at_call 27; refine hc.mono ?_; rintro e w' ⟨rfl, rfl⟩) | (go_at_call 20; refine (word_any _ _ _ hl (by omega)).mono ?_; rintro e w' ⟨rfl, hb1⟩))
  go_ret
  exact ⟨ret_str (by rw [HC.out]; rfl), ‹_›⟩

set_option maxHeartbeats 400000 in
set_option maxRecDepth 4000 in
theorem rseal_any (s : ByteArray) (w : World) (hs : s.size ≤ 1125899906842624) :
    Calls Tryd.prog 29 #[.string s] w fun e w' => e = .returned (.string (sealOf s)) ∧ Below w.heap.size w w' := by
  have hc := rsum_any s w (by omega)
  have hl := crc_lt s.data.toList
  obtain ⟨c, hcc⟩ : ∃ c, c = crc s.data.toList := ⟨_, rfl⟩
  rw [← hcc] at hc hl
  have HC : Hid (c = crc s.data.toList) := hcc
  clear hcc
  go_enter Tryd.func29, Tryd.ntmps29
  go_wp2_with (first | (go_at_call 28; refine hc.mono ?_; rintro e w' ⟨rfl, rfl⟩) | (go_at_call 22; refine (rword_any _ _ _ hl (by omega)).mono ?_; rintro e w' ⟨rfl, hb1⟩))
  go_ret
  exact ⟨ret_str (by rw [HC.out]; rfl), ‹_›⟩

set_option maxHeartbeats 400000 in
set_option maxRecDepth 4000 in
theorem open_any (s : ByteArray) (w : World) (hs : s.size ≤ 1125899906842624) (ht : ∀ i, i < 16 → w.cell? ⟨0, i, none⟩ = some (.int .u32 (tab i : Nat))) :
    Calls Tryd.prog 24 #[.string s] w fun e w' => e = .returned (.tuple #[.string (openOf s).1, .bool (openOf s).2]) ∧ w = w' := by
  by_cases h4 : s.size < 4
  · have ho : openOf s = (⟨#[]⟩, false) := by unfold openOf; rw [if_pos h4]
    rw [ho]
    clear ht
    have htw := takeWord_any s ((s.size : Int) - 4) w (by omega)
    rw [takeWord_out (.inl (by omega))] at htw
    go_enter Tryd.func24, Tryd.ntmps24
    go_wp2_with (go_at_call 15; refine htw.mono ?_; rintro e w' ⟨rfl, rfl⟩)
    go_ret2
    exact ⟨rfl, rfl⟩
  · obtain ⟨q, hq⟩ : ∃ q, s.size = q + 4 := ⟨s.size - 4, by omega⟩
    have hc := sum_any (s.extract 0 q) w (by rw [ByteArray.size_extract]; omega) ht
    clear ht
    have htw := takeWord_any s (q : Int) w (by omega)
    rw [takeWord_ok (by omega)] at htw
    obtain ⟨c, hcc⟩ : ∃ c, c = crc (s.extract 0 q).data.toList := ⟨_, rfl⟩
    obtain ⟨d, hdd⟩ : ∃ d, d = be ((s.data.toList.drop q).take 4) := ⟨_, rfl⟩
    rw [← hcc] at hc
    rw [← hdd] at htw
    have e4 : ((s.size : Int) - 4) = (q : Int) := by omega
    have hql : q ≤ s.size := by omega
    have ho : Hid (openOf s = if d = c then (s.extract 0 q, true) else (⟨#[]⟩, false)) := by
      show _ = _
      unfold openOf
      rw [if_neg h4, show s.size - 4 = q by omega, ← hcc, ← hdd]
    clear hcc hdd hq h4
    by_cases hdc : d = c
    · subst hdc
      rw [ho.out, if_pos rfl]
      clear ho
      go_enter Tryd.func24, Tryd.ntmps24
      go_wp2_with (first | (go_at_call 15; refine htw.mono ?_; rintro e w' ⟨rfl, rfl⟩) | (go_at_call 27; refine hc.mono ?_; rintro e w' ⟨rfl, rfl⟩))
      go_ret2
      exact ⟨rfl, rfl⟩
    · have g : ((d : Int) != (c : Int)) = true := by simp; omega
      rw [ho.out, if_neg hdc]
      clear ho hdc
      go_enter Tryd.func24, Tryd.ntmps24
      go_wp2_with (first | (go_at_call 15; refine htw.mono ?_; rintro e w' ⟨rfl, rfl⟩) | (go_at_call 27; refine hc.mono ?_; rintro e w' ⟨rfl, rfl⟩))
      go_ret2
      exact ⟨rfl, rfl⟩

theorem be_wbytes {n : Nat} (h : n < 4294967296) : be (wbytes n) = n := by
  simp [be, wbytes]
  omega
theorem wbytes_be : ∀ (l : List UInt8), l.length = 4 → wbytes (be l) = l
  | [a, b, c, d], _ => by
    have ha := UInt8.toNat_lt a
    have hb := UInt8.toNat_lt b
    have hc := UInt8.toNat_lt c
    have hd := UInt8.toNat_lt d
    have e : be [a, b, c, d] = a.toNat * 16777216 + b.toNat * 65536 + c.toNat * 256 + d.toNat := by simp [be]; omega
    have q (x y : UInt8) (h : x.toNat = y.toNat) : x = y := UInt8.toNat_inj.1 h
    simp only [wbytes, e]
    refine List.cons_eq_cons.2 ⟨q _ _ ?_, List.cons_eq_cons.2 ⟨q _ _ ?_, List.cons_eq_cons.2 ⟨q _ _ ?_, List.cons_eq_cons.2 ⟨q _ _ ?_, rfl⟩⟩⟩⟩
    all_goals simp
    all_goals omega

/-- A string of at least four bytes is sealed just if its last word is the checksum of what is ahead of it. -/
theorem seal_iff (s : ByteArray) (q : Nat) (hq : s.size = q + 4) : sealOf (s.extract 0 q) = s ↔ be ((s.data.toList.drop q).take 4) = crc (s.extract 0 q).data.toList := by
  have hl : ((s.data.toList.drop q).take 4).length = 4 := by rw [List.length_take, List.length_drop, list_len]; omega
  have hs : s.data.toList = (s.extract 0 q).data.toList ++ (s.data.toList.drop q).take 4 := by
    rw [Lib.extract_data]
    simp only [List.drop_zero, Nat.sub_zero]
    rw [List.take_of_length_le (l := s.data.toList.drop q) (by rw [List.length_drop, list_len]; omega), List.take_append_drop]
  constructor
  · intro h
    have h2 : (sealOf (s.extract 0 q)).data.toList = s.data.toList := by rw [h]
    rw [hs] at h2
    have e : (sealOf (s.extract 0 q)).data.toList = (s.extract 0 q).data.toList ++ wbytes (crc (s.extract 0 q).data.toList) := by
      rw [sealOf, app_list, str_list]
    rw [e] at h2
    have h3 := List.append_cancel_left h2
    rw [← h3, be_wbytes (crc_lt _)]
  · intro h
    apply ba_ext
    conv => rhs; rw [hs]
    rw [sealOf, app_list, str_list, ← h, wbytes_be _ hl]

set_option maxHeartbeats 400000 in
set_option maxRecDepth 4000 in
theorem ropen_any (s : ByteArray) (w : World) (hs : s.size ≤ 1125899906842624) :
    Calls Tryd.prog 25 #[.string s] w fun e w' => e = .returned (.tuple #[.string (openOf s).1, .bool (openOf s).2]) ∧ Below w.heap.size w w' := by
  by_cases h4 : s.size < 4
  · have ho : openOf s = (⟨#[]⟩, false) := by unfold openOf; rw [if_pos h4]
    rw [ho]
    go_enter Tryd.func25, Tryd.ntmps25
    go_wp2_with fail
    go_ret2
    exact ⟨rfl, Below.refl _ _⟩
  · obtain ⟨q, hq⟩ : ∃ q, s.size = q + 4 := ⟨s.size - 4, by omega⟩
    have hsl := rseal_any (s.extract 0 q) w (by rw [ByteArray.size_extract]; omega)
    have hif := seal_iff s q hq
    have e4 : ((s.size : Int) - 4) = (q : Int) := by omega
    have hql : q ≤ s.size := by omega
    obtain ⟨t, ht⟩ : ∃ t, t = sealOf (s.extract 0 q) := ⟨_, rfl⟩
    rw [← ht] at hsl hif
    have ho : Hid (openOf s = if t = s then (s.extract 0 q, true) else (⟨#[]⟩, false)) := by
      show _ = _
      unfold openOf
      rw [if_neg h4, show s.size - 4 = q by omega]
      by_cases h : t = s
      · rw [if_pos h, if_pos (hif.1 h)]
      · rw [if_neg h, if_neg (fun x => h (hif.2 x))]
    have h4' : 4 ≤ s.size := by omega
    clear ht hq hif h4
    by_cases hts : t = s
    · rw [ho.out, if_pos hts]
      clear ho
      subst hts
      go_enter Tryd.func25, Tryd.ntmps25
      go_wp2_with (go_at_call 29; refine hsl.mono ?_; rintro e w' ⟨rfl, hb⟩)
      go_ret2
      exact ⟨rfl, ‹_›⟩
    · rw [ho.out, if_neg hts]
      have hne := ba_ne hts
      clear ho
      go_enter Tryd.func25, Tryd.ntmps25
      go_wp2_with (go_at_call 29; refine hsl.mono ?_; rintro e w' ⟨rfl, hb⟩)
      go_ret2
      exact ⟨rfl, ‹_›⟩
end Go.Proofs.YtgnljpcnkmogfaaDoor
