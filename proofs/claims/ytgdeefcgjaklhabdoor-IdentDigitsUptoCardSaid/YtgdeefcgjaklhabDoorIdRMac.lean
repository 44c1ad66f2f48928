/-
  The walks of the reference's over and Mac.
-/
import Derived.Test.YtgdeefcgjaklhabDoorIdROf
import Derived.Test.YtgdeefcgjaklhabDoorIdMac
namespace Go.Proofs.YtgdeefcgjaklhabDoor
open Go.RowKit

theorem over_next (l : List UInt8) (m : UInt8) (k : Nat) (h : k < 64) : (mskL (l ++ List.replicate (64 - l.length) 0) m).take (k + 1) = (mskL (l ++ List.replicate (64 - l.length) 0) m).take k ++ [l.getD k 0 ^^^ m] := by
  have hl : k < (mskL (l ++ List.replicate (64 - l.length) 0) m).length := by rw [mskL_len, List.length_append, List.length_replicate]; omega
  rw [List.take_succ_eq_append_getElem hl]
  congr 2
  simp only [mskL, List.getElem_map]
  congr 1
  rw [List.getD_eq_getElem?_getD]
  by_cases hk : k < l.length
  · rw [List.getElem_append_left hk, List.getElem?_eq_getElem hk]; rfl
  · rw [List.getElem_append_right (by omega), List.getElem_replicate, List.getElem?_eq_none (by omega)]; rfl

set_option maxHeartbeats 1000000 in
set_option maxRecDepth 4000 in
theorem over_any (s : ByteArray) (m : UInt8) (w : World) (hs : s.size ≤ 64) :
    Calls Tryd.prog 32 #[.string s, .int .u8 m.toNat] w fun e w' => e = .returned (.string (str (mskL (s.data.toList ++ List.replicate (64 - s.data.toList.length) 0) m))) ∧ Below w.heap.size w w' := by
  obtain ⟨i0, hi, hz0, hz1, hz2⟩ := info_parts Tryd.info5
  obtain ⟨L, hL⟩ : ∃ L, L = mskL (s.data.toList ++ List.replicate (64 - s.data.toList.length) 0) m := ⟨_, rfl⟩
  rw [← hL]
  have HLl : Hid (L.length = 64) := by show _ = _; rw [hL, mskL_len, List.length_append, List.length_replicate, list_len]; omega
  have HN : Hid (∀ k, k < 64 → L.take (k + 1) = L.take k ++ [s.data.toList.getD k 0 ^^^ m]) := fun k hk => by rw [hL]; exact over_next _ _ _ hk
  clear hL
  have hown1 : (w.alloc (.cells #[] 5)).ownsRow w.heap.size 5 1 (.slice (some ⟨w.heap.size, 0, none⟩) 0 0) 0 (bcells (L.take 0)) := World.ownsRow_lit w #[] 0 (Nat.le_refl _) (by decide) rfl
  have hb1 : Below w.heap.size w (w.alloc (.cells #[] 5)) := (Below.refl _ _).alloc (Nat.le_refl _) _
  have hmm := UInt8.toNat_lt m
  go_enter Tryd.func32, Tryd.ntmps32
  go_wp2
  go_loopw [5, 6] (fun v i wr => ∃ k : Nat, k ≤ 64 ∧ i = .int .i64 k ∧ wr.ownsRow w.heap.size 5 1 v k (bcells (L.take k)) ∧ Below w.heap.size w wr) (fun _ i _ => 64 - (intOf i).toNat)
  case atStart => exact ⟨0, by omega, rfl, hown1, hb1⟩
  case round =>
    clear hown1 hb1
    obtain ⟨k, hk, rfl, hown, hbel⟩ := hrel
    by_cases hlt : k < 64
    · by_cases hks : k < s.size
      · have hxl := UInt8.toNat_lt s[k]
        have hxor : bits .xor .u8 (s[k].toNat : Int) (m.toNat : Int) = (((s[k] ^^^ m).toNat : Nat) : Int) := by rw [u8_xor_nat _ _ hxl hmm, UInt8.toNat_xor]
        have HX : Hid (L.take (k + 1) = L.take k ++ [s[k] ^^^ m]) := by show _ = _; rw [HN.out k hlt, getD_byte s k hks]
        obtain ⟨y, hy⟩ : ∃ y, y = s[k] ^^^ m := ⟨_, rfl⟩
        rw [← hy] at hxor HX
        clear hy hxl
        go_wp2_with (at_builtin; refine wpList_append_own _ rfl _ _ 39 rfl w.heap.size 5 i0 (.int .u8 0) 1 1 Tryd.underlying39 hi hz0 hz1 hz2 rfl (by decide) _ _ _ rfl (hown.alloc _) ⟨wr.heap.size, 0, none⟩ 1 1 (bcells [y]) rfl rfl (new_cell _ _ _) (bcells_one _) (by unfold maxLen; omega) (by omega) (by have := hbel.size; simp; omega) ?_)
        intro v3 w3 ho3 hg3 _
        have hb3 := app_step hbel hown hg3 (Nat.le_refl _) hbel.size
        clear hown hg3 hbel hxor
        go_wp2
        go_roundw
        case rel => exact ⟨k + 1, by omega, by go_num, owns_eq ho3 (by rw [HX.out, bcells_append]), hb3⟩
        case measure => simp [intOf]; omega
      · have hxor : bits .xor .u8 0 (m.toNat : Int) = (((0 ^^^ m : UInt8).toNat : Nat) : Int) := by
          have h := u8_xor_nat 0 m.toNat (by decide) hmm
          rw [UInt8.toNat_xor]
          exact h
        have HX : Hid (L.take (k + 1) = L.take k ++ [0 ^^^ m]) := by
          show _ = _
          rw [HN.out k hlt, List.getD_eq_getElem?_getD, List.getElem?_eq_none (by rw [list_len]; omega)]; rfl
        obtain ⟨y, hy⟩ : ∃ y : UInt8, y = 0 ^^^ m := ⟨_, rfl⟩
        rw [← hy] at hxor HX
        clear hy
        go_wp2_with (at_builtin; refine wpList_append_own _ rfl _ _ 39 rfl w.heap.size 5 i0 (.int .u8 0) 1 1 Tryd.underlying39 hi hz0 hz1 hz2 rfl (by decide) _ _ _ rfl (hown.alloc _) ⟨wr.heap.size, 0, none⟩ 1 1 (bcells [y]) rfl rfl (new_cell _ _ _) (bcells_one _) (by unfold maxLen; omega) (by omega) (by have := hbel.size; simp; omega) ?_)
        intro v3 w3 ho3 hg3 _
        have hb3 := app_step hbel hown hg3 (Nat.le_refl _) hbel.size
        clear hown hg3 hbel hxor
        go_wp2
        go_roundw
        case rel => exact ⟨k + 1, by omega, by go_num, owns_eq ho3 (by rw [HX.out, bcells_append]), hb3⟩
        case measure => simp [intOf]; omega
    · obtain rfl : k = 64 := by omega
      rw [show ((64 : Nat) : Int) = 64 from rfl]
      have hcl := conv_owned (P := Tryd.prog) 39 9 5 Tryd.underlying39 Tryd.underlying5 Tryd.underlying9 hown
      clear hown
      go_wp2
      go_ret
      exact ⟨ret_str (by rw [List.take_of_length_le (Nat.le_of_eq HLl.out)]), hbel⟩

set_option maxHeartbeats 1000000 in
set_option maxRecDepth 4000 in
theorem rmac_any (k s : ByteArray) (w : World) (hks : k.size ≤ 140737488355328) (hs : s.size ≤ 140737488351232) :
    Calls Tryd.prog 13 #[.string k, .string s] w fun e w' => e = .returned (.string (str (macC k s))) ∧ Below w.heap.size w w' := by
  obtain ⟨K, hK⟩ : ∃ K, K = str (keyC k) := ⟨_, rfl⟩
  have hKl : K.size ≤ 64 := by rw [hK, str_size]; exact keyC_len k
  have hKe : K.data.toList ++ List.replicate (64 - K.data.toList.length) 0 = key64 k := by rw [hK, str_list]; rfl
  obtain ⟨m1, hm1⟩ : ∃ m1, m1 = str (mskL (key64 k) 54) := ⟨_, rfl⟩
  have hm1l : m1.size = 64 := by rw [hm1, str_size, mskL_len, key64_len]
  obtain ⟨a1, ha1⟩ : ∃ a1, a1 = m1 ++ s := ⟨_, rfl⟩
  have ha1l : a1.size ≤ 140737488355328 := by rw [ha1, ByteArray.size_append]; omega
  obtain ⟨d1, hd1⟩ : ∃ d1, d1 = str (shaC a1) := ⟨_, rfl⟩
  have hd1l : d1.size = 32 := by rw [hd1, str_size, shaC_len]
  obtain ⟨m2, hm2⟩ : ∃ m2, m2 = str (mskL (key64 k) 92) := ⟨_, rfl⟩
  have hm2l : m2.size = 64 := by rw [hm2, str_size, mskL_len, key64_len]
  obtain ⟨a2, ha2⟩ : ∃ a2, a2 = m2 ++ d1 := ⟨_, rfl⟩
  have ha2l : a2.size ≤ 140737488355328 := by rw [ha2, ByteArray.size_append]; omega
  obtain ⟨d2, hd2⟩ : ∃ d2, d2 = str (shaC a2) := ⟨_, rfl⟩
  have hd2l : d2.size ≤ 70368744177664 := by rw [hd2, str_size, shaC_len]; omega
  have HE : Hid (str (hexL d2.data.toList) = str (macC k s)) := by
    show _ = _
    rw [hd2, ha2, hm2, hd1, ha1, hm1]; rfl
  have HK : Hid (K = str (keyC k)) := hK
  have HA1 : Hid (a1 = m1 ++ s) := ha1
  have HD1 : Hid (d1 = str (shaC a1)) := hd1
  have HA2 : Hid (a2 = m2 ++ d1) := ha2
  have HD2 : Hid (d2 = str (shaC a2)) := hd2
  have u2 : m1.size + s.size ≤ 9223372036854775807 := by omega
  have u3 : m2.size + d1.size ≤ 9223372036854775807 := by omega
  have h54 (W : World) : Calls Tryd.prog 32 #[.string K, .int .u8 54] W fun e w' => e = .returned (.string m1) ∧ Below W.heap.size W w' := by rw [hm1, ← hKe]; exact over_any K 54 W hKl
  have h92 (W : World) : Calls Tryd.prog 32 #[.string K, .int .u8 92] W fun e w' => e = .returned (.string m2) ∧ Below W.heap.size W w' := by rw [hm2, ← hKe]; exact over_any K 92 W hKl
  have H54 : Hid (∀ W : World, Calls Tryd.prog 32 #[.string K, .int .u8 54] W fun e w' => e = .returned (.string m1) ∧ Below W.heap.size W w') := h54
  have H92 : Hid (∀ W : World, Calls Tryd.prog 32 #[.string K, .int .u8 92] W fun e w' => e = .returned (.string m2) ∧ Below W.heap.size W w') := h92
  clear h54 h92 hK hm1 ha1 hd1 hm2 ha2 hd2 hKe hm1l hd1l hm2l
  by_cases hk64 : 64 < k.size
  · have HKS : Hid (str (shaC k) = K) := by show _ = _; rw [HK.out, keyC, if_pos hk64]
    go_enter Tryd.func13, Tryd.ntmps13
    go_wp2_with (first
      | (go_at_call 9; first
        | ((with_reducible refine (rdigest_any k _ hks).mono ?_); rintro e w1 ⟨rfl, hb1⟩; rw [HKS.out])
        | (rw [← HA1.out]; (with_reducible refine (rdigest_any a1 _ ha1l).mono ?_); rintro e w4 ⟨rfl, hb4⟩; rw [← HD1.out])
        | (rw [← HA2.out]; (with_reducible refine (rdigest_any a2 _ ha2l).mono ?_); rintro e w6 ⟨rfl, hb6⟩; rw [← HD2.out]))
      | (go_at_call 32; first
        | ((with_reducible refine (H54.out _).mono ?_); rintro e w3 ⟨rfl, hb3⟩)
        | ((with_reducible refine (H92.out _).mono ?_); rintro e w2 ⟨rfl, hb2⟩))
      | (go_at_call 19; refine (rhex_any d2 _ hd2l).mono ?_; rintro e w7 ⟨rfl, hb7⟩))
    go_ret
    have z1 := hb1.size
    have z2 := hb2.size
    have z3 := hb3.size
    have z4 := hb4.size
    have z6 := hb6.size
    exact ⟨ret_str HE.out, ((((hb1.trans (hb2.mono (by omega))).trans (hb3.mono (by omega))).trans (hb4.mono (by omega))).trans (hb6.mono (by omega))).trans (hb7.mono (by omega))⟩
  · have hKk : K = k := by rw [HK.out, keyC, if_neg hk64]; exact ba_ext rfl
    subst hKk
    clear hk64
    go_enter Tryd.func13, Tryd.ntmps13
    go_wp2_with (first
      | (go_at_call 9; first
        | (rw [← HA1.out]; (with_reducible refine (rdigest_any a1 _ ha1l).mono ?_); rintro e w4 ⟨rfl, hb4⟩; rw [← HD1.out])
        | (rw [← HA2.out]; (with_reducible refine (rdigest_any a2 _ ha2l).mono ?_); rintro e w6 ⟨rfl, hb6⟩; rw [← HD2.out]))
      | (go_at_call 32; first
        | ((with_reducible refine (H54.out _).mono ?_); rintro e w3 ⟨rfl, hb3⟩)
        | ((with_reducible refine (H92.out _).mono ?_); rintro e w2 ⟨rfl, hb2⟩))
      | (go_at_call 19; refine (rhex_any d2 _ hd2l).mono ?_; rintro e w7 ⟨rfl, hb7⟩))
    go_ret
    have z2 := hb2.size
    have z3 := hb3.size
    have z4 := hb4.size
    have z6 := hb6.size
    exact ⟨ret_str HE.out, (((hb2.trans (hb3.mono (by omega))).trans (hb4.mono (by omega))).trans (hb6.mono (by omega))).trans (hb7.mono (by omega))⟩
end Go.Proofs.YtgdeefcgjaklhabDoor
