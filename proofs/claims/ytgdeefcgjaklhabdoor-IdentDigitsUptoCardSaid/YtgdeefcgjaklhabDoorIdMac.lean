/-
  The walk of Mac.
-/
import Derived.Test.YtgdeefcgjaklhabDoorIdOf
import Derived.Test.YtgdeefcgjaklhabDoorIdMask
import Derived.Test.YtgdeefcgjaklhabDoorShelf
namespace Go.Proofs.YtgdeefcgjaklhabDoor
open Go.RowKit

/-- The key as it is used. -/
def keyC (k : ByteArray) : List UInt8 := if 64 < k.size then shaC k else k.data.toList
def key64 (k : ByteArray) : List UInt8 := keyC k ++ List.replicate (64 - (keyC k).length) 0
theorem shaC_len (s : ByteArray) : (shaC s).length = 32 := stB_len _
theorem keyC_len (k : ByteArray) : (keyC k).length ≤ 64 := by
  unfold keyC
  split
  · rw [shaC_len]; decide
  · rw [list_len]; omega
theorem key64_len (k : ByteArray) : (key64 k).length = 64 := by
  have := keyC_len k
  rw [key64, List.length_append, List.length_replicate]; omega
/-- The code of a message, as the code makes it. -/
def macC (k s : ByteArray) : List UInt8 :=
  hexL (shaC (str (mskL (key64 k) 92) ++ str (shaC (str (mskL (key64 k) 54) ++ s))))
theorem repeat_zero (c : Nat) : Lib.repeatL [0] c = List.replicate c 0 := by
  induction c with
  | zero => rfl
  | succ c ih => rw [Lib.repeatL, ih]; rfl

theorem repeat_any (c : Nat) (w : World) (hc : c ≤ 64) :
    Calls Tryd.prog 30 #[.string { data := #[0] }, .int .i64 c] w fun e w' => e = .returned (.string (str (List.replicate c 0))) ∧ Below w.heap.size w w' :=
  (Tryd.strings_Repeat ⟨#[0]⟩ c w (by omega) (by show 1 * c ≤ _; omega)).mono fun _ _ ⟨he, hb⟩ => ⟨by rw [he, show (⟨#[0]⟩ : ByteArray).data.toList = [0] from rfl, repeat_zero]; rfl, hb⟩

set_option maxHeartbeats 1000000 in
set_option maxRecDepth 4000 in
theorem mac_any (k s : ByteArray) (w : World) (hks : k.size ≤ 140737488355328) (hs : s.size ≤ 140737488351232) (hk : KTab w) :
    Calls Tryd.prog 12 #[.string k, .string s] w fun e w' => e = .returned (.string (str (macC k s))) ∧ Below w.heap.size w w' := by
  obtain ⟨K, hK⟩ : ∃ K, K = str (keyC k) := ⟨_, rfl⟩
  have hKl : K.size ≤ 64 := by rw [hK, str_size]; exact keyC_len k
  obtain ⟨c, hc⟩ : ∃ c, c = 64 - K.size := ⟨_, rfl⟩
  have i1 : IntKind.i64.wrap (64 - (K.size : Int)) = (c : Int) := by rw [IntWalk.i64_in _ (by omega)]; omega
  obtain ⟨t, ht⟩ : ∃ t, t = str (List.replicate c 0) := ⟨_, rfl⟩
  obtain ⟨K2, hK2⟩ : ∃ K2, K2 = K ++ t := ⟨_, rfl⟩
  have hK2l : K2.size = 64 := by rw [hK2, ByteArray.size_append, ht, str_size, List.length_replicate]; omega
  have hK2e : K2.data.toList = key64 k := by
    rw [hK2, app_list, ht, str_list, hK, str_list, key64, hc, hK, str_size]
  obtain ⟨m1, hm1⟩ : ∃ m1, m1 = str (mskL K2.data.toList 54) := ⟨_, rfl⟩
  have hm1l : m1.size = 64 := by rw [hm1, str_size, mskL_len, list_len, hK2l]
  obtain ⟨a1, ha1⟩ : ∃ a1, a1 = m1 ++ s := ⟨_, rfl⟩
  have ha1l : a1.size ≤ 140737488355328 := by rw [ha1, ByteArray.size_append]; omega
  obtain ⟨d1, hd1⟩ : ∃ d1, d1 = str (shaC a1) := ⟨_, rfl⟩
  have hd1l : d1.size = 32 := by rw [hd1, str_size, shaC_len]
  obtain ⟨m2, hm2⟩ : ∃ m2, m2 = str (mskL K2.data.toList 92) := ⟨_, rfl⟩
  have hm2l : m2.size = 64 := by rw [hm2, str_size, mskL_len, list_len, hK2l]
  obtain ⟨a2, ha2⟩ : ∃ a2, a2 = m2 ++ d1 := ⟨_, rfl⟩
  have ha2l : a2.size ≤ 140737488355328 := by rw [ha2, ByteArray.size_append]; omega
  obtain ⟨d2, hd2⟩ : ∃ d2, d2 = str (shaC a2) := ⟨_, rfl⟩
  have hd2l : d2.size ≤ 70368744177664 := by rw [hd2, str_size, shaC_len]; omega
  have HE : Hid (str (hexL d2.data.toList) = str (macC k s)) := by
    show _ = _
    rw [hd2, ha2, hm2, hd1, ha1, hm1, hK2e]; rfl
  have HK : Hid (K = str (keyC k)) := hK
  have HC : Hid (c = 64 - K.size) := hc
  have HT : Hid (t = str (List.replicate c 0)) := ht
  have HK2 : Hid (K2 = K ++ t) := hK2
  have HM1 : Hid (m1 = str (mskL K2.data.toList 54)) := hm1
  have HA1 : Hid (a1 = m1 ++ s) := ha1
  have HD1 : Hid (d1 = str (shaC a1)) := hd1
  have HM2 : Hid (m2 = str (mskL K2.data.toList 92)) := hm2
  have HA2 : Hid (a2 = m2 ++ d1) := ha2
  have HD2 : Hid (d2 = str (shaC a2)) := hd2
  have hc64 : c ≤ 64 := by omega
  have u1 : K.size + t.size ≤ 9223372036854775807 := by rw [ht, str_size, List.length_replicate]; omega
  have u2 : m1.size + s.size ≤ 9223372036854775807 := by omega
  have u3 : m2.size + d1.size ≤ 9223372036854775807 := by omega
  have hK2m : K2.size ≤ 140737488355328 := by omega
  have HKL : Hid (K.size ≤ 64) := hKl
  clear hK hc ht hK2 hm1 ha1 hd1 hm2 ha2 hd2 hK2e hK2l hm1l hd1l hm2l
  have h54 (W : World) : Calls Tryd.prog 31 #[.string K2, .int .u8 54] W fun e w' => e = .returned (.string m1) ∧ Below W.heap.size W w' := by rw [HM1.out]; exact masked_any K2 54 W hK2m
  have h92 (W : World) : Calls Tryd.prog 31 #[.string K2, .int .u8 92] W fun e w' => e = .returned (.string m2) ∧ Below W.heap.size W w' := by rw [HM2.out]; exact masked_any K2 92 W hK2m
  have H54 : Hid (∀ W : World, Calls Tryd.prog 31 #[.string K2, .int .u8 54] W fun e w' => e = .returned (.string m1) ∧ Below W.heap.size W w') := h54
  have H92 : Hid (∀ W : World, Calls Tryd.prog 31 #[.string K2, .int .u8 92] W fun e w' => e = .returned (.string m2) ∧ Below W.heap.size W w') := h92
  clear h54 h92
  by_cases hk64 : 64 < k.size
  · have HKS : Hid (str (shaC k) = K) := by show _ = _; rw [HK.out, keyC, if_pos hk64]
    go_enter Tryd.func12, Tryd.ntmps12
    go_wp2_with (first
      | (go_at_call 8; first
        | ((with_reducible refine (digest_any k _ hks (by assumption)).mono ?_); rintro e w1 ⟨rfl, hb1⟩; rw [HKS.out]; have hk1 := hk.below hb1)
        | (rw [← HA1.out]; (with_reducible refine (digest_any a1 _ ha1l (by assumption)).mono ?_); rintro e w4 ⟨rfl, hb4⟩; rw [← HD1.out]; have hk4 := hk3.below hb4)
        | (rw [← HA2.out]; (with_reducible refine (digest_any a2 _ ha2l (by assumption)).mono ?_); rintro e w6 ⟨rfl, hb6⟩; rw [← HD2.out]))
      | (go_at_call 30; refine (repeat_any c _ hc64).mono ?_; rintro e w2 ⟨rfl, hb2⟩; rw [← HT.out]; have hk2 := hk1.below hb2)
      | (go_at_call 31; first
        | (rw [← HK2.out]; (with_reducible refine (H54.out _).mono ?_); rintro e w3 ⟨rfl, hb3⟩; have hk3 := hk2.below hb3)
        | ((with_reducible refine (H92.out _).mono ?_); rintro e w5 ⟨rfl, hb5⟩; have hk5 := hk4.below hb5))
      | (go_at_call 16; refine (hex_any d2 _ hd2l).mono ?_; rintro e w7 ⟨rfl, hb7⟩))
    go_ret
    have z1 := hb1.size
    have z2 := hb2.size
    have z3 := hb3.size
    have z4 := hb4.size
    have z5 := hb5.size
    have z6 := hb6.size
    exact ⟨ret_str HE.out, (((((hb1.trans (hb2.mono (by omega))).trans (hb3.mono (by omega))).trans (hb4.mono (by omega))).trans (hb5.mono (by omega))).trans (hb6.mono (by omega))).trans (hb7.mono (by omega))⟩
  · have hKk : K = k := by rw [HK.out, keyC, if_neg hk64]; exact ba_ext rfl
    subst hKk
    have hkl : K.size ≤ 64 := HKL.out
    clear hk64
    go_enter Tryd.func12, Tryd.ntmps12
    go_wp2_with (first
      | (go_at_call 8; first
        | (rw [← HA1.out]; (with_reducible refine (digest_any a1 _ ha1l (by assumption)).mono ?_); rintro e w4 ⟨rfl, hb4⟩; rw [← HD1.out]; have hk4 := hk3.below hb4)
        | (rw [← HA2.out]; (with_reducible refine (digest_any a2 _ ha2l (by assumption)).mono ?_); rintro e w6 ⟨rfl, hb6⟩; rw [← HD2.out]))
      | (go_at_call 30; refine (repeat_any c _ hc64).mono ?_; rintro e w2 ⟨rfl, hb2⟩; rw [← HT.out]; have hk2 := hk.below hb2)
      | (go_at_call 31; first
        | (rw [← HK2.out]; (with_reducible refine (H54.out _).mono ?_); rintro e w3 ⟨rfl, hb3⟩; have hk3 := hk2.below hb3)
        | ((with_reducible refine (H92.out _).mono ?_); rintro e w5 ⟨rfl, hb5⟩; have hk5 := hk4.below hb5))
      | (go_at_call 16; refine (hex_any d2 _ hd2l).mono ?_; rintro e w7 ⟨rfl, hb7⟩))
    go_ret
    have z2 := hb2.size
    have z3 := hb3.size
    have z4 := hb4.size
    have z5 := hb5.size
    have z6 := hb6.size
    exact ⟨ret_str HE.out, ((((hb2.trans (hb3.mono (by omega))).trans (hb4.mono (by omega))).trans (hb5.mono (by omega))).trans (hb6.mono (by omega))).trans (hb7.mono (by omega))⟩
end Go.Proofs.YtgdeefcgjaklhabDoor
