/-
  The walks of the reference's Begins and Find.
-/
import Derived.Test.YtgdeefcgjaklhabDoorIdFind
import Derived.Test.YtgdeefcgjaklhabDoorIdRDigit
namespace Go.Proofs.YtgdeefcgjaklhabDoor
open Go.RowKit

theorem pre_len {s p : List UInt8} (h : Lib.hasPrefix s p = true) : p.length ≤ s.length := by
  rw [← Lib.hasPrefix_of_take] at h
  simp only [Bool.and_eq_true, decide_eq_true_eq] at h
  exact h.1
theorem pre_take (s p : ByteArray) (h : p.size ≤ s.size) : ((s.extract 0 p.size).toList == p.toList) = Lib.hasPrefix s.data.toList p.data.toList := by
  rw [← Lib.hasPrefix_of_take, Lib.extract_toList, Lib.toList_data, list_len, list_len]
  simp [h]

set_option maxHeartbeats 1000000 in
theorem begins_any (s p : ByteArray) (w : World) (hs : s.size ≤ 140737488355328) (hp : p.size ≤ 140737488355328) (b : Bool) (h : Lib.hasPrefix s.data.toList p.data.toList = b) :
    Calls Tryd.prog 38 #[.string s, .string p] w fun e w' => e = .returned (.bool b) ∧ w = w' := by
  by_cases hlt : p.size ≤ s.size
  · have he := pre_take s p hlt
    rw [h] at he
    have HE : Hid (((s.extract 0 p.size).toList == p.toList) = b) := he
    clear h he
    go_enter Tryd.func38, Tryd.ntmps38
    go_wp2
    go_ret
    exact ⟨ret_bool HE.out, rfl⟩
  · have HB : Hid (b = false) := by
      show _ = _
      cases b
      · rfl
      · have := pre_len h; rw [list_len, list_len] at this; omega
    clear h
    go_enter Tryd.func38, Tryd.ntmps38
    go_wp2
    go_ret
    exact ⟨ret_bool HB.out.symm, rfl⟩

theorem ris_at (s : ByteArray) (w : World) (hs : s.size ≤ 140737488355328) (b : Bool) (h : isId s = b) :
    Calls Tryd.prog 18 #[.string s] w fun e w' => e = .returned (.bool b) ∧ w = w' := h ▸ ris_any s w hs
theorem rdigits_at (s : ByteArray) (w : World) (hs : s.size ≤ 140737488355328) (b : Bool) (h : allDig s.data.toList = b) :
    Calls Tryd.prog 36 #[.string s] w fun e w' => e = .returned (.bool b) ∧ w = w' := h ▸ rdigits_any s w hs

theorem rfind_bad (v : Value) (L : List ByteArray) (h : ByteArray) (w : World) (hh : h.size ≤ 140737488355328) (hb : h.size < 4 ∨ 40 < h.size ∨ allDig h.data.toList = false) :
    Calls Tryd.prog 21 #[v, .string h] w fun e w' => e = .returned (.tuple #[.string (findS h L).1, .int .i64 (findS h L).2]) ∧ w = w' := by
  rw [findS_bad hb]
  by_cases h1 : h.size < 4
  · clear hb
    go_enter Tryd.func21, Tryd.ntmps21
    go_wp2
    go_ret2
    exact ⟨rfl, rfl⟩
  · by_cases h2 : 40 < h.size
    · clear hb
      have h3 : 4 ≤ h.size := by omega
      go_enter Tryd.func21, Tryd.ntmps21
      go_wp2
      go_ret2
      exact ⟨rfl, rfl⟩
    · have HD : Hid (allDig h.data.toList = false) := by show _ = _; rcases hb with h | h | h <;> first | exact h | omega
      have h3 : 4 ≤ h.size := by omega
      have h4 : h.size ≤ 40 := by omega
      clear hb h1 h2
      go_enter Tryd.func21, Tryd.ntmps21
      go_wp2_with (go_at_call 36; refine (rdigits_at h _ hh _ HD.out).mono ?_; rintro e w' ⟨rfl, rfl⟩)
      go_ret2
      exact ⟨rfl, rfl⟩

set_option maxHeartbeats 1000000 in
set_option maxRecDepth 4000 in
theorem rfind_some (a : Addr) (cap : Nat) (L : List ByteArray) (h : ByteArray) (w : World) (hc : SCells w a L) (hL : L.length ≤ 140737488355328) (hsz : ∀ s ∈ L, s.size ≤ 140737488355328) (hb : ¬ (h.size < 4 ∨ 40 < h.size ∨ allDig h.data.toList = false)) :
    Calls Tryd.prog 21 #[.slice (some a) L.length cap, .string h] w fun e w' => e = .returned (.tuple #[.string (findS h L).1, .int .i64 (findS h L).2]) ∧ w = w' := by
  obtain ⟨R, hR⟩ : ∃ R, R = findS h L := ⟨_, rfl⟩
  rw [← hR]
  rw [findS_ok hb] at hR
  have HR : Hid (R = findL h L ⟨#[]⟩) := hR
  have HD : Hid (allDig h.data.toList = true) := by show _ = _; cases hx : allDig h.data.toList <;> simp_all
  have h3 : 4 ≤ h.size := by omega
  have h4 : h.size ≤ 40 := by omega
  obtain ⟨n, hn⟩ : ∃ n, n = L.length := ⟨_, rfl⟩
  rw [← hn] at hL ⊢
  have HN : Hid (n = L.length) := hn
  have HS : Hid (∀ s ∈ L, s.size ≤ 140737488355328) := hsz
  clear hb hR hn hsz
  go_enter Tryd.func21, Tryd.ntmps21
  go_wp2_with (go_at_call 36; refine (rdigits_at h _ (by omega) _ HD.out).mono ?_; rintro e w' ⟨rfl, rfl⟩)
  go_loopw [6, 7] (fun f i wr => ∃ (k : Nat) (g : ByteArray), k ≤ n ∧ i = .int .i64 k ∧ f = .string g ∧ R = findL h (L.drop k) g ∧ wr = w) (fun _ i _ => n - (intOf i).toNat)
  case atStart => exact ⟨0, ⟨#[]⟩, by omega, rfl, rfl, HR.out, rfl⟩
  case round =>
    obtain ⟨k, g, hk, rfl, rfl, hR, rfl⟩ := hrel
    clear HR HD
    have HR : Hid (R = findL h (L.drop k) g) := hR
    clear hR
    by_cases hlt : k < n
    · have hkl : k < L.length := by rw [← HN.out]; exact hlt
      have hcell := hc k hkl
      have hmem : (L.getD k ⟨#[]⟩) ∈ L := by rw [List.getD_eq_getElem?_getD, List.getElem?_eq_getElem hkl]; exact List.getElem_mem _
      have hd := drop_at L k hkl
      obtain ⟨s, hs⟩ : ∃ s, s = L.getD k ⟨#[]⟩ := ⟨_, rfl⟩
      rw [← hs] at hcell hmem hd
      have hsz := HS.out s hmem
      have HDR : Hid (L.drop k = s :: L.drop (k + 1)) := hd
      clear hs hmem hd hkl
      cases hi : isId s with
      | false =>
        have HI : Hid (isId s = false) := hi
        have HX : Hid (R = findL h (L.drop (k + 1)) g) := by show _ = _; rw [HR.out, HDR.out, findL_skip (.inl (by rw [good, hi]; simp))]
        clear hi
        go_wp2_with (go_at_call 18; refine (ris_at s _ hsz _ HI.out).mono ?_; rintro e w' ⟨rfl, rfl⟩)
        go_roundw
        case rel => exact ⟨k + 1, g, by omega, by go_num, rfl, HX.out, by trivial⟩
        case measure => simp [intOf]; omega
      | true =>
        have HI : Hid (isId s = true) := hi
        cases hp : Lib.hasPrefix s.data.toList h.data.toList with
        | false =>
          have HP : Hid (Lib.hasPrefix s.data.toList h.data.toList = false) := hp
          have HX : Hid (R = findL h (L.drop (k + 1)) g) := by show _ = _; rw [HR.out, HDR.out, findL_skip (.inl (by rw [good, hp]; simp))]
          clear hp hi
          go_wp2_with (first
            | (go_at_call 18; refine (ris_at s _ hsz _ HI.out).mono ?_; rintro e w' ⟨rfl, rfl⟩)
            | (go_at_call 38; refine (begins_any s h _ hsz (by omega) _ HP.out).mono ?_; rintro e w' ⟨rfl, rfl⟩))
          go_roundw
          case rel => exact ⟨k + 1, g, by omega, by go_num, rfl, HX.out, by trivial⟩
          case measure => simp [intOf]; omega
        | true =>
          have HP : Hid (Lib.hasPrefix s.data.toList h.data.toList = true) := hp
          have HG : Hid (good h s = true) := by show _ = _; rw [good, hi, hp]; rfl
          clear hp hi
          by_cases e1 : s = g
          · subst e1
            have e2 := ba_eq s
            have HX : Hid (R = findL h (L.drop (k + 1)) s) := by show _ = _; rw [HR.out, HDR.out, findL_skip (.inr rfl)]
            go_wp2_with (first
              | (go_at_call 18; refine (ris_at s _ hsz _ HI.out).mono ?_; rintro e w' ⟨rfl, rfl⟩)
              | (go_at_call 38; refine (begins_any s h _ hsz (by omega) _ HP.out).mono ?_; rintro e w' ⟨rfl, rfl⟩))
            go_roundw
            case rel => exact ⟨k + 1, s, by omega, by go_num, rfl, HX.out, by trivial⟩
            case measure => simp [intOf]; omega
          · have e2 := ba_ne e1
            have E1 : Hid (s ≠ g) := e1
            clear e1
            cases hf : g.toList.isEmpty with
            | true =>
              have HX : Hid (R = findL h (L.drop (k + 1)) s) := by show _ = _; rw [HR.out, HDR.out, findL_one HG.out E1.out hf]
              go_wp2_with (first
                | (go_at_call 18; refine (ris_at s _ hsz _ HI.out).mono ?_; rintro e w' ⟨rfl, rfl⟩)
                | (go_at_call 38; refine (begins_any s h _ hsz (by omega) _ HP.out).mono ?_; rintro e w' ⟨rfl, rfl⟩))
              go_roundw
              case rel => exact ⟨k + 1, s, by omega, by go_num, rfl, HX.out, by trivial⟩
              case measure => simp [intOf]; omega
            | false =>
              have HX : Hid (R = (⟨#[]⟩, 401)) := by show _ = _; rw [HR.out, HDR.out, findL_two HG.out E1.out hf]
              go_wp2_with (first
                | (go_at_call 18; refine (ris_at s _ hsz _ HI.out).mono ?_; rintro e w' ⟨rfl, rfl⟩)
                | (go_at_call 38; refine (begins_any s h _ hsz (by omega) _ HP.out).mono ?_; rintro e w' ⟨rfl, rfl⟩))
              go_ret2
              exact ⟨by rw [HX.out]; rfl, rfl⟩
    · obtain rfl : k = n := by omega
      have hd : L.drop k = [] := List.drop_eq_nil_of_le (by rw [HN.out]; exact Nat.le_refl _)
      have HDR : Hid (L.drop k = []) := hd
      clear hd
      cases hf : g.toList.isEmpty with
      | true =>
        have HX : Hid (R = (⟨#[]⟩, 5)) := by show _ = _; rw [HR.out, HDR.out, findL_none hf]
        go_wp2
        go_ret2
        exact ⟨by rw [HX.out]; rfl, rfl⟩
      | false =>
        have HX : Hid (R = (g, 0)) := by show _ = _; rw [HR.out, HDR.out, findL_end hf]
        go_wp2
        go_ret2
        exact ⟨by rw [HX.out]; rfl, rfl⟩

set_option maxHeartbeats 1000000 in
theorem rfind_nil (h : ByteArray) (w : World) (hb : ¬ (h.size < 4 ∨ 40 < h.size ∨ allDig h.data.toList = false)) :
    Calls Tryd.prog 21 #[.slice none 0 0, .string h] w fun e w' => e = .returned (.tuple #[.string (findS h []).1, .int .i64 (findS h []).2]) ∧ w = w' := by
  have HX : Hid (findS h [] = (⟨#[]⟩, 5)) := by show _ = _; rw [findS_ok hb, findL_none (by rw [ByteArray.toList_eq]; rfl)]
  have HD : Hid (allDig h.data.toList = true) := by show _ = _; cases hx : allDig h.data.toList <;> simp_all
  have h3 : 4 ≤ h.size := by omega
  have h4 : h.size ≤ 40 := by omega
  clear hb
  go_enter Tryd.func21, Tryd.ntmps21
  go_wp2_with (go_at_call 36; refine (rdigits_at h _ (by omega) _ HD.out).mono ?_; rintro e w' ⟨rfl, rfl⟩)
  refine wp_loop_rounds 1 ?_
  rw [rounds_succ]
  go_wp2
  go_ret2
  exact ⟨by rw [HX.out]; rfl, rfl⟩

theorem rfind_any (v : Value) (L : List ByteArray) (h : ByteArray) (w : World) (hv : SVal w v L) (hL : L.length ≤ 140737488355328) (hsz : ∀ s ∈ L, s.size ≤ 140737488355328) (hh : h.size ≤ 140737488355328) :
    Calls Tryd.prog 21 #[v, .string h] w fun e w' => e = .returned (.tuple #[.string (findS h L).1, .int .i64 (findS h L).2]) ∧ w = w' := by
  by_cases hb : h.size < 4 ∨ 40 < h.size ∨ allDig h.data.toList = false
  · exact rfind_bad v L h w hh hb
  · rcases hv with ⟨rfl, rfl⟩ | ⟨a, cap, rfl, hc⟩
    · exact rfind_nil h w hb
    · exact rfind_some a cap L h w hc hL hsz hb
end Go.Proofs.YtgdeefcgjaklhabDoor
