/-
  The walk of Short.
-/
import Derived.Test.YtgdeefcgjaklhabDoorIdShortPlain
import Derived.Test.YtgdeefcgjaklhabDoorIdShared
import Derived.Test.YtgdeefcgjaklhabDoorIdFind
namespace Go.Proofs.YtgdeefcgjaklhabDoor
open Go.RowKit

theorem shared_lcp (a b : ByteArray) (w : World) (ha : isId a = true) (hb : isId b = true) (hn : b ≠ a) (n : Nat) (hl : lcp a.data.toList b.data.toList = n) :
    Calls Tryd.prog 39 #[.string a, .string b] w fun e w' => e = .returned (.int .i64 n) ∧ ∃ m, w' = w.drewN m := by
  have sa := isId_size ha
  have sb := isId_size hb
  have hne : a.data.toList ≠ b.data.toList := fun e => hn (ba_ext e.symm)
  have hlen : a.data.toList.length = b.data.toList.length := by rw [list_len, list_len, sa, sb]
  have h1 := lcp_lt hlen hne
  have h2 := lcp_ne hlen hne
  rw [hl, list_len] at h1
  rw [hl] at h2
  have get (s : ByteArray) (j : Nat) (h : j < s.size) : s.data.toList[j]? = some s[j] := by
    rw [List.getElem?_eq_getElem (by rw [list_len]; exact h)]; rfl
  refine shared_any a b n w h1 (by omega) (by omega) (fun j hj => ?_) (fun e => ?_)
  · have h3 := lcp_eq (l := a.data.toList) (m := b.data.toList) (j := j) (by rw [hl]; exact hj)
    rw [get a j (by omega), get b j (by omega)] at h3
    exact Option.some.inj h3
  · rw [get a n h1, get b n (by omega), e] at h2
    exact h2 rfl

theorem short_no (v : Value) (L : List ByteArray) (id : ByteArray) (w : World) (hs : id.size ≤ 140737488355328) (hi : isId id = false) :
    Calls Tryd.prog 22 #[v, .string id] w fun e w' => e = .returned (.string (shortS L id)) ∧ ∃ m, w' = w.drewN m := by
  rw [shortS_no hi]
  have HI : Hid (isId id = false) := hi
  clear hi
  go_enter Tryd.func22, Tryd.ntmps22
  go_wp2_with (go_at_call 17; refine (is_at id _ hs _ HI.out).mono ?_; rintro e w' ⟨rfl, rfl⟩)
  go_ret
  exact ⟨rfl, 0, rfl⟩

set_option maxHeartbeats 1000000 in
set_option maxRecDepth 4000 in
theorem short_some (a : Addr) (cap : Nat) (L : List ByteArray) (id : ByteArray) (w : World) (hc : SCells w a L) (hL : L.length ≤ 140737488355328) (hsz : ∀ s ∈ L, s.size ≤ 140737488355328) (hi : isId id = true) :
    Calls Tryd.prog 22 #[.slice (some a) L.length cap, .string id] w fun e w' => e = .returned (.string (shortS L id)) ∧ ∃ m, w' = w.drewN m := by
  rw [shortS_yes hi]
  obtain ⟨N, hN⟩ : ∃ N, N = keptL id L 7 := ⟨_, rfl⟩
  rw [← hN]
  have HK : Hid (N = keptL id L 7) := hN
  have HI : Hid (isId id = true) := hi
  have h40 : id.size = 40 := isId_size hi
  have H40 : Hid (id.size = 40) := h40
  have hi40 : 40 ≤ id.size := by omega
  obtain ⟨n, hn⟩ : ∃ n, n = L.length := ⟨_, rfl⟩
  rw [← hn] at hL ⊢
  have HN : Hid (n = L.length) := hn
  have HS : Hid (∀ s ∈ L, s.size ≤ 140737488355328) := hsz
  have HC : Hid (SCells w a L) := hc
  clear hN hi h40 hn hsz hc
  go_enter Tryd.func22, Tryd.ntmps22
  go_wp2_with (go_at_call 17; refine (is_at id _ (by have := H40.out; omega) _ HI.out).mono ?_; rintro e w' ⟨rfl, rfl⟩)
  go_loopw [5, 13] (fun f i wr => ∃ (k g : Nat), k ≤ n ∧ 7 ≤ g ∧ g ≤ 40 ∧ i = .int .i64 k ∧ f = .int .i64 g ∧ N = keptL id (L.drop k) g ∧ ∃ m, wr = w.drewN m) (fun _ i _ => n - (intOf i).toNat)
  case atStart => exact ⟨0, 7, by omega, by omega, by omega, rfl, rfl, HK.out, 0, rfl⟩
  case round =>
    obtain ⟨k, g, hk, hg7, hg40, rfl, rfl, hR, m, rfl⟩ := hrel
    clear HK
    have HR : Hid (N = keptL id (L.drop k) g) := hR
    clear hR
    by_cases hlt : k < n
    · have hkl : k < L.length := by rw [← HN.out]; exact hlt
      have hcell : w.cell? (a.add k) = some (.string (L.getD k ⟨#[]⟩)) := HC.out k hkl
      have hmem : (L.getD k ⟨#[]⟩) ∈ L := by rw [List.getD_eq_getElem?_getD, List.getElem?_eq_getElem hkl]; exact List.getElem_mem _
      have hd := drop_at L k hkl
      obtain ⟨s, hs⟩ : ∃ s, s = L.getD k ⟨#[]⟩ := ⟨_, rfl⟩
      rw [← hs] at hcell hmem hd
      have hsz := HS.out s hmem
      have HDR : Hid (L.drop k = s :: L.drop (k + 1)) := hd
      clear hs hmem hd hkl
      by_cases e1 : s = id
      · subst e1
        have e2 := ba_eq s
        have HX : Hid (N = keptL s (L.drop (k + 1)) g) := by show _ = _; rw [HR.out, HDR.out, keptL_cons, stepK, if_neg (by simp)]
        go_wp2
        go_roundw
        case rel => exact ⟨k + 1, g, by omega, by omega, by omega, by go_num, rfl, HX.out, m, rfl⟩
        case measure => simp [intOf]; omega
      · have e2 := ba_ne e1
        have E1 : Hid (s ≠ id) := e1
        clear e1
        cases hi : isId s with
        | false =>
          have HJ : Hid (isId s = false) := hi
          have HX : Hid (N = keptL id (L.drop (k + 1)) g) := by show _ = _; rw [HR.out, HDR.out, keptL_cons, stepK, if_neg (by rw [hi]; simp)]
          clear hi
          go_wp2_with (go_at_call 17; refine (is_at s _ hsz _ HJ.out).mono ?_; rintro e w' ⟨rfl, rfl⟩)
          go_roundw
          case rel => exact ⟨k + 1, g, by omega, by omega, by omega, by go_num, rfl, HX.out, m, rfl⟩
          case measure => simp [intOf]; omega
        | true =>
          have HJ : Hid (isId s = true) := hi
          have HX : Hid (N = keptL id (L.drop (k + 1)) (max g (lcp id.data.toList s.data.toList + 1))) := by show _ = _; rw [HR.out, HDR.out, keptL_cons, stepK, if_pos ⟨E1.out, hi⟩]
          have hx := stepK_le (o := s) HI.out hg40
          rw [stepK, if_pos ⟨E1.out, hi⟩] at hx
          obtain ⟨x, hxx⟩ : ∃ x, x = lcp id.data.toList s.data.toList := ⟨_, rfl⟩
          rw [← hxx] at HX hx
          have HXX : Hid (lcp id.data.toList s.data.toList = x) := hxx.symm
          clear hi hxx
          have hx39 : x ≤ 39 := by omega
          clear hx
          by_cases hgx : g ≤ x + 1
          · have HM : Hid (max g (x + 1) = x + 1) := by show _ = _; omega
            go_wp2_with (first
              | (go_at_call 17; refine (is_at s _ hsz _ HJ.out).mono ?_; rintro e w' ⟨rfl, rfl⟩)
              | (go_at_call 39; refine (shared_lcp id s _ HI.out HJ.out E1.out x HXX.out).mono ?_; rintro e w' ⟨rfl, dn, rfl⟩))
            go_roundw
            case rel => exact ⟨k + 1, x + 1, by omega, by omega, by omega, by go_num, by go_num, by rw [HX.out, HM.out], _, rfl⟩
            case measure => simp [intOf]; omega
          · have HM : Hid (max g (x + 1) = g) := by show _ = _; omega
            go_wp2_with (first
              | (go_at_call 17; refine (is_at s _ hsz _ HJ.out).mono ?_; rintro e w' ⟨rfl, rfl⟩)
              | (go_at_call 39; refine (shared_lcp id s _ HI.out HJ.out E1.out x HXX.out).mono ?_; rintro e w' ⟨rfl, dn, rfl⟩))
            go_roundw
            case rel => exact ⟨k + 1, g, by omega, by omega, by omega, by go_num, by go_num, by rw [HX.out, HM.out], _, rfl⟩
            case measure => simp [intOf]; omega
    · obtain rfl : k = n := by omega
      have hd : L.drop k = [] := List.drop_eq_nil_of_le (by rw [HN.out]; exact Nat.le_refl _)
      have HX : Hid (N = g) := by show _ = _; rw [HR.out, hd]; rfl
      clear hd
      go_wp2
      go_ret
      exact ⟨ret_str (by rw [HX.out]), m, rfl⟩

set_option maxHeartbeats 1000000 in
theorem short_nil (id : ByteArray) (w : World) (hi : isId id = true) :
    Calls Tryd.prog 22 #[.slice none 0 0, .string id] w fun e w' => e = .returned (.string (shortS [] id)) ∧ ∃ m, w' = w.drewN m := by
  have HX : Hid (shortS [] id = id.extract 0 7) := by show _ = _; rw [shortS_yes hi]; rfl
  have HI : Hid (isId id = true) := hi
  have h40 : id.size = 40 := isId_size hi
  have hi40 : 40 ≤ id.size := by omega
  have H40 : Hid (id.size = 40) := h40
  clear hi h40
  go_enter Tryd.func22, Tryd.ntmps22
  go_wp2_with (go_at_call 17; refine (is_at id _ (by have := H40.out; omega) _ HI.out).mono ?_; rintro e w' ⟨rfl, rfl⟩)
  refine wp_loop_rounds 1 ?_
  rw [rounds_succ]
  go_wp2
  go_ret
  exact ⟨ret_str HX.out.symm, 0, rfl⟩

theorem short_any (v : Value) (L : List ByteArray) (id : ByteArray) (w : World) (hv : SVal w v L) (hL : L.length ≤ 140737488355328) (hsz : ∀ s ∈ L, s.size ≤ 140737488355328) (hs : id.size ≤ 140737488355328) :
    Calls Tryd.prog 22 #[v, .string id] w fun e w' => e = .returned (.string (shortS L id)) ∧ ∃ m, w' = w.drewN m := by
  cases hi : isId id with
  | false => exact short_no v L id w hs hi
  | true =>
    rcases hv with ⟨rfl, rfl⟩ | ⟨a, cap, rfl, hc⟩
    · exact short_nil id w hi
    · exact short_some a cap L id w hc hL hsz hi
end Go.Proofs.YtgdeefcgjaklhabDoor
