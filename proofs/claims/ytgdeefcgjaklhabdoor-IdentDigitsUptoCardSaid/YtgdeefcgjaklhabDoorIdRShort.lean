/-
  The walk of the reference's Short.
-/
import Derived.Test.YtgdeefcgjaklhabDoorIdShort
import Derived.Test.YtgdeefcgjaklhabDoorIdRFind
import Derived.BigQuiet
import Derived.Deep.QuietTactic
namespace Go.Proofs.YtgdeefcgjaklhabDoor
open Go.RowKit

theorem quiet_same {P : Program} {f : FuncId} {args : Array Value} {w : World} {n : Nat} {v : Value} (h : Calls P f args (w.drewN n) fun e w' => e = .returned v ∧ w.drewN n = w') :
    Calls P f args (w.drewN n) fun e w'' => e = .returned v ∧ ∃ m, w'' = w.drewN m := h.mono fun _ _ ⟨he, hm⟩ => ⟨he, n, hm.symm⟩

theorem rshort_no (v : Value) (L : List ByteArray) (id : ByteArray) (w : World) (hs : id.size ≤ 140737488355328) (hi : isId id = false) :
    Calls Tryd.prog 23 #[v, .string id] w fun e w' => e = .returned (.string (shortS L id)) ∧ ∃ m, w' = w.drewN m := by
  rw [shortS_no hi]
  have HI : Hid (isId id = false) := hi
  clear hi
  go_enter Tryd.func23, Tryd.ntmps23
  go_wp2_with (go_at_call 18; refine (ris_at id _ hs _ HI.out).mono ?_; rintro e w' ⟨rfl, rfl⟩)
  go_ret
  exact ⟨rfl, 0, rfl⟩

set_option maxHeartbeats 2000000 in
set_option maxRecDepth 4000 in
theorem rshort_some (a : Addr) (cap : Nat) (L : List ByteArray) (id : ByteArray) (w : World) (hc : SCells w a L) (hL : L.length ≤ 140737488355328) (hsz : ∀ s ∈ L, s.size ≤ 140737488355328) (hi : isId id = true) :
    Calls Tryd.prog 23 #[.slice (some a) L.length cap, .string id] w fun e w' => e = .returned (.string (shortS L id)) ∧ ∃ m, w' = w.drewN m := by
  rw [shortS_yes hi]
  obtain ⟨N, hN⟩ : ∃ N, N = keptL id L 7 := ⟨_, rfl⟩
  rw [← hN]
  have HK : Hid (N = keptL id L 7) := hN
  have HI : Hid (isId id = true) := hi
  have h40 : id.size = 40 := isId_size hi
  have H40 : Hid (id.size = 40) := h40
  have hi40 : 40 ≤ id.size := by omega
  obtain ⟨n, hn⟩ : ∃ n, n = L.length := ⟨_, rfl⟩
  rw [← hn] at hL ⊢
  have HN : Hid (n = L.length) := hn
  have HS : Hid (∀ s ∈ L, s.size ≤ 140737488355328) := hsz
  have HC : Hid (SCells w a L) := hc
  clear hN hi h40 hn hsz hc
  go_enter Tryd.func23, Tryd.ntmps23
  go_wp2_with (go_at_call 18; refine (ris_at id _ (by have := H40.out; omega) _ HI.out).mono ?_; rintro e w' ⟨rfl, rfl⟩)
  go_loopw [5, 6] (fun f i wr => ∃ (k g : Nat), k ≤ n ∧ 7 ≤ g ∧ g ≤ 40 ∧ i = .int .i64 k ∧ f = .int .i64 g ∧ N = keptL id (L.drop k) g ∧ ∃ m, wr = w.drewN m) (fun _ i _ => n - (intOf i).toNat)
  case atStart => exact ⟨0, 7, by omega, by omega, by omega, rfl, rfl, HK.out, 0, rfl⟩
  case round =>
    obtain ⟨k, g, hk, hg7, hg40, rfl, rfl, hR, m, rfl⟩ := hrel
    clear HK
    have HR : Hid (N = keptL id (L.drop k) g) := hR
    clear hR
    by_cases hlt : k < n
    · have hkl : k < L.length := by rw [← HN.out]; exact hlt
      have hcell : w.cell? (a.add k) = some (.string (L.getD k ⟨#[]⟩)) := HC.out k hkl
      have hmem : (L.getD k ⟨#[]⟩) ∈ L := by rw [List.getD_eq_getElem?_getD, List.getElem?_eq_getElem hkl]; exact List.getElem_mem _
      have hd := drop_at L k hkl
      obtain ⟨s, hs⟩ : ∃ s, s = L.getD k ⟨#[]⟩ := ⟨_, rfl⟩
      rw [← hs] at hcell hmem hd
      have hsz := HS.out s hmem
      have HX : Hid (N = keptL id (L.drop (k + 1)) (stepK id g s)) := by show _ = _; rw [HR.out, hd, keptL_cons]
      clear hs hmem hd hkl HR
      obtain ⟨wo, hwo⟩ : ∃ wo : World, wo = w.drewN m := ⟨_, rfl⟩
      have HW : Hid (wo = w.drewN m) := hwo
      have hcell' : wo.cell? (a.add k) = some (.string s) := by rw [hwo]; exact hcell
      have k0 : (0 : Int) ≤ k := by omega
      have kn : (k : Int) < n := by omega
      have kn' : k < n := hlt
      rw [← hwo]
      clear hwo hcell
      by_cases e1 : s = id
      · subst e1
        have e2 := ba_eq s
        have HY : Hid (stepK s g s = g) := by show _ = _; rw [stepK, if_neg (by simp)]
        go_wp2
        go_loopw [5] (fun f wr => f = .int .i64 g ∧ wr = wo) (fun _ _ => 0)
        case atStart => exact ⟨rfl, rfl⟩
        case round =>
          obtain ⟨rfl, rfl⟩ := hrel
          go_wp2
          go_quiet (fail)
          go_wp2
          go_roundw
          case rel => exact ⟨k + 1, g, by omega, by omega, by omega, by go_num, rfl, by rw [HX.out, HY.out], _, by rw [HW.out]; exact drewN_two _ _ _⟩
          case measure => simp [intOf]; omega
      · have e2 := ba_ne e1
        have E1 : Hid (s ≠ id) := e1
        clear e1
        cases hi : isId s with
        | false =>
          have HJ : Hid (isId s = false) := hi
          have HY : Hid (stepK id g s = g) := by show _ = _; rw [stepK, if_neg (by rw [hi]; simp)]
          clear hi
          go_wp2
          go_loopw [5] (fun f wr => f = .int .i64 g ∧ wr = wo) (fun _ _ => 0)
          case atStart => exact ⟨rfl, rfl⟩
          case round =>
            obtain ⟨rfl, rfl⟩ := hrel
            go_wp2
            go_quiet ((go_at_call 18; exact quiet_same (ris_at s _ hsz _ HJ.out)))
            go_wp2
            go_roundw
            case rel => exact ⟨k + 1, g, by omega, by omega, by omega, by go_num, rfl, by rw [HX.out, HY.out], _, by rw [HW.out]; exact drewN_two _ _ _⟩
            case measure => simp [intOf]; omega
        | true =>
          have HJ : Hid (isId s = true) := hi
          obtain ⟨x, hxx⟩ : ∃ x, x = lcp id.data.toList s.data.toList := ⟨_, rfl⟩
          have HY : Hid (stepK id g s = max g (x + 1)) := by show _ = _; rw [stepK, if_pos ⟨E1.out, hi⟩, hxx]
          have hx := stepK_le (o := s) HI.out hg40
          rw [HY.out] at hx
          have hx39 : x ≤ 39 := by omega
          have HXX : Hid (x = lcp id.data.toList s.data.toList) := hxx
          clear hi hxx hx
          go_wp2
          go_loopw [5] (fun f wr => ∃ j m2 : Nat, g ≤ j ∧ j ≤ 40 ∧ (j = g ∨ j ≤ x + 1) ∧ f = .int .i64 j ∧ wr = wo.drewN m2) (fun f _ => 41 - (intOf f).toNat)
          case atStart => exact ⟨g, 0, by omega, by omega, .inl rfl, rfl, rfl⟩
          case round =>
            obtain ⟨j, m2, hj1, hj2, hj3, rfl, rfl⟩ := hrel
            have HJ3 : Hid (j = g ∨ j ≤ x + 1) := hj3
            have hpr : Lib.hasPrefix s.data.toList (id.extract 0 j).data.toList = decide (j ≤ x) := by
              rw [HXX.out, ← pre_lcp _ _ _ (by rw [list_len]; omega), Lib.extract_data]; simp
            have hes : (id.extract 0 j).size ≤ 140737488355328 := by rw [ByteArray.size_extract]; omega
            obtain ⟨y, hy⟩ : ∃ y, y = id.extract 0 j := ⟨_, rfl⟩
            rw [← hy] at hpr hes
            have HYY : Hid (id.extract 0 j = y) := hy.symm
            clear hj3 hy
            have hcell2 : (wo.drewN m2).cell? (a.add k) = some (.string s) := hcell'
            obtain ⟨wp, hwp⟩ : ∃ wp : World, wp = wo.drewN m2 := ⟨_, rfl⟩
            rw [← hwp] at hcell2 ⊢
            have HWP : Hid (wp = wo.drewN m2) := hwp
            clear hwp
            have j0 : (0 : Int) ≤ j := by omega
            have j1 : (j : Int) ≤ id.size := by omega
            by_cases hjx : j ≤ x
            · have HP : Hid (Lib.hasPrefix s.data.toList y.data.toList = true) := by show _ = _; rw [hpr]; simp [hjx]
              clear hpr
              go_wp2
              go_quiet (first | (go_at_call 18; exact quiet_same (ris_at s _ hsz _ HJ.out)) | (go_at_call 38; rw [HYY.out]; exact quiet_same (begins_any s y _ hsz hes _ HP.out)))
              go_wp2
              go_roundw
              case rel => exact ⟨j + 1, m2 + nq, by omega, by omega, .inr (by omega), by go_num, by rw [HWP.out]; exact drewN_two _ _ _⟩
              case measure => simp [intOf]; omega
            · have HP : Hid (Lib.hasPrefix s.data.toList y.data.toList = false) := by show _ = _; rw [hpr]; simp [hjx]
              have HZ : Hid (max g (x + 1) = j) := by show _ = _; have := HJ3.out; omega
              clear hpr
              go_wp2
              go_quiet (first | (go_at_call 18; exact quiet_same (ris_at s _ hsz _ HJ.out)) | (go_at_call 38; rw [HYY.out]; exact quiet_same (begins_any s y _ hsz hes _ HP.out)))
              go_wp2
              go_roundw
              case rel => exact ⟨k + 1, j, by omega, by omega, by omega, by go_num, rfl, by rw [HX.out, HY.out, HZ.out], m + (m2 + nq), by rw [HWP.out, HW.out]; simp [World.drewN_drewN, Nat.add_assoc]⟩
              case measure => simp [intOf]; omega
    · obtain rfl : k = n := by omega
      have hd : L.drop k = [] := List.drop_eq_nil_of_le (by rw [HN.out]; exact Nat.le_refl _)
      have HX : Hid (N = g) := by show _ = _; rw [HR.out, hd]; rfl
      clear hd
      go_wp2
      go_ret
      exact ⟨ret_str (by rw [HX.out]), m, rfl⟩

set_option maxHeartbeats 1000000 in
theorem rshort_nil (id : ByteArray) (w : World) (hi : isId id = true) :
    Calls Tryd.prog 23 #[.slice none 0 0, .string id] w fun e w' => e = .returned (.string (shortS [] id)) ∧ ∃ m, w' = w.drewN m := by
  have HX : Hid (shortS [] id = id.extract 0 7) := by show _ = _; rw [shortS_yes hi]; rfl
  have HI : Hid (isId id = true) := hi
  have h40 : id.size = 40 := isId_size hi
  have hi40 : 40 ≤ id.size := by omega
  have H40 : Hid (id.size = 40) := h40
  clear hi h40
  go_enter Tryd.func23, Tryd.ntmps23
  go_wp2_with (go_at_call 18; refine (ris_at id _ (by have := H40.out; omega) _ HI.out).mono ?_; rintro e w' ⟨rfl, rfl⟩)
  refine wp_loop_rounds 1 ?_
  rw [rounds_succ]
  go_wp2
  go_ret
  exact ⟨ret_str HX.out.symm, 0, rfl⟩

theorem rshort_any (v : Value) (L : List ByteArray) (id : ByteArray) (w : World) (hv : SVal w v L) (hL : L.length ≤ 140737488355328) (hsz : ∀ s ∈ L, s.size ≤ 140737488355328) (hs : id.size ≤ 140737488355328) :
    Calls Tryd.prog 23 #[v, .string id] w fun e w' => e = .returned (.string (shortS L id)) ∧ ∃ m, w' = w.drewN m := by
  cases hi : isId id with
  | false => exact rshort_no v L id w hs hi
  | true =>
    rcases hv with ⟨rfl, rfl⟩ | ⟨a, cap, rfl, hc⟩
    · exact rshort_nil id w hi
    · exact rshort_some a cap L id w hc hL hsz hi
end Go.Proofs.YtgdeefcgjaklhabDoor
