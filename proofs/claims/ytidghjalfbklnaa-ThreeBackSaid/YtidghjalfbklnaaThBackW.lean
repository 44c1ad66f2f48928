/-
  The walks of the law's whole and marked.
-/
import Derived.Test.YtidghjalfbklnaaThBackP
namespace Go.Proofs.Ytidghjalfbklnaa
open Go.RowKit

def whB (x : List UInt8) : Bool := isLine x && decide (x.getLast? = some 10)
theorem whB_iff {x : List UInt8} : whB x = true ↔ Wh x := by simp [whB, Wh]
theorem drop_all {f : List UInt8 → Bool} {X : List (List UInt8)} {k : Nat} (h : k < X.length) : (X.drop k).all f = (f X[k] && (X.drop (k + 1)).all f) := by
  rw [List.drop_eq_getElem_cons h, List.all_cons]
theorem drop_any {f : List UInt8 → Bool} {X : List (List UInt8)} {k : Nat} (h : k < X.length) : (X.drop k).any f = (f X[k] || (X.drop (k + 1)).any f) := by
  rw [List.drop_eq_getElem_cons h, List.any_cons]
theorem last_atW (u : ByteArray) (j : Nat) (h : u.size = j + 1) : u.data.toList.getLast? = some u[j] := by
  rw [List.getLast?_eq_getElem?, show u.data.toList.length - 1 = j by rw [list_len]; omega, List.getElem?_eq_getElem (by rw [list_len]; omega)]
  rfl
theorem whB_no {u : ByteArray} {k j : Nat} (hj : u.size = j + 1) (hk : k < j) (h : u[k] = 10) : whB u.data.toList = false := by
  have : isLine u.data.toList = false := by
    unfold isLine
    have h2 : (u.data.toList.dropLast.all fun c => c != 10) = false := by
      rw [List.all_eq_false]
      refine ⟨10, ?_, by simp⟩
      rw [List.mem_iff_getElem]
      refine ⟨k, by rw [List.length_dropLast, list_len]; omega, ?_⟩
      rw [List.getElem_dropLast]
      exact h
    rw [h2, Bool.and_false]
  rw [whB, this, Bool.false_and]
theorem whB_yes {u : ByteArray} {j : Nat} (hj : u.size = j + 1) (hl : u[j] = 10) (h : ∀ (k : Nat) (hk : k < j), u[k] ≠ 10) : whB u.data.toList = true := by
  rw [whB, last_atW u j hj, hl]
  simp only [isLine, Bool.and_eq_true, Bool.not_eq_true', List.isEmpty_eq_false_iff, List.all_eq_true, bne_iff_ne, ne_eq, decide_true, and_true]
  refine ⟨fun e => by have := congrArg List.length e; rw [list_len, List.length_nil] at this; omega, fun c hc => ?_⟩
  obtain ⟨k, hk, rfl⟩ := List.mem_iff_getElem.mp hc
  rw [List.length_dropLast, list_len] at hk
  rw [List.getElem_dropLast]
  exact h k (by omega)

set_option maxHeartbeats 4000000 in
set_option maxRecDepth 8000 in
theorem whole_any (X : List (List UInt8)) (p : Option Addr) (c n : Nat) (B : Bool) (w : World) (hn : n = X.length) (hp : SRw w p X) (hl : ∀ x ∈ X, x.length ≤ 140737488355328) (hB : B = X.all whB) (hnb : n ≤ 140737488355328) :
    Calls Try.prog 29 #[.slice p n c] w fun e w' => e = .returned (.bool B) ∧ w = w' := by
  have HB : Hid (B = (X.drop 0).all whB) := hB
  have HN := Lib.hid hn
  have HP := Lib.hid hp
  have HL := Lib.hid hl
  clear hn hp hl hB
  go_enter Try.func29, Try.ntmps29
  go_wp2
  go_loopw [3] (fun iv wr => ∃ k : Nat, k ≤ n ∧ iv = .int .i64 (k : Int) ∧ wr = w ∧ Hid (B = (X.drop k).all whB)) (fun iv _ => n - (intOf iv).toNat)
  case atStart => exact ⟨0, Nat.zero_le _, rfl, rfl, HB.out⟩
  case round =>
    clear HB
    obtain ⟨k, hk, rfl, rfl, HB⟩ := hrel
    by_cases hlt : k < n
    · have hkl : k < X.length := by rw [← HN.out]; exact hlt
      obtain ⟨g, o, rfl, hg, a0⟩ := HP.out k hkl
      obtain ⟨u, hu⟩ : ∃ u, u = str X[k] := ⟨_, rfl⟩
      have hus : u.size ≤ 140737488355328 := by rw [hu, str_size]; exact HL.out _ (List.getElem_mem hkl)
      have hul : X[k] = u.data.toList := by rw [hu, str_list]
      rw [← hu] at a0
      have hdr := drop_all (f := whB) hkl
      rw [hul] at hdr
      by_cases h0 : u.size = 0
      · have HX : Hid (B = false) := by
          show _ = _
          have : whB u.data.toList = false := by
            have : u.data.toList = [] := List.eq_nil_of_length_eq_zero (by rw [list_len]; exact h0)
            rw [this]
            rfl
          rw [HB.out, hdr, this, Bool.false_and]
        have d0 : ((u.size : Int) == 0) = true := by rw [h0]; rfl
        clear hu hul hdr h0 HB hg hkl
        go_wp2
        go_ret
        exact ⟨by rw [HX.out]; rfl, by first | rfl | trivial⟩
      · obtain ⟨j, hj⟩ : ∃ j, u.size = j + 1 := ⟨u.size - 1, by omega⟩
        have d0 : ((u.size : Int) == 0) = false := by rw [beq_eq_false_iff_ne]; omega
        have e1 : IntKind.i64.wrap ((u.size : Int) - 1) = (j : Int) := by rw [IntWalk.i64_in _ (by omega)]; omega
        have hjl : j < u.size := by omega
        by_cases hlast : u[j] = 10
        · have b1 : ((u[j].toNat : Int) == 10) = true := by rw [hlast]; rfl
          have b2 : ((u[j].toNat : Int) != 10) = false := by rw [bne, b1]; rfl
          have HLAST := Lib.hid hlast
          have HJ := Lib.hid hj
          have HDR := Lib.hid hdr
          clear hu hul hdr h0 hg hkl hj hlast
          go_upto_region 7 with fail
          clear b1 b2
          go_wp2_with fail
          go_loopw [5] (fun iv wr' => ∃ k2 : Nat, k2 ≤ j ∧ iv = .int .i64 (k2 : Int) ∧ wr' = wr ∧ Hid (∀ (i : Nat) (hi : i < k2) (hi2 : i < u.size), u[i] ≠ 10)) (fun iv _ => j - (intOf iv).toNat)
          case atStart => exact ⟨0, Nat.zero_le _, rfl, rfl, fun i hi _ => absurd hi (Nat.not_lt_zero _)⟩
          case round =>
            obtain ⟨k2, hk2, rfl, rfl, HI⟩ := hrel
            by_cases hlt2 : k2 < j
            · have hk2l : k2 < u.size := by omega
              by_cases hten : u[k2] = 10
              · have HX : Hid (B = false) := by
                  show _ = _
                  rw [HB.out, HDR.out, whB_no HJ.out hlt2 hten, Bool.false_and]
                have b1 : ((u[k2].toNat : Int) == 10) = true := by rw [hten]; rfl
                clear hten HB HI
                go_wp2
                go_ret
                exact ⟨by rw [HX.out]; rfl, by first | rfl | trivial⟩
              · have HI2 : Hid (∀ (i : Nat) (hi : i < k2 + 1) (hi2 : i < u.size), u[i] ≠ 10) := fun i hi hi2 => by
                  by_cases hik : i = k2
                  · subst hik; exact hten
                  · exact HI.out i (by omega) hi2
                have b1 : ((u[k2].toNat : Int) == 10) = false := by
                  rw [beq_eq_false_iff_ne]
                  intro e
                  exact hten (UInt8.toNat_inj.mp (by have : (10 : UInt8).toNat = 10 := rfl; omega))
                clear hten HI
                go_wp2
                go_roundw
                case rel => exact ⟨k2 + 1, hlt2, by go_num, by first | trivial | rfl, HI2.out⟩
                case measure => simp [intOf]; omega
            · obtain rfl : k2 = j := by omega
              have HB2 : Hid (B = (X.drop (k + 1)).all whB) := by
                show _ = _
                rw [HB.out, HDR.out, whB_yes HJ.out HLAST.out (fun i hi => HI.out i hi (by omega)), Bool.true_and]
              clear HB HI
              go_wp2
              go_roundw
              case rel => exact ⟨k + 1, hlt, by go_num, by first | trivial | rfl, HB2.out⟩
              case measure => simp [intOf]; omega
        · have HX : Hid (B = false) := by
            show _ = _
            have : whB u.data.toList = false := by
              rw [whB, last_atW u j hj]
              simp [hlast]
            rw [HB.out, hdr, this, Bool.false_and]
          have b1 : ((u[j].toNat : Int) == 10) = false := by
            rw [beq_eq_false_iff_ne]
            intro e
            exact hlast (UInt8.toNat_inj.mp (by have : (10 : UInt8).toNat = 10 := rfl; omega))
          have b2 : ((u[j].toNat : Int) != 10) = true := by rw [bne, b1]; rfl
          clear hu hul hdr h0 HB hg hkl hj hlast
          go_wp2
          go_ret
          exact ⟨by rw [HX.out]; rfl, by first | rfl | trivial⟩
    · obtain rfl : k = n := by omega
      have HX : Hid (B = true) := by
        show _ = _
        rw [HB.out, List.drop_eq_nil_of_le (by rw [← HN.out]; exact Nat.le_refl _)]
        rfl
      clear HB
      go_wp2
      go_ret
      exact ⟨by rw [HX.out]; rfl, by first | rfl | trivial⟩

def mkB (x : List UInt8) : Bool := mkdL (split x)
set_option maxHeartbeats 2000000 in
set_option maxRecDepth 8000 in
theorem marks_any (X : List (List UInt8)) (p : Option Addr) (c n : Nat) (B : Bool) (w : World) (hn : n = X.length) (hp : SRw w p X) (hl : ∀ x ∈ X, x.length ≤ 200) (hB : B = X.any mkB) (hnb : n ≤ 140737488355328) :
    Calls Try.prog 30 #[.slice p n c] w fun e w' => e = .returned (.bool B) ∧ Below w.heap.size w w' := by
  have HB : Hid (B = (X.drop 0).any mkB) := hB
  have HN := Lib.hid hn
  have HP := Lib.hid hp
  have HL := Lib.hid hl
  clear hn hp hl hB
  go_enter Try.func30, Try.ntmps30
  go_wp2
  go_loopw [3] (fun iv wr => ∃ k : Nat, k ≤ n ∧ iv = .int .i64 (k : Int) ∧ Hid (Below w.heap.size w wr) ∧ Hid (B = (X.drop k).any mkB)) (fun iv _ => n - (intOf iv).toNat)
  case atStart => exact ⟨0, Nat.zero_le _, rfl, Below.refl _ _, HB.out⟩
  case round =>
    clear HB
    obtain ⟨k, hk, rfl, HW, HB⟩ := hrel
    by_cases hlt : k < n
    · have hkl : k < X.length := by rw [← HN.out]; exact hlt
      obtain ⟨g, o, rfl, hg, a0⟩ := (HP.out.below HW.out) k hkl
      obtain ⟨u, hu⟩ : ∃ u, u = str X[k] := ⟨_, rfl⟩
      have hul : X[k] = u.data.toList := by rw [hu, str_list]
      have hus : u.size ≤ 200 := by rw [hu, str_size]; exact HL.out _ (List.getElem_mem hkl)
      rw [← hu] at a0
      have hdr := drop_any (f := mkB) hkl
      rw [hul] at hdr
      obtain ⟨b, hb⟩ : ∃ b, b = mkB u.data.toList := ⟨_, rfl⟩
      rw [← hb] at hdr
      have HD : Hid (Calls Try.prog 25 #[.string u] wr fun e w' => e = .returned (.bool b) ∧ Below wr.heap.size wr w') := marked_any u b wr (by omega) hb
      rcases b with _ | _
      · have HB2 : Hid (B = (X.drop (k + 1)).any mkB) := by show _ = _; rw [HB.out, hdr, Bool.false_or]
        clear hu hul hdr hb HB hg hkl
        go_wp2_with (go_at_call 25; ((with_reducible refine HD.out.mono ?_); rintro e w4 ⟨rfl, hb4⟩))
        have HW4 := Lib.hid (HW.out.trans (hb4.mono HW.out.size))
        clear hb4
        go_roundw
        case rel => exact ⟨k + 1, hlt, by go_num, HW4.out, HB2.out⟩
        case measure => simp [intOf]; omega
      · have HX : Hid (B = true) := by show _ = _; rw [HB.out, hdr, Bool.true_or]
        clear hu hul hdr hb HB hg hkl
        go_wp2_with (go_at_call 25; ((with_reducible refine HD.out.mono ?_); rintro e w4 ⟨rfl, hb4⟩))
        go_ret
        exact ⟨by rw [HX.out]; rfl, HW.out.trans (hb4.mono HW.out.size)⟩
    · obtain rfl : k = n := by omega
      have HX : Hid (B = false) := by
        show _ = _
        rw [HB.out, List.drop_eq_nil_of_le (by rw [← HN.out]; exact Nat.le_refl _)]
        rfl
      clear HB
      go_wp2
      go_ret
      exact ⟨by rw [HX.out]; rfl, HW.out⟩
end Go.Proofs.Ytidghjalfbklnaa
