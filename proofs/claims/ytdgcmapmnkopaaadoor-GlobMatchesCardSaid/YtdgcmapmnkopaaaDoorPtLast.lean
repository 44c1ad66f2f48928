/-
  The walks of Dir and Name, and of the reference's last, Dir and Name.
-/
import Derived.Test.YtdgcmapmnkopaaaDoorPtBasic
import Derived.Test.YtdgcmapmnkopaaaDoorShelf
namespace Go.Proofs.YtdgcmapmnkopaaaDoor
open Go.RowKit

/-- Just past the last slash, or 0. -/
def lastP (s : ByteArray) : Nat := (Lib.lastIndexByte s 47 + 1).toNat
theorem lastP_at (s : ByteArray) : Lib.lastIndexByte s 47 = (lastP s : Int) - 1 ∧ lastP s ≤ s.size := by
  unfold lastP
  rcases Lib.lastIndexByte_spec s 47 with ⟨h, -⟩ | ⟨i, hi, h, -, -⟩ <;> rw [h] <;> omega
def dirOf (s : ByteArray) : ByteArray := s.extract 0 (lastP s - 1)
def nameOf (s : ByteArray) : ByteArray := s.extract (lastP s) s.size

theorem idx_data (s : ByteArray) (k : Nat) (h : k < s.size) : s.data[k]! = s[k] := by
  rw [getElem!_pos s.data k h]
  rfl

set_option maxHeartbeats 1000000 in
set_option maxRecDepth 4000 in
theorem rlast_any (s : ByteArray) (w : World) (hs : s.size ≤ 1048576) :
    Calls Tryd.prog 49 #[.string s] w fun e w' => e = .returned (.int .i64 ((lastP s : Int) - 1)) ∧ w = w' := by
  rw [← (lastP_at s).1]
  obtain ⟨R, hR⟩ : ∃ R, R = Lib.lastIndexByte s 47 := ⟨_, rfl⟩
  rw [← hR]
  have HR : Hid (R = Lib.lastIdx s 47 s.size) := hR
  clear hR
  go_enter Tryd.func49, Tryd.ntmps49
  go_wp2
  go_loopw [3, 4] (fun x i wr => ∃ (k : Nat) (a : Int), k ≤ s.size ∧ i = .int .i64 k ∧ x = .int .i64 a ∧ Hid (a = Lib.lastIdx s 47 k) ∧ wr = w) (fun _ i _ => s.size - (intOf i).toNat)
  case atStart => exact ⟨0, -1, by omega, rfl, rfl, rfl, rfl⟩
  case round =>
    obtain ⟨k, a, hk, rfl, rfl, HA, rfl⟩ := hrel
    by_cases hlt : k < s.size
    · have hd := idx_data s k hlt
      by_cases hc : (s[k].toNat : Int) = 47
      · have h1 : ((s[k].toNat : Int) == 47) = true := beq_iff_eq.mpr hc
        have HX : Hid ((k : Int) = Lib.lastIdx s 47 (k + 1)) := by
          show _ = _
          rw [Lib.lastIdx_hit s 47 k (by rw [hd]; exact hc)]
        clear hd hc HA
        go_wp2
        go_roundw
        case rel => exact ⟨k + 1, k, by omega, by go_num, rfl, HX, trivial⟩
        case measure => simp [intOf]; omega
      · have h1 : ((s[k].toNat : Int) == 47) = false := beq_eq_false_iff_ne.mpr hc
        have HX : Hid (a = Lib.lastIdx s 47 (k + 1)) := by
          show _ = _
          rw [Lib.lastIdx_miss s 47 k (by rw [hd]; exact hc)]
          exact HA.out
        clear hd hc HA
        go_wp2
        go_roundw
        case rel => exact ⟨k + 1, a, by omega, by go_num, rfl, HX, trivial⟩
        case measure => simp [intOf]; omega
    · obtain rfl : k = s.size := by omega
      have HX : Hid (R = a) := by show _ = _; rw [HR.out, HA.out]
      go_wp2
      go_ret
      exact ⟨by rw [HX.out]; rfl, rfl⟩

set_option maxHeartbeats 1000000 in
set_option maxRecDepth 4000 in
theorem dir_any (s : ByteArray) (w : World) (hs : s.size ≤ 1048576) :
    Calls Tryd.prog 21 #[.string s] w fun e w' => e = .returned (.string (dirOf s)) ∧ w = w' := by
  obtain ⟨x, hx⟩ : ∃ x, x = lastP s := ⟨_, rfl⟩
  have hl := (lastP_at s).2
  rw [← hx] at hl
  have HL : Hid (∀ w, Calls Tryd.prog 48 #[.string s, .int .u8 47] w fun e w' => e = .returned (.int .i64 ((x : Int) - 1)) ∧ w' = w) := fun w => by
    have h := Tryd.strings_LastIndexByte s 47 (by omega) w
    rw [(lastP_at s).1, ← hx] at h
    exact h
  have HX : Hid (dirOf s = s.extract 0 (x - 1)) := by show _ = _; rw [hx]; rfl
  clear hx
  cases x with
  | zero =>
    go_enter Tryd.func21, Tryd.ntmps21
    go_wp2_with (go_at_call 48; refine (HL.out _).mono ?_; rintro e w1 ⟨rfl, rfl⟩)
    go_ret
    exact ⟨by rw [HX.out]; rfl, rfl⟩
  | succ y =>
    have HL2 : Hid (∀ w, Calls Tryd.prog 48 #[.string s, .int .u8 47] w fun e w' => e = .returned (.int .i64 (y : Int)) ∧ w' = w) := fun w => (HL.out w).mono fun e w' h => ⟨by rw [h.1]; congr 2; omega, h.2⟩
    have hy : y ≤ s.size := by omega
    have hm : max (y : Int) 0 = y := by omega
    clear HL hl
    go_enter Tryd.func21, Tryd.ntmps21
    go_wp2_with (go_at_call 48; refine (HL2.out _).mono ?_; rintro e w1 ⟨rfl, rfl⟩)
    go_ret
    exact ⟨by rw [HX.out]; rfl, rfl⟩

set_option maxHeartbeats 1000000 in
set_option maxRecDepth 4000 in
theorem rdir_any (s : ByteArray) (w : World) (hs : s.size ≤ 1048576) :
    Calls Tryd.prog 22 #[.string s] w fun e w' => e = .returned (.string (dirOf s)) ∧ w = w' := by
  obtain ⟨x, hx⟩ : ∃ x, x = lastP s := ⟨_, rfl⟩
  have hl := (lastP_at s).2
  rw [← hx] at hl
  have HL : Hid (∀ w, Calls Tryd.prog 49 #[.string s] w fun e w' => e = .returned (.int .i64 ((x : Int) - 1)) ∧ w' = w) := fun w => (rlast_any s w hs).mono fun e w' h => ⟨by rw [h.1, hx], h.2.symm⟩
  have HX : Hid (dirOf s = s.extract 0 (x - 1)) := by show _ = _; rw [hx]; rfl
  clear hx
  cases x with
  | zero =>
    go_enter Tryd.func22, Tryd.ntmps22
    go_wp2_with (go_at_call 49; refine (HL.out _).mono ?_; rintro e w1 ⟨rfl, rfl⟩)
    go_ret
    exact ⟨by rw [HX.out]; rfl, rfl⟩
  | succ y =>
    have HL2 : Hid (∀ w, Calls Tryd.prog 49 #[.string s] w fun e w' => e = .returned (.int .i64 (y : Int)) ∧ w' = w) := fun w => (HL.out w).mono fun e w' h => ⟨by rw [h.1]; congr 2; omega, h.2⟩
    have hy : y ≤ s.size := by omega
    have hm : max 0 (y : Int) = y := by omega
    clear HL hl
    go_enter Tryd.func22, Tryd.ntmps22
    go_wp2_with (go_at_call 49; refine (HL2.out _).mono ?_; rintro e w1 ⟨rfl, rfl⟩)
    go_ret
    exact ⟨by rw [HX.out]; rfl, rfl⟩

set_option maxHeartbeats 1000000 in
set_option maxRecDepth 4000 in
theorem name_any (s : ByteArray) (w : World) (hs : s.size ≤ 1048576) :
    Calls Tryd.prog 23 #[.string s] w fun e w' => e = .returned (.string (nameOf s)) ∧ w = w' := by
  obtain ⟨x, hx⟩ : ∃ x, x = lastP s := ⟨_, rfl⟩
  have hl := (lastP_at s).2
  rw [← hx] at hl
  have HL : Hid (∀ w, Calls Tryd.prog 48 #[.string s, .int .u8 47] w fun e w' => e = .returned (.int .i64 ((x : Int) - 1)) ∧ w' = w) := fun w => by
    have h := Tryd.strings_LastIndexByte s 47 (by omega) w
    rw [(lastP_at s).1, ← hx] at h
    exact h
  have HX : Hid (nameOf s = s.extract x s.size) := by show _ = _; rw [hx]; rfl
  have i1 : IntKind.i64.wrap ((x : Int) - 1 + 1) = (x : Int) := by rw [IntWalk.i64_in _ (by omega)]; omega
  clear hx
  go_enter Tryd.func23, Tryd.ntmps23
  go_wp2_with (go_at_call 48; refine (HL.out _).mono ?_; rintro e w1 ⟨rfl, rfl⟩)
  go_ret
  exact ⟨by rw [HX.out]; rfl, rfl⟩

set_option maxHeartbeats 1000000 in
set_option maxRecDepth 4000 in
theorem rname_any (s : ByteArray) (w : World) (hs : s.size ≤ 1048576) :
    Calls Tryd.prog 24 #[.string s] w fun e w' => e = .returned (.string (nameOf s)) ∧ w = w' := by
  obtain ⟨x, hx⟩ : ∃ x, x = lastP s := ⟨_, rfl⟩
  have hl := (lastP_at s).2
  rw [← hx] at hl
  have HL : Hid (∀ w, Calls Tryd.prog 49 #[.string s] w fun e w' => e = .returned (.int .i64 ((x : Int) - 1)) ∧ w' = w) := fun w => (rlast_any s w hs).mono fun e w' h => ⟨by rw [h.1, hx], h.2.symm⟩
  have HX : Hid (nameOf s = s.extract x s.size) := by show _ = _; rw [hx]; rfl
  have i1 : IntKind.i64.wrap ((x : Int) - 1 + 1) = (x : Int) := by rw [IntWalk.i64_in _ (by omega)]; omega
  clear hx
  go_enter Tryd.func24, Tryd.ntmps24
  go_wp2_with (go_at_call 49; refine (HL.out _).mono ?_; rintro e w1 ⟨rfl, rfl⟩)
  go_ret
  exact ⟨by rw [HX.out]; rfl, rfl⟩
end Go.Proofs.YtdgcmapmnkopaaaDoor
