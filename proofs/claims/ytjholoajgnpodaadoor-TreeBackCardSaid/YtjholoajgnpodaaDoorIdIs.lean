/-
  The walks of allDigits and Is.
-/
import Derived.Test.YtjholoajgnpodaaDoorIdDigit
namespace Go.Proofs.YtjholoajgnpodaaDoor
open Go.RowKit

def allDig (l : List UInt8) : Bool := l.all fun b => (halfOf b).isSome
theorem allDig_snoc (l : List UInt8) (b : UInt8) : allDig (l ++ [b]) = (allDig l && (halfOf b).isSome) := by simp [allDig]
theorem allDig_not {l : List UInt8} {b : UInt8} (hb : b ∈ l) (h : (halfOf b).isSome = false) : allDig l = false := by
  rw [allDig, List.all_eq_false]
  exact ⟨b, hb, by rw [h]; decide⟩

set_option maxHeartbeats 1000000 in
theorem allDigits_any (s : ByteArray) (w : World) (hs : s.size ≤ 140737488355328) :
    Calls Tryd.prog 61 #[.string s] w fun e w' => e = .returned (.bool (allDig s.data.toList)) ∧ w = w' := by
  go_enter Tryd.func61, Tryd.ntmps61
  go_wp2
  go_loopw [8] (fun i wr => ∃ k : Nat, k ≤ s.size ∧ i = .int .i64 k ∧ allDig (s.data.toList.take k) = true ∧ wr = w) (fun i _ => s.size - (intOf i).toNat)
  case atStart => exact ⟨0, by omega, rfl, rfl, rfl⟩
  case round =>
    obtain ⟨k, hk, rfl, ha, rfl⟩ := hrel
    have HA : Hid (allDig (s.data.toList.take k) = true) := ha
    clear ha
    by_cases hlt : k < s.size
    · have hh := half_any s[k] wr
      obtain ⟨o, ho⟩ : ∃ o, o = halfOf s[k] := ⟨_, rfl⟩
      rw [← ho] at hh
      have HO : Hid (o = halfOf s[k]) := ho
      have HH : Hid (Calls Tryd.prog 47 #[.int .u8 s[k].toNat] wr fun e w' => e = .returned (.tuple #[.int .u8 (o.getD 0 : Nat), .bool o.isSome]) ∧ wr = w') := hh
      clear ho hh
      cases o with
      | none =>
        go_wp2_with (go_at_call 47; refine HH.out.mono ?_; rintro e w' ⟨rfl, rfl⟩)
        go_ret
        refine ⟨ret_bool ?_, rfl⟩
        rw [allDig_not (b := s[k]) (by rw [← Array.mem_def]; exact Array.getElem_mem _) (by rw [← HO.out]; rfl)]
      | some x =>
        go_wp2_with (go_at_call 47; refine HH.out.mono ?_; rintro e w' ⟨rfl, rfl⟩)
        go_roundw
        case rel => exact ⟨k + 1, by omega, by go_num, by rw [take_snoc s k hlt, allDig_snoc, HA.out, ← HO.out]; rfl, by trivial⟩
        case measure => simp [intOf]; omega
    · obtain rfl : k = s.size := by omega
      go_wp2
      go_ret
      exact ⟨ret_bool (by rw [← take_all s, HA.out]), rfl⟩

def isId (s : ByteArray) : Bool := decide (s.size = 40) && allDig s.data.toList
set_option maxHeartbeats 1000000 in
theorem is_any (s : ByteArray) (w : World) (hs : s.size ≤ 140737488355328) :
    Calls Tryd.prog 46 #[.string s] w fun e w' => e = .returned (.bool (isId s)) ∧ w = w' := by
  have hd := allDigits_any s w hs
  go_enter Tryd.func46, Tryd.ntmps46
  by_cases h : s.size = 40
  · have h1 : ((s.size : Int) == 40) = true := by rw [h]; rfl
    have HS : Hid (s.size = 40) := h
    clear h
    go_wp2_with (go_at_call 61; refine hd.mono ?_; rintro e w' ⟨rfl, rfl⟩)
    go_ret
    exact ⟨ret_bool (by rw [isId, HS.out]; simp), rfl⟩
  · have h1 : ((s.size : Int) == 40) = false := by simp; omega
    have HS : Hid (isId s = false) := by show _ = _; simp [isId, h]
    clear h
    go_wp2
    go_ret
    exact ⟨ret_bool HS.out.symm, rfl⟩
end Go.Proofs.YtjholoajgnpodaaDoor
