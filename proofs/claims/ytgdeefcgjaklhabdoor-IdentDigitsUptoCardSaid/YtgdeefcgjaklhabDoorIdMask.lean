/-
  The walk of masked.
-/
import Derived.Test.YtgdeefcgjaklhabDoorByteRow
namespace Go.Proofs.YtgdeefcgjaklhabDoor
open Go.RowKit

def mskL (l : List UInt8) (m : UInt8) : List UInt8 := l.map fun b => b ^^^ m
theorem mskL_len (l : List UInt8) (m : UInt8) : (mskL l m).length = l.length := by simp [mskL]
/-- k bytes are masked. -/
def mid (l : List UInt8) (m : UInt8) (k : Nat) : List UInt8 := (mskL l m).take k ++ l.drop k
theorem mid_len (l : List UInt8) (m : UInt8) (k : Nat) : (mid l m k).length = l.length := by simp [mid, mskL_len]; omega
theorem mid_none (l : List UInt8) (m : UInt8) : mid l m 0 = l := by simp [mid]
theorem mid_all (l : List UInt8) (m : UInt8) : mid l m l.length = mskL l m := by
  rw [mid, List.drop_eq_nil_of_le (Nat.le_refl _), List.append_nil, List.take_of_length_le (by rw [mskL_len]; exact Nat.le_refl _)]
theorem mid_at (l : List UInt8) (m : UInt8) (k : Nat) (h : k < l.length) : (mid l m k)[k]? = some l[k] := by
  have hk : ((mskL l m).take k).length = k := by simp [mskL_len]; omega
  rw [mid, List.getElem?_append_right (by rw [hk]; exact Nat.le_refl _), hk, Nat.sub_self, List.getElem?_drop, Nat.add_zero, List.getElem?_eq_getElem h]
theorem mid_next (l : List UInt8) (m : UInt8) (k : Nat) (h : k < l.length) : (mid l m k).set k (l[k] ^^^ m) = mid l m (k + 1) := by
  have hk : ((mskL l m).take k).length = k := by simp [mskL_len]; omega
  rw [mid, mid, List.drop_eq_getElem_cons h, List.set_append_right _ _ (by rw [hk]; exact Nat.le_refl _), hk, Nat.sub_self, List.set_cons_zero, List.take_succ_eq_append_getElem (by rw [mskL_len]; exact h)]
  simp [mskL]

set_option maxHeartbeats 1000000 in
set_option maxRecDepth 4000 in
theorem masked_any (s : ByteArray) (m : UInt8) (w : World) (hs : s.size ≤ 140737488355328) :
    Calls Tryd.prog 31 #[.string s, .int .u8 m.toNat] w fun e w' => e = .returned (.string (str (mskL s.data.toList m))) ∧ Below w.heap.size w w' := by
  have hcv := run_bytes_of_string (P := Tryd.prog) w 9 39 5 s Tryd.underlying9 Tryd.underlying39 Tryd.underlying5
  have hrow := Row.new w s (grownCap w s.size 0 5) 5
  have hb0 : Below w.heap.size w (w.drew.alloc (.cells (bytesRow s (grownCap w s.size 0 5)) 5 ((bytesRow s (grownCap w s.size 0 5)).size, (bytesRow s (grownCap w s.size 0 5)).size + 1))) := ((Below.refl _ _).drew).alloc (Nat.le_refl _) _
  go_enter Tryd.func31, Tryd.ntmps31
  obtain ⟨w1, hw1⟩ : ∃ w1, w1 = w.drew.alloc (.cells (bytesRow s (grownCap w s.size 0 5)) 5 ((bytesRow s (grownCap w s.size 0 5)).size, (bytesRow s (grownCap w s.size 0 5)).size + 1)) := ⟨_, rfl⟩
  rw [← hw1] at hcv hrow hb0
  obtain ⟨cap, hcap⟩ : ∃ c, c = grownCap w s.size 0 5 := ⟨_, rfl⟩
  rw [← hcap] at hcv
  obtain ⟨B, hB⟩ : ∃ B, B = w.heap.size := ⟨_, rfl⟩
  rw [← hB] at hcv hrow hb0 ⊢
  clear hw1 hcap
  have HB : Hid (B = w.heap.size) := hB
  clear hB
  have hml := mskL_len s.data.toList m
  go_wp2
  go_loopw [11] (fun i wr => ∃ (k : Nat), k ≤ s.size ∧ i = .int .i64 k ∧ Row wr B (mid s.data.toList m k) ∧ Below B w wr) (fun i _ => s.size - (intOf i).toNat)
  case atStart => exact ⟨0, by omega, rfl, by rw [mid_none]; exact hrow, hb0⟩
  case round =>
    obtain ⟨k, hk, rfl, hro, hbe⟩ := hrel
    clear hrow hb0 hcv
    by_cases hlt : k < s.size
    · have hll : k < s.data.toList.length := by rw [list_len]; exact hlt
      obtain ⟨x, hx⟩ : ∃ x, x = s.data.toList[k] := ⟨_, rfl⟩
      have hce := hro k x (by rw [hx]; exact mid_at _ _ _ hll)
      have hc1 := hce.1
      have hc2 := hce.2
      have hxl := UInt8.toNat_lt x
      have hmm := UInt8.toNat_lt m
      have hxor : bits .xor .u8 (x.toNat : Int) (m.toNat : Int) = (((x ^^^ m).toNat : Nat) : Int) := by rw [u8_xor_nat _ _ hxl hmm, UInt8.toNat_xor]
      have HN : Hid (Row (wr.setCell ⟨B, k, none⟩ (.int .u8 ((x ^^^ m).toNat : Int))) B (mid s.data.toList m (k + 1))) := by
        have h := hro.set (i := k) (by rw [mid_len]; exact hll) (x ^^^ m)
        rw [hx, mid_next _ _ _ hll, ← hx] at h
        exact h
      obtain ⟨y, hy⟩ : ∃ y, y = (x ^^^ m).toNat := ⟨_, rfl⟩
      rw [← hy] at hxor HN
      clear hx hce hro hxl hmm hy
      go_wp2
      go_roundw
      case rel => exact ⟨k + 1, by omega, by go_num, HN.out, hbe.setCell (p := ⟨B, k, none⟩) (Nat.le_refl _) _⟩
      case measure => simp [intOf]; omega
    · obtain rfl : k = s.size := by omega
      have hcl := hro.conv (P := Tryd.prog) s.size cap (by rw [mid_len, list_len]) 39 9 5 Tryd.underlying39 Tryd.underlying5 Tryd.underlying9
      go_wp2
      go_ret
      exact ⟨ret_str (by rw [← list_len, mid_all]), hbe⟩
end Go.Proofs.YtgdeefcgjaklhabDoor
