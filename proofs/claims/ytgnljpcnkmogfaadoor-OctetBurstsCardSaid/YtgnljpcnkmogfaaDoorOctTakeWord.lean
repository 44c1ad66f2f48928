/-
  The walks of TakeWord.
-/
import Derived.Test.YtgnljpcnkmogfaaDoorOctTake
import Derived.IntWalk
import Derived.BigQuiet
import Derived.Deep.QuietTactic
namespace Go.Proofs.YtgnljpcnkmogfaaDoor
open Go.RowKit

/-- The number that bytes make, the most significant first. -/
def be (l : List UInt8) : Nat := l.foldl (fun a c => a * 256 + c.toNat) 0
theorem be_snoc (l : List UInt8) (c : UInt8) : be (l ++ [c]) = be l * 256 + c.toNat := by simp [be]
theorem be_lt : ∀ (n : Nat) (l : List UInt8), l.length = n → be l < 256 ^ n
  | 0, l, h => by rw [List.eq_nil_of_length_eq_zero h]; decide
  | n + 1, l, h => by
    have hne : l ≠ [] := by intro e; subst e; simp at h
    rw [← List.dropLast_concat_getLast hne, be_snoc]
    have := be_lt n l.dropLast (by simp [h])
    have := UInt8.toNat_lt (l.getLast hne)
    rw [Nat.pow_succ]
    omega

/-- What TakeWord answers. -/
def takeWord (s : ByteArray) (p : Int) : Nat × Int × Nat :=
  if p < 0 ∨ (s.size : Int) < p then (0, 0, 1) else if (s.size : Int) < p + 4 then (0, 0, 3) else (be ((s.data.toList.drop p.toNat).take 4), p + 4, 0)
theorem takeWord_out {s : ByteArray} {p : Int} (h : p < 0 ∨ (s.size : Int) < p) : takeWord s p = (0, 0, 1) := by unfold takeWord; rw [if_pos h]
theorem takeWord_few {s : ByteArray} {p : Nat} (h1 : p ≤ s.size) (h2 : s.size < p + 4) : takeWord s p = (0, 0, 3) := by unfold takeWord; rw [if_neg (by omega), if_pos (by omega)]
theorem takeWord_ok {s : ByteArray} {p : Nat} (h2 : p + 4 ≤ s.size) : takeWord s p = (be ((s.data.toList.drop p).take 4), (p : Int) + 4, 0) := by
  unfold takeWord; rw [if_neg (by omega), if_neg (by omega)]; simp
theorem take_next {s : ByteArray} {p k : Nat} (h : p + k < s.size) : (s.data.toList.drop p).take (k + 1) = (s.data.toList.drop p).take k ++ [s[p + k]] := by
  have hl : k < (s.data.toList.drop p).length := by rw [List.length_drop, list_len]; omega
  rw [List.take_succ_eq_append_getElem hl]
  simp [List.getElem_drop]
  rfl

theorem word_or {n c : Nat} (hn : n < 16777216) (hc : c < 256) : bits .or .u32 ((n : Int) * 256) (c : Int) = ((n * 256 + c : Nat) : Int) := by
  rw [show ((n : Int) * 256) = ((n * 256 : Nat) : Int) by omega, u32_or_nat (n * 256) c (by omega) (by omega), nat_join 8 (n * 256) c (by omega) (by omega)]

set_option maxHeartbeats 400000 in
set_option maxRecDepth 4000 in
theorem takeWord_in (s : ByteArray) (p : Nat) (w : World) (hs : s.size ≤ 4611686018427387904) (hp : p + 4 ≤ s.size) :
    Calls Tryd.prog 15 #[.string s, .int .i64 p] w fun e w' => e = .returned (.tuple #[.int .u32 (be ((s.data.toList.drop p).take 4)), .int .i64 ((p : Int) + 4), .int .i64 0]) ∧ w = w' := by
  have hpn : decide ((p : Int) < 0) = false := by simp
  have hpn2 : decide (s.size < p) = false := by simp; omega
  go_enter Tryd.func15, Tryd.ntmps15
  go_wp2
  go_loop [7, 22] (fun n i => ∃ k : Nat, k ≤ 4 ∧ i = .int .i64 k ∧ n = .int .u32 (be ((s.data.toList.drop p).take k))) (fun _ i => 10 - (intOf i).toNat)
  case atStart => exact ⟨0, by omega, rfl, rfl⟩
  case round =>
    obtain ⟨k, hk, rfl, rfl⟩ := hrel
    obtain ⟨n, hn⟩ : ∃ n, n = be ((s.data.toList.drop p).take k) := ⟨_, rfl⟩
    rw [← hn]
    have HN : Hid (n = be ((s.data.toList.drop p).take k)) := hn
    clear hn
    by_cases hlt : k < 4
    · have hin : p + k < s.size := by omega
      have hb := UInt8.toNat_lt s[p + k]
      have hnl : n < 16777216 := by
        have h1 := be_lt k ((s.data.toList.drop p).take k) (by rw [List.length_take, List.length_drop, list_len]; omega)
        have h2 : 256 ^ k ≤ 256 ^ 3 := Nat.pow_le_pow_right (by decide) (by omega)
        rw [HN.out]; omega
      go_wp2
      go_round
      case rel => exact ⟨k + 1, by omega, by go_num, val_int (by rw [word_or hnl hb, take_next hin, be_snoc, HN.out])⟩
      case measure => simp [intOf]; omega
    · obtain rfl : k = 4 := by omega
      go_wp2
      go_ret3
      exact ⟨ret_iii (by rw [HN.out]) rfl rfl, rfl⟩

theorem takeWord_any (s : ByteArray) (p : Int) (w : World) (hs : s.size ≤ 4611686018427387904) :
    Calls Tryd.prog 15 #[.string s, .int .i64 p] w fun e w' => e = .returned (.tuple #[.int .u32 (takeWord s p).1, .int .i64 (takeWord s p).2.1, .int .i64 (takeWord s p).2.2]) ∧ w = w' := by
  by_cases h1 : p < 0
  · rw [takeWord_out (.inl h1)]
    go_enter Tryd.func15, Tryd.ntmps15
    go_wp2
    go_ret3
    exact ⟨rfl, rfl⟩
  · by_cases h2 : (s.size : Int) < p
    · rw [takeWord_out (.inr h2)]
      go_enter Tryd.func15, Tryd.ntmps15
      go_wp2
      go_ret3
      exact ⟨rfl, rfl⟩
    · obtain ⟨q, rfl⟩ := Int.eq_ofNat_of_zero_le (by omega : 0 ≤ p)
      by_cases h3 : s.size < q + 4
      · rw [takeWord_few (by omega) h3]
        go_enter Tryd.func15, Tryd.ntmps15
        go_wp2
        go_ret3
        exact ⟨rfl, rfl⟩
      · rw [takeWord_ok (by omega)]
        exact takeWord_in s q w hs (by omega)

theorem word_sum {s : ByteArray} {p : Nat} (hp : p + 4 ≤ s.size) :
    ((s[p].toNat : Int) * 16777216 + (s[p + 1].toNat : Int) * 65536 + (s[p + 2].toNat : Int) * 256 + (s[p + 3].toNat : Int)) = ((be ((s.data.toList.drop p).take 4) : Nat) : Int) := by
  have h2 : s.data.toList.drop (p + 1 + 1) = s[p + 2] :: s.data.toList.drop (p + 3) := drop_byte s (p + 2) (by omega)
  rw [drop_byte s p (by omega), drop_byte s (p + 1) (by omega), h2, drop_byte s (p + 3) (by omega)]
  simp [be]
  omega

set_option maxHeartbeats 400000 in
set_option maxRecDepth 4000 in
theorem rtakeWord_in (s : ByteArray) (p : Nat) (w : World) (hs : s.size ≤ 4611686018427387904) (hp : p + 4 ≤ s.size) :
    Calls Tryd.prog 16 #[.string s, .int .i64 p] w fun e w' => e = .returned (.tuple #[.int .u32 (be ((s.data.toList.drop p).take 4)), .int .i64 ((p : Int) + 4), .int .i64 0]) ∧ Below w.heap.size w w' := by
  have hpn : decide ((p : Int) < 0) = false := by simp
  have hpn2 : decide (s.size < p) = false := by simp; omega
  have b0 := UInt8.toNat_lt s[p]
  have b1 := UInt8.toNat_lt s[p + 1]
  have b2 := UInt8.toNat_lt s[p + 2]
  have b3 := UInt8.toNat_lt s[p + 3]
  have q0 : (0 : Int) ≤ p := by omega
  have q1 : (p : Int) < s.size := by omega
  have q2 : (p : Int) + 1 < s.size := by omega
  have q3 : (p : Int) + 2 < s.size := by omega
  have q4 : (p : Int) + 3 < s.size := by omega
  go_enter Tryd.func16, Tryd.ntmps16
  go_wp2
  have r1 : IntKind.i64.wrap ((p : Int) + 1) = (p : Int) + 1 := IntWalk.i64_in _ (by omega)
  have r2 : IntKind.i64.wrap ((p : Int) + 2) = (p : Int) + 2 := IntWalk.i64_in _ (by omega)
  have r3 : IntKind.i64.wrap ((p : Int) + 3) = (p : Int) + 3 := IntWalk.i64_in _ (by omega)
  have r4 : IntKind.i64.wrap ((p : Int) + 4) = (p : Int) + 4 := IntWalk.i64_in _ (by omega)
  have z1 : (0 : Int) ≤ (p : Int) + 1 := by omega
  have z2 : (0 : Int) ≤ (p : Int) + 2 := by omega
  have z3 : (0 : Int) ≤ (p : Int) + 3 := by omega
  have t1 : ((p : Int) + 1).toNat = p + 1 := by omega
  have t2 : ((p : Int) + 2).toNat = p + 2 := by omega
  have t3 : ((p : Int) + 3).toNat = p + 3 := by omega
  go_quiet (fail)
  clear r1 r2 r3 r4
  go_wp2
  go_ret3
  exact ⟨ret_iii (word_sum hp) rfl rfl, below_drewN (Below.refl _ _) _⟩

theorem rtakeWord_any (s : ByteArray) (p : Int) (w : World) (hs : s.size ≤ 4611686018427387904) :
    Calls Tryd.prog 16 #[.string s, .int .i64 p] w fun e w' => e = .returned (.tuple #[.int .u32 (takeWord s p).1, .int .i64 (takeWord s p).2.1, .int .i64 (takeWord s p).2.2]) ∧ Below w.heap.size w w' := by
  by_cases h1 : p < 0
  · rw [takeWord_out (.inl h1)]
    go_enter Tryd.func16, Tryd.ntmps16
    go_wp2
    go_ret3
    exact ⟨rfl, Below.refl _ _⟩
  · by_cases h2 : (s.size : Int) < p
    · rw [takeWord_out (.inr h2)]
      go_enter Tryd.func16, Tryd.ntmps16
      go_wp2
      go_ret3
      exact ⟨rfl, Below.refl _ _⟩
    · obtain ⟨q, rfl⟩ := Int.eq_ofNat_of_zero_le (by omega : 0 ≤ p)
      by_cases h3 : s.size < q + 4
      · rw [takeWord_few (by omega) h3]
        go_enter Tryd.func16, Tryd.ntmps16
        go_wp2
        go_ret3
        exact ⟨rfl, Below.refl _ _⟩
      · rw [takeWord_ok (by omega)]
        exact rtakeWord_in s q w hs (by omega)
end Go.Proofs.YtgnljpcnkmogfaaDoor
