/-
  The walk of the reference's Put.
-/
import Derived.Test.YtgdeefcgjaklhaaOctPut
namespace Go.Proofs.Ytgdeefcgjaklhaa
open Go.RowKit

set_option maxHeartbeats 400000 in
set_option maxRecDepth 4000 in
theorem rput_any (b : ByteArray) (n : Nat) (w : World) (hn : n < 18446744073709551616) (hb : b.size ≤ 4611686018427387904) :
    Calls Try.prog 37 #[.string b, .int .u64 n] w fun e w' => e = .returned (.string (b ++ str (digs n))) ∧ Below w.heap.size w w' := by
  go_enter Try.func37, Try.ntmps37
  go_wp2
  go_loopw [0, 1] (fun t u wr => ∃ (ds : List UInt8) (m : Nat), t = .string (b ++ str ds) ∧ u = .int .u64 m ∧ m ≤ n ∧ digs n = ds ++ digs m ∧ Below w.heap.size w wr)
    (fun _ u _ => (intOf u).toNat)
  case atStart => exact ⟨[], n, by rw [← str_nil], rfl, Nat.le_refl _, rfl, Below.refl _ _⟩
  case round =>
    obtain ⟨ds, m, rfl, rfl, hm, hd, hbel⟩ := hrel
    have HD : Hid (digs n = ds ++ digs m) := hd
    clear hd
    have hdl : ds.length ≤ 10 := by have := digs_len64 hn; rw [HD.out] at this; simp at this; omega
    have hq : m / 128 ≤ 144115188075855871 := by omega
    have HN : Hid (n < 18446744073709551616) := hn
    have HB : Hid (b.size ≤ 4611686018427387904) := hb
    clear hn hb
    by_cases hlt : 128 ≤ m
    · have hcv := conv_one (P := Try.prog) wr ((m : Int) % 128 + 128) (m % 128 + 128) (by omega) (by omega) 30 9 5 5 1 Try.underlying30 Try.underlying5 Try.underlying9
      obtain ⟨c, hc⟩ : ∃ c : UInt8, c = UInt8.ofNat (m % 128 + 128) := ⟨_, rfl⟩
      rw [← hc] at hcv
      have HC : Hid (c = UInt8.ofNat (m % 128 + 128)) := hc
      clear hc
      have hsz : (b ++ str ds).size + (str [c]).size ≤ 9223372036854775807 := by
        have := HB.out; rw [ByteArray.size_append, str_size, str_size]; simp; omega
      go_wp2
      go_roundw
      case rel => exact ⟨ds ++ [c], m / 128, by rw [str_snoc], by go_num, by omega, by rw [HD.out, digs_big hlt, HC.out]; simp, hbel.alloc hbel.size _⟩
      case measure => simp [intOf]; omega
    · have hcv := conv_one (P := Try.prog) wr (m : Int) m (by omega) (by omega) 30 9 5 5 1 Try.underlying30 Try.underlying5 Try.underlying9
      obtain ⟨c, hc⟩ : ∃ c : UInt8, c = UInt8.ofNat m := ⟨_, rfl⟩
      rw [← hc] at hcv
      have HC : Hid (c = UInt8.ofNat m) := hc
      clear hc
      have hsz : (b ++ str ds).size + (str [c]).size ≤ 9223372036854775807 := by
        have := HB.out; rw [ByteArray.size_append, str_size, str_size]; simp; omega
      go_wp2
      go_ret
      exact ⟨ret_str <| by rw [HD.out, digs_small (by omega), HC.out, str_snoc], hbel.alloc hbel.size _⟩
end Go.Proofs.Ytgdeefcgjaklhaa
