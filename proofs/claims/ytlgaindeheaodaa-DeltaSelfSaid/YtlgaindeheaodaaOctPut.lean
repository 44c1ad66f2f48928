/-
  The walks of Put and of the reference's Put.
-/
import Derived.Test.YtlgaindeheaodaaAid
import Derived.Test.YtlgaindeheaodaaOctPlain
namespace Go.Proofs.Ytlgaindeheaodaa
open Go.RowKit


theorem or128 (m : Nat) : bits .or .u8 ((m : Int) % 256) 128 = ((UInt8.ofNat (m % 128 + 128)).toNat : Int) := by
  have h := u8_or_nat (m % 256) 128 (by omega) (by omega)
  have e : ((m % 256 : Nat) : Int) = (m : Int) % 256 := by omega
  rw [e] at h
  rw [show (128 : Int) = ((128 : Nat) : Int) from rfl, h]
  have : m % 256 ||| 128 = m % 128 + 128 := by
    have h1 : m % 256 ||| 128 = (m % 128) ||| 128 := by
      apply Nat.eq_of_testBit_eq
      intro j
      rw [Nat.testBit_or, Nat.testBit_or, show (256 : Nat) = 2 ^ 8 from rfl, show (128 : Nat) = 2 ^ 7 from rfl, Nat.testBit_mod_two_pow, Nat.testBit_mod_two_pow, Nat.testBit_two_pow]
      by_cases h7 : j = 7
      · subst h7; simp
      · by_cases h8 : j < 7
        · simp [h8, show j < 8 by omega]
        · simp [h8, show ¬ j < 8 by omega]
    rw [h1, Nat.or_comm]
    exact (nat_join 7 128 (m % 128) (by decide) (by omega)).trans (by omega)
  rw [this]
  simp
  omega

set_option maxHeartbeats 400000 in
set_option maxRecDepth 4000 in
theorem put_any (b : ByteArray) (n : Nat) (w : World) (hn : n < 18446744073709551616) (hb : b.size ≤ 4611686018427387904) :
    Calls Try.prog 25 #[.string b, .int .u64 n] w fun e w' => e = .returned (.string (b ++ str (digs n))) ∧ Below w.heap.size w w' := by
  obtain ⟨i0, hi, hz0, hz1, hz2⟩ := info_parts Try.info5
  go_enter Try.func25, Try.ntmps25
  go_wp2_with (at_make; refine wpList_make_own _ rfl _ _ 33 rfl w.heap.size 5 i0 (.int .u8 0) 1 Try.underlying33 hi hz0 hz1 _ _ _ 10 rfl rfl (by omega) ?b1 ?b2 ?b3 ?_)
  case b1 => omega
  case b2 => decide
  case b3 => exact Nat.le_refl _
  intro w1 hown1 hgrow1
  have hb1 : Below w.heap.size w w1 := (Below.refl _ _).grown hgrow1 (Nat.le_refl _) (by simp)
  go_wp2
  go_loopw [1, 5] (fun u v wr => ∃ (ds : List UInt8) (m : Nat), u = .int .u64 m ∧ m ≤ n ∧ digs n = ds ++ digs m ∧ wr.ownsRow w.heap.size 5 1 v ds.length (bcells ds) ∧ Below w.heap.size w wr)
    (fun u _ _ => (intOf u).toNat)
  case atStart => exact ⟨[], n, rfl, Nat.le_refl _, rfl, hown1, hb1⟩
  case round =>
    obtain ⟨ds, m, rfl, hm, hd, hown, hbel⟩ := hrel
    have HD : Hid (digs n = ds ++ digs m) := hd
    clear hd
    have hdl : ds.length ≤ 10 := by have := digs_len64 hn; rw [HD.out] at this; simp at this; omega
    have HN : Hid (n < 18446744073709551616) := hn
    have HB : Hid (b.size ≤ 4611686018427387904) := hb
    clear hn hb hgrow1 hb1 hown1
    by_cases hlt : 128 ≤ m
    · obtain ⟨c, hc⟩ : ∃ c : UInt8, c = UInt8.ofNat (m % 128 + 128) := ⟨_, rfl⟩
      have hor := or128 m
      rw [← hc] at hor
      have HC : Hid (c = UInt8.ofNat (m % 128 + 128)) := hc
      clear hc
      go_wp2_with (at_builtin; refine wpList_append_own _ rfl _ _ 33 rfl w.heap.size 5 i0 (.int .u8 0) 1 1 Try.underlying33 hi hz0 hz1 hz2 rfl (by decide) _ _ _ rfl (hown.alloc _) ⟨wr.heap.size, 0, none⟩ 1 1 (bcells [c]) rfl rfl ?c1 ?c2 ?c3 ?c4 ?c5 ?_)
      case c1 =>
        intro j u hj
        match j, hj with
        | 0, hj => simp [bcells] at hj; subst hj; simp [Addr.add]
      case c2 => exact bcells_one _
      case c3 => unfold maxLen; omega
      case c4 => omega
      case c5 => have := hbel.size; simp; omega
      · intro v' w2 hown2 hgrow2 _
        have hb2 := app_step hbel hown hgrow2 (Nat.le_refl _) hbel.size
        clear hown hor hgrow2
        go_wp2
        go_roundw
        case rel => exact ⟨ds ++ [c], m / 128, by go_num, by omega, by rw [HD.out, digs_big hlt, HC.out]; simp, by rw [bcells_append]; simpa using hown2, hb2⟩
        case measure => simp [intOf]; omega
    · go_wp2_with (at_builtin; refine wpList_append_own _ rfl _ _ 33 rfl w.heap.size 5 i0 (.int .u8 0) 1 1 Try.underlying33 hi hz0 hz1 hz2 rfl (by decide) _ _ _ rfl (hown.alloc _) ⟨wr.heap.size, 0, none⟩ 1 1 [.int .u8 (m : Int)] rfl rfl ?d1 ?d2 ?d3 ?d4 ?d5 ?_)
      case d1 => exact new_cell _ _ _
      case d2 => intro u hu; simp at hu; subst hu; rfl
      case d3 => unfold maxLen; omega
      case d4 => omega
      case d5 => have := hbel.size; simp; omega
      · intro v' w2 hown2 hgrow2 _
        have hb2 := app_step hbel hown hgrow2 (Nat.le_refl _) hbel.size
        have e1 : bcells ds ++ [Value.int .u8 (m : Int)] = bcells (digs n) := by
          rw [HD.out, digs_small (by omega), bcells_append]
          have : (UInt8.ofNat m).toNat = m := by simp; omega
          simp [bcells, this]
        rw [e1] at hown2
        have hcv := conv_owned (P := Try.prog) 33 9 5 Try.underlying33 Try.underlying5 Try.underlying9 hown2
        have hsz : b.size + (str (digs n)).size ≤ 9223372036854775807 := by
          have := digs_len64 HN.out; have := HB.out; rw [str_size]; omega
        clear hown hown2 e1 hgrow2
        go_wp2
        go_ret
        exact ⟨rfl, hb2⟩
end Go.Proofs.Ytlgaindeheaodaa
