/-
  The walks of Word, and of the reference's.
-/
import Derived.Test.YtgnljpcnkmogfaaDoorAid
namespace Go.Proofs.YtgnljpcnkmogfaaDoor
open Go.RowKit

/-- The four bytes of a word. -/
def wbytes (n : Nat) : List UInt8 := [UInt8.ofNat (n / 16777216), UInt8.ofNat (n / 65536 % 256), UInt8.ofNat (n / 256 % 256), UInt8.ofNat (n % 256)]
theorem wbytes_len (n : Nat) : (wbytes n).length = 4 := rfl

theorem wcells {n : Nat} (hn : n < 4294967296) : #[Value.int .u8 ((n : Int) / 16777216), .int .u8 ((n : Int) / 65536 % 256), .int .u8 ((n : Int) / 256 % 256), .int .u8 ((n : Int) % 256)] = (bcells (wbytes n)).toArray := by
  simp only [bcells, wbytes, List.map_cons, List.map_nil]
  rw [u8nat (by omega), u8nat (by omega), u8nat (by omega), u8nat (by omega)]
  rfl

set_option maxHeartbeats 400000 in
set_option maxRecDepth 4000 in
theorem rword_any (b : ByteArray) (n : Nat) (w : World) (hn : n < 4294967296) (hb : b.size ≤ 2251799813685248) :
    Calls Tryd.prog 22 #[.string b, .int .u32 n] w fun e w' => e = .returned (.string (b ++ str (wbytes n))) ∧ Below w.heap.size w w' := by
  go_enter Tryd.func22, Tryd.ntmps22
  have hcv := conv_cells (P := Tryd.prog) w #[.int .u8 ((n : Int) / 16777216), .int .u8 ((n : Int) / 65536 % 256), .int .u8 ((n : Int) / 256 % 256), .int .u8 ((n : Int) % 256)] 4 (wbytes n) (wcells hn) rfl 54 9 5 5 4 Tryd.underlying54 Tryd.underlying5 Tryd.underlying9
  have hsz : b.size + (str (wbytes n)).size ≤ 9223372036854775807 := by rw [str_size, wbytes_len]; omega
  go_wp2
  go_ret
  exact ⟨rfl, (Below.refl _ _).alloc (Nat.le_refl _) _⟩

set_option maxHeartbeats 400000 in
set_option maxRecDepth 4000 in
theorem word_any (b : ByteArray) (n : Nat) (w : World) (hn : n < 4294967296) (hb : b.size ≤ 2251799813685248) :
    Calls Tryd.prog 20 #[.string b, .int .u32 n] w fun e w' => e = .returned (.string (b ++ str (wbytes n))) ∧ Below w.heap.size w w' := by
  obtain ⟨i0, hi, hz0, hz1, hz2⟩ := info_parts Tryd.info5
  go_enter Tryd.func20, Tryd.ntmps20
  go_wp2_with (at_make; refine wpList_make_own _ rfl _ _ 54 rfl w.heap.size 5 i0 (.int .u8 0) 1 Tryd.underlying54 hi hz0 hz1 _ _ _ 4 rfl rfl (by omega) ?b1 ?b2 ?b3 ?_)
  case b1 => omega
  case b2 => decide
  case b3 => exact Nat.le_refl _
  intro w1 hown1 hgrow1
  have hb1 : Below w.heap.size w w1 := (Below.refl _ _).grown hgrow1 (Nat.le_refl _) (by simp)
  go_wp2
  go_loopw [5, 8] (fun v i wr => ∃ k : Nat, k ≤ 4 ∧ i = .int .i64 k ∧ wr.ownsRow w.heap.size 5 1 v k (bcells ((wbytes n).take k)) ∧ Below w.heap.size w wr)
    (fun _ i _ => 4 - (intOf i).toNat)
  case atStart => exact ⟨0, by omega, rfl, hown1, hb1⟩
  case round =>
    obtain ⟨k, hk, rfl, hown, hbel⟩ := hrel
    clear hgrow1 hb1 hown1
    by_cases hlt : k < 4
    · rcases (by omega : k = 0 ∨ k = 1 ∨ k = 2 ∨ k = 3) with rfl | rfl | rfl | rfl
      all_goals
        clear hlt
        go_wp2_with (at_builtin; refine wpList_append_own _ rfl _ _ 54 rfl w.heap.size 5 i0 (.int .u8 0) 1 1 Tryd.underlying54 hi hz0 hz1 hz2 rfl (by decide) _ _ _ rfl (hown.alloc _) ⟨wr.heap.size, 0, none⟩ 1 1 [_] rfl (by kernel_rfl) (new_cell _ _ _) (fun u hu => by simp at hu; subst hu; rfl) (by decide) (by decide) (by have := hbel.size; simp; omega) ?_)
        intro v' w2 hown2 hgrow2 _
        have hb2 := app_step hbel hown hgrow2 (Nat.le_refl _) hbel.size
        clear hown hgrow2 hi hz0 hz1 hz2 hbel
        go_wp2
        go_roundw
        case rel => first | exact ⟨1, by omega, rfl, owns_eq hown2 (by simp [wbytes, bcells]; try omega), hb2⟩ | exact ⟨2, by omega, rfl, owns_eq hown2 (by simp [wbytes, bcells]), hb2⟩ | exact ⟨3, by omega, rfl, owns_eq hown2 (by simp [wbytes, bcells]), hb2⟩ | exact ⟨4, by omega, rfl, owns_eq hown2 (by simp [wbytes, bcells]), hb2⟩
        case measure => simp [intOf]
    · obtain rfl : k = 4 := by omega
      have hcv := conv_owned (P := Tryd.prog) 54 9 5 Tryd.underlying54 Tryd.underlying5 Tryd.underlying9 hown
      rw [List.take_of_length_le (by simp [wbytes_len])] at hcv
      have hsz : b.size + (str (wbytes n)).size ≤ 9223372036854775807 := by rw [str_size, wbytes_len]; omega
      clear hown
      go_wp2
      go_ret
      exact ⟨rfl, hbel⟩
end Go.Proofs.YtgnljpcnkmogfaaDoor
