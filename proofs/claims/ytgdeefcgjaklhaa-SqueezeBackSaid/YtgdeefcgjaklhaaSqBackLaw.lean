/-
  The walk of the law SqueezeBack.
-/
import Derived.Test.YtgdeefcgjaklhaaSqLives
import Derived.Test.YtgdeefcgjaklhaaSqCutPlain
namespace Go.Proofs.Ytgdeefcgjaklhaa
open Go.RowKit

/-- A row of one byte as a string. -/
theorem conv_byte (w : World) (y : UInt8) : (convert 30 9 (.slice (some ⟨w.heap.size, 0, none⟩) 1 1)).run Try.prog (w.alloc (.cells #[.int .u8 (y.toNat : Int)] 5)) = .ok (.string (str [y])) (w.alloc (.cells #[.int .u8 (y.toNat : Int)] 5)) := by
  refine conv_owned (P := Try.prog) (base := 0) (n := 1) 30 9 5 Try.underlying30 Try.underlying5 Try.underlying9 ⟨rfl, .inr ⟨w.heap.size, 1, _, rfl, Nat.zero_le _, heap_alloc_new w _, Nat.le_refl _, by decide, rfl, rfl⟩⟩

set_option maxHeartbeats 2000000 in
set_option maxRecDepth 4000 in
theorem sqBack_walk (s : ByteArray) (cut x : Int) (W : World) (hx : (Lit.int .u8 x).wf = true) : Calls Try.prog 5 #[.string s, .int .i64 cut, .int .u8 x] W fun e W' => e = .returned (.bool true) ∧ Below W.heap.size W W' := by
  obtain ⟨y, rfl⟩ : ∃ y : UInt8, x = (y.toNat : Int) := by
    simp [Lit.wf, IntKind.min, IntKind.max, IntKind.signed, IntKind.bits] at hx
    exact ⟨UInt8.ofNat x.toNat, by simp; omega⟩
  clear hx
  have hb0 := Below.refl W.heap.size W
  by_cases h1 : 3000 < s.size
  · go_enter Try.func5, Try.ntmps5
    go_wp2_with (go_at_call 14; ((with_reducible refine (lives_inv hb0).mono ?_); rintro e w' ⟨rfl, hi⟩))
    go_ret
    exact ⟨rfl, hi⟩
  · have hll := list_len s
    obtain ⟨P, hP⟩ : ∃ P, P = str (pressed s.data.toList) := ⟨_, rfl⟩
    have hPl : P.data.toList = pressed s.data.toList := by rw [hP, str_list]
    have hPs : P.size ≤ 4000 := by
      rw [hP, str_size]
      have := pressed_len s.data.toList (by omega)
      omega
    have hs64 : s.data.toList.length < 18446744073709551616 := by omega
    have HC : Hid (∀ W, Calls Try.prog 15 #[.string s] W fun e w' => e = .returned (.string P) ∧ Below W.heap.size W w') := fun W => by rw [hP]; exact compress_any s W (by omega)
    have hd1 := dec_pressed P s.data.toList [] (by rw [hPl, List.append_nil]) hs64
    rw [if_pos rfl, hll] at hd1
    have HD1 : Hid (∀ W, Calls Try.prog 18 #[.string P, .int .i64 s.size] W fun e w' => e = .returned (.tuple #[.string s, .int .i64 0]) ∧ Below W.heap.size W w') := fun W =>
      (decompress_any P s.size W (by omega) (by omega) (by omega)).mono fun _ _ r => ⟨by rw [r.1, hd1]; rfl, r.2⟩
    have hd2 := dec_less P s.data.toList [] (by rw [hPl, List.append_nil]) hs64
    rw [hll] at hd2
    have HD2 : Hid (∀ W, Calls Try.prog 18 #[.string P, .int .i64 ((s.size : Int) - 1)] W fun e w' => e = .returned (.tuple #[.string { data := #[] }, .int .i64 4]) ∧ Below W.heap.size W w') := fun W =>
      (decompress_any P ((s.size : Int) - 1) W (by omega) (by omega) (by omega)).mono fun _ _ r => ⟨by rw [r.1, hd2]; rfl, r.2⟩
    obtain ⟨B, hB⟩ : ∃ B, B = str [y] := ⟨_, rfl⟩
    have hBs : B.size = 1 := by rw [hB, str_size]; rfl
    have hd3 := dec_pressed (P ++ B) s.data.toList [y] (by rw [app_list, hPl, hB, str_list]) hs64
    rw [if_neg (by simp), hll] at hd3
    have HD3 : Hid (∀ W, Calls Try.prog 18 #[.string (P ++ B), .int .i64 s.size] W fun e w' => e = .returned (.tuple #[.string { data := #[] }, .int .i64 2]) ∧ Below W.heap.size W w') := fun W =>
      (decompress_any (P ++ B) s.size W (by rw [ByteArray.size_append]; omega) (by omega) (by omega)).mono fun _ _ r => ⟨by rw [r.1, hd3]; rfl, r.2⟩
    have HCB : Hid (∀ w : World, (convert 30 9 (.slice (some ⟨w.heap.size, 0, none⟩) 1 1)).run Try.prog (w.alloc (.cells #[.int .u8 (y.toNat : Int)] 5)) = .ok (.string B) (w.alloc (.cells #[.int .u8 (y.toNat : Int)] 5))) := fun w => by rw [hB]; exact conv_byte w y
    have i1 : IntKind.i64.wrap ((s.size : Int) - 1) = (s.size : Int) - 1 := IntWalk.i64_in _ (by omega)
    have hsum : P.size + B.size ≤ 4001 := by omega
    by_cases hc : 0 ≤ cut ∧ cut < P.size
    · obtain ⟨c, rfl⟩ := Int.eq_ofNat_of_zero_le hc.1
      have hcP : c < P.size := by omega
      have hd4 := dec_cut (P.extract 0 c) s.data.toList c (by rw [ext_bytes, hPl]; simp) (by rw [← hPl, list_len]; exact hcP) hs64
      rw [hll] at hd4
      have HD4 : Hid (∀ W, Calls Try.prog 18 #[.string (P.extract 0 c), .int .i64 s.size] W fun e w' => e = .returned (.tuple #[.string { data := #[] }, .int .i64 3]) ∧ Below W.heap.size W w') := fun W =>
        (decompress_any (P.extract 0 c) s.size W (by rw [ByteArray.size_extract]; omega) (by omega) (by omega)).mono fun _ _ r => ⟨by rw [r.1, hd4]; rfl, r.2⟩
      clear hc hd1 hd2 hd3 hd4 hP hPl hB hBs hs64 hll
      go_enter Try.func5, Try.ntmps5
      go_wp2_with (first
        | (go_at_call 15; ((with_reducible refine (HC.out _).mono ?_); rintro e w1 ⟨rfl, hb1⟩))
        | (go_at_call 18; first
          | ((with_reducible refine (HD1.out _).mono ?_); rintro e w2 ⟨rfl, hb2⟩; have g2 := hb1.trans (hb2.mono hb1.size))
          | ((with_reducible refine (HD2.out _).mono ?_); rintro e w3 ⟨rfl, hb3⟩; have g3 := g2.trans (hb3.mono g2.size); have hcv := HCB.out w3; have g3a := g3.alloc g3.size (.cells #[.int .u8 (y.toNat : Int)] 5))
          | ((with_reducible refine (HD3.out _).mono ?_); rintro e w4 ⟨rfl, hb4⟩; have g4 := g3a.trans (hb4.mono g3a.size))
          | ((with_reducible refine (HD4.out _).mono ?_); rintro e w5 ⟨rfl, hb5⟩; have g5 := g4.trans (hb5.mono g4.size)))
        | (go_at_call 14; ((with_reducible refine (lives_inv g5).mono ?_); rintro e w' ⟨rfl, hi⟩)))
      go_ret
      exact ⟨rfl, hi⟩
    · by_cases hneg : cut < 0
      · clear hc hd1 hd2 hd3 hP hPl hB hBs hs64 hll
        go_enter Try.func5, Try.ntmps5
        go_wp2_with (first
          | (go_at_call 15; ((with_reducible refine (HC.out _).mono ?_); rintro e w1 ⟨rfl, hb1⟩))
          | (go_at_call 18; first
            | ((with_reducible refine (HD1.out _).mono ?_); rintro e w2 ⟨rfl, hb2⟩; have g2 := hb1.trans (hb2.mono hb1.size))
            | ((with_reducible refine (HD2.out _).mono ?_); rintro e w3 ⟨rfl, hb3⟩; have g3 := g2.trans (hb3.mono g2.size); have hcv := HCB.out w3; have g3a := g3.alloc g3.size (.cells #[.int .u8 (y.toNat : Int)] 5))
            | ((with_reducible refine (HD3.out _).mono ?_); rintro e w4 ⟨rfl, hb4⟩; have g4 := g3a.trans (hb4.mono g3a.size)))
          | (go_at_call 14; ((with_reducible refine (lives_inv g4).mono ?_); rintro e w' ⟨rfl, hi⟩)))
        go_ret
        exact ⟨rfl, hi⟩
      · obtain ⟨c, rfl⟩ := Int.eq_ofNat_of_zero_le (by omega : 0 ≤ cut)
        have hcP : P.size ≤ c := by omega
        clear hc hneg hd1 hd2 hd3 hP hPl hB hBs hs64 hll
        go_enter Try.func5, Try.ntmps5
        go_wp2_with (first
          | (go_at_call 15; ((with_reducible refine (HC.out _).mono ?_); rintro e w1 ⟨rfl, hb1⟩))
          | (go_at_call 18; first
            | ((with_reducible refine (HD1.out _).mono ?_); rintro e w2 ⟨rfl, hb2⟩; have g2 := hb1.trans (hb2.mono hb1.size))
            | ((with_reducible refine (HD2.out _).mono ?_); rintro e w3 ⟨rfl, hb3⟩; have g3 := g2.trans (hb3.mono g2.size); have hcv := HCB.out w3; have g3a := g3.alloc g3.size (.cells #[.int .u8 (y.toNat : Int)] 5))
            | ((with_reducible refine (HD3.out _).mono ?_); rintro e w4 ⟨rfl, hb4⟩; have g4 := g3a.trans (hb4.mono g3a.size)))
          | (go_at_call 14; ((with_reducible refine (lives_inv g4).mono ?_); rintro e w' ⟨rfl, hi⟩)))
        go_ret
        exact ⟨rfl, hi⟩
end Go.Proofs.Ytgdeefcgjaklhaa
