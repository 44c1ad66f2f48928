/-
  The walk of the law SimilBest.
-/
import Derived.Test.YtddcogcjmmjpkaaSmTellsLaw
namespace Go.Proofs.Ytddcogcjmmjpkaa
open Go.RowKit Go.Maps Go.WideMaps

/-- What the law over a list of strings is handed. -/
structure SmArg (W : World) (p : Option Addr) (ls : List (List UInt8)) (n : Nat) : Prop where
  len : n = ls.length
  row : SRw W p ls
  few : n ≤ 8796093022208
  short : ∀ x ∈ ls, x.length ≤ 281474976710656

theorem best_inv {W w : World} (h : Below W.heap.size W w) (a : ByteArray) (ls : List (List UInt8)) (p : Option Addr) (c n : Nat) (i : Int) (s : Nat) (ha : a.size ≤ 1048576) (hn : n = ls.length) (hp : SRw W p ls) (hl : n ≤ 1048576) (hx : ∀ x ∈ ls, x.length ≤ 1048576) (hR : (i, s) = bst (-1) 0 0 (scores a ls)) :
    Calls Try.prog 29 #[.string a, .slice p n c] w fun e w' => e = .returned (.tuple #[.int .i64 i, .int .i64 s]) ∧ Below W.heap.size W w' := (best_any a ls p c n (i, s) w ha hn (hp.below h) hl hx hR).mono fun _ _ x => ⟨x.1, h.trans (x.2.mono h.size)⟩
theorem rbest_inv {W w : World} (h : Below W.heap.size W w) (a : ByteArray) (ls : List (List UInt8)) (p : Option Addr) (c n : Nat) (i : Int) (s : Nat) (ha : a.size ≤ 1048576) (hn : n = ls.length) (hp : SRw W p ls) (hl : n ≤ 1048576) (hx : ∀ x ∈ ls, x.length ≤ 1048576) (hR : (i, s) = bst (-1) 0 0 (scores a ls)) :
    Calls Try.prog 30 #[.string a, .slice p n c] w fun e w' => e = .returned (.tuple #[.int .i64 i, .int .i64 s]) ∧ Below W.heap.size W w' := (rbest_any a ls p c n (i, s) w ha hn (hp.below h) hl hx hR).mono fun _ _ x => ⟨x.1, h.trans (x.2.mono h.size)⟩

set_option maxHeartbeats 4000000 in
set_option maxRecDepth 8000 in
theorem smBest_walk (a : ByteArray) (p : Option Addr) (cap n : Nat) (ls : List (List UInt8)) (W : World) (hh : SmArg W p ls n) : Calls Try.prog 6 #[.string a, .slice p n cap] W fun e W' => e = .returned (.bool true) ∧ Below W.heap.size W W' := by
  have hb0 := Below.refl W.heap.size W
  have hn0 := hh.few
  have HH := Lib.hid hh
  clear hh
  rcases hfa : fewB a with _ | _
  · have HFA := Lib.hid hfa.symm
    clear hfa
    go_enter Try.func6, Try.ntmps6
    go_wp2_with (first
      | (go_at_call 21; ((with_reducible refine (few_inv (by assumption) a false HFA.out).mono ?_); rintro e w' ⟨rfl, hi⟩))
      | (go_at_call 22; ((with_reducible refine (lives_inv (by assumption)).mono ?_); rintro e w' ⟨rfl, hi⟩)))
    go_ret
    exact ⟨rfl, by assumption⟩
  have hsa := few_size hfa
  have HFA := Lib.hid hfa.symm
  clear hfa
  by_cases h12 : 12 < n
  · have d1 : decide ((12 : Int) < (n : Int)) = true := decide_eq_true (by omega)
    go_enter Try.func6, Try.ntmps6
    go_wp2_with (first
      | (go_at_call 21; ((with_reducible refine (few_inv (by assumption) a true HFA.out).mono ?_); rintro e w' ⟨rfl, hi⟩))
      | (go_at_call 22; ((with_reducible refine (lives_inv (by assumption)).mono ?_); rintro e w' ⟨rfl, hi⟩)))
    go_ret
    exact ⟨rfl, by assumption⟩
  have d1 : decide ((12 : Int) < (n : Int)) = false := decide_eq_false (by omega)
  have hn12 : n ≤ 12 := by omega
  clear hn0 h12
  go_enter Try.func6, Try.ntmps6
  go_wp2_with (go_at_call 21; ((with_reducible refine (few_inv (by assumption) a true HFA.out).mono ?_); rintro e w1 ⟨rfl, hi1⟩))
  have HI1 := Lib.hid hi1
  clear hi1 d1
  go_loopw [21] (fun iv wr => ∃ i : Nat, i ≤ n ∧ iv = .int .i64 i ∧ Hid (Below W.heap.size W wr) ∧ Hid (∀ j (hj : j < ls.length), j < i → fewB (str ls[j]) = true)) (fun iv _ => n - (intOf iv).toNat)
  case atStart => exact ⟨0, by omega, rfl, HI1.out, fun j _ h => absurd h (Nat.not_lt_zero _)⟩
  case round =>
    clear HI1
    obtain ⟨i, hi, rfl, HB, HF⟩ := hrel
    have hbw := HB.out
    by_cases hlt : i < n
    · have hil : i < ls.length := by rw [← HH.out.len]; exact hlt
      obtain ⟨g, o, rfl, hg, a0⟩ := (HH.out.row.below hbw) i hil
      have hnx : ∀ (_ : fewB (str ls[i]) = true) j (hj : j < ls.length), j < i + 1 → fewB (str ls[j]) = true := fun h j hj hji => by
        rcases Nat.lt_or_ge j i with hl | hge
        · exact HF.out j hj hl
        · have e : j = i := by omega
          subst e
          exact h
      obtain ⟨t, ht⟩ : ∃ t, t = str ls[i] := ⟨_, rfl⟩
      rw [← ht] at a0 hnx
      rcases hft : fewB t with _ | _
      · have HFT := Lib.hid hft.symm
        clear hft hnx ht hg hil HF
        go_wp2_with (first
          | (go_at_call 21; ((with_reducible refine (few_inv (by assumption) t false HFT.out).mono ?_); rintro e w' ⟨rfl, hi⟩))
          | (go_at_call 22; ((with_reducible refine (lives_inv (by assumption)).mono ?_); rintro e w' ⟨rfl, hi⟩)))
        go_ret
        exact ⟨rfl, by assumption⟩
      · have HFT := Lib.hid hft.symm
        have HNX := Lib.hid (hnx hft)
        clear hft hnx ht hg hil HF
        go_wp2_with (go_at_call 21; ((with_reducible refine (few_inv (by assumption) t true HFT.out).mono ?_); rintro e w2 ⟨rfl, hi2⟩; have HI2 := Lib.hid hi2; clear hi2))
        go_roundw
        case rel => exact ⟨i + 1, by omega, by go_num, HI2, HNX⟩
        case measure => simp [intOf]; omega
    · obtain rfl : i = n := by omega
      have hxs : ∀ x ∈ ls, x.length ≤ 1048576 := fun x hx => by
        obtain ⟨j, hj, rfl⟩ := List.getElem_of_mem hx
        have := few_size (HF.out j hj (by rw [HH.out.len]; exact hj))
        rw [str_size] at this
        omega
      obtain ⟨⟨z, s⟩, hR⟩ : ∃ R, R = bst (-1) 0 0 (scores a ls) := ⟨_, rfl⟩
      have HX := Lib.hid hxs
      have HR := Lib.hid hR
      clear HF hxs hR
      go_wp2_with (first
        | (go_at_call 29; ((with_reducible refine (best_inv (by assumption) a ls p cap i z s (by omega) HH.out.len HH.out.row (by omega) HX.out HR.out).mono ?_); rintro e w' ⟨rfl, hi⟩))
        | (go_at_call 30; ((with_reducible refine (rbest_inv (by assumption) a ls p cap i z s (by omega) HH.out.len HH.out.row (by omega) HX.out HR.out).mono ?_); rintro e w' ⟨rfl, hi⟩))
        | (go_at_call 22; ((with_reducible refine (lives_inv (by assumption)).mono ?_); rintro e w' ⟨rfl, hi⟩)))
      go_ret
      exact ⟨rfl, by assumption⟩
end Go.Proofs.Ytddcogcjmmjpkaa
