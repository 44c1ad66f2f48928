/-
  The walk of the law SqueezeFew.
-/
import Derived.Test.YthfnnbeaggkhkaaSqLives
import Derived.Test.YthfnnbeaggkhkaaSqFewPlain
namespace Go.Proofs.Ythfnnbeaggkhkaa
open Go.RowKit

theorem rep_snoc (c : UInt8) (k : Nat) : List.replicate k c ++ [c] = List.replicate (k + 1) c := by rw [List.replicate_succ']

set_option maxHeartbeats 4000000 in
set_option maxRecDepth 4000 in
theorem sqFew_walk (c n : Int) (s : ByteArray) (W : World) (hc : (Lit.int .u8 c).wf = true) (hn : (Lit.int .u16 n).wf = true) : Calls Try.prog 6 #[.int .u8 c, .int .u16 n, .string s] W fun e W' => e = .returned (.bool true) ∧ Below W.heap.size W W' := by
  obtain ⟨y, rfl⟩ : ∃ y : UInt8, c = (y.toNat : Int) := by
    simp [Lit.wf, IntKind.min, IntKind.max, IntKind.signed, IntKind.bits] at hc
    exact ⟨UInt8.ofNat c.toNat, by simp; omega⟩
  obtain ⟨n, rfl, hn2⟩ : ∃ m : Nat, n = (m : Int) ∧ m ≤ 65535 := by
    simp [Lit.wf, IntKind.min, IntKind.max, IntKind.signed, IntKind.bits] at hn
    exact ⟨n.toNat, by omega, by omega⟩
  clear hc hn
  have hb0 := Below.refl W.heap.size W
  by_cases h1 : 1500 < s.size
  · go_enter Try.func6, Try.ntmps6
    go_wp2_with (go_at_call 14; ((with_reducible refine (lives_inv hb0).mono ?_); rintro e w' ⟨rfl, hi⟩))
    go_ret
    exact ⟨rfl, hi⟩
  · have hll := list_len s
    obtain ⟨i0, hi, hz0, hz1, hz2⟩ := info_parts Try.info5
    obtain ⟨M, hM⟩ : ∃ M, M = n % 3000 := ⟨_, rfl⟩
    have hM3 : M < 3000 := by omega
    have i1 : IntKind.i64.wrap (n : Int) = (n : Int) := IntWalk.i64_in _ (by omega)
    have i2 : (n : Int) % 3000 = (M : Int) := by omega
    have i3 : Int.tmod (n : Int) 3000 = (M : Int) := by rw [Int.tmod_eq_emod_of_nonneg (by omega)]; exact i2
    obtain ⟨T, hT⟩ : ∃ T, T = str (List.replicate M y) := ⟨_, rfl⟩
    have hTl : T.data.toList = List.replicate M y := by rw [hT, str_list]
    have hTs : T.size = M := by rw [hT, str_size, List.length_replicate]
    obtain ⟨P, hP⟩ : ∃ P, P = str (pressed T.data.toList) := ⟨_, rfl⟩
    have HC : Hid (∀ W, Calls Try.prog 15 #[.string T] W fun e w' => e = .returned (.string P) ∧ Below W.heap.size W w') := fun W => by rw [hP]; exact compress_any T W (by omega)
    have HP : Hid (5 ≤ M → (P.size : Int) ≤ 16 + (M : Int) / 64) := fun h5 => by
      rw [hP, hTl, str_size]
      have := few_run y M h5 hM3
      omega
    obtain ⟨Q, hQ⟩ : ∃ Q, Q = str (pressed (s ++ s).data.toList) := ⟨_, rfl⟩
    obtain ⟨B, hB⟩ : ∃ B, B = bnd s.size := ⟨_, rfl⟩
    have HQ : Hid (∀ W, Calls Try.prog 15 #[.string (s ++ s)] W fun e w' => e = .returned (.string Q) ∧ Below W.heap.size W w') := fun W => by rw [hQ]; exact compress_any (s ++ s) W (by rw [ByteArray.size_append]; omega)
    have HB : Hid (∀ W, Calls Try.prog 17 #[.int .i64 s.size] W fun e w' => e = .returned (.int .i64 B) ∧ W = w') := fun W => by rw [hB]; exact bound_nat s.size W (by omega)
    have HQB : Hid (4 ≤ s.size → (Q.size : Int) ≤ (B : Int) + 4 * ((s.size : Int) / 258 + 2)) := fun h4 => by
      rw [hQ, hB, str_size, app_list]
      have := few_twice s.data.toList (by omega) (by omega)
      rw [hll] at this
      unfold bnd
      omega
    have hBs : B ≤ 2000 := by rw [hB]; unfold bnd; omega
    have HT : Hid (T = str (List.replicate M y)) := hT
    clear hT hTl hTs hP hQ hB hM hll
    have hss : s.size + s.size ≤ 3000 := by omega
    go_enter Try.func6, Try.ntmps6
    go_wp2_with (at_make; refine wpList_make_own _ rfl _ _ 30 rfl W.heap.size 5 i0 (.int .u8 0) 1 Try.underlying30 hi hz0 hz1 _ _ _ M rfl rfl (by omega) (by rw [hz2]; omega) (by unfold maxLen; omega) (Nat.le_refl _) ?_)
    intro w1 hown1 hgrow1
    have hb1 : Below W.heap.size W w1 := hb0.grown hgrow1 (Nat.le_refl _) (by simp)
    have ho1 : Ow w1 W.heap.size (.slice (some ⟨W.heap.size, 0, none⟩) 0 M) [] := hown1
    clear hown1 hgrow1 i1 i2 i3
    go_wp2
    go_loopw [8, 9] (fun v i wr => ∃ (k : Nat), k ≤ M ∧ i = .int .i64 k ∧ Ow wr W.heap.size v (List.replicate k y) ∧ Below W.heap.size W wr) (fun _ i _ => M - (intOf i).toNat)
    case atStart => exact ⟨0, by omega, rfl, ho1, hb1⟩
    case round =>
      clear ho1 hb1
      obtain ⟨k, hk, rfl, hom, hbm⟩ := hrel
      by_cases hlt : k < M
      · unfold Ow at hom
        go_wp2_with (at_builtin; refine wpList_append_own _ rfl _ _ 30 rfl W.heap.size 5 i0 (.int .u8 0) 1 1 Try.underlying30 hi hz0 hz1 hz2 rfl (by decide) _ _ _ rfl (hom.alloc _) ⟨wr.heap.size, 0, none⟩ 1 1 (bcells [y]) rfl rfl ?c1 ?c2 ?c3 ?c4 ?c5 ?_)
        case c1 =>
          intro j u hj
          match j, hj with
          | 0, hj => simp [bcells] at hj; subst hj; simp [Addr.add]
        case c2 => exact bcells_one _
        case c3 => unfold maxLen; simp; omega
        case c4 => simp; omega
        case c5 => have := hbm.size; simp; omega
        intro v3 w3 ho3 hg3 _
        have hb3 := app_step hbm hom hg3 (Nat.le_refl _) hbm.size
        clear hom hg3
        go_wp2
        go_roundw
        case rel => exact ⟨k + 1, by omega, by go_num, by rw [← rep_snoc]; unfold Ow; rw [bcells_append]; simpa using ho3, hb3⟩
        case measure => simp [intOf]; omega
      · obtain rfl : k = M := by omega
        have hcv : (convert 30 9 u8).run Try.prog wr = .ok (.string T) wr := by
          rw [HT.out]
          exact conv_owned (P := Try.prog) 30 9 5 Try.underlying30 Try.underlying5 Try.underlying9 hom
        clear HT hom
        by_cases h5 : 5 ≤ k
        · have hp := HP.out h5
          by_cases h4 : s.size < 4
          · go_wp2_with (first
              | (go_at_call 15; ((with_reducible refine (HC.out _).mono ?_); rintro e w1 ⟨rfl, hb1⟩; have g1 := hbm.trans (hb1.mono hbm.size)))
              | (go_at_call 14; ((with_reducible refine (lives_inv g1).mono ?_); rintro e w2 ⟨rfl, hb2⟩)))
            go_ret
            exact ⟨rfl, hb2⟩
          · have hq := HQB.out (by omega)
            go_wp2_with (first
              | (go_at_call 15; first | ((with_reducible refine (HC.out _).mono ?_); rintro e w1 ⟨rfl, hb1⟩; have g1 := hbm.trans (hb1.mono hbm.size)) | ((with_reducible refine (HQ.out _).mono ?_); rintro e w3 ⟨rfl, hb3⟩; have g3 := hb2.trans (hb3.mono hb2.size)))
              | (go_at_call 17; ((with_reducible refine (HB.out _).mono ?_); rintro e w4 ⟨rfl, rfl⟩))
              | (go_at_call 14; ((with_reducible refine (lives_inv g1).mono ?_); rintro e w2 ⟨rfl, hb2⟩)))
            go_ret
            exact ⟨rfl, g3⟩
        · clear HP
          by_cases h4 : s.size < 4
          · go_wp2_with (first
              | (go_at_call 14; ((with_reducible refine (lives_inv hbm).mono ?_); rintro e w2 ⟨rfl, hb2⟩)))
            go_ret
            exact ⟨rfl, hb2⟩
          · have hq := HQB.out (by omega)
            go_wp2_with (first
              | (go_at_call 15; ((with_reducible refine (HQ.out _).mono ?_); rintro e w3 ⟨rfl, hb3⟩; have g3 := hb2.trans (hb3.mono hb2.size)))
              | (go_at_call 17; ((with_reducible refine (HB.out _).mono ?_); rintro e w4 ⟨rfl, rfl⟩))
              | (go_at_call 14; ((with_reducible refine (lives_inv hbm).mono ?_); rintro e w2 ⟨rfl, hb2⟩)))
            go_ret
            exact ⟨rfl, g3⟩
end Go.Proofs.Ythfnnbeaggkhkaa
