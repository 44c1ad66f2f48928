/-
  The walk of the law DeltaSelf.
-/
import Derived.Test.YtlgaindeheaodaaDlSelfM
import Derived.Test.YtlgaindeheaodaaDlCopies
import Derived.Test.YtlgaindeheaodaaDlApply
import Derived.Test.YtlgaindeheaodaaDlLives
import Derived.Deep.RegionLaw
namespace Go.Proofs.Ytlgaindeheaodaa
open Go.RowKit

theorem mkd_len (s : ByteArray) (hs : s.size ≤ 1048576) : ∀ (k st a : Nat) (l : List UInt8), s.size - a ≤ k → st ≤ a → a ≤ s.size → (mkd s lf0 st a l).length ≤ l.length + (s.size - st) + 10 * (s.size - a) + 10
  | k, st, a, l, hk, h1, h2 => by
    by_cases ha : a < s.size
    · have h0 : ¬ 0 < (lf0 a).2 := by unfold lf0; simp
      cases k with
      | zero => omega
      | succ k =>
        by_cases hf : a + 1 - st = 1024
        · rw [mkd_flush ha h0 hf]
          have ih := mkd_len s hs k (a + 1) (a + 1) (l ++ lit (s.extract st (a + 1)).data.toList) (by omega) (Nat.le_refl _) ha
          have hl := ext_len s (a := st) (b := a + 1) (by omega) (by omega)
          have := lit_len (s.extract st (a + 1)).data.toList (by omega)
          rw [List.length_append] at ih
          omega
        · rw [mkd_on ha h0 hf]
          have ih := mkd_len s hs k st (a + 1) l (by omega) (by omega) ha
          omega
    · rw [mkd_end ha, List.length_append]
      have hl := ext_len s (a := st) (b := a) h1 h2
      have := lit_len (s.extract st a).data.toList (by omega)
      omega
theorem conv_row (w : World) (Q : Nat) (y : UInt8) (h : w.heap[Q]? = some (.cells #[.int .u8 (y.toNat : Int)] 5 (0, 0))) : (convert 33 9 (.slice (some ⟨Q, 0, none⟩) 1 1)).run Try.prog w = .ok (.string (str [y])) w :=
  conv_owned (P := Try.prog) (base := 0) (n := 1) 33 9 5 Try.underlying33 Try.underlying5 Try.underlying9 ⟨rfl, .inr ⟨Q, 1, _, rfl, Nat.zero_le _, h, Nat.le_refl _, by decide, rfl, rfl⟩⟩
theorem below_two {w X a : World} (h1 : Below w.heap.size w X) (h2 : Below X.heap.size X a) : Below w.heap.size w a := h1.trans (h2.mono h1.size)
set_option maxHeartbeats 4000000 in
set_option maxRecDepth 4000 in
theorem dlSelf_any (s : ByteArray) (y : UInt8) (W : World) (S1 S2 : ByteArray) (l1 : List Rn) (h1 : s.size ≤ 1500) (hl : s.size < 8 ∧ l1 = [] ∨ 8 ≤ s.size ∧ l1 = [⟨0, 0, s.size⟩]) (h2 : S1.size ≤ 1099511627776) (h3 : S2.size ≤ 1099511627776)
    (HM1 : Hid (∀ w, Calls Try.prog 8 #[.string s, .string s] w fun e w' => e = .returned (.string S1) ∧ Below w.heap.size w w'))
    (HM2 : Hid (∀ w, Calls Try.prog 8 #[.string ⟨#[]⟩, .string s] w fun e w' => e = .returned (.string S2) ∧ Below w.heap.size w w'))
    (hc1 : dcp S1 = (l1, 0)) (hc2 : dcp S2 = ([], 0)) (hap : ∀ b : ByteArray, b.size ≠ s.size → dap b S1 = ([], 40)) :
    Calls Try.prog 5 #[.string s, .int .u8 (y.toNat : Int)] W fun e W' => e = .returned (.bool true) ∧ Below W.heap.size W W' := by
  obtain ⟨n1, hn1⟩ : ∃ n1, n1 = l1.length := ⟨_, rfl⟩
  have HC1 : Hid (∀ w, Calls Try.prog 12 #[.string S1] w fun e w' => (∃ p cap, e = .returned (.tuple #[.slice p n1 cap, .int .i64 0]) ∧ RRow w' p l1) ∧ Below w.heap.size w w') := fun w => by
    have h := dCopies_any S1 w h2
    rw [hc1] at h
    rw [hn1]
    exact h
  have HC2 : Hid (∀ w, Calls Try.prog 12 #[.string S2] w fun e w' => (∃ p cap, e = .returned (.tuple #[.slice p 0 cap, .int .i64 0])) ∧ Below w.heap.size w w') := fun w => by
    have h := dCopies_any S2 w h3
    rw [hc2] at h
    exact h.mono fun e w' ⟨⟨p, c, h1, _⟩, h2⟩ => ⟨⟨p, c, h1⟩, h2⟩
  obtain ⟨B, hB⟩ : ∃ B, B = str [y] := ⟨_, rfl⟩
  have hBs : B.size = 1 := by rw [hB, str_size]; rfl
  have HA : Hid (∀ w, Calls Try.prog 7 #[.string (s ++ B), .string S1] w fun e w' => e = .returned (.tuple #[.string ⟨#[]⟩, .int .i64 40]) ∧ Below w.heap.size w w') := fun w => by
    have h := dApply_any (s ++ B) S1 w (by rw [ByteArray.size_append]; omega) h2
    rw [hap _ (by rw [ByteArray.size_append]; omega)] at h
    exact h
  have HCB : Hid (∀ (w : World) (Q : Nat), w.heap[Q]? = some (.cells #[.int .u8 (y.toNat : Int)] 5 (0, 0)) → (convert 33 9 (.slice (some ⟨Q, 0, none⟩) 1 1)).run Try.prog w = .ok (.string B) w) := fun w Q h => by rw [hB]; exact conv_row w Q y h
  have HLL := Lib.hid hl
  have HN1 := Lib.hid hn1
  have hsum : s.size + B.size ≤ 1501 := by omega
  have d1 : ¬ 1500 < s.size := by omega
  have hq7 : ¬ 9223372036854775807 < s.size + 1 := by omega
  clear hB hc1 hc2 hap hl hn1 h2 h3
  go_enter Try.func5, Try.ntmps5
  go_upto_region 4 with (first
    | (go_at_call 8; ((with_reducible refine (HM1.out _).mono ?_); rintro e w1 ⟨rfl, hb1⟩))
    | (go_at_call 12; ((with_reducible refine (HC1.out _).mono ?_); rintro e w2 ⟨⟨p, cap, rfl, hr2⟩, hb2⟩)))
  go_upto_region 5 with (first
    | (go_at_call 8; ((with_reducible refine (HM2.out _).mono ?_); rintro e w3 ⟨rfl, hb3⟩))
    | (go_at_call 12; ((with_reducible refine (HC2.out _).mono ?_); rintro e w4 ⟨⟨q, cap2, rfl⟩, hb4⟩)))
  have HB4 : Hid (Below W.heap.size W w4) := by
    have a := hb1.trans (hb2.mono hb1.size)
    have b := a.trans (hb3.mono a.size)
    exact b.trans (hb4.mono b.size)
  have HR4 : Hid (RRow w4 p l1) := (hr2.below hb3).below hb4
  clear hb1 hb2 hb3 hb4 hr2
  go_cut [9, 10] from 28 to 39 (fun sv ev wx => sv = .string ⟨#[]⟩ ∧ ev = .int .i64 40 ∧ Hid (Below w4.heap.size w4 wx))
  case first =>
    have hcv1 := HCB.out (w4.alloc (.cells #[.int .u8 (y.toNat : Int)] 5)) w4.heap.size (heap_alloc_new w4 _)
    have hcv2 := HCB.out (w4.alloc (.cells #[.int .u8 (y.toNat : Int)] 5)).drew w4.heap.size (heap_alloc_new w4 _)
    have hcv3 := HCB.out (w4.drew.alloc (.cells #[.int .u8 (y.toNat : Int)] 5)) w4.heap.size (heap_alloc_new w4.drew _)
    have hcv4 := HCB.out (w4.drew.alloc (.cells #[.int .u8 (y.toNat : Int)] 5)).drew w4.heap.size (heap_alloc_new w4.drew _)
    go_region_law (go_simp; first
      | (go_at_call 8; ((with_reducible refine (HM1.out _).mono ?_); rintro e w5 ⟨rfl, hb5⟩; first
        | (have hcv5 := HCB.out w5 w4.heap.size ((hb5.block _ (by simp)).trans (heap_alloc_new w4 (.cells #[.int .u8 (y.toNat : Int)] 5))); have hcv6 := HCB.out w5.drew w4.heap.size ((hb5.block _ (by simp)).trans (heap_alloc_new w4 (.cells #[.int .u8 (y.toNat : Int)] 5))))
        | (have hcv5 := HCB.out w5 w4.heap.size ((hb5.block _ (by simp)).trans (heap_alloc_new w4.drew (.cells #[.int .u8 (y.toNat : Int)] 5))); have hcv6 := HCB.out w5.drew w4.heap.size ((hb5.block _ (by simp)).trans (heap_alloc_new w4.drew (.cells #[.int .u8 (y.toNat : Int)] 5))))
        | (have hcv5 := HCB.out (w5.alloc (.cells #[.int .u8 (y.toNat : Int)] 5)) w5.heap.size (heap_alloc_new w5 _); have hcv6 := HCB.out (w5.alloc (.cells #[.int .u8 (y.toNat : Int)] 5)).drew w5.heap.size (heap_alloc_new w5 _); have hcv7 := HCB.out (w5.drew.alloc (.cells #[.int .u8 (y.toNat : Int)] 5)) w5.heap.size (heap_alloc_new w5.drew _); have hcv8 := HCB.out (w5.drew.alloc (.cells #[.int .u8 (y.toNat : Int)] 5)).drew w5.heap.size (heap_alloc_new w5.drew _))))
      | (go_at_call 7; ((with_reducible refine (HA.out _).mono ?_); rintro e w6 ⟨rfl, hb6⟩)))
    all_goals go_wp2_with fail
    all_goals go_meet
    all_goals
      have hA : Below w4.heap.size w4 w5 := by first | exact below_two (Below.refl _ _) hb5 | exact below_two (Below.refl _ _).drew hb5 | exact below_two (below_new (Below.refl _ _) _) hb5 | exact below_two (below_new (Below.refl _ _) _).drew hb5 | exact below_two (below_new (Below.refl _ _).drew _) hb5 | exact below_two (below_new (Below.refl _ _).drew _).drew hb5
      exact ⟨rfl, rfl, by first | exact below_two hA hb6 | exact below_two hA.drew hb6 | exact below_two (below_new hA _) hb6 | exact below_two (below_new hA _).drew hb6 | exact below_two (below_new hA.drew _) hb6 | exact below_two (below_new hA.drew _).drew hb6⟩
  case rest =>
    obtain ⟨rfl, rfl, HB5⟩ := hcut
    rename World => w7
    have HB7 := Lib.hid (HB4.out.trans (HB5.out.mono HB4.out.size))
    have HR7 := Lib.hid (HR4.out.below HB5.out)
    clear HB4 HR4 HB5 HM1 HM2 HC1 HC2 HA HCB
    rcases HLL.out with ⟨h8, rfl⟩ | ⟨h8, rfl⟩
    · obtain rfl : n1 = 0 := HN1.out
      have g8 : (s.size : Int) < 8 := by omega
      go_wp2_with (go_at_call 6; ((with_reducible refine (dLives_inv HB7.out).mono ?_); rintro e w8 ⟨rfl, hb8⟩))
      go_ret
      exact ⟨rfl, hb8⟩
    · obtain rfl : n1 = 1 := HN1.out
      obtain ⟨g, hpe, hg, a0, a1, a2⟩ := HR7.out 0 (by simp)
      simp only [List.getElem_cons_zero, Nat.zero_mul, Nat.zero_add] at a0 a1 a2
      subst hpe
      have g8 : ¬ (s.size : Int) < 8 := by omega
      clear hg
      go_wp2_with (go_at_call 6; ((with_reducible refine (dLives_inv HB7.out).mono ?_); rintro e w8 ⟨rfl, hb8⟩))
      go_ret
      exact ⟨rfl, hb8⟩
theorem dlSelf_walk (s : ByteArray) (x : Int) (W : World) (hx : (Lit.int .u8 x).wf = true) : Calls Try.prog 5 #[.string s, .int .u8 x] W fun e W' => e = .returned (.bool true) ∧ Below W.heap.size W W' := by
  obtain ⟨y, rfl⟩ : ∃ y : UInt8, x = (y.toNat : Int) := by
    simp [Lit.wf, IntKind.min, IntKind.max, IntKind.signed, IntKind.bits] at hx
    exact ⟨UInt8.ofNat x.toNat, by simp; omega⟩
  clear hx
  by_cases h1 : 1500 < s.size
  · go_enter Try.func5, Try.ntmps5
    go_wp2_with (go_at_call 6; ((with_reducible refine (dLives_inv (Below.refl _ _)).mono ?_); rintro e w3 ⟨rfl, hb3⟩))
    go_ret
    exact ⟨rfl, hb3⟩
  · have hd := digs_len64 (n := s.size) (by omega)
    have hd0 := digs_len64 (n := 0) (by omega)
    have hm0 := mkd_len s (by omega) s.size 0 0 (digs 0 ++ digs s.size) (by omega) (Nat.le_refl _) (Nat.zero_le _)
    rw [List.length_append] at hm0
    have hS2 : (str (mkd s lf0 0 0 (digs 0 ++ digs s.size))).size ≤ 1099511627776 := by rw [str_size]; omega
    have hc2 := dcp_lits s lf0 0 (by omega) (by omega) (fun _ => rfl) (str (mkd s lf0 0 0 (digs 0 ++ digs s.size))) (str_list _)
    by_cases h8 : s.size < 8
    · have hm1 := mkd_len s (by omega) s.size 0 0 (digs s.size ++ digs s.size) (by omega) (Nat.le_refl _) (Nat.zero_le _)
      rw [List.length_append] at hm1
      exact dlSelf_any s y W _ _ [] (by omega) (.inl ⟨h8, rfl⟩) (by rw [str_size]; omega) hS2 (fun w => make_selfS s w h8) (fun w => make_none s w (by omega)) (dcp_lits s lf0 s.size (by omega) (by omega) (fun _ => rfl) _ (str_list _)) hc2 (fun b hb => dap_len b s lf0 hb (by omega) _ (str_list _))
    · have hd1 := digs_len64 (n := 2 * s.size + 1) (by omega)
      have hm1 : (mkd s (lfS s.size) 0 0 (digs s.size ++ digs s.size)).length ≤ 100 := by
        rw [mkd_self s (by omega)]
        simp only [List.length_append]
        omega
      exact dlSelf_any s y W _ _ [⟨0, 0, s.size⟩] (by omega) (.inr ⟨by omega, rfl⟩) (by rw [str_size]; omega) hS2 (fun w => make_selfB s w (by omega) (by omega)) (fun w => make_none s w (by omega)) (dcp_self s (by omega) (by omega) _ (str_list _)) hc2 (fun b hb => dap_len b s (lfS s.size) hb (by omega) _ (str_list _))
end Go.Proofs.Ytlgaindeheaodaa
