/-
  The walk of Compress.
-/
import Derived.Test.YthfnnbeaggkhkaaSqPressPlain
import Derived.Test.YthfnnbeaggkhkaaSqLinks
namespace Go.Proofs.Ythfnnbeaggkhkaa
open Go.RowKit

theorem ext_lit (s : ByteArray) (a b : Nat) : lit (s.extract a b).data.toList = lit ((s.data.toList.drop a).take (b - a)) := by rw [ext_bytes]
theorem lit_len (t : List UInt8) (h : t.length ≤ 1099511627776) : (lit t).length ≤ t.length + 10 := by
  cases ht : t.isEmpty with
  | true => rw [lit, ht]; simp
  | false => rw [lit_cons ht, List.length_append]; have := digs_len64 (n := 2 * t.length) (by omega); omega

set_option maxHeartbeats 2000000 in
set_option maxRecDepth 4000 in
theorem compress_any (s : ByteArray) (w : World) (hs : s.size ≤ 1048576) :
    Calls Try.prog 15 #[.string s] w fun e w' => e = .returned (.string (str (pressed s.data.toList))) ∧ Below w.heap.size w w' := by
  obtain ⟨R, hR⟩ : ∃ R, R = pressed s.data.toList := ⟨_, rfl⟩
  rw [← hR]
  have hll := list_len s
  have HR : Hid (R = digs s.size ++ press s.data.toList 0 0) := by show _ = _; rw [hR, pressed, hll]
  have HLL : Hid (s.data.toList.length = s.size) := hll
  have dl := digs_len64 (n := s.size) (by omega)
  clear hR hll
  go_enter Try.func15, Try.ntmps15
  go_wp2_with (first
    | (go_at_call 32; refine (links_any s _ (by omega)).mono ?_; rintro e w1 ⟨B, cap, rfl, hB, hrow, hb1⟩)
    | (go_at_call 33; refine (appNum_any _ [] s.size w1.heap.size _ (Ow.nil _ _) (Nat.le_refl _) (by omega) (by simp)).mono ?_; rintro e w2 ⟨v2, rfl, ho2, hb2⟩))
  rw [List.nil_append] at ho2
  go_loopw [4, 5, 6] (fun v st at' wr => ∃ (l : List UInt8) (x a : Nat), st = .int .i64 x ∧ at' = .int .i64 a ∧ x ≤ a ∧ a ≤ s.size ∧ a - x < 1024 ∧ l.length ≤ 10 + 40 * x ∧ R = l ++ press s.data.toList x a ∧ Ow wr w1.heap.size v l ∧ Below w1.heap.size w1 wr) (fun _ _ a _ => s.size - (intOf a).toNat)
  case atStart => exact ⟨digs s.size, 0, 0, rfl, rfl, by omega, by omega, by omega, by omega, HR.out, ho2, hb2⟩
  case round =>
    clear ho2 hb2 HR dl
    obtain ⟨l, x, a, rfl, rfl, hxa, has, h1024, hll, hR, ho, hb⟩ := hrel
    have HR : Hid (R = l ++ press s.data.toList x a) := hR
    clear hR
    have hbase := hb.size
    have hrow2 := hrow.below hb hB
    by_cases hlt : a < s.size
    · have hlt' : a < s.data.toList.length := by rw [HLL.out]; exact hlt
      have hle := again_le s.data.toList a
      rw [HLL.out] at hle
      obtain ⟨A, hA⟩ : ∃ A, A = again s.data.toList a := ⟨_, rfl⟩
      obtain ⟨n, b⟩ := A
      have HA : Hid (again s.data.toList a = (n, b)) := hA.symm
      rw [← hA] at hle
      simp only at hle
      obtain ⟨hn1, hn2, hb3, hb4⟩ := hle
      have hlm := longest_any s a (s.size - 3) cap B wr rfl (by omega) (by omega) hrow2
      rw [HA.out] at hlm
      have HLM : Hid (Calls Try.prog 34 #[.string s, .int .i64 a, .slice (some ⟨B, 0, none⟩) (s.size - 3) cap] wr fun e w' => e = .returned (.tuple #[.int .i64 (n : Nat), .int .i64 (b : Nat)]) ∧ ∃ k, w' = wr.drewN k) := hlm
      clear hlm hA hrow2
      by_cases hn0 : n = 0
      · subst hn0
        have hA1 : (again s.data.toList a).1 = 0 := by rw [HA.out]
        by_cases hfull : a + 1 - x = 1024
        · have HX : Hid (R = (l ++ lit (s.extract x (a + 1)).data.toList) ++ press s.data.toList (a + 1) (a + 1)) := by
            show _ = _
            rw [HR.out, press_full hlt' hA1 hfull, ext_lit, List.append_assoc]
          have hel : (s.extract x (a + 1)).size ≤ 1099511627776 := by rw [ByteArray.size_extract]; omega
          have hel2 : (lit (s.extract x (a + 1)).data.toList).length ≤ 1024 + 10 := by
            have := lit_len (s.extract x (a + 1)).data.toList (by rw [list_len]; exact hel)
            rw [list_len, ByteArray.size_extract] at this; omega
          have hd : (((a : Int) + 1 - x) == 1024) = true := by simp; omega
          have hx1 : x ≤ a + 1 := by omega
          have H24 : Hid (x + 1024 = a + 1) := by show _ = _; omega
          have ha1 : a + 1 ≤ s.size := by omega
          clear hA1 hfull HA
          go_wp2_with (first
            | (go_at_call 34; refine HLM.out.mono ?_; rintro e w3 ⟨rfl, dk, rfl⟩; have ho3 := ho.below (below_drewN (Below.refl _ _) dk); have hb3 := hb.trans (below_drewN (Below.refl w1.heap.size wr) dk))
            | (go_at_call 35; refine (appLit_any _ l _ w1.heap.size _ ho3 hbase hel (by omega)).mono ?_; rintro e w4 ⟨v4, rfl, ho4, hb4⟩))
          go_roundw
          case rel => exact ⟨_, a + 1, a + 1, by go_num, by go_num, by omega, by omega, by omega, by have := H24.out; rw [List.length_append]; omega, HX.out, ho4, hb3.trans hb4⟩
          case measure => simp [intOf]; omega
        · have HX : Hid (R = l ++ press s.data.toList x (a + 1)) := by
            show _ = _
            rw [HR.out, press_on hlt' hA1 hfull]
          have hd : (((a : Int) + 1 - x) == 1024) = false := by simp; omega
          have H25 : Hid (a + 1 - x < 1024) := by show _ < _; omega
          clear hA1 HA
          go_wp2_with (go_at_call 34; refine HLM.out.mono ?_; rintro e w3 ⟨rfl, dk, rfl⟩; have ho3 := ho.below (below_drewN (Below.refl _ _) dk); have hb3 := hb.trans (below_drewN (Below.refl w1.heap.size wr) dk))
          go_roundw
          case rel => exact ⟨l, x, a + 1, rfl, by go_num, by omega, by omega, H25.out, by omega, HX.out, ho3, hb3⟩
          case measure => simp [intOf]; omega
      · have hA1 : (again s.data.toList a).1 ≠ 0 := by rw [HA.out]; exact hn0
        have HX : Hid (R = (l ++ lit (s.extract x a).data.toList ++ (digs (2 * n + 1) ++ digs b)) ++ press s.data.toList (a + n) (a + n)) := by
          show _ = _
          rw [HR.out, press_copy hlt' hA1, ext_lit, HA.out]
          simp only [List.append_assoc]
        have hel : (s.extract x a).size ≤ 1099511627776 := by rw [ByteArray.size_extract]; omega
        have hel2 : (lit (s.extract x a).data.toList).length ≤ (a - x) + 10 := by
          have := lit_len (s.extract x a).data.toList (by rw [list_len]; exact hel)
          rw [list_len, ByteArray.size_extract] at this; omega
        have d1 := digs_len64 (n := 2 * n + 1) (by omega)
        have d2 := digs_len64 (n := b) (by omega)
        have hn1' : 0 < n := by omega
        clear hA1 HA hn0
        go_wp2_with (first
          | (go_at_call 34; refine HLM.out.mono ?_; rintro e w3 ⟨rfl, dk, rfl⟩; have ho3 := ho.below (below_drewN (Below.refl _ _) dk); have hb3 := hb.trans (below_drewN (Below.refl w1.heap.size wr) dk))
          | (go_at_call 35; refine (appLit_any _ l _ w1.heap.size _ ho3 hbase hel (by omega)).mono ?_; rintro e w4 ⟨v4, rfl, ho4, hb4⟩; have hs4 := hb4.size)
          | (go_at_call 36; refine (appCopy_any _ _ n b w1.heap.size _ ho4 (Nat.le_trans hbase hs4) (by omega) (by omega) (by rw [List.length_append]; omega)).mono ?_; rintro e w5 ⟨v5, rfl, ho5, hb5⟩))
        go_roundw
        case rel => exact ⟨_, a + n, a + n, by go_num, by go_num, by omega, by omega, by omega, by simp only [List.length_append]; omega, HX.out, ho5, (hb3.trans hb4).trans hb5⟩
        case measure => simp [intOf]; omega
    · obtain rfl : a = s.size := by omega
      have HX : Hid (R = l ++ lit (s.extract x s.size).data.toList) := by
        show _ = _
        rw [HR.out, press_end (by rw [HLL.out]; exact Nat.le_refl _), ext_lit]
      have hel : (s.extract x s.size).size ≤ 1099511627776 := by rw [ByteArray.size_extract]; omega
      have hcv : ∀ w4 v4, Ow w4 w1.heap.size v4 (l ++ lit (s.extract x s.size).data.toList) → (convert 30 9 v4).run Try.prog w4 = .ok (.string (str R)) w4 := fun w4 v4 h => by
        rw [HX.out]
        exact conv_owned (P := Try.prog) 30 9 5 Try.underlying30 Try.underlying5 Try.underlying9 h
      have HCV : Hid (∀ w4 v4, Ow w4 w1.heap.size v4 (l ++ lit (s.extract x s.size).data.toList) → (convert 30 9 v4).run Try.prog w4 = .ok (.string (str R)) w4) := hcv
      clear hcv hrow2 hlt
      go_wp2_with (go_at_call 35; refine (appLit_any _ l _ w1.heap.size _ ho hbase hel (by omega)).mono ?_; rintro e w4 ⟨v4, rfl, ho4, hb4⟩; have hcv4 := HCV.out _ _ ho4)
      go_ret
      exact ⟨rfl, hb1.trans ((hb.trans hb4).mono hb1.size)⟩
end Go.Proofs.Ythfnnbeaggkhkaa
