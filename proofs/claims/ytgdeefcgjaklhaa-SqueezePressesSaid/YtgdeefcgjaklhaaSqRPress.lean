/-
  The walks of the reference's plain and Press.
-/
import Derived.Test.YtgdeefcgjaklhaaSqRAgain
import Derived.Test.YtgdeefcgjaklhaaSqPress
import Derived.Test.YtgdeefcgjaklhaaOctRPut
namespace Go.Proofs.Ytgdeefcgjaklhaa
open Go.RowKit

set_option maxHeartbeats 1000000 in
set_option maxRecDepth 4000 in
theorem rplain_any (l : List UInt8) (p : ByteArray) (w : World) (hl : l.length ≤ 549755813888) (hp : p.size ≤ 1099511627776) :
    Calls Try.prog 39 #[.string (str l), .string p] w fun e w' => e = .returned (.string (str (l ++ lit p.data.toList))) ∧ Below w.heap.size w w' := by
  obtain ⟨R, hR⟩ : ∃ R, R = str (l ++ lit p.data.toList) := ⟨_, rfl⟩
  rw [← hR]
  have HR : Hid (R = str (l ++ lit p.data.toList)) := hR
  obtain ⟨o, ho⟩ : ∃ o, o = str l := ⟨_, rfl⟩
  rw [← ho]
  have HO : Hid (o = str l) := ho
  have hos : o.size ≤ 4611686018427387904 := by rw [ho, str_size]; omega
  clear hR ho
  by_cases h0 : p.size = 0
  · have he : p.toList.isEmpty = true := by rw [ByteArray.toList_eq, empty_of_size h0]; rfl
    have HX : Hid (R = o) := by show _ = _; rw [HR.out, HO.out, empty_of_size h0, lit_nil, List.append_nil]
    clear h0
    go_enter Try.func39, Try.ntmps39
    go_wp2
    go_ret
    exact ⟨by rw [HX.out]; rfl, Below.refl _ _⟩
  · have hne : p.data.toList.isEmpty = false := by
      cases hx : p.data.toList with
      | nil => exact absurd (by rw [← list_len, hx]; rfl) h0
      | cons a t => rfl
    have he : p.toList.isEmpty = false := by rw [ByteArray.toList_eq]; exact hne
    obtain ⟨n, hn⟩ : ∃ n, n = 2 * p.size := ⟨_, rfl⟩
    have i1 : IntKind.i64.wrap (2 * (p.size : Int)) = (n : Int) := by rw [IntWalk.i64_in _ (by omega)]; omega
    have i2 : IntKind.u64.wrap (n : Int) = (n : Int) := IntWalk.u64_in _ (by omega)
    have hn64 : n < 18446744073709551616 := by omega
    obtain ⟨o2, ho2⟩ : ∃ o2, o2 = o ++ str (digs n) := ⟨_, rfl⟩
    have HX : Hid (R = o2 ++ p) := by
      show _ = _
      rw [HR.out, ho2, HO.out, lit_cons hne, list_len, ← hn]
      apply ba_ext
      simp [app_list, str_list]
    have HP : Hid (∀ W, Calls Try.prog 37 #[.string o, .int .u64 n] W fun e w' => e = .returned (.string o2) ∧ Below W.heap.size W w') := fun W => by rw [ho2]; exact rput_any o n W hn64 hos
    have hos2 : o2.size + p.size ≤ 4611686018427387904 + 1099511627786 := by
      have d := digs_len64 hn64
      rw [ho2, ByteArray.size_append, str_size]; omega
    clear h0 hne hn ho2
    go_enter Try.func39, Try.ntmps39
    go_wp2_with (go_at_call 37; ((with_reducible refine (HP.out _).mono ?_); rintro e w1 ⟨rfl, hb1⟩))
    go_ret
    exact ⟨by rw [HX.out]; rfl, hb1⟩

theorem rput_l (l : List UInt8) (n : Nat) (w : World) (hn : n < 18446744073709551616) (hl : l.length ≤ 549755813888) :
    Calls Try.prog 37 #[.string (str l), .int .u64 n] w fun e w' => e = .returned (.string (str (l ++ digs n))) ∧ Below w.heap.size w w' :=
  (rput_any (str l) n w hn (by rw [str_size]; omega)).mono fun _ _ x => ⟨by rw [x.1, str_append], x.2⟩

theorem rplain_o (l : List UInt8) (o p : ByteArray) (r : ByteArray) (w : World) (ho : o = str l) (hl : l.length ≤ 549755813888) (hp : p.size ≤ 1099511627776) (hr : r = str (l ++ lit p.data.toList)) :
    Calls Try.prog 39 #[.string o, .string p] w fun e w' => e = .returned (.string r) ∧ Below w.heap.size w w' := by
  subst ho; subst hr
  exact rplain_any l p w hl hp
theorem rput_o (l : List UInt8) (o r : ByteArray) (n : Nat) (w : World) (ho : o = str l) (hn : n < 18446744073709551616) (hl : l.length ≤ 549755813888) (hr : r = str (l ++ digs n)) :
    Calls Try.prog 37 #[.string o, .int .u64 n] w fun e w' => e = .returned (.string r) ∧ Below w.heap.size w w' := by
  subst ho; subst hr
  exact rput_l l n w hn hl

set_option maxHeartbeats 4000000 in
set_option maxRecDepth 4000 in
theorem rpress_any (s : ByteArray) (w : World) (hs : s.size ≤ 1048576) :
    Calls Try.prog 16 #[.string s] w fun e w' => e = .returned (.string (str (pressed s.data.toList))) ∧ Below w.heap.size w w' := by
  obtain ⟨R, hR⟩ : ∃ R, R = pressed s.data.toList := ⟨_, rfl⟩
  rw [← hR]
  have hll := list_len s
  have HR : Hid (R = digs s.size ++ press s.data.toList 0 0) := by show _ = _; rw [hR, pressed, hll]
  have HLL : Hid (s.data.toList.length = s.size) := hll
  have dl := digs_len64 (n := s.size) (by omega)
  obtain ⟨o0, ho0⟩ : ∃ o0, o0 = str (digs s.size) := ⟨_, rfl⟩
  have HO0 : Hid (o0 = str (digs s.size)) := ho0
  have hp0 : ∀ W, Calls Try.prog 37 #[.string { data := #[] }, .int .u64 s.size] W fun e w' => e = .returned (.string o0) ∧ Below W.heap.size W w' := fun W => rput_o [] _ _ _ W rfl (by omega) (by simp) (by rw [ho0]; rfl)
  have HP0 : Hid (∀ W, Calls Try.prog 37 #[.string { data := #[] }, .int .u64 s.size] W fun e w' => e = .returned (.string o0) ∧ Below W.heap.size W w') := hp0
  have i0 : IntKind.u64.wrap (s.size : Int) = (s.size : Int) := IntWalk.u64_in _ (by omega)
  clear hR hll ho0 hp0
  go_enter Try.func16, Try.ntmps16
  go_wp2_with (go_at_call 37; ((with_reducible refine (HP0.out _).mono ?_); rintro e w1 ⟨rfl, hb1⟩))
  go_loopw [3, 4, 5] (fun v st at' wr => ∃ (l : List UInt8) (o : ByteArray) (x a : Nat), v = .string o ∧ o = str l ∧ st = .int .i64 x ∧ at' = .int .i64 a ∧ x ≤ a ∧ a ≤ s.size ∧ a - x < 1024 ∧ l.length ≤ 10 + 40 * x ∧ R = l ++ press s.data.toList x a ∧ Below w.heap.size w wr) (fun _ _ a _ => s.size - (intOf a).toNat)
  case atStart => exact ⟨digs s.size, o0, 0, 0, rfl, HO0.out, rfl, rfl, by omega, by omega, by omega, by omega, HR.out, hb1⟩
  case round =>
    clear hb1 HR dl HP0 HO0 i0
    obtain ⟨l, o, x, a, rfl, hol, rfl, rfl, hxa, has, h1024, hll, hR, hb⟩ := hrel
    have HR : Hid (R = l ++ press s.data.toList x a) := hR
    have HO : Hid (o = str l) := hol
    clear hR hol
    have hbase := hb.size
    by_cases hlt : a < s.size
    · have hlt' : a < s.data.toList.length := by rw [HLL.out]; exact hlt
      have hle := again_le s.data.toList a
      rw [HLL.out] at hle
      obtain ⟨A, hA⟩ : ∃ A, A = again s.data.toList a := ⟨_, rfl⟩
      obtain ⟨n, b⟩ := A
      have HA : Hid (again s.data.toList a = (n, b)) := hA.symm
      rw [← hA] at hle
      simp only at hle
      obtain ⟨hn1, hn2, hb3, hb4⟩ := hle
      have HLM : Hid (Calls Try.prog 38 #[.string s, .int .i64 a] wr fun e w' => e = .returned (.tuple #[.int .i64 (n : Nat), .int .i64 (b : Nat)]) ∧ ∃ k, w' = wr.drewN k) := ragain_any s a wr hlt (by omega) n b HA.out
      clear hA
      by_cases hn0 : n = 0
      · have hA1 : (again s.data.toList a).1 = 0 := by rw [HA.out]; exact hn0
        have hz : ((n : Int) == 0) = true := by simp; omega
        have hz0 : ¬ (0 : Int) < n := by omega
        by_cases hfull : a + 1 - x = 1024
        · have HX : Hid (R = (l ++ lit (s.extract x (a + 1)).data.toList) ++ press s.data.toList (a + 1) (a + 1)) := by
            show _ = _
            rw [HR.out, press_full hlt' hA1 hfull, ext_lit, List.append_assoc]
          have hel : (s.extract x (a + 1)).size ≤ 1099511627776 := by rw [ByteArray.size_extract]; omega
          have hel2 : (lit (s.extract x (a + 1)).data.toList).length ≤ 1024 + 10 := by
            have := lit_len (s.extract x (a + 1)).data.toList (by rw [list_len]; exact hel)
            rw [list_len, ByteArray.size_extract] at this; omega
          have hd : (((a : Int) + 1 - x) == 1024) = true := by simp; omega
          have hx1 : x ≤ a + 1 := by omega
          have H24 : Hid (x + 1024 = a + 1) := by show _ = _; omega
          have ha1 : a + 1 ≤ s.size := by omega
          obtain ⟨o2, ho2⟩ : ∃ o2, o2 = str (l ++ lit (s.extract x (a + 1)).data.toList) := ⟨_, rfl⟩
          have HO2 : Hid (o2 = str (l ++ lit (s.extract x (a + 1)).data.toList)) := ho2
          have HPL : Hid (∀ W, Calls Try.prog 39 #[.string o, .string (s.extract x (a + 1))] W fun e w' => e = .returned (.string o2) ∧ Below W.heap.size W w') := fun W => rplain_o l o _ o2 W HO.out (by omega) hel ho2
          clear hA1 hfull HA ho2 hn0
          go_wp2_with (first
            | (go_at_call 38; refine HLM.out.mono ?_; rintro e w3 ⟨rfl, dk, rfl⟩; have hb3' := hb.trans (below_drewN (Below.refl w.heap.size wr) dk))
            | (go_at_call 39; ((with_reducible refine (HPL.out _).mono ?_); rintro e w4 ⟨rfl, hb4'⟩)))
          go_roundw
          case rel => exact ⟨_, o2, a + 1, a + 1, rfl, HO2.out, by go_num, by go_num, by omega, by omega, by omega, by have := H24.out; rw [List.length_append]; omega, HX.out, hb3'.trans (hb4'.mono hb3'.size)⟩
          case measure => simp [intOf]; omega
        · have HX : Hid (R = l ++ press s.data.toList x (a + 1)) := by
            show _ = _
            rw [HR.out, press_on hlt' hA1 hfull]
          have hd : (((a : Int) + 1 - x) == 1024) = false := by simp; omega
          have H25 : Hid (a + 1 - x < 1024) := by show _ < _; omega
          clear hA1 HA hn0
          go_wp2_with (go_at_call 38; refine HLM.out.mono ?_; rintro e w3 ⟨rfl, dk, rfl⟩; have hb3' := hb.trans (below_drewN (Below.refl w.heap.size wr) dk))
          go_roundw
          case rel => exact ⟨l, o, x, a + 1, rfl, HO.out, rfl, by go_num, by omega, by omega, H25.out, by omega, HX.out, hb3'⟩
          case measure => simp [intOf]; omega
      · have hA1 : (again s.data.toList a).1 ≠ 0 := by rw [HA.out]; exact hn0
        have HX : Hid (R = (l ++ lit (s.extract x a).data.toList ++ digs (2 * n + 1) ++ digs b) ++ press s.data.toList (a + n) (a + n)) := by
          show _ = _
          rw [HR.out, press_copy hlt' hA1, ext_lit, HA.out]
          simp only [List.append_assoc]
        have hel : (s.extract x a).size ≤ 1099511627776 := by rw [ByteArray.size_extract]; omega
        have hel2 : (lit (s.extract x a).data.toList).length ≤ (a - x) + 10 := by
          have := lit_len (s.extract x a).data.toList (by rw [list_len]; exact hel)
          rw [list_len, ByteArray.size_extract] at this; omega
        obtain ⟨n2, hn2'⟩ : ∃ n2, n2 = 2 * n + 1 := ⟨_, rfl⟩
        have i1 : IntKind.u64.wrap (2 * (n : Int) + 1) = (n2 : Int) := by rw [IntWalk.u64_in _ (by omega)]; omega
        have i2 : IntKind.u64.wrap (b : Int) = (b : Int) := IntWalk.u64_in _ (by omega)
        have hn64 : n2 < 18446744073709551616 := by omega
        have d1 := digs_len64 (n := 2 * n + 1) (by omega)
        have d2 := digs_len64 (n := b) (by omega)
        have hn1' : 0 < n := by omega
        obtain ⟨o2, ho2⟩ : ∃ o2, o2 = str (l ++ lit (s.extract x a).data.toList) := ⟨_, rfl⟩
        have HO2 : Hid (o2 = str (l ++ lit (s.extract x a).data.toList)) := ho2
        obtain ⟨o3, ho3⟩ : ∃ o3, o3 = str (l ++ lit (s.extract x a).data.toList ++ digs (2 * n + 1)) := ⟨_, rfl⟩
        have HO3 : Hid (o3 = str (l ++ lit (s.extract x a).data.toList ++ digs (2 * n + 1))) := ho3
        obtain ⟨o4, ho4⟩ : ∃ o4, o4 = str (l ++ lit (s.extract x a).data.toList ++ digs (2 * n + 1) ++ digs b) := ⟨_, rfl⟩
        have HO4 : Hid (o4 = str (l ++ lit (s.extract x a).data.toList ++ digs (2 * n + 1) ++ digs b)) := ho4
        have HP3 : Hid (∀ W, Calls Try.prog 37 #[.string o2, .int .u64 n2] W fun e w' => e = .returned (.string o3) ∧ Below W.heap.size W w') := fun W => rput_o _ o2 o3 n2 W ho2 hn64 (by rw [List.length_append]; omega) (by rw [ho3, hn2'])
        have HP4 : Hid (∀ W, Calls Try.prog 37 #[.string o3, .int .u64 b] W fun e w' => e = .returned (.string o4) ∧ Below W.heap.size W w') := fun W => rput_o _ o3 o4 b W ho3 (by omega) (by simp only [List.length_append]; omega) ho4
        have HPL : Hid (∀ W, Calls Try.prog 39 #[.string o, .string (s.extract x a)] W fun e w' => e = .returned (.string o2) ∧ Below W.heap.size W w') := fun W => rplain_o l o _ o2 W HO.out (by omega) hel ho2
        clear hA1 HA hn0 ho2 ho3 ho4 hn2'
        go_wp2_with (first
          | (go_at_call 38; refine HLM.out.mono ?_; rintro e w3 ⟨rfl, dk, rfl⟩; have hb3' := hb.trans (below_drewN (Below.refl w.heap.size wr) dk))
          | (go_at_call 39; ((with_reducible refine (HPL.out _).mono ?_); rintro e w4 ⟨rfl, hb4'⟩))
          | (go_at_call 37; first | ((with_reducible refine (HP3.out _).mono ?_); rintro e w5 ⟨rfl, hb5⟩) | ((with_reducible refine (HP4.out _).mono ?_); rintro e w6 ⟨rfl, hb6⟩)))
        go_roundw
        case rel => exact ⟨_, o4, a + n, a + n, rfl, HO4.out, by go_num, by go_num, by omega, by omega, by omega, by simp only [List.length_append]; omega, HX.out, by
          have g3 := hb3'.trans (hb4'.mono hb3'.size)
          have g4 := g3.trans (hb5.mono g3.size)
          exact g4.trans (hb6.mono g4.size)⟩
        case measure => simp [intOf]; omega
    · obtain rfl : a = s.size := by omega
      have HX : Hid (str R = str (l ++ lit (s.extract x s.size).data.toList)) := by
        show _ = _
        rw [HR.out, press_end (by rw [HLL.out]; exact Nat.le_refl _), ext_lit]
      have hel : (s.extract x s.size).size ≤ 1099511627776 := by rw [ByteArray.size_extract]; omega
      clear hlt
      go_wp2_with (go_at_call 39; refine (rplain_o l o _ (str R) _ HO.out (by omega) hel HX.out).mono ?_; rintro e w4 ⟨rfl, hb4'⟩)
      go_ret
      exact ⟨rfl, hb.trans (hb4'.mono hb.size)⟩
end Go.Proofs.Ytgdeefcgjaklhaa
