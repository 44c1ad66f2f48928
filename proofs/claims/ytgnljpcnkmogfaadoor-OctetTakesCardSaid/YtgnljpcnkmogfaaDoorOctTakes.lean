/-
  The walk of the law OctetTakes.
-/
import Derived.Test.YtgnljpcnkmogfaaDoorOctLives
import Derived.Test.YtgnljpcnkmogfaaDoorOctRound
import Derived.Test.YtgnljpcnkmogfaaDoorClass
namespace Go.Proofs.YtgnljpcnkmogfaaDoor
open Go.RowKit

theorem nil_app (b : ByteArray) : (⟨#[]⟩ : ByteArray) ++ b = b := by apply ba_ext; rw [app_list]; rfl

set_option maxHeartbeats 1000000 in
set_option maxRecDepth 10000 in
theorem takes_111 (s : ByteArray) (p : Nat) (v q : Nat) (t : ByteArray) (b : Nat) (m c : Nat) (w : World) (hs : s.size ≤ 140737488355328) (h0 : Inv w w)
    (hT : Hid (takeAt s.data.toList (p : Int) = (v, (q : Int), 0))) (hX : Hid (takeText s (p : Int) = (t, (b : Int), 0))) (hW : Hid (takeWord s (p : Int) = (m, (c : Int), 0)))
    (hv : Hid (v < 18446744073709551616)) (e1 : p ≤ q) (e2 : q ≤ s.size) (hP : Hid ((⟨#[]⟩ : ByteArray) ++ str (digs v) = s.extract p q))
    (ht : t.size ≤ 281474976710656) (g1 : p ≤ b) (g2 : b ≤ s.size) (hPt : Hid ((⟨#[]⟩ : ByteArray) ++ lp t = s.extract p b))
    (hm : m < 4294967296) (i1 : p ≤ c) (i2 : c ≤ s.size) (hPw : Hid ((⟨#[]⟩ : ByteArray) ++ str (wbytes m) = s.extract p c)) :
    Calls Tryd.prog 3 #[.string s, .int .i64 p] w fun e w' => e = .returned (.bool true) ∧ Below w.heap.size w w' := by
  go_enter Tryd.func3, Tryd.ntmps3
  go_wp2_with (first
    | (go_at_call 17; ((with_reducible refine (lives_inv (by assumption)).mono ?_); rintro e w' ⟨rfl, hi⟩))
    | (go_at_call 11; ((with_reducible refine (take_inv (by assumption) _ _ (by omega) _ _ _ hT.out).mono ?_); rintro e w' ⟨rfl, hi⟩))
    | (go_at_call 12; ((with_reducible refine (rtake_inv (by assumption) _ _ (by omega) _ _ _ hT.out).mono ?_); rintro e w' ⟨rfl, hi⟩))
    | (go_at_call 15; ((with_reducible refine (takeWord_inv (by assumption) _ _ (by omega) _ _ _ hW.out).mono ?_); rintro e w' ⟨rfl, hi⟩))
    | (go_at_call 16; ((with_reducible refine (rtakeWord_inv (by assumption) _ _ (by omega) _ _ _ hW.out).mono ?_); rintro e w' ⟨rfl, hi⟩))
    | (go_at_call 13; ((with_reducible refine (takeText_inv (by assumption) _ _ (by omega) _ _ _ hX.out).mono ?_); rintro e w' ⟨rfl, hi⟩))
    | (go_at_call 14; ((with_reducible refine (rtakeText_inv (by assumption) _ _ (by omega) _ _ _ hX.out).mono ?_); rintro e w' ⟨rfl, hi⟩)))
  have hq : Nonempty (InvW w) := ⟨⟨w, h0⟩⟩
  refine wp_region_class (w0 := w) (by assumption) (by kernel_rfl) (by kernel_rfl) ?_
  repeat (go_big_quiet_step (first | (go_at_call 18; exact put_class _ _ _ _ hv.out (by decide) hP.out) | (go_at_call 19; exact text_class _ _ _ _ (by omega) (by decide) hPt.out) | (go_at_call 20; exact word_class _ _ _ _ hm (by decide) hPw.out)))
  refine wpQuiet_nil ?_
  rintro _ ⟨x, rfl⟩
  have hx := x.h
  go_wp2
  go_ret
  exact ⟨rfl, Inv.below ‹_›⟩

set_option maxHeartbeats 1000000 in
set_option maxRecDepth 10000 in
theorem takes_110 (s : ByteArray) (p : Nat) (v q : Nat) (t : ByteArray) (b : Nat) (m : Nat) (c : Int) (i0 : Nat) (w : World) (hs : s.size ≤ 140737488355328) (h0 : Inv w w)
    (hT : Hid (takeAt s.data.toList (p : Int) = (v, (q : Int), 0))) (hX : Hid (takeText s (p : Int) = (t, (b : Int), 0))) (hW : Hid (takeWord s (p : Int) = (m, c, i0)))
    (hv : Hid (v < 18446744073709551616)) (e1 : p ≤ q) (e2 : q ≤ s.size) (hP : Hid ((⟨#[]⟩ : ByteArray) ++ str (digs v) = s.extract p q))
    (ht : t.size ≤ 281474976710656) (g1 : p ≤ b) (g2 : b ≤ s.size) (hPt : Hid ((⟨#[]⟩ : ByteArray) ++ lp t = s.extract p b))
    (hni : ((i0 : Int) == 0) = false) :
    Calls Tryd.prog 3 #[.string s, .int .i64 p] w fun e w' => e = .returned (.bool true) ∧ Below w.heap.size w w' := by
  go_enter Tryd.func3, Tryd.ntmps3
  go_wp2_with (first
    | (go_at_call 17; ((with_reducible refine (lives_inv (by assumption)).mono ?_); rintro e w' ⟨rfl, hi⟩))
    | (go_at_call 11; ((with_reducible refine (take_inv (by assumption) _ _ (by omega) _ _ _ hT.out).mono ?_); rintro e w' ⟨rfl, hi⟩))
    | (go_at_call 12; ((with_reducible refine (rtake_inv (by assumption) _ _ (by omega) _ _ _ hT.out).mono ?_); rintro e w' ⟨rfl, hi⟩))
    | (go_at_call 15; ((with_reducible refine (takeWord_inv (by assumption) _ _ (by omega) _ _ _ hW.out).mono ?_); rintro e w' ⟨rfl, hi⟩))
    | (go_at_call 16; ((with_reducible refine (rtakeWord_inv (by assumption) _ _ (by omega) _ _ _ hW.out).mono ?_); rintro e w' ⟨rfl, hi⟩))
    | (go_at_call 13; ((with_reducible refine (takeText_inv (by assumption) _ _ (by omega) _ _ _ hX.out).mono ?_); rintro e w' ⟨rfl, hi⟩))
    | (go_at_call 14; ((with_reducible refine (rtakeText_inv (by assumption) _ _ (by omega) _ _ _ hX.out).mono ?_); rintro e w' ⟨rfl, hi⟩)))
  have hq : Nonempty (InvW w) := ⟨⟨w, h0⟩⟩
  refine wp_region_class (w0 := w) (by assumption) (by kernel_rfl) (by kernel_rfl) ?_
  repeat (go_big_quiet_step (first | (go_at_call 18; exact put_class _ _ _ _ hv.out (by decide) hP.out) | (go_at_call 19; exact text_class _ _ _ _ (by omega) (by decide) hPt.out)))
  refine wpQuiet_nil ?_
  rintro _ ⟨x, rfl⟩
  have hx := x.h
  go_wp2
  go_ret
  exact ⟨rfl, Inv.below ‹_›⟩

set_option maxHeartbeats 1000000 in
set_option maxRecDepth 10000 in
theorem takes_101 (s : ByteArray) (p : Nat) (v q : Nat) (t : ByteArray) (b : Int) (g0 : Nat) (m c : Nat) (w : World) (hs : s.size ≤ 140737488355328) (h0 : Inv w w)
    (hT : Hid (takeAt s.data.toList (p : Int) = (v, (q : Int), 0))) (hX : Hid (takeText s (p : Int) = (t, b, g0))) (hW : Hid (takeWord s (p : Int) = (m, (c : Int), 0)))
    (hv : Hid (v < 18446744073709551616)) (e1 : p ≤ q) (e2 : q ≤ s.size) (hP : Hid ((⟨#[]⟩ : ByteArray) ++ str (digs v) = s.extract p q))
    (hng : ((g0 : Int) == 0) = false)
    (hm : m < 4294967296) (i1 : p ≤ c) (i2 : c ≤ s.size) (hPw : Hid ((⟨#[]⟩ : ByteArray) ++ str (wbytes m) = s.extract p c)) :
    Calls Tryd.prog 3 #[.string s, .int .i64 p] w fun e w' => e = .returned (.bool true) ∧ Below w.heap.size w w' := by
  go_enter Tryd.func3, Tryd.ntmps3
  go_wp2_with (first
    | (go_at_call 17; ((with_reducible refine (lives_inv (by assumption)).mono ?_); rintro e w' ⟨rfl, hi⟩))
    | (go_at_call 11; ((with_reducible refine (take_inv (by assumption) _ _ (by omega) _ _ _ hT.out).mono ?_); rintro e w' ⟨rfl, hi⟩))
    | (go_at_call 12; ((with_reducible refine (rtake_inv (by assumption) _ _ (by omega) _ _ _ hT.out).mono ?_); rintro e w' ⟨rfl, hi⟩))
    | (go_at_call 15; ((with_reducible refine (takeWord_inv (by assumption) _ _ (by omega) _ _ _ hW.out).mono ?_); rintro e w' ⟨rfl, hi⟩))
    | (go_at_call 16; ((with_reducible refine (rtakeWord_inv (by assumption) _ _ (by omega) _ _ _ hW.out).mono ?_); rintro e w' ⟨rfl, hi⟩))
    | (go_at_call 13; ((with_reducible refine (takeText_inv (by assumption) _ _ (by omega) _ _ _ hX.out).mono ?_); rintro e w' ⟨rfl, hi⟩))
    | (go_at_call 14; ((with_reducible refine (rtakeText_inv (by assumption) _ _ (by omega) _ _ _ hX.out).mono ?_); rintro e w' ⟨rfl, hi⟩)))
  have hq : Nonempty (InvW w) := ⟨⟨w, h0⟩⟩
  refine wp_region_class (w0 := w) (by assumption) (by kernel_rfl) (by kernel_rfl) ?_
  repeat (go_big_quiet_step (first | (go_at_call 18; exact put_class _ _ _ _ hv.out (by decide) hP.out) | (go_at_call 20; exact word_class _ _ _ _ hm (by decide) hPw.out)))
  refine wpQuiet_nil ?_
  rintro _ ⟨x, rfl⟩
  have hx := x.h
  go_wp2
  go_ret
  exact ⟨rfl, Inv.below ‹_›⟩

set_option maxHeartbeats 1000000 in
set_option maxRecDepth 10000 in
theorem takes_100 (s : ByteArray) (p : Nat) (v q : Nat) (t : ByteArray) (b : Int) (g0 : Nat) (m : Nat) (c : Int) (i0 : Nat) (w : World) (hs : s.size ≤ 140737488355328) (h0 : Inv w w)
    (hT : Hid (takeAt s.data.toList (p : Int) = (v, (q : Int), 0))) (hX : Hid (takeText s (p : Int) = (t, b, g0))) (hW : Hid (takeWord s (p : Int) = (m, c, i0)))
    (hv : Hid (v < 18446744073709551616)) (e1 : p ≤ q) (e2 : q ≤ s.size) (hP : Hid ((⟨#[]⟩ : ByteArray) ++ str (digs v) = s.extract p q))
    (hng : ((g0 : Int) == 0) = false)
    (hni : ((i0 : Int) == 0) = false) :
    Calls Tryd.prog 3 #[.string s, .int .i64 p] w fun e w' => e = .returned (.bool true) ∧ Below w.heap.size w w' := by
  go_enter Tryd.func3, Tryd.ntmps3
  go_wp2_with (first
    | (go_at_call 17; ((with_reducible refine (lives_inv (by assumption)).mono ?_); rintro e w' ⟨rfl, hi⟩))
    | (go_at_call 11; ((with_reducible refine (take_inv (by assumption) _ _ (by omega) _ _ _ hT.out).mono ?_); rintro e w' ⟨rfl, hi⟩))
    | (go_at_call 12; ((with_reducible refine (rtake_inv (by assumption) _ _ (by omega) _ _ _ hT.out).mono ?_); rintro e w' ⟨rfl, hi⟩))
    | (go_at_call 15; ((with_reducible refine (takeWord_inv (by assumption) _ _ (by omega) _ _ _ hW.out).mono ?_); rintro e w' ⟨rfl, hi⟩))
    | (go_at_call 16; ((with_reducible refine (rtakeWord_inv (by assumption) _ _ (by omega) _ _ _ hW.out).mono ?_); rintro e w' ⟨rfl, hi⟩))
    | (go_at_call 13; ((with_reducible refine (takeText_inv (by assumption) _ _ (by omega) _ _ _ hX.out).mono ?_); rintro e w' ⟨rfl, hi⟩))
    | (go_at_call 14; ((with_reducible refine (rtakeText_inv (by assumption) _ _ (by omega) _ _ _ hX.out).mono ?_); rintro e w' ⟨rfl, hi⟩)))
  have hq : Nonempty (InvW w) := ⟨⟨w, h0⟩⟩
  refine wp_region_class (w0 := w) (by assumption) (by kernel_rfl) (by kernel_rfl) ?_
  repeat (go_big_quiet_step (first | (go_at_call 18; exact put_class _ _ _ _ hv.out (by decide) hP.out)))
  refine wpQuiet_nil ?_
  rintro _ ⟨x, rfl⟩
  have hx := x.h
  go_wp2
  go_ret
  exact ⟨rfl, Inv.below ‹_›⟩

set_option maxHeartbeats 1000000 in
set_option maxRecDepth 10000 in
theorem takes_001 (s : ByteArray) (p : Nat) (v : Nat) (q : Int) (e0 : Nat) (t : ByteArray) (b : Int) (g0 : Nat) (m c : Nat) (w : World) (hs : s.size ≤ 140737488355328) (h0 : Inv w w)
    (hT : Hid (takeAt s.data.toList (p : Int) = (v, q, e0))) (hX : Hid (takeText s (p : Int) = (t, b, g0))) (hW : Hid (takeWord s (p : Int) = (m, (c : Int), 0)))
    (hne : ((e0 : Int) == 0) = false)
    (hng : ((g0 : Int) == 0) = false)
    (hm : m < 4294967296) (i1 : p ≤ c) (i2 : c ≤ s.size) (hPw : Hid ((⟨#[]⟩ : ByteArray) ++ str (wbytes m) = s.extract p c)) :
    Calls Tryd.prog 3 #[.string s, .int .i64 p] w fun e w' => e = .returned (.bool true) ∧ Below w.heap.size w w' := by
  go_enter Tryd.func3, Tryd.ntmps3
  go_wp2_with (first
    | (go_at_call 17; ((with_reducible refine (lives_inv (by assumption)).mono ?_); rintro e w' ⟨rfl, hi⟩))
    | (go_at_call 11; ((with_reducible refine (take_inv (by assumption) _ _ (by omega) _ _ _ hT.out).mono ?_); rintro e w' ⟨rfl, hi⟩))
    | (go_at_call 12; ((with_reducible refine (rtake_inv (by assumption) _ _ (by omega) _ _ _ hT.out).mono ?_); rintro e w' ⟨rfl, hi⟩))
    | (go_at_call 15; ((with_reducible refine (takeWord_inv (by assumption) _ _ (by omega) _ _ _ hW.out).mono ?_); rintro e w' ⟨rfl, hi⟩))
    | (go_at_call 16; ((with_reducible refine (rtakeWord_inv (by assumption) _ _ (by omega) _ _ _ hW.out).mono ?_); rintro e w' ⟨rfl, hi⟩))
    | (go_at_call 13; ((with_reducible refine (takeText_inv (by assumption) _ _ (by omega) _ _ _ hX.out).mono ?_); rintro e w' ⟨rfl, hi⟩))
    | (go_at_call 14; ((with_reducible refine (rtakeText_inv (by assumption) _ _ (by omega) _ _ _ hX.out).mono ?_); rintro e w' ⟨rfl, hi⟩)))
  have hq : Nonempty (InvW w) := ⟨⟨w, h0⟩⟩
  refine wp_region_class (w0 := w) (by assumption) (by kernel_rfl) (by kernel_rfl) ?_
  repeat (go_big_quiet_step (first | (go_at_call 20; exact word_class _ _ _ _ hm (by decide) hPw.out)))
  refine wpQuiet_nil ?_
  rintro _ ⟨x, rfl⟩
  have hx := x.h
  go_wp2
  go_ret
  exact ⟨rfl, Inv.below ‹_›⟩

set_option maxHeartbeats 1000000 in
set_option maxRecDepth 10000 in
theorem takes_000 (s : ByteArray) (p : Int) (v : Nat) (q : Int) (e0 : Nat) (t : ByteArray) (b : Int) (g0 : Nat) (m : Nat) (c : Int) (i0 : Nat) (w : World) (hs : s.size ≤ 140737488355328) (h0 : Inv w w)
    (hT : Hid (takeAt s.data.toList (p : Int) = (v, q, e0))) (hX : Hid (takeText s (p : Int) = (t, b, g0))) (hW : Hid (takeWord s (p : Int) = (m, c, i0)))
    (hne : ((e0 : Int) == 0) = false)
    (hng : ((g0 : Int) == 0) = false)
    (hni : ((i0 : Int) == 0) = false) :
    Calls Tryd.prog 3 #[.string s, .int .i64 p] w fun e w' => e = .returned (.bool true) ∧ Below w.heap.size w w' := by
  go_enter Tryd.func3, Tryd.ntmps3
  go_wp2_with (first
    | (go_at_call 17; ((with_reducible refine (lives_inv (by assumption)).mono ?_); rintro e w' ⟨rfl, hi⟩))
    | (go_at_call 11; ((with_reducible refine (take_inv (by assumption) _ _ (by omega) _ _ _ hT.out).mono ?_); rintro e w' ⟨rfl, hi⟩))
    | (go_at_call 12; ((with_reducible refine (rtake_inv (by assumption) _ _ (by omega) _ _ _ hT.out).mono ?_); rintro e w' ⟨rfl, hi⟩))
    | (go_at_call 15; ((with_reducible refine (takeWord_inv (by assumption) _ _ (by omega) _ _ _ hW.out).mono ?_); rintro e w' ⟨rfl, hi⟩))
    | (go_at_call 16; ((with_reducible refine (rtakeWord_inv (by assumption) _ _ (by omega) _ _ _ hW.out).mono ?_); rintro e w' ⟨rfl, hi⟩))
    | (go_at_call 13; ((with_reducible refine (takeText_inv (by assumption) _ _ (by omega) _ _ _ hX.out).mono ?_); rintro e w' ⟨rfl, hi⟩))
    | (go_at_call 14; ((with_reducible refine (rtakeText_inv (by assumption) _ _ (by omega) _ _ _ hX.out).mono ?_); rintro e w' ⟨rfl, hi⟩)))
  go_quiet (fail)
  go_wp2
  go_ret
  exact ⟨rfl, Inv.below (Inv.drewN (by assumption) _)⟩

theorem word_cases (s : ByteArray) (p : Int) : (∃ i0 : Nat, 1 ≤ i0 ∧ takeWord s p = (0, 0, i0)) ∨ (∃ a : Nat, p = (a : Int) ∧ a + 4 ≤ s.size ∧ ∃ m, m < 4294967296 ∧ takeWord s p = (m, ((a + 4 : Nat) : Int), 0) ∧ (⟨#[]⟩ : ByteArray) ++ str (wbytes m) = s.extract a (a + 4)) := by
  by_cases h : p < 0 ∨ (s.size : Int) < p
  · exact .inl ⟨1, by decide, takeWord_out h⟩
  · obtain ⟨a, rfl⟩ := Int.eq_ofNat_of_zero_le (by omega : 0 ≤ p)
    by_cases h4 : s.size < a + 4
    · exact .inl ⟨3, by decide, takeWord_few (by omega) h4⟩
    · have hl : ((s.data.toList.drop a).take 4).length = 4 := by rw [List.length_take, List.length_drop, list_len]; omega
      refine .inr ⟨a, rfl, by omega, _, be_lt 4 _ hl, by rw [takeWord_ok (by omega)]; exact Prod.ext rfl (Prod.ext (by simp) rfl), ?_⟩
      rw [nil_app, wbytes_be _ hl]
      apply ba_ext
      rw [str_list, Lib.extract_data, Nat.add_sub_cancel_left]

theorem take_again {s : ByteArray} {a q v : Nat} (_haq : a < q) (h : tk (s.data.toList.drop a) 0 0 = (v, q - a, 0)) : str (digs v) = s.extract a q := by
  obtain ⟨m, hv, hd, _, _⟩ := digs_tk _ 0 0 v (q - a) h
  have : v = m := by rw [hv]; simp
  subst this
  apply ba_ext
  rw [str_list, Lib.extract_data, hd, Nat.sub_zero]

theorem takes_walk (s : ByteArray) (p : Int) (w : World) (hs : s.size ≤ 140737488355328) (ht : Tab w) :
    Calls Tryd.prog 3 #[.string s, .int .i64 p] w fun e w' => e = .returned (.bool true) ∧ Below w.heap.size w w' := by
  have h0 : Inv w w := Inv.self ht
  have ne {n : Nat} (h : 1 ≤ n) : ((n : Int) == 0) = false := by simp; omega
  rcases takeAt_cases s.data.toList p with ⟨e0, h1, _, hT⟩ | ⟨v, q, a, rfl, haq, hq, hv, hT, htk⟩
  · have hX := takeText_err hT h1
    rcases word_cases s p with ⟨i0, hi, hW⟩ | ⟨a, rfl, ha, m, hm, hW, hPw⟩
    · exact takes_000 s p 0 0 e0 _ 0 e0 0 0 i0 w hs h0 hT hX hW (ne h1) (ne h1) (ne hi)
    · exact takes_001 s a 0 0 e0 _ 0 e0 m (a + 4) w hs h0 hT hX hW (ne h1) (ne h1) hm (by omega) ha hPw
  · rw [list_len] at hq
    have hP : (⟨#[]⟩ : ByteArray) ++ str (digs v) = s.extract a q := by rw [nil_app]; exact take_again haq htk
    by_cases hb : 1048576 < v
    · have hX := takeText_big hT hb
      rcases word_cases s a with ⟨i0, hi, hW⟩ | ⟨a', he, ha, m, hm, hW, hPw⟩
      · exact takes_100 s a v q _ 0 4 0 0 i0 w hs h0 hT hX hW hv (by omega) hq hP (by decide) (ne hi)
      · obtain rfl : a = a' := by omega
        exact takes_101 s a v q _ 0 4 m (a + 4) w hs h0 hT hX hW hv (by omega) hq hP (by decide) hm (by omega) ha hPw
    · by_cases hf : s.size < q + v
      · have hX := takeText_few hT hb hf
        rcases word_cases s a with ⟨i0, hi, hW⟩ | ⟨a', he, ha, m, hm, hW, hPw⟩
        · exact takes_100 s a v q _ 0 3 0 0 i0 w hs h0 hT hX hW hv (by omega) hq hP (by decide) (ne hi)
        · obtain rfl : a = a' := by omega
          exact takes_101 s a v q _ 0 3 m (a + 4) w hs h0 hT hX hW hv (by omega) hq hP (by decide) hm (by omega) ha hPw
      · have hX := takeText_ok hT hb hf
        have hz : (s.extract q (q + v)).size = v := by rw [ByteArray.size_extract]; omega
        have hPt : (⟨#[]⟩ : ByteArray) ++ lp (s.extract q (q + v)) = s.extract a (q + v) := by
          rw [nil_app, lp, hz, take_again haq htk]
          apply ba_ext
          rw [app_list, Lib.extract_data, Lib.extract_data, Lib.extract_data, Nat.add_sub_cancel_left, show q + v - a = (q - a) + v by omega, List.take_add, List.drop_drop, show a + (q - a) = q by omega]
        rcases word_cases s a with ⟨i0, hi, hW⟩ | ⟨a', he, ha, m, hm, hW, hPw⟩
        · exact takes_110 s a v q _ (q + v) 0 0 i0 w hs h0 hT hX hW hv (by omega) hq hP (by omega) (by omega) (by omega) hPt (ne hi)
        · obtain rfl : a = a' := by omega
          exact takes_111 s a v q _ (q + v) m (a + 4) w hs h0 hT hX hW hv (by omega) hq hP (by omega) (by omega) (by omega) hPt hm (by omega) ha hPw
end Go.Proofs.YtgnljpcnkmogfaaDoor
