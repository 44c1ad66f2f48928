/-
  The walks of appendNumber, appendLiteral and appendCopy.
-/
import Derived.Test.YthfnnbeaggkhkaaOwn
import Derived.IntWalk
namespace Go.Proofs.Ythfnnbeaggkhkaa
open Go.RowKit

set_option maxHeartbeats 1000000 in
set_option maxRecDepth 4000 in
theorem appNum_any (v : Value) (l : List UInt8) (n base : Nat) (w : World) (ho : Ow w base v l) (hb : base ≤ w.heap.size) (hn : n < 9223372036854775808) (hl : l.length ≤ 1099511627776) :
    Calls Try.prog 33 #[v, .int .i64 n] w fun e w' => ∃ v', e = .returned v' ∧ Ow w' base v' (l ++ digs n) ∧ Below base w w' := by
  obtain ⟨i0, hi, hz0, hz1, hz2⟩ := info_parts Try.info5
  obtain ⟨p, hp⟩ : ∃ p, p = str (digs n) := ⟨_, rfl⟩
  have hpl : p.size ≤ 10 := by rw [hp, str_size]; exact digs_len64 (by omega)
  have HP : Hid (p = str (digs n)) := hp
  have i1 : IntKind.u64.wrap (n : Int) = (n : Int) := IntWalk.u64_in _ (by omega)
  clear hp
  go_enter Try.func33, Try.ntmps33
  go_wp2_with (first
    | (go_at_call 55; refine (put_nil n _ (by omega) p HP.out).mono ?_; rintro e w1 ⟨rfl, hb1⟩)
    | (at_builtin; refine Lib.wpList_append_own_string _ rfl _ _ 30 9 rfl base 5 i0 Try.underlying30 Try.underlying9 hi hz0 hz1 hz2 v l.length (bcells l) rfl (ho.below hb1) p rfl (by unfold maxLen; omega) (by omega) (Nat.le_trans hb hb1.size) ?_))
  intro v2 w2 ho2 hg2 _
  have hb2 : Below base w w2 := (below_le hb1 hb).grown hg2 (Nat.le_trans hb hb1.size) (fun k hk => ((ho.below hb1).lt k hk).1)
  have ho3 := Ow.add (by simp) ho2
  clear ho2 hg2 ho
  go_wp2
  go_ret
  exact ⟨_, rfl, by rw [show digs n = p.data.toList by rw [HP.out, str_list]]; exact ho3, hb2⟩

/-- A literal piece. -/
def lit (t : List UInt8) : List UInt8 := if t.isEmpty then [] else digs (2 * t.length) ++ t
theorem lit_nil : lit [] = [] := rfl
theorem lit_cons {t : List UInt8} (h : t.isEmpty = false) : lit t = digs (2 * t.length) ++ t := by rw [lit, h]; rfl
theorem empty_of_size {s : ByteArray} (h : s.size = 0) : s.data.toList = [] := List.eq_nil_of_length_eq_zero (by rw [list_len]; exact h)

set_option maxHeartbeats 1000000 in
set_option maxRecDepth 4000 in
theorem appLit_any (v : Value) (l : List UInt8) (s : ByteArray) (base : Nat) (w : World) (ho : Ow w base v l) (hb : base ≤ w.heap.size) (hs : s.size ≤ 1099511627776) (hl : l.length ≤ 549755813888) :
    Calls Try.prog 35 #[v, .string s] w fun e w' => ∃ v', e = .returned v' ∧ Ow w' base v' (l ++ lit s.data.toList) ∧ Below base w w' := by
  obtain ⟨i0, hi, hz0, hz1, hz2⟩ := info_parts Try.info5
  by_cases h0 : s.size = 0
  · have he : s.toList.isEmpty = true := by rw [ByteArray.toList_eq, empty_of_size h0]; rfl
    have HE : Hid (s.data.toList = []) := empty_of_size h0
    clear h0
    go_enter Try.func35, Try.ntmps35
    go_wp2
    go_ret
    exact ⟨_, rfl, by rw [HE.out, lit_nil, List.append_nil]; exact ho, Below.refl _ _⟩
  · have hne : s.data.toList.isEmpty = false := by
      cases hx : s.data.toList with
      | nil => exact absurd (by rw [← list_len, hx]; rfl) h0
      | cons a t => rfl
    have he : s.toList.isEmpty = false := by rw [ByteArray.toList_eq]; exact hne
    have HL : Hid (lit s.data.toList = digs (2 * s.size) ++ s.data.toList) := by show _ = _; rw [lit_cons hne, list_len]
    obtain ⟨n, hn⟩ : ∃ n, n = 2 * s.size := ⟨_, rfl⟩
    have i1 : IntKind.i64.wrap (2 * (s.size : Int)) = (n : Int) := by rw [IntWalk.i64_in _ (by omega)]; omega
    have hn63 : n < 9223372036854775808 := by omega
    have dl := digs_len64 (n := n) (by omega)
    rw [← hn] at HL
    clear hne h0 hn
    have hl2 : (l ++ digs n).length ≤ 1099511627776 := by rw [List.length_append]; omega
    go_enter Try.func35, Try.ntmps35
    go_wp2_with (first
      | (go_at_call 33; refine (appNum_any v l n base _ ho hb hn63 (by omega)).mono ?_; rintro e w1 ⟨v1, rfl, ho1, hb1⟩)
      | (at_builtin; refine Lib.wpList_append_own_string _ rfl _ _ 30 9 rfl base 5 i0 Try.underlying30 Try.underlying9 hi hz0 hz1 hz2 v1 (l ++ digs n).length (bcells (l ++ digs n)) rfl ho1 s rfl (by unfold maxLen; omega) (by omega) (Nat.le_trans hb hb1.size) ?_))
    intro v2 w2 ho2 hg2 _
    have hb2 : Below base w w2 := hb1.grown hg2 (Nat.le_trans hb hb1.size) (fun k hk => (ho1.lt k hk).1)
    have ho3 := Ow.add (by simp) ho2
    clear ho2 hg2 ho ho1
    go_wp2
    go_ret
    exact ⟨_, rfl, by rw [HL.out, ← List.append_assoc]; exact ho3, hb2⟩

set_option maxHeartbeats 1000000 in
set_option maxRecDepth 4000 in
theorem appCopy_any (v : Value) (l : List UInt8) (n b base : Nat) (w : World) (ho : Ow w base v l) (hb : base ≤ w.heap.size) (hn : n < 4611686018427387904) (hbk : b < 9223372036854775808) (hl : l.length ≤ 549755813888) :
    Calls Try.prog 36 #[v, .int .i64 n, .int .i64 b] w fun e w' => ∃ v', e = .returned v' ∧ Ow w' base v' (l ++ (digs (2 * n + 1) ++ digs b)) ∧ Below base w w' := by
  obtain ⟨m, hm⟩ : ∃ m, m = 2 * n + 1 := ⟨_, rfl⟩
  have i1 : IntKind.i64.wrap (2 * (n : Int)) = 2 * (n : Int) := IntWalk.i64_in _ (by omega)
  have i2 : IntKind.i64.wrap (2 * (n : Int) + 1) = (m : Int) := by rw [IntWalk.i64_in _ (by omega)]; omega
  have hm63 : m < 9223372036854775808 := by omega
  have dl := digs_len64 (n := m) (by omega)
  have hl2 : (l ++ digs m).length ≤ 1099511627776 := by rw [List.length_append]; omega
  rw [← hm]
  clear hm
  go_enter Try.func36, Try.ntmps36
  go_wp2_with (go_at_call 33; first
    | ((with_reducible refine (appNum_any v l m base _ ho hb hm63 (by omega)).mono ?_); rintro e w1 ⟨v1, rfl, ho1, hb1⟩)
    | ((with_reducible refine (appNum_any v1 (l ++ digs m) b base _ ho1 (Nat.le_trans hb hb1.size) hbk hl2).mono ?_); rintro e w2 ⟨v2, rfl, ho2, hb2⟩))
  go_ret
  exact ⟨_, rfl, by rw [← List.append_assoc]; exact ho2, hb1.trans hb2⟩
end Go.Proofs.Ythfnnbeaggkhkaa
