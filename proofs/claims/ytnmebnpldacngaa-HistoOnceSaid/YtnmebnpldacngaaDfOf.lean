/-
  The walks of the reference's Of and of FromRuns.
-/
import Derived.Test.YtnmebnpldacngaaDfStay
import Derived.Test.YtnmebnpldacngaaDfFits
import Derived.Test.YtnmebnpldacngaaDfLeast
namespace Go.Proofs.Ytnmebnpldacngaa
open Go.RowKit

/-- What FromRuns answers. -/
def fromL (n m : Int) (rs : List Rn) : List Ed := if n < 0 ∨ m < 0 then [] else ofL n m rs 0 0 []
theorem box_three {w : World} {a b c : Value} {t : TypeId} : (w.alloc (.cells #[a, b, c] t)).heap[w.heap.size]? = some (.cells #[a, b, c] t (0, 0)) := heap_alloc_new w _
theorem chg_len (i j i' j' : Int) (acc : List Ed) : (chg i j i' j' acc).length ≤ acc.length + 1 := by
  unfold chg
  split <;> simp

set_option maxHeartbeats 4000000 in
set_option maxRecDepth 4000 in
theorem of_any (rs : List Rn) (p : Option Addr) (c l : Nat) (n m : Int) (R : List Ed) (w : World) (hle : l = rs.length) (hp : RRw w p rs) (hl : l ≤ 1000000) (hn : n ≤ 9223372036854775807) (hm : m ≤ 9223372036854775807) (hR : R = fromL n m rs) :
    Calls Try.prog 25 #[.int .i64 n, .int .i64 m, .slice p l c] w fun e w' => (∃ v, e = .returned v ∧ EOw w' w.heap.size v R) ∧ Below w.heap.size w w' := by
  obtain ⟨i0, hi, hz0, hz1, hz2⟩ := info_parts Try.infoEd
  by_cases hneg : n < 0 ∨ m < 0
  · have HX : Hid (R = []) := by show _ = _; rw [hR, fromL, if_pos hneg]
    have hneg' : n < 0 ∨ 0 ≤ n ∧ m < 0 := by omega
    clear hR hneg
    rcases hneg' with h1 | ⟨h1, h2⟩
    · go_enter Try.func25, Try.ntmps25
      go_wp2
      go_ret
      exact ⟨⟨_, rfl, by rw [HX.out]; exact EOw.nil _ _⟩, Below.refl _ _⟩
    · go_enter Try.func25, Try.ntmps25
      go_wp2
      go_ret
      exact ⟨⟨_, rfl, by rw [HX.out]; exact EOw.nil _ _⟩, Below.refl _ _⟩
  · have hn0 : 0 ≤ n := by omega
    have hm0 : 0 ≤ m := by omega
    have HB : Hid (R = ofL n m (rs.drop 0) 0 0 []) := by show _ = _; rw [hR, fromL, if_neg hneg]; rfl
    have HLE := Lib.hid hle
    have HP := Lib.hid hp
    clear hle hp hR hneg
    go_enter Try.func25, Try.ntmps25
    go_wp2
    go_loopw [20, 7, 8, 9] (fun kv ov xv yv wr => ∃ (k L : Nat) (i j : Int) (acc : List Ed) (q : Option Addr) (cap : Nat), k ≤ l ∧ L ≤ k ∧ 0 ≤ i ∧ i ≤ n ∧ 0 ≤ j ∧ j ≤ m ∧ kv = .int .i64 k ∧ ov = .slice q L cap ∧ xv = .int .i64 i ∧ yv = .int .i64 j ∧ Hid (L = acc.length) ∧ Hid (EOw wr w.heap.size (.slice q L cap) acc) ∧ Hid (R = ofL n m (rs.drop k) i j acc) ∧ Hid (Below w.heap.size w wr)) (fun kv _ _ _ _ => l - (intOf kv).toNat)
    case atStart => exact ⟨0, 0, 0, 0, [], none, 0, by omega, by omega, by omega, by omega, by omega, by omega, rfl, rfl, rfl, rfl, rfl, EOw.nil _ _, HB.out, Below.refl _ _⟩
    case round =>
      clear HB
      obtain ⟨k, L, i, j, acc, q, cap, hk, hL, hi0, hin, hj0, hjm, rfl, rfl, rfl, rfl, HL, HO, HB, HW⟩ := hrel
      have hws := HW.out.size
      by_cases hlt : k < l
      · have hka : k < rs.length := by rw [← HLE.out]; omega
        obtain ⟨g, o, rfl, hg, a0, a1, a2⟩ := HP.out.now HW.out k hka
        have hX := HB.out
        rw [List.drop_eq_getElem_cons hka] at hX
        obtain ⟨e, he⟩ : ∃ e, e = rs[k] := ⟨_, rfl⟩
        rw [← he] at a0 a1 a2 hX
        obtain ⟨a, b, z⟩ := e
        simp only at a0 a1 a2
        clear he hka HB
        by_cases hok : okR ⟨a, b, z⟩ i j n m
        · rw [ofL_go hok] at hX
          unfold okR at hok
          simp only at hok hX
          obtain ⟨k1, ⟨k2, k3, _, k4⟩, ⟨k5, k6, _, k7⟩⟩ := hok
          have i1 : IntKind.i64.wrap (n - a) = n - a := IntWalk.i64_in _ (by omega)
          have i2 : IntKind.i64.wrap (m - b) = m - b := IntWalk.i64_in _ (by omega)
          have i3 : IntKind.i64.wrap (a + z) = a + z := IntWalk.i64_in _ (by omega)
          have i4 : IntKind.i64.wrap (b + z) = b + z := IntWalk.i64_in _ (by omega)
          have i5 : IntKind.i64.wrap (a - i) = a - i := IntWalk.i64_in _ (by omega)
          have i6 : IntKind.i64.wrap (b - j) = b - j := IntWalk.i64_in _ (by omega)
          have hc : (¬ (i < a ∨ j < b)) ∨ i < a ∨ (¬ i < a ∧ j < b) := by omega
          have az : 0 ≤ a + z := by omega
          have azn : a + z ≤ n := by omega
          have bz : 0 ≤ b + z := by omega
          have bzm : b + z ≤ m := by omega
          rcases hc with hno | hy
          · have HX : Hid (R = ofL n m (rs.drop (k + 1)) (a + z) (b + z) acc) := by show _ = _; rw [hX, chg, if_neg hno]
            have n1 : ¬ i < a := fun h => hno (.inl h)
            have n2 : ¬ j < b := fun h => hno (.inr h)
            clear hX hno
            go_wp2
            go_roundw
            case rel => exact ⟨k + 1, L, _, _, acc, q, cap, by omega, by omega, az, azn, bz, bzm, by go_num, rfl, rfl, rfl, HL.out, HO.out.alloc _, HX.out, below_new HW.out _⟩
            case measure => simp [intOf]; omega
          · have HX : Hid (R = ofL n m (rs.drop (k + 1)) (a + z) (b + z) (acc ++ [⟨i, a - i, j, b - j⟩])) := by show _ = _; rw [hX, chg_yes (by omega)]
            have ho := HO.out.of HL.out
            clear hX
            rcases hy with h1 | ⟨h1, h2⟩
            all_goals go_wp2_with (at_builtin; refine wpList_append_own _ rfl _ _ 26 rfl w.heap.size 44 i0 (.agg #[.int .i64 0, .int .i64 0, .int .i64 0, .int .i64 0]) 4 32 Try.underlying26 hi hz0 hz1 hz2 rfl (by decide) _ _ _ rfl ((ho.alloc _).alloc _) ⟨wr.heap.size + 1, 0, none⟩ 1 1 (Ed.cells ⟨i, a - i, j, b - j⟩) rfl rfl (news_ed wr ⟨i, a - i, j, b - j⟩ _ _) (ed_one _) (by unfold maxLen; omega) (by omega) (by simp; omega) ?_; intro v1 w1 ho1 hg1 _; have ho1' := EOw.push HL.out ho1; obtain ⟨q1, cap1, rfl⟩ := ho1'.shapeN (n := L + 1) (by rw [List.length_append, ← HL.out, List.length_singleton]); have HO1 := Lib.hid ho1'; have HB1 := Lib.hid ((below_new (below_new HW.out _) _).grown hg1 (by simp; omega) (fun j hj => (ho.lt j hj).1)); have hzz := own_row ((ho.alloc _).alloc _) (row_alloc (box_three (w := wr)) (row_lt (box_three (w := wr)))) (by decide) (by simp; omega) hg1; have b0 := cell_of_row w1 _ 0 _ _ _ hzz; have b1 := cell_of_row w1 _ 1 _ _ _ hzz; have b2 := cell_of_row w1 _ 2 _ _ _ hzz; clear ho1 hg1 ho1' hzz)
            all_goals go_roundw
            case rel => exact ⟨k + 1, L + 1, _, _, _, q1, cap1, by omega, by omega, az, azn, bz, bzm, by go_num, rfl, rfl, rfl, by show _ = _; rw [List.length_append, ← HL.out, List.length_singleton], HO1.out, HX.out, HB1.out⟩
            case measure => simp [intOf]; omega
            case rel => exact ⟨k + 1, L + 1, _, _, _, q1, cap1, by omega, by omega, az, azn, bz, bzm, by go_num, rfl, rfl, rfl, by show _ = _; rw [List.length_append, ← HL.out, List.length_singleton], HO1.out, HX.out, HB1.out⟩
            case measure => simp [intOf]; omega
        · rw [ofL_not hok] at hX
          unfold okR at hok
          simp only at hok
          have HX := Lib.hid hX
          have hc : z < 1 ∨ (1 ≤ z ∧ a < i) ∨ (1 ≤ z ∧ i ≤ a ∧ b < j) ∨ (1 ≤ z ∧ i ≤ a ∧ j ≤ b ∧ n < a) ∨ (1 ≤ z ∧ i ≤ a ∧ j ≤ b ∧ a ≤ n ∧ m < b) ∨ (1 ≤ z ∧ i ≤ a ∧ j ≤ b ∧ a ≤ n ∧ b ≤ m ∧ n - a < z) ∨ (1 ≤ z ∧ i ≤ a ∧ j ≤ b ∧ a ≤ n ∧ b ≤ m ∧ z ≤ n - a ∧ m - b < z) := by omega
          clear hX hok
          rcases hc with h1 | ⟨h1, h2⟩ | ⟨h1, h2, h3⟩ | ⟨h1, h2, h3, h4⟩ | ⟨h1, h2, h3, h4, h5⟩ | ⟨h1, h2, h3, h4, h5, h6⟩ | ⟨h1, h2, h3, h4, h5, h6, h7⟩
          all_goals try (have i1 : IntKind.i64.wrap (n - a) = n - a := IntWalk.i64_in _ (by omega))
          all_goals try (have i2 : IntKind.i64.wrap (m - b) = m - b := IntWalk.i64_in _ (by omega))
          all_goals go_wp2
          all_goals go_ret
          all_goals exact ⟨⟨_, rfl, by rw [HX.out]; exact EOw.nil _ _⟩, below_new HW.out _⟩
      · obtain rfl : k = l := by omega
        have hX := HB.out
        rw [HLE.out, List.drop_length, ofL] at hX
        have hc : (¬ (i < n ∨ j < m)) ∨ i < n ∨ (¬ i < n ∧ j < m) := by omega
        have i5 : IntKind.i64.wrap (n - i) = n - i := IntWalk.i64_in _ (by omega)
        have i6 : IntKind.i64.wrap (m - j) = m - j := IntWalk.i64_in _ (by omega)
        rcases hc with hno | hy
        · have HX : Hid (R = acc) := by show _ = _; rw [hX, chg, if_neg hno]
          have n1 : ¬ i < n := fun h => hno (.inl h)
          have n2 : ¬ j < m := fun h => hno (.inr h)
          clear hX hno HB
          go_wp2
          go_ret
          exact ⟨⟨_, rfl, by rw [HX.out]; exact HO.out⟩, HW.out⟩
        · have HX : Hid (R = acc ++ [⟨i, n - i, j, m - j⟩]) := by show _ = _; rw [hX, chg_yes (by omega)]
          have ho := HO.out.of HL.out
          clear hX HB
          rcases hy with h1 | ⟨h1, h2⟩
          all_goals go_wp2_with (at_builtin; refine wpList_append_own _ rfl _ _ 26 rfl w.heap.size 44 i0 (.agg #[.int .i64 0, .int .i64 0, .int .i64 0, .int .i64 0]) 4 32 Try.underlying26 hi hz0 hz1 hz2 rfl (by decide) _ _ _ rfl (ho.alloc _) ⟨wr.heap.size, 0, none⟩ 1 1 (Ed.cells ⟨i, n - i, j, m - j⟩) rfl rfl (new_ed wr ⟨i, n - i, j, m - j⟩ _) (ed_one _) (by unfold maxLen; omega) (by omega) (by simp; omega) ?_; intro v1 w1 ho1 hg1 _; have HO1 := Lib.hid (EOw.push HL.out ho1); have HB1 := Lib.hid ((below_new HW.out _).grown hg1 (by simp; omega) (fun j hj => (ho.lt j hj).1)); clear ho1 hg1)
          all_goals go_ret
          all_goals exact ⟨⟨_, rfl, by rw [HX.out]; exact HO1.out⟩, HB1.out⟩
end Go.Proofs.Ytnmebnpldacngaa
