/-
  The walks of Invert and of the reference's Back.
-/
import Derived.Test.YtabadihainbbhabDfRows
import Derived.Outline
import Derived.Deep.RegionHeld3
namespace Go.Proofs.Ytabadihainbbhab
open Go.RowKit

theorem EOw.push {w : World} {base n : Nat} {v : Value} {l : List Ed} {e : Ed} (hn : n = l.length) (h : w.ownsRow base 44 4 v (n + 1) (ecells l ++ Ed.cells e)) : EOw w base v (l ++ [e]) := by
  unfold EOw
  rw [ecells_snoc, List.length_append, List.length_singleton, ← hn]
  exact h
theorem EOw.of {w : World} {base n : Nat} {v : Value} {l : List Ed} (h : EOw w base v l) (hn : n = l.length) : w.ownsRow base 44 4 v n (ecells l) := by
  rw [hn]
  exact h
theorem EOw.shapeN {w : World} {base n : Nat} {v : Value} {l : List Ed} (h : EOw w base v l) (hn : n = l.length) : ∃ p cap, v = .slice p n cap := by
  rw [hn]
  exact h.shape

/-- An edit of a row, read later. -/
theorem ERw.now {w w' : World} {p : Option Addr} {es : List Ed} (h : ERw w p es) (hb : Below w.heap.size w w') (k : Nat) (hk : k < es.length) : ∃ g o, p = some ⟨g, o, none⟩ ∧ g < w.heap.size ∧
    w'.cell? ⟨g, o + k * 4, none⟩ = some (.int .i64 es[k].f) ∧ w'.cell? ⟨g, o + k * 4 + 1, none⟩ = some (.int .i64 es[k].d) ∧ w'.cell? ⟨g, o + k * 4 + 2, none⟩ = some (.int .i64 es[k].t) ∧ w'.cell? ⟨g, o + k * 4 + 3, none⟩ = some (.int .i64 es[k].i) := by
  obtain ⟨g, o, rfl, hg, h0, h1, h2, h3⟩ := h k hk
  exact ⟨g, o, rfl, hg, (hb.cell (p := ⟨g, _, none⟩) hg).trans h0, (hb.cell (p := ⟨g, _, none⟩) hg).trans h1, (hb.cell (p := ⟨g, _, none⟩) hg).trans h2, (hb.cell (p := ⟨g, _, none⟩) hg).trans h3⟩

set_option maxHeartbeats 1000000 in
set_option maxRecDepth 4000 in
theorem invert_any (es : List Ed) (p : Option Addr) (c n : Nat) (w : World) (hn : n = es.length) (hp : ERw w p es) (hl : n ≤ 1048576) :
    Calls Try.prog 21 #[.slice p n c] w fun e w' => (∃ v, e = .returned v ∧ EOw w' w.heap.size v (es.map Ed.inv)) ∧ Below w.heap.size w w' := by
  obtain ⟨i0, hi, hz0, hz1, hz2⟩ := info_parts Try.infoEd
  have HN := Lib.hid hn
  have HP := Lib.hid hp
  obtain ⟨R, hR⟩ : ∃ R, R = es.map Ed.inv := ⟨_, rfl⟩
  rw [← hR]
  have HR := Lib.hid hR
  clear hn hp hR
  go_enter Try.func21, Try.ntmps21
  go_wp2_with (at_make; refine wpList_make_own _ rfl _ _ 26 rfl w.heap.size 44 i0 (.agg #[.int .i64 0, .int .i64 0, .int .i64 0, .int .i64 0]) 4 Try.underlying26 hi hz0 hz1 _ _ _ n rfl rfl rfl (by rw [hz2]; omega) (by unfold maxLen; omega) (Nat.le_refl _) ?_; intro w2 ho2 hg2; have hb2 := Lib.hid ((Below.refl w.heap.size w).grown hg2 (Nat.le_refl _) (fun k hk => by cases hk)))
  go_loopw [11, 3] (fun iv ov wr => ∃ (k : Nat) (q : Option Addr) (cap : Nat), k ≤ n ∧ iv = .int .i64 k ∧ ov = .slice q k cap ∧ Hid (EOw wr w.heap.size (.slice q k cap) ((es.take k).map Ed.inv)) ∧ Hid (Below w.heap.size w wr)) (fun iv _ _ => n - (intOf iv).toNat)
  case atStart => exact ⟨0, some ⟨w.heap.size, 0, none⟩, n, by omega, rfl, rfl, ho2, hb2.out⟩
  case round =>
    clear ho2 hg2 hb2
    obtain ⟨k, q, cap, hk, rfl, rfl, HO, HB⟩ := hrel
    by_cases hlt : k < n
    · have hka : k < es.length := by rw [← HN.out]; omega
      obtain ⟨g, o, rfl, hg, a0, a1, a2, a3⟩ := HP.out.below HB.out k hka
      have hlk : k = ((es.take k).map Ed.inv).length := by rw [List.length_map, List.length_take]; omega
      have ho := HO.out.of hlk
      have hsn : (es.take (k + 1)).map Ed.inv = (es.take k).map Ed.inv ++ [es[k].inv] := by rw [List.take_succ_eq_append_getElem hka, List.map_append, List.map_singleton]
      obtain ⟨e, he⟩ : ∃ e, e = es[k] := ⟨_, rfl⟩
      rw [← he] at a0 a1 a2 a3 hsn
      obtain ⟨f, d, t, x⟩ := e
      simp only at a0 a1 a2 a3
      have HS := Lib.hid hsn
      have HLK := Lib.hid hlk
      have hbs := HB.out.size
      clear he hka hg hsn hlk
      go_wp2_with (at_builtin; refine wpList_append_own _ rfl _ _ 26 rfl w.heap.size 44 i0 (.agg #[.int .i64 0, .int .i64 0, .int .i64 0, .int .i64 0]) 4 32 Try.underlying26 hi hz0 hz1 hz2 rfl (by decide) _ _ _ rfl ((ho.alloc _).alloc _) ⟨wr.heap.size + 1, 0, none⟩ 1 1 (Ed.cells ⟨t, x, f, d⟩) rfl rfl (news_ed wr ⟨t, x, f, d⟩ _ _) (ed_one _) (by unfold maxLen; omega) (by omega) (by simp; omega) ?_; intro v1 w1 ho1 hg1 _; have ho1' := EOw.push HLK.out ho1; obtain ⟨q1, cap1, rfl⟩ := ho1'.shapeN (n := k + 1) (by rw [List.length_append, ← HLK.out, List.length_singleton]); have HO1 := Lib.hid ho1'; have HB1 := Lib.hid ((below_new (below_new HB.out _) _).grown hg1 (by simp; omega) (fun j hj => (ho.lt j hj).1)); clear ho1 hg1 ho1')
      go_roundw
      case rel => exact ⟨k + 1, q1, cap1, by omega, by go_num, rfl, by show EOw _ _ _ _; rw [HS.out]; exact HO1.out, HB1.out⟩
      case measure => simp [intOf]; omega
    · obtain rfl : k = n := by omega
      have HX : Hid ((es.take k).map Ed.inv = R) := by show _ = _; rw [HR.out, List.take_of_length_le (by rw [← HN.out]; omega)]
      go_wp2
      go_ret
      exact ⟨⟨_, rfl, by rw [← HX.out]; exact HO.out⟩, HB.out⟩

set_option maxHeartbeats 2000000 in
set_option maxRecDepth 4000 in
theorem back_any (es : List Ed) (p : Option Addr) (c n : Nat) (w : World) (hn : n = es.length) (hp : ERw w p es) (hl : n ≤ 1048576) :
    Calls Try.prog 22 #[.slice p n c] w fun e w' => (∃ v, e = .returned v ∧ EOw w' w.heap.size v (es.map Ed.inv)) ∧ Below w.heap.size w w' := by
  obtain ⟨i0, hi, hz0, hz1, hz2⟩ := info_parts Try.infoEd
  have HN := Lib.hid hn
  have HP := Lib.hid hp
  obtain ⟨R, hR⟩ : ∃ R, R = es.map Ed.inv := ⟨_, rfl⟩
  rw [← hR]
  have HR := Lib.hid hR
  clear hn hp hR
  go_enter Try.func22, Try.ntmps22
  go_wp2
  go_loopw [7, 3] (fun iv ov wr => ∃ (k : Nat) (q : Option Addr) (cap : Nat), k ≤ n ∧ iv = .int .i64 k ∧ ov = .slice q k cap ∧ Hid (EOw wr w.heap.size (.slice q k cap) ((es.take k).map Ed.inv)) ∧ Hid (Below w.heap.size w wr)) (fun iv _ _ => n - (intOf iv).toNat)
  case atStart => exact ⟨0, none, 0, by omega, rfl, rfl, EOw.nil _ _, Below.refl _ _⟩
  case round =>
    obtain ⟨k, q, cap, hk, rfl, rfl, HO, HB⟩ := hrel
    by_cases hlt : k < n
    · have hka : k < es.length := by rw [← HN.out]; omega
      obtain ⟨g, o, rfl, hg, a0, a1, a2, a3⟩ := HP.out.now HB.out k hka
      have hlk : k = ((es.take k).map Ed.inv).length := by rw [List.length_map, List.length_take]; omega
      have hsn : (es.take (k + 1)).map Ed.inv = (es.take k).map Ed.inv ++ [es[k].inv] := by rw [List.take_succ_eq_append_getElem hka, List.map_append, List.map_singleton]
      obtain ⟨e, he⟩ : ∃ e, e = es[k] := ⟨_, rfl⟩
      rw [← he] at a0 a1 a2 a3 hsn
      obtain ⟨f, d, t, x⟩ := e
      simp only at a0 a1 a2 a3
      have HS := Lib.hid hsn
      have HLK := Lib.hid hlk
      have ho := HO.out.of hlk
      have hbs := HB.out.size
      have hro : (Value.slice q k cap).ownBlock ≠ some g := fun h => by
        have h1 := (ho.lt g h).1
        omega
      have hgs : g < wr.heap.size := Nat.lt_of_lt_of_le hg hbs
      clear he hka hsn hlk
      go_wp2
      go_region_held3 (fun w' => w'.cell? ⟨g, o + k * 4 + 2, none⟩ = some (.int .i64 t) ∧ w'.cell? ⟨g, o + k * 4 + 3, none⟩ = some (.int .i64 x) ∧ w'.cell? ⟨g, o + k * 4, none⟩ = some (.int .i64 f) ∧ w'.cell? ⟨g, o + k * 4 + 1, none⟩ = some (.int .i64 d)) (first | go_keep | (go_split_ands; refine ⟨?_, ?_, ?_, ?_⟩ <;> (rw [hg3.cell_far _ (by simp; omega) (Ne.symm hro)]; assumption)))
        ((refine step_append_lies _ (by rfl) _ _ _ (by rfl) w.heap.size 44 i0 (.agg #[.int .i64 0, .int .i64 0, .int .i64 0, .int .i64 0]) 4 32 Try.underlying26 hi hz0 hz1 hz2 rfl (by omega) _ _ _ (by rfl) ((ho.alloc _).drew) ⟨wr.heap.size, 0, none⟩ 1 1 (Ed.cells ⟨t, x, f, d⟩) (by rfl) (by rfl) (new_ed wr ⟨t, x, f, d⟩ _) (ed_one _) (by omega) (by unfold maxLen; omega) (by omega) (by simp; omega) (wr.heap.size + 1) (by simp) ?_; intro g6 c6 w3 ho3 hg3 hat hlt6))
      have HO1 := Lib.hid (EOw.push HLK.out ho3)
      have HB1 := Lib.hid ((below_drewN (below_new HB.out _) 1).grown hg3 (by simp; omega) (fun j hj => (ho.lt j hj).1))
      clear ho3 hg3 hat hlt6 ho hro
      go_wp2
      go_roundw
      case rel => exact ⟨k + 1, _, _, by omega, by go_num, rfl, by show EOw _ _ _ _; rw [HS.out]; exact HO1.out, HB1.out⟩
      case measure => simp [intOf]; omega
    · obtain rfl : k = n := by omega
      have HX : Hid ((es.take k).map Ed.inv = R) := by show _ = _; rw [HR.out, List.take_of_length_le (by rw [← HN.out]; omega)]
      go_wp2
      go_ret
      exact ⟨⟨_, rfl, by rw [← HX.out]; exact HO.out⟩, HB.out⟩
end Go.Proofs.Ytabadihainbbhab
