/-
  Rows of edits; the walk of extended.
-/
import Derived.Test.YtidghjalfbklnaaDfSame
import Derived.Laws.OwnMore
import Derived.RegionTactic
import Derived.BigRegion
import Derived.ChangeAlike
namespace Go.Proofs.Ytidghjalfbklnaa
open Go.RowKit

theorem Try.infoEd : (Try.prog.info? 52).map (fun i => (i.zero, i.size, i.bytes)) = some (some (.agg #[.int .i64 0, .int .i64 0, .int .i64 0, .int .i64 0]), 4, 32) := by kernel_rfl
def Ed.cells (e : Ed) : List Value := [.int .i64 e.f, .int .i64 e.d, .int .i64 e.t, .int .i64 e.i]
def ecells (l : List Ed) : List Value := l.flatMap Ed.cells
theorem ecells_snoc (l : List Ed) (e : Ed) : ecells (l ++ [e]) = ecells l ++ Ed.cells e := by simp [ecells]
theorem ecells_len : ∀ l : List Ed, (ecells l).length = l.length * 4
  | [] => rfl
  | e :: l => by
    have h := ecells_len l
    have e1 : ecells (e :: l) = Ed.cells e ++ ecells l := by simp [ecells]
    rw [e1, List.length_append, h, List.length_cons]
    show 4 + l.length * 4 = _
    omega
theorem ed_one (e : Ed) : ∀ u ∈ Ed.cells e, u.oneCell' = true := by
  intro u hu
  simp only [Ed.cells, List.mem_cons, List.not_mem_nil, or_false] at hu
  rcases hu with rfl | rfl | rfl | rfl <;> rfl
/-- A row of edits of the call's own. -/
def EOw (w : World) (base : Nat) (v : Value) (l : List Ed) : Prop := w.ownsRow base 52 4 v l.length (ecells l)
theorem EOw.nil (w : World) (base : Nat) : EOw w base (.slice none 0 0) [] := World.ownsRow_nil w base 52 4
theorem EOw.form {w : World} {base : Nat} {v : Value} {l : List Ed} (h : EOw w base v l) (hl : 0 < l.length) : ∃ g cap, v = .slice (some ⟨g, 0, none⟩) l.length cap ∧ base ≤ g ∧ g < w.heap.size := by
  obtain ⟨g, cap, rfl, _, _⟩ := World.ownsRow.form h hl
  exact ⟨g, cap, rfl, (h.lt g rfl).1, (h.lt g rfl).2⟩
theorem EOw.last {w : World} {base g cap k : Nat} {r : List Ed} {l : Ed} (h : EOw w base (.slice (some ⟨g, 0, none⟩) (k + 1) cap) (r ++ [l])) (hk : k = r.length) :
    w.cell? ⟨g, k * 4, none⟩ = some (.int .i64 l.f) ∧ w.cell? ⟨g, k * 4 + 1, none⟩ = some (.int .i64 l.d) ∧ w.cell? ⟨g, k * 4 + 2, none⟩ = some (.int .i64 l.t) ∧ w.cell? ⟨g, k * 4 + 3, none⟩ = some (.int .i64 l.i) ∧ ∀ j, w.frozen? ⟨g, j, none⟩ = false := by
  unfold EOw at h
  rw [List.length_append, List.length_cons, List.length_nil, Nat.zero_add, ← hk, ecells_snoc] at h
  have at' (j : Nat) (hj : j < 4) : w.cell? ⟨g, k * 4 + j, none⟩ = (Ed.cells l)[j]? := by
    rw [World.ownsRow.cellAt h (k * 4 + j) (by omega), List.getElem?_append_right (by rw [ecells_len, hk]; omega), ecells_len, ← hk, Nat.add_sub_cancel_left]
  exact ⟨at' 0 (by decide), at' 1 (by decide), at' 2 (by decide), at' 3 (by decide), fun j => World.ownsRow.frozenAt h j⟩
theorem EOw.joined {w : World} {base g cap k : Nat} {r : List Ed} {l : Ed} (h : EOw w base (.slice (some ⟨g, 0, none⟩) (k + 1) cap) (r ++ [l])) (hk : k = r.length) (D I : Int) :
    EOw ((w.setCell ⟨g, k * 4 + 1, none⟩ (.int .i64 D)).setCell ⟨g, k * 4 + 3, none⟩ (.int .i64 I)) base (.slice (some ⟨g, 0, none⟩) (k + 1) cap) (r ++ [⟨l.f, D, l.t, I⟩]) := by
  unfold EOw at h ⊢
  rw [List.length_append, List.length_cons, List.length_nil, Nat.zero_add, ← hk, ecells_snoc] at h ⊢
  have h1 := (World.ownsRow.stored h (k * 4 + 1) (.int .i64 D)).1
  have h2 := (World.ownsRow.stored h1 (k * 4 + 3) (.int .i64 I)).1
  have e : ((ecells r ++ Ed.cells l).set (k * 4 + 1) (.int .i64 D)).set (k * 4 + 3) (.int .i64 I) = ecells r ++ Ed.cells ⟨l.f, D, l.t, I⟩ := by
    rw [List.set_append_right _ _ (by rw [ecells_len, hk]; omega), List.set_append_right _ _ (by rw [ecells_len, hk]; omega), ecells_len, ← hk, Nat.add_sub_cancel_left, Nat.add_sub_cancel_left]
    rfl
  rw [e] at h2
  exact h2
theorem eow_below {w w' : World} {base : Nat} {v : Value} {l : List Ed} (h : EOw w base v l) (hb : Below w.heap.size w w') : EOw w' base v l := own_below h hb
theorem news_ed (w : World) (e : Ed) (o : Obj) (t : TypeId) (j : Nat) (u : Value) (hj : (Ed.cells e)[j]? = some u) :
    ((w.alloc o).alloc (.cells #[.int .i64 e.f, .int .i64 e.d, .int .i64 e.t, .int .i64 e.i] t)).cell? ((⟨w.heap.size + 1, 0, none⟩ : Addr).add j) = some u := by
  rw [Addr.add_lit, Nat.zero_add]
  have h := World.cell?_alloc_mark (w.alloc o) #[.int .i64 e.f, .int .i64 e.d, .int .i64 e.t, .int .i64 e.i] t (0, 0) j
  have e1 : (w.alloc o).heap.size = w.heap.size + 1 := by simp
  rw [e1] at h
  refine h.trans ?_
  simpa [Ed.cells] using hj

theorem new_ed (w : World) (e : Ed) (t : TypeId) (j : Nat) (u : Value) (hj : (Ed.cells e)[j]? = some u) :
    (w.alloc (.cells #[.int .i64 e.f, .int .i64 e.d, .int .i64 e.t, .int .i64 e.i] t)).cell? ((⟨w.heap.size, 0, none⟩ : Addr).add j) = some u := by
  rw [Addr.add_lit, Nat.zero_add]
  refine (World.cell?_alloc_mark w #[.int .i64 e.f, .int .i64 e.d, .int .i64 e.t, .int .i64 e.i] t (0, 0) j).trans ?_
  simpa [Ed.cells] using hj

set_option maxHeartbeats 2000000 in
set_option maxRecDepth 4000 in
theorem extended_any (acc : List Ed) (e : Ed) (v : Value) (base : Nat) (w : World) (ho : EOw w base v acc) (hb : base ≤ w.heap.size) (hl : acc.length ≤ 1048576)
    (hlast : ∀ r l, acc = r ++ [l] → 0 ≤ l.f ∧ 0 ≤ l.d ∧ l.f ≤ 1099511627776 ∧ l.d ≤ 1099511627776 ∧ 0 ≤ l.i ∧ l.i ≤ 1099511627776) (he : 0 ≤ e.d ∧ e.d ≤ 1099511627776 ∧ 0 ≤ e.i ∧ e.i ≤ 1099511627776) :
    Calls Try.prog 71 #[v, .agg #[.int .i64 e.f, .int .i64 e.d, .int .i64 e.t, .int .i64 e.i]] w fun e' w' => (∃ v', e' = .returned v' ∧ EOw w' base v' (ext acc e)) ∧ Below base w w' := by
  obtain ⟨i0, hi, hz0, hz1, hz2⟩ := info_parts Try.infoEd
  obtain ⟨f, d, t, i⟩ := e
  simp only at he ⊢
  rcases List.eq_nil_or_concat acc with rfl | ⟨r, l, rfl⟩
  · obtain ⟨p, cap, rfl⟩ : ∃ p cap, v = .slice p 0 cap := by
      rcases ho.2 with ⟨rfl, _⟩ | ⟨g, cap, cur, rfl, _⟩
      · exact ⟨none, 0, rfl⟩
      · exact ⟨_, _, rfl⟩
    have ho' : w.ownsRow base 52 4 (.slice p 0 cap) 0 [] := ho
    go_enter Try.func71, Try.ntmps71
    go_wp2_with (at_builtin; refine wpList_append_own _ rfl _ _ 26 rfl base 52 i0 (.agg #[.int .i64 0, .int .i64 0, .int .i64 0, .int .i64 0]) 4 32 Try.underlying26 hi hz0 hz1 hz2 rfl (by decide) _ _ _ rfl ((ho'.alloc _).alloc _) ⟨w.heap.size + 1, 0, none⟩ 1 1 (Ed.cells ⟨f, d, t, i⟩) rfl rfl (news_ed w ⟨f, d, t, i⟩ _ _) (ed_one _) (by unfold maxLen; omega) (by omega) (by simp; omega) ?_; intro v1 w1 ho1 hg1 _)
    go_ret
    refine ⟨⟨v1, rfl, ho1⟩, ?_⟩
    exact (((Below.refl base w).alloc hb _).alloc (by simp; omega) _).grown hg1 (by simp; omega) (fun k hk => (ho'.lt k hk).1)
  · rw [List.concat_eq_append] at *
    obtain ⟨b1, b2, b3, b4, b5, b6⟩ := hlast r l rfl
    obtain ⟨g, cap, rfl, hg1, hg2⟩ := ho.form (by simp)
    obtain ⟨k, hk⟩ : ∃ k, k = r.length := ⟨_, rfl⟩
    have hn : (r ++ [l]).length = k + 1 := by rw [hk]; simp
    rw [hn] at ho hl ⊢
    have hne : g ≠ w.heap.size := by omega
    have hne2 : w.heap.size ≠ g := by omega
    obtain ⟨c0, c1, c2, c3, fr⟩ := ho.last hk
    have iw : IntKind.i64.wrap (((k + 1 : Nat) : Int) - 1) = (k : Int) := by rw [IntWalk.i64_in _ (by omega)]; omega
    have i1 : IntKind.i64.wrap (l.f + l.d) = l.f + l.d := IntWalk.i64_in _ (by omega)
    have i2 : IntKind.i64.wrap (l.d + d) = l.d + d := IntWalk.i64_in _ (by omega)
    have i3 : IntKind.i64.wrap (l.i + i) = l.i + i := IntWalk.i64_in _ (by omega)
    obtain ⟨n, hn2⟩ : ∃ n, n = k + 1 := ⟨_, rfl⟩
    have HO := Lib.hid ho
    have HK := Lib.hid hk
    have hkn : k < n := by omega
    have hn0 : 0 < n := by omega
    have hnl : n ≤ 1048576 := by omega
    by_cases hf : l.f + l.d = f
    · have HX : Hid (ext (r ++ [l]) ⟨f, d, t, i⟩ = r ++ [⟨l.f, l.d + d, l.t, l.i + i⟩]) := ext_join r l ⟨f, d, t, i⟩ hf
      have hfb : (l.f + l.d == f) = true := beq_iff_eq.mpr hf
      rw [← hn2] at iw ⊢
      have HN2 := Lib.hid hn2
      clear ho hk hn hf hlast hn2
      go_enter Try.func71, Try.ntmps71
      go_wp2
      go_quiet (fail)
      go_wp2
      go_region
      all_goals go_wp2
      all_goals go_region
      all_goals go_wp2
      all_goals go_ret
      refine ⟨⟨_, rfl, ?_⟩, ?_⟩
      · rw [HX.out, HN2.out]
        exact EOw.joined (w := (w.alloc _).drewN (nq + 1)) (World.ownsRow.alloc HO.out _) HK.out _ _
      · exact ((Below.setCell (Below.setCell (below_drewN ((Below.refl base w).alloc hb _) _) (by exact hg1) _) (by exact hg1) _)).drew
    · have HX : Hid (ext (r ++ [l]) ⟨f, d, t, i⟩ = r ++ [l] ++ [⟨f, d, t, i⟩]) := ext_new r l ⟨f, d, t, i⟩ hf
      have hfb : (l.f + l.d == f) = false := beq_eq_false_iff_ne.mpr hf
      rw [← hn2] at iw ⊢
      have ho' : w.ownsRow base 52 4 (.slice (some ⟨g, 0, none⟩) n cap) n (ecells (r ++ [l])) := by
        have h := HO.out
        unfold EOw at h
        rw [hn, ← hn2] at h
        exact h
      have HN2 : Hid (n = (r ++ [l]).length) := by show _ = _; rw [hn2, hn]
      clear ho hk hn hf hlast hn2
      go_enter Try.func71, Try.ntmps71
      go_wp2
      go_quiet (fail)
      obtain ⟨w0, hw0⟩ : ∃ w0, w0 = (w.alloc (.cells #[.int .i64 f, .int .i64 d, .int .i64 t, .int .i64 i] 52)).drewN nq := ⟨_, rfl⟩
      have ho0 : w0.ownsRow base 52 4 (.slice (some ⟨g, 0, none⟩) n cap) n (ecells (r ++ [l])) := by rw [hw0]; exact ho'.alloc _
      have hb0 : Below base w w0 := by rw [hw0]; exact below_drewN ((Below.refl base w).alloc hb _) _
      have hs0 : base ≤ w0.heap.size := Nat.le_trans hb hb0.size
      have hbx : w0.heap[w.heap.size]? = some (.cells #[.int .i64 f, .int .i64 d, .int .i64 t, .int .i64 i] 52 (0, 0)) := by rw [hw0]; exact heap_alloc_new w _
      have k0 := cell_of_row w0 w.heap.size 0 _ _ _ hbx
      have k1 := cell_of_row w0 w.heap.size 1 _ _ _ hbx
      have k2 := cell_of_row w0 w.heap.size 2 _ _ _ hbx
      have k3 := cell_of_row w0 w.heap.size 3 _ _ _ hbx
      rw [← hw0]
      clear hbx hw0 c0 c1 c2 c3 fr
      go_wp2_with (at_builtin; refine wpList_append_own _ rfl _ _ 26 rfl base 52 i0 (.agg #[.int .i64 0, .int .i64 0, .int .i64 0, .int .i64 0]) 4 32 Try.underlying26 hi hz0 hz1 hz2 rfl (by decide) _ _ _ rfl (ho0.alloc _) ⟨w0.heap.size, 0, none⟩ 1 1 (Ed.cells ⟨f, d, t, i⟩) rfl rfl (new_ed w0 ⟨f, d, t, i⟩ _) (ed_one _) (by unfold maxLen; omega) (by omega) (by simp; omega) ?_; intro v1 w1 ho1 hg1 _)
      go_ret
      refine ⟨⟨v1, rfl, ?_⟩, (hb0.alloc hs0 _).grown hg1 (by simp; omega) (fun k hk => (ho0.lt k hk).1)⟩
      unfold EOw
      rw [HX.out, ecells_snoc, List.length_append, ← HN2.out]
      exact ho1
end Go.Proofs.Ytidghjalfbklnaa
