/-
  The walks of the reference's add and Least.
-/
import Derived.Test.YtidghjalfbklnaaDfRTab
import Derived.Test.YtidghjalfbklnaaDfLeastA
import Derived.Test.YtidghjalfbklnaaDfRowsPk
namespace Go.Proofs.Ytidghjalfbklnaa
open Go.RowKit

theorem EOw.front {w : World} {base g cap k : Nat} {r : List Ed} {l : Ed} (h : EOw w base (.slice (some ⟨g, 0, none⟩) (k + 1) cap) (r ++ [l])) (hk : k = r.length) : w.ownsRow base 52 4 (.slice (some ⟨g, 0, none⟩) k cap) k (ecells r) := by
  subst hk
  refine ⟨ecells_len r, ?_⟩
  rcases h.2 with ⟨hn, _⟩ | ⟨g', cap', cur, he, h1, h2, h3, h4, h5, h6⟩
  · cases hn
  · simp only [Value.slice.injEq, Option.some.injEq, Addr.mk.injEq] at he
    obtain ⟨⟨rfl, _, _⟩, _, rfl⟩ := he
    refine .inr ⟨_, _, cur, rfl, h1, h2, ?_, h4, h5, ?_⟩
    · rw [List.length_append, List.length_singleton] at h3
      omega
    · rw [List.length_append, List.length_singleton] at h6
      have h7 := congrArg (List.take (r.length * 4)) h6
      rw [List.take_take, ecells_snoc, List.take_append_of_le_length (by rw [ecells_len]; omega), Nat.min_eq_left (by omega), List.take_of_length_le (l := ecells r) (by rw [ecells_len]; omega)] at h7
      exact h7
theorem row_cells' {w : World} {A : Nat} {a b c d : Value} {t : TypeId} (h : w.heap[A]? = some (.cells #[a, b, c, d] t (0, 0))) :
    (w.cell? ⟨A, 0, none⟩ = some a ∧ w.cell? ⟨A, 1, none⟩ = some b ∧ w.cell? ⟨A, 2, none⟩ = some c ∧ w.cell? ⟨A, 3, none⟩ = some d) ∧ ∀ o, w.frozen? ⟨A, o, none⟩ = false :=
  ⟨⟨cell_of_row w A 0 _ _ _ h, cell_of_row w A 1 _ _ _ h, cell_of_row w A 2 _ _ _ h, cell_of_row w A 3 _ _ _ h⟩, fun o => frozen_of_row w A o _ _ h⟩
theorem EOw.alloc {w : World} {base : Nat} {v : Value} {l : List Ed} (h : EOw w base v l) (o : Obj) : EOw (w.alloc o) base v l := World.ownsRow.alloc h o

set_option maxHeartbeats 2000000 in
set_option maxRecDepth 4000 in
theorem radd_any (acc : List Ed) (e : Ed) (v : Value) (base : Nat) (w : World) (ho : EOw w base v acc) (hb : base ≤ w.heap.size) (hl : acc.length ≤ 1048576)
    (hlast : ∀ r l, acc = r ++ [l] → 0 ≤ l.f ∧ 0 ≤ l.d ∧ l.f ≤ 1099511627776 ∧ l.d ≤ 1099511627776 ∧ 0 ≤ l.t ∧ l.t ≤ 1099511627776 ∧ 0 ≤ l.i ∧ l.i ≤ 1099511627776) (he : 0 ≤ e.d ∧ e.d ≤ 1099511627776 ∧ 0 ≤ e.i ∧ e.i ≤ 1099511627776)
    (hal : ∀ r l, acc = r ++ [l] → l.f + l.d = e.f → l.t + l.i = e.t) :
    Calls Try.prog 100 #[v, .agg #[.int .i64 e.f, .int .i64 e.d, .int .i64 e.t, .int .i64 e.i]] w fun e' w' => (∃ v', e' = .returned v' ∧ EOw w' base v' (ext acc e)) ∧ Below base w w' := by
  obtain ⟨i0, hi, hz0, hz1, hz2⟩ := info_parts Try.infoEd
  obtain ⟨f, d, t, i⟩ := e
  simp only at he hal ⊢
  rcases List.eq_nil_or_concat acc with rfl | ⟨r, l, rfl⟩
  · obtain ⟨p, cap, rfl⟩ : ∃ p cap, v = .slice p 0 cap := by
      rcases ho.2 with ⟨rfl, _⟩ | ⟨g, cap, cur, rfl, _⟩
      · exact ⟨none, 0, rfl⟩
      · exact ⟨_, _, rfl⟩
    have ho' : w.ownsRow base 52 4 (.slice p 0 cap) 0 [] := ho
    go_enter Try.func100, Try.ntmps100
    go_wp2
    go_quiet (fail)
    obtain ⟨w0, hw0⟩ : ∃ w0, w0 = (w.alloc (.cells #[.int .i64 f, .int .i64 d, .int .i64 t, .int .i64 i] 52)).drewN nq := ⟨_, rfl⟩
    have ho0 : w0.ownsRow base 52 4 (.slice p 0 cap) 0 [] := by rw [hw0]; exact ho'.alloc _
    have hb0 : Below base w w0 := by rw [hw0]; exact below_drewN ((Below.refl base w).alloc hb _) _
    have hs0 : base ≤ w0.heap.size := Nat.le_trans hb hb0.size
    have hbx : w0.heap[w.heap.size]? = some (.cells #[.int .i64 f, .int .i64 d, .int .i64 t, .int .i64 i] 52 (0, 0)) := by rw [hw0]; exact heap_alloc_new w _
    obtain ⟨⟨k0, k1, k2, k3⟩, kf⟩ := row_cells' hbx
    rw [← hw0]
    clear hbx hw0
    go_wp2_with (at_builtin; refine wpList_append_own _ rfl _ _ 26 rfl base 52 i0 (.agg #[.int .i64 0, .int .i64 0, .int .i64 0, .int .i64 0]) 4 32 Try.underlying26 hi hz0 hz1 hz2 rfl (by decide) _ _ _ rfl (ho0.alloc _) ⟨w0.heap.size, 0, none⟩ 1 1 (Ed.cells ⟨f, d, t, i⟩) rfl rfl (new_ed w0 ⟨f, d, t, i⟩ _) (ed_one _) (by unfold maxLen; omega) (by omega) (by simp; omega) ?_; intro v1 w1 ho1 hg1 _)
    go_ret
    exact ⟨⟨v1, rfl, ho1⟩, (hb0.alloc hs0 _).grown hg1 (by simp; omega) (fun k hk => (ho0.lt k hk).1)⟩
  · rw [List.concat_eq_append] at *
    obtain ⟨b1, b2, b3, b4, b5, b6, b7, b8⟩ := hlast r l rfl
    have hal' := hal r l rfl
    obtain ⟨g, cap, rfl, hg1, hg2⟩ := ho.form (by simp)
    obtain ⟨k, hk⟩ : ∃ k, k = r.length := ⟨_, rfl⟩
    have hn : (r ++ [l]).length = k + 1 := by rw [hk]; simp
    rw [hn] at ho hl ⊢
    have hne : g ≠ w.heap.size := by omega
    have hne2 : w.heap.size ≠ g := by omega
    obtain ⟨c0, c1, c2, c3, fr⟩ := ho.last hk
    have hcap : k + 1 ≤ cap := by
      rcases World.ownsRow.form (w := w) ho (by rw [hn]; omega) with ⟨g', cap', he', _⟩
      rcases ho.2 with ⟨hn', _⟩ | ⟨g2, cap2, cur, he2, _, _, h3, _⟩
      · cases hn'
      · simp only [Value.slice.injEq] at he2
        rw [hn] at h3
        omega
    have iw : IntKind.i64.wrap (((k + 1 : Nat) : Int) - 1) = (k : Int) := by rw [IntWalk.i64_in _ (by omega)]; omega
    have i1 : IntKind.i64.wrap (l.f + l.d) = l.f + l.d := IntWalk.i64_in _ (by omega)
    have i2 : IntKind.i64.wrap (l.d + d) = l.d + d := IntWalk.i64_in _ (by omega)
    have i3 : IntKind.i64.wrap (l.i + i) = l.i + i := IntWalk.i64_in _ (by omega)
    have i4 : IntKind.i64.wrap (l.t + l.i) = l.t + l.i := IntWalk.i64_in _ (by omega)
    obtain ⟨n, hn2⟩ : ∃ n, n = k + 1 := ⟨_, rfl⟩
    have HO := Lib.hid ho
    have HK := Lib.hid hk
    have hkn : k < n := by omega
    have hn0 : 0 < n := by omega
    have hnl : n ≤ 1048576 := by omega
    have hkc : k ≤ cap := by omega
    by_cases hf : l.f + l.d = f
    · have HX : Hid (ext (r ++ [l]) ⟨f, d, t, i⟩ = r ++ [⟨l.f, l.d + d, l.t, l.i + i⟩]) := ext_join r l ⟨f, d, t, i⟩ hf
      have hfb : (l.f + l.d == f) = true := beq_iff_eq.mpr hf
      have htb : (l.t + l.i == t) = true := beq_iff_eq.mpr (hal' hf)
      have HF := Lib.hid (EOw.front ho hk)
      rw [← hn2] at iw ⊢
      clear ho hk hn hf hlast hn2 hal hal'
      go_enter Try.func100, Try.ntmps100
      go_wp2
      go_quiet (fail)
      obtain ⟨w0, hw0⟩ : ∃ w0, w0 = (w.alloc (.cells #[.int .i64 f, .int .i64 d, .int .i64 t, .int .i64 i] 52)).drewN nq := ⟨_, rfl⟩
      have ho0 : w0.ownsRow base 52 4 (.slice (some ⟨g, 0, none⟩) k cap) k (ecells r) := by rw [hw0]; exact HF.out.alloc _
      have hb0 : Below base w w0 := by rw [hw0]; exact below_drewN ((Below.refl base w).alloc hb _) _
      have hs0 : base ≤ w0.heap.size := Nat.le_trans hb hb0.size
      have hbx : w0.heap[w.heap.size]? = some (.cells #[.int .i64 f, .int .i64 d, .int .i64 t, .int .i64 i] 52 (0, 0)) := by rw [hw0]; exact heap_alloc_new w _
      obtain ⟨⟨k0, k1, k2, k3⟩, kf⟩ := row_cells' hbx
      have hlt0 : w.heap.size < w0.heap.size := row_lt hbx
      have hg0 : g < w0.heap.size := by omega
      have d0 : w0.cell? ⟨g, k * 4, none⟩ = some (.int .i64 l.f) := by rw [hw0]; exact (World.cell?_alloc_lt w _ ⟨g, k * 4, none⟩ hg2).trans c0
      have d1 : w0.cell? ⟨g, k * 4 + 1, none⟩ = some (.int .i64 l.d) := by rw [hw0]; exact (World.cell?_alloc_lt w _ ⟨g, k * 4 + 1, none⟩ hg2).trans c1
      have d2 : w0.cell? ⟨g, k * 4 + 2, none⟩ = some (.int .i64 l.t) := by rw [hw0]; exact (World.cell?_alloc_lt w _ ⟨g, k * 4 + 2, none⟩ hg2).trans c2
      have d3 : w0.cell? ⟨g, k * 4 + 3, none⟩ = some (.int .i64 l.i) := by rw [hw0]; exact (World.cell?_alloc_lt w _ ⟨g, k * 4 + 3, none⟩ hg2).trans c3
      rw [← hw0]
      clear hbx hw0 c0 c1 c2 c3 fr
      go_wp2_with (at_builtin; refine wpList_append_own _ rfl _ _ 26 rfl base 52 i0 (.agg #[.int .i64 0, .int .i64 0, .int .i64 0, .int .i64 0]) 4 32 Try.underlying26 hi hz0 hz1 hz2 rfl (by decide) _ _ _ rfl ((ho0.alloc _).alloc _) ⟨w0.heap.size + 1, 0, none⟩ 1 1 (Ed.cells ⟨l.f, l.d + d, l.t, l.i + i⟩) rfl rfl (news_ed w0 ⟨l.f, l.d + d, l.t, l.i + i⟩ _ _) (ed_one _) (by unfold maxLen; omega) (by omega) (by simp; omega) ?_; intro v1 w1 ho1 hg1 _)
      go_ret
      refine ⟨⟨v1, rfl, ?_⟩, ((hb0.alloc hs0 _).alloc (by simp; omega) _).grown hg1 (by simp; omega) (fun k hk => (ho0.lt k hk).1)⟩
      rw [HX.out]
      exact EOw.push HK.out ho1
    · have HX : Hid (ext (r ++ [l]) ⟨f, d, t, i⟩ = r ++ [l] ++ [⟨f, d, t, i⟩]) := ext_new r l ⟨f, d, t, i⟩ hf
      have hfb : (l.f + l.d == f) = false := beq_eq_false_iff_ne.mpr hf
      rw [← hn2] at iw ⊢
      have ho' : w.ownsRow base 52 4 (.slice (some ⟨g, 0, none⟩) n cap) n (ecells (r ++ [l])) := by
        have h := HO.out
        unfold EOw at h
        rw [hn, ← hn2] at h
        exact h
      have HN2 : Hid (n = (r ++ [l]).length) := by show _ = _; rw [hn2, hn]
      clear ho hk hn hf hlast hn2 hal hal'
      go_enter Try.func100, Try.ntmps100
      go_wp2
      go_quiet (fail)
      obtain ⟨w0, hw0⟩ : ∃ w0, w0 = (w.alloc (.cells #[.int .i64 f, .int .i64 d, .int .i64 t, .int .i64 i] 52)).drewN nq := ⟨_, rfl⟩
      have ho0 : w0.ownsRow base 52 4 (.slice (some ⟨g, 0, none⟩) n cap) n (ecells (r ++ [l])) := by rw [hw0]; exact ho'.alloc _
      have hb0 : Below base w w0 := by rw [hw0]; exact below_drewN ((Below.refl base w).alloc hb _) _
      have hs0 : base ≤ w0.heap.size := Nat.le_trans hb hb0.size
      have hbx : w0.heap[w.heap.size]? = some (.cells #[.int .i64 f, .int .i64 d, .int .i64 t, .int .i64 i] 52 (0, 0)) := by rw [hw0]; exact heap_alloc_new w _
      obtain ⟨⟨k0, k1, k2, k3⟩, kf⟩ := row_cells' hbx
      rw [← hw0]
      clear hbx hw0 c0 c1 c2 c3 fr
      go_wp2_with (at_builtin; refine wpList_append_own _ rfl _ _ 26 rfl base 52 i0 (.agg #[.int .i64 0, .int .i64 0, .int .i64 0, .int .i64 0]) 4 32 Try.underlying26 hi hz0 hz1 hz2 rfl (by decide) _ _ _ rfl (ho0.alloc _) ⟨w0.heap.size, 0, none⟩ 1 1 (Ed.cells ⟨f, d, t, i⟩) rfl rfl (new_ed w0 ⟨f, d, t, i⟩ _) (ed_one _) (by unfold maxLen; omega) (by omega) (by simp; omega) ?_; intro v1 w1 ho1 hg1 _)
      go_ret
      refine ⟨⟨v1, rfl, ?_⟩, (hb0.alloc hs0 _).grown hg1 (by simp; omega) (fun k hk => (ho0.lt k hk).1)⟩
      rw [HX.out]
      exact EOw.push HN2.out ho1
end Go.Proofs.Ytidghjalfbklnaa
