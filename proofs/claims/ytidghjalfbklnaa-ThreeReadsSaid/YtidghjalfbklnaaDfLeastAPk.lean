/-
  The walk of Least.
-/
import Derived.Test.YtidghjalfbklnaaDfLeast
import Derived.Laws.Slices
import Derived.Test.YtidghjalfbklnaaDfRTab
import Derived.Test.YtidghjalfbklnaaDfRowsPk
namespace Go.Proofs.Ytidghjalfbklnaa
open Go.RowKit

/-- What Least answers. -/
def leastL (la lb : List (List UInt8)) : List Ed :=
  if la = lb then [] else if la.length ≤ 4096 ∧ lb.length ≤ 4096 then lst la lb 0 0 [] else [⟨0, la.length, 0, lb.length⟩]

theorem SRw.cut {w : World} {p : Option Addr} {ls : List (List UInt8)} {c : Nat} (h : SRw w p ls) (i : Nat) (hc : ls.length ≤ c) (hi : i ≤ ls.length) : SRw w (if c = i then p else p.map (·.add i)) (ls.drop i) := by
  split
  · rw [List.drop_of_length_le (by omega)]
    exact SRw.none _ _
  · exact h.left i
theorem leastL_go {la lb : List (List UInt8)} {k : Nat} (hk : k = cpre la lb) (h : ¬ la = lb) (hn : la.length ≤ 4096 ∧ lb.length ≤ 4096) (f : List UInt8 → Nat) (hf : ∀ x ∈ la.drop k, ∀ y ∈ lb.drop k, f x = f y → x = y) :
    leastL la lb = lst ((la.drop k).map f) ((lb.drop k).map f) (k : Int) (k : Int) [] := by
  unfold leastL
  rw [if_neg h, if_pos hn, lst_map f _ _ _ _ _ hf]
  have hl := cpre_le la lb
  rw [← hk] at hl
  have ht := cpre_take la lb
  rw [← hk] at ht
  rw [lst_skip k la lb 0 0 [] hl.1 hl.2 ht, Int.zero_add]

set_option maxHeartbeats 400000 in
set_option maxRecDepth 4000 in
theorem least_any (la lb : List (List UInt8)) (p q : Option Addr) (c d n m : Nat) (w : World) (hn : n = la.length) (hm : m = lb.length) (hp : SRw w p la) (hq : SRw w q lb) (hc : n ≤ c) (hd : m ≤ d) (hl : n ≤ 5000) (hl2 : m ≤ 5000)
    (hs : ∀ t ∈ la, t.length ≤ 140737488355328) (hs2 : ∀ t ∈ lb, t.length ≤ 140737488355328) :
    Calls Try.prog 15 #[.slice p n c, .slice q m d] w fun e w' => (∃ v, e = .returned v ∧ EOw w' w.heap.size v (leastL la lb)) ∧ Below w.heap.size w w' := by
  have HN := Lib.hid hn
  have HM := Lib.hid hm
  have HP := Lib.hid hp
  have HQ := Lib.hid hq
  have HC : Hid (∀ w, SRw w p la → SRw w q lb → Calls Try.prog 40 #[.slice p n c, .slice q m d] w fun e w' => e = .returned (.int .i64 (cpre la lb : Nat)) ∧ ∃ k, w' = w.drewN k) := fun w hp hq => cpre_any la lb p q c d n m w hn hm hp hq (by omega) (by omega)
  have hsame := cpre_same la lb
  have hpl := cpre_le la lb
  rw [← hn, ← hm] at hsame hpl
  obtain ⟨k, hk⟩ : ∃ k, k = cpre la lb := ⟨_, rfl⟩
  rw [← hk] at HC hsame hpl
  have HK := Lib.hid hk
  clear hn hm hp hq hk
  by_cases hkk : k = n ∧ k = m
  · have hlb : la = lb := hsame.mp ⟨by omega, hkk.1⟩
    have HR : Hid (leastL la lb = []) := if_pos hlb
    obtain ⟨h1, h2⟩ := hkk
    subst h1
    subst h2
    clear hsame hlb
    go_enter Try.func15, Try.ntmps15
    go_wp2_with (go_at_call 40; ((with_reducible refine (HC.out _ HP.out HQ.out).mono ?_); rintro e w' ⟨rfl, x, rfl⟩))
    go_ret
    exact ⟨⟨_, rfl, by rw [HR.out]; exact EOw.nil _ _⟩, below_drewN (Below.refl _ _) _⟩
  · have hlb : ¬ la = lb := fun e => hkk ⟨(hsame.mpr e).2, (hsame.mpr e).2.trans (hsame.mpr e).1⟩
    by_cases hbig : n ≤ 4096 ∧ m ≤ 4096
    · have HR : Hid (∀ f : List UInt8 → Nat, (∀ x ∈ la.drop k, ∀ y ∈ lb.drop k, f x = f y → x = y) → leastL la lb = lst ((la.drop k).map f) ((lb.drop k).map f) (k : Int) (k : Int) []) := fun f hf =>
        leastL_go HK.out hlb (by rw [← HN.out, ← HM.out]; exact hbig) f hf
      obtain ⟨hb1, hb2⟩ := hbig
      have HNUM : Hid (∀ (w' : World) (p' q' : Option Addr) (c' d' : Nat), SRw w' p' (la.drop k) → SRw w' q' (lb.drop k) → Calls Try.prog 42 #[.slice p' (n - k) c', .slice q' (m - k) d'] w' (NRes (la.drop k) (lb.drop k) (n - k) (m - k) w')) := fun w' p' q' c' d' h1 h2 =>
        numbered_any _ _ p' q' c' d' _ _ w' (by rw [List.length_drop, HN.out]) (by rw [List.length_drop, HM.out]) h1 h2 (by omega) (by omega) (fun t ht => hs t (List.mem_of_mem_drop ht)) (fun t ht => hs2 t (List.mem_of_mem_drop ht))
      have HPC : Hid (∀ x, SRw (w.drewN x) (if c = k then p else p.map (·.add k)) (la.drop k)) := fun x => (HP.out.below (below_drewN (Below.refl _ _) x)).cut k (by rw [← HN.out]; exact hc) (by rw [← HN.out]; exact hpl.1)
      have HQC : Hid (∀ x, SRw (w.drewN x) (if d = k then q else q.map (·.add k)) (lb.drop k)) := fun x => (HQ.out.below (below_drewN (Below.refl _ _) x)).cut k (by rw [← HM.out]; exact hd) (by rw [← HM.out]; exact hpl.2)
      obtain ⟨P, hP⟩ : ∃ P, (if c = k then p else p.map (·.add k)) = P := ⟨_, rfl⟩
      obtain ⟨Q, hQ⟩ : ∃ Q, (if d = k then q else q.map (·.add k)) = Q := ⟨_, rfl⟩
      rw [hP] at HPC
      rw [hQ] at HQC
      obtain ⟨hk1, hk2⟩ := hpl
      clear hsame hlb
      by_cases hkn : k = n
      · have hkm : ¬ k = m := fun e => hkk ⟨hkn, e⟩
        have e1 : ((k : Int) == (n : Int)) = true := by rw [beq_iff_eq]; omega
        have e2 : ((k : Int) == (m : Int)) = false := by rw [beq_eq_false_iff_ne]; omega
        clear hkk hkm hkn
        go_enter Try.func15, Try.ntmps15
        go_upto_region 6 with (go_at_call 40; ((with_reducible refine (HC.out _ HP.out HQ.out).mono ?_); rintro e w' ⟨rfl, x, rfl⟩))
        go_region_with (first
          | (go_at_call 42; ((with_reducible refine (HNUM.out _ _ _ _ _ (HPC.out _) (HQC.out _)).mono ?_); rintro e w1 ⟨g1, g2, f, rfl, hi1, hi2, hg1, hg2, hf, hb1⟩))
          | (go_at_call 41; (refine (follow_any _ _ g1 g2 _ _ _ _ k _ (by rw [List.length_map, List.length_drop, HN.out]) (by rw [List.length_map, List.length_drop, HM.out]) (hi1) (hi2) (by omega) (by omega) (by omega)).mono ?_; rintro e w2 ⟨⟨v2, rfl, ho2⟩, hb2⟩; obtain ⟨p2, n2, cap2, rfl⟩ := ho2.shape')))
        all_goals go_wp2
        all_goals go_ret
        all_goals exact ⟨⟨_, rfl, by rw [HR.out f hf]; exact ho2.lower hb1.size⟩, (Below.trans (show Below w.heap.size w _ from (below_drewN (Below.refl _ _) _)) hb1).trans (hb2.mono hb1.size)⟩
      · have e1 : ((k : Int) == (n : Int)) = false := by rw [beq_eq_false_iff_ne]; omega
        clear hkk hkn
        go_enter Try.func15, Try.ntmps15
        go_upto_region 6 with (go_at_call 40; ((with_reducible refine (HC.out _ HP.out HQ.out).mono ?_); rintro e w' ⟨rfl, x, rfl⟩))
        go_region_with (first
          | (go_at_call 42; ((with_reducible refine (HNUM.out _ _ _ _ _ (HPC.out _) (HQC.out _)).mono ?_); rintro e w1 ⟨g1, g2, f, rfl, hi1, hi2, hg1, hg2, hf, hb1⟩))
          | (go_at_call 41; (refine (follow_any _ _ g1 g2 _ _ _ _ k _ (by rw [List.length_map, List.length_drop, HN.out]) (by rw [List.length_map, List.length_drop, HM.out]) (hi1) (hi2) (by omega) (by omega) (by omega)).mono ?_; rintro e w2 ⟨⟨v2, rfl, ho2⟩, hb2⟩; obtain ⟨p2, n2, cap2, rfl⟩ := ho2.shape')))
        all_goals go_wp2
        all_goals go_ret
        all_goals exact ⟨⟨_, rfl, by rw [HR.out f hf]; exact ho2.lower hb1.size⟩, (Below.trans (show Below w.heap.size w _ from (below_drewN (Below.refl _ _) _)) hb1).trans (hb2.mono hb1.size)⟩
    · have HR : Hid (leastL la lb = [⟨0, (n : Int), 0, (m : Int)⟩]) := by
        show _ = _
        unfold leastL
        rw [if_neg hlb, if_neg (by rw [← HN.out, ← HM.out]; exact hbig), HN.out, HM.out]
      obtain ⟨hk1, hk2⟩ := hpl
      clear hsame hlb
      have hrow : ∀ w' : World, EOw (w'.alloc (.cells #[.int .i64 0, .int .i64 (n : Int), .int .i64 0, .int .i64 (m : Int)] 52)) w'.heap.size (.slice (some ⟨w'.heap.size, 0, none⟩) 1 1) [⟨0, (n : Int), 0, (m : Int)⟩] := fun w' =>
        ⟨rfl, .inr ⟨w'.heap.size, 1, _, rfl, Nat.le_refl _, heap_alloc_new w' _, Nat.le_refl _, by decide, rfl, rfl⟩⟩
      have hcases : (((k : Int) == (n : Int)) = false ∨ ((k : Int) == (n : Int)) = true ∧ ((k : Int) == (m : Int)) = false) := by
        rw [beq_eq_false_iff_ne, beq_iff_eq, beq_eq_false_iff_ne]
        omega
      have hbigs : (4096 : Int) < n ∨ ((n : Int) ≤ 4096 ∧ (4096 : Int) < m) := by omega
      clear hkk hbig
      rcases hcases with e1 | ⟨e1, e2⟩ <;> rcases hbigs with l1 | ⟨l1, l2⟩
      all_goals go_enter Try.func15, Try.ntmps15
      all_goals go_wp2_with (go_at_call 40; ((with_reducible refine (HC.out _ HP.out HQ.out).mono ?_); rintro e w' ⟨rfl, x, rfl⟩))
      all_goals go_ret
      all_goals exact ⟨⟨_, rfl, by rw [HR.out]; exact hrow _⟩, below_new (show Below w.heap.size w _ from (below_drewN (Below.refl _ _) _)) _⟩
end Go.Proofs.Ytidghjalfbklnaa
/-
  The walks of the reference's add and Least.
-/
namespace Go.Proofs.Ytidghjalfbklnaa
open Go.RowKit

theorem EOw.front {w : World} {base g cap k : Nat} {r : List Ed} {l : Ed} (h : EOw w base (.slice (some ⟨g, 0, none⟩) (k + 1) cap) (r ++ [l])) (hk : k = r.length) : w.ownsRow base 52 4 (.slice (some ⟨g, 0, none⟩) k cap) k (ecells r) := by
  subst hk
  refine ⟨ecells_len r, ?_⟩
  rcases h.2 with ⟨hn, _⟩ | ⟨g', cap', cur, he, h1, h2, h3, h4, h5, h6⟩
  · cases hn
  · simp only [Value.slice.injEq, Option.some.injEq, Addr.mk.injEq] at he
    obtain ⟨⟨rfl, _, _⟩, _, rfl⟩ := he
    refine .inr ⟨_, _, cur, rfl, h1, h2, ?_, h4, h5, ?_⟩
    · rw [List.length_append, List.length_singleton] at h3
      omega
    · rw [List.length_append, List.length_singleton] at h6
      have h7 := congrArg (List.take (r.length * 4)) h6
      rw [List.take_take, ecells_snoc, List.take_append_of_le_length (by rw [ecells_len]; omega), Nat.min_eq_left (by omega), List.take_of_length_le (l := ecells r) (by rw [ecells_len]; omega)] at h7
      exact h7
theorem row_cells' {w : World} {A : Nat} {a b c d : Value} {t : TypeId} (h : w.heap[A]? = some (.cells #[a, b, c, d] t (0, 0))) :
    (w.cell? ⟨A, 0, none⟩ = some a ∧ w.cell? ⟨A, 1, none⟩ = some b ∧ w.cell? ⟨A, 2, none⟩ = some c ∧ w.cell? ⟨A, 3, none⟩ = some d) ∧ ∀ o, w.frozen? ⟨A, o, none⟩ = false :=
  ⟨⟨cell_of_row w A 0 _ _ _ h, cell_of_row w A 1 _ _ _ h, cell_of_row w A 2 _ _ _ h, cell_of_row w A 3 _ _ _ h⟩, fun o => frozen_of_row w A o _ _ h⟩
theorem EOw.alloc {w : World} {base : Nat} {v : Value} {l : List Ed} (h : EOw w base v l) (o : Obj) : EOw (w.alloc o) base v l := World.ownsRow.alloc h o

set_option maxHeartbeats 2000000 in
set_option maxRecDepth 4000 in
theorem radd_any (acc : List Ed) (e : Ed) (v : Value) (base : Nat) (w : World) (ho : EOw w base v acc) (hb : base ≤ w.heap.size) (hl : acc.length ≤ 1048576)
    (hlast : ∀ r l, acc = r ++ [l] → 0 ≤ l.f ∧ 0 ≤ l.d ∧ l.f ≤ 1099511627776 ∧ l.d ≤ 1099511627776 ∧ 0 ≤ l.t ∧ l.t ≤ 1099511627776 ∧ 0 ≤ l.i ∧ l.i ≤ 1099511627776) (he : 0 ≤ e.d ∧ e.d ≤ 1099511627776 ∧ 0 ≤ e.i ∧ e.i ≤ 1099511627776)
    (hal : ∀ r l, acc = r ++ [l] → l.f + l.d = e.f → l.t + l.i = e.t) :
    Calls Try.prog 100 #[v, .agg #[.int .i64 e.f, .int .i64 e.d, .int .i64 e.t, .int .i64 e.i]] w fun e' w' => (∃ v', e' = .returned v' ∧ EOw w' base v' (ext acc e)) ∧ Below base w w' := by
  obtain ⟨i0, hi, hz0, hz1, hz2⟩ := info_parts Try.infoEd
  obtain ⟨f, d, t, i⟩ := e
  simp only at he hal ⊢
  rcases List.eq_nil_or_concat acc with rfl | ⟨r, l, rfl⟩
  · obtain ⟨p, cap, rfl⟩ : ∃ p cap, v = .slice p 0 cap := by
      rcases ho.2 with ⟨rfl, _⟩ | ⟨g, cap, cur, rfl, _⟩
      · exact ⟨none, 0, rfl⟩
      · exact ⟨_, _, rfl⟩
    have ho' : w.ownsRow base 52 4 (.slice p 0 cap) 0 [] := ho
    go_enter Try.func100, Try.ntmps100
    go_wp2
    go_quiet (fail)
    obtain ⟨w0, hw0⟩ : ∃ w0, w0 = (w.alloc (.cells #[.int .i64 f, .int .i64 d, .int .i64 t, .int .i64 i] 52)).drewN nq := ⟨_, rfl⟩
    have ho0 : w0.ownsRow base 52 4 (.slice p 0 cap) 0 [] := by rw [hw0]; exact ho'.alloc _
    have hb0 : Below base w w0 := by rw [hw0]; exact below_drewN ((Below.refl base w).alloc hb _) _
    have hs0 : base ≤ w0.heap.size := Nat.le_trans hb hb0.size
    have hbx : w0.heap[w.heap.size]? = some (.cells #[.int .i64 f, .int .i64 d, .int .i64 t, .int .i64 i] 52 (0, 0)) := by rw [hw0]; exact heap_alloc_new w _
    obtain ⟨⟨k0, k1, k2, k3⟩, kf⟩ := row_cells' hbx
    rw [← hw0]
    clear hbx hw0
    go_wp2_with (at_builtin; refine wpList_append_own _ rfl _ _ 26 rfl base 52 i0 (.agg #[.int .i64 0, .int .i64 0, .int .i64 0, .int .i64 0]) 4 32 Try.underlying26 hi hz0 hz1 hz2 rfl (by decide) _ _ _ rfl (ho0.alloc _) ⟨w0.heap.size, 0, none⟩ 1 1 (Ed.cells ⟨f, d, t, i⟩) rfl rfl (new_ed w0 ⟨f, d, t, i⟩ _) (ed_one _) (by unfold maxLen; omega) (by omega) (by simp; omega) ?_; intro v1 w1 ho1 hg1 _)
    go_ret
    exact ⟨⟨v1, rfl, ho1⟩, (hb0.alloc hs0 _).grown hg1 (by simp; omega) (fun k hk => (ho0.lt k hk).1)⟩
  · rw [List.concat_eq_append] at *
    obtain ⟨b1, b2, b3, b4, b5, b6, b7, b8⟩ := hlast r l rfl
    have hal' := hal r l rfl
    obtain ⟨g, cap, rfl, hg1, hg2⟩ := ho.form (by simp)
    obtain ⟨k, hk⟩ : ∃ k, k = r.length := ⟨_, rfl⟩
    have hn : (r ++ [l]).length = k + 1 := by rw [hk]; simp
    rw [hn] at ho hl ⊢
    have hne : g ≠ w.heap.size := by omega
    have hne2 : w.heap.size ≠ g := by omega
    obtain ⟨c0, c1, c2, c3, fr⟩ := ho.last hk
    have hcap : k + 1 ≤ cap := by
      rcases World.ownsRow.form (w := w) ho (by rw [hn]; omega) with ⟨g', cap', he', _⟩
      rcases ho.2 with ⟨hn', _⟩ | ⟨g2, cap2, cur, he2, _, _, h3, _⟩
      · cases hn'
      · simp only [Value.slice.injEq] at he2
        rw [hn] at h3
        omega
    have iw : IntKind.i64.wrap (((k + 1 : Nat) : Int) - 1) = (k : Int) := by rw [IntWalk.i64_in _ (by omega)]; omega
    have i1 : IntKind.i64.wrap (l.f + l.d) = l.f + l.d := IntWalk.i64_in _ (by omega)
    have i2 : IntKind.i64.wrap (l.d + d) = l.d + d := IntWalk.i64_in _ (by omega)
    have i3 : IntKind.i64.wrap (l.i + i) = l.i + i := IntWalk.i64_in _ (by omega)
    have i4 : IntKind.i64.wrap (l.t + l.i) = l.t + l.i := IntWalk.i64_in _ (by omega)
    obtain ⟨n, hn2⟩ : ∃ n, n = k + 1 := ⟨_, rfl⟩
    have HO := Lib.hid ho
    have HK := Lib.hid hk
    have hkn : k < n := by omega
    have hn0 : 0 < n := by omega
    have hnl : n ≤ 1048576 := by omega
    have hkc : k ≤ cap := by omega
    by_cases hf : l.f + l.d = f
    · have HX : Hid (ext (r ++ [l]) ⟨f, d, t, i⟩ = r ++ [⟨l.f, l.d + d, l.t, l.i + i⟩]) := ext_join r l ⟨f, d, t, i⟩ hf
      have hfb : (l.f + l.d == f) = true := beq_iff_eq.mpr hf
      have htb : (l.t + l.i == t) = true := beq_iff_eq.mpr (hal' hf)
      have HF := Lib.hid (EOw.front ho hk)
      rw [← hn2] at iw ⊢
      clear ho hk hn hf hlast hn2 hal hal'
      go_enter Try.func100, Try.ntmps100
      go_wp2
      go_quiet (fail)
      obtain ⟨w0, hw0⟩ : ∃ w0, w0 = (w.alloc (.cells #[.int .i64 f, .int .i64 d, .int .i64 t, .int .i64 i] 52)).drewN nq := ⟨_, rfl⟩
      have ho0 : w0.ownsRow base 52 4 (.slice (some ⟨g, 0, none⟩) k cap) k (ecells r) := by rw [hw0]; exact HF.out.alloc _
      have hb0 : Below base w w0 := by rw [hw0]; exact below_drewN ((Below.refl base w).alloc hb _) _
      have hs0 : base ≤ w0.heap.size := Nat.le_trans hb hb0.size
      have hbx : w0.heap[w.heap.size]? = some (.cells #[.int .i64 f, .int .i64 d, .int .i64 t, .int .i64 i] 52 (0, 0)) := by rw [hw0]; exact heap_alloc_new w _
      obtain ⟨⟨k0, k1, k2, k3⟩, kf⟩ := row_cells' hbx
      have hlt0 : w.heap.size < w0.heap.size := row_lt hbx
      have hg0 : g < w0.heap.size := by omega
      have d0 : w0.cell? ⟨g, k * 4, none⟩ = some (.int .i64 l.f) := by rw [hw0]; exact (World.cell?_alloc_lt w _ ⟨g, k * 4, none⟩ hg2).trans c0
      have d1 : w0.cell? ⟨g, k * 4 + 1, none⟩ = some (.int .i64 l.d) := by rw [hw0]; exact (World.cell?_alloc_lt w _ ⟨g, k * 4 + 1, none⟩ hg2).trans c1
      have d2 : w0.cell? ⟨g, k * 4 + 2, none⟩ = some (.int .i64 l.t) := by rw [hw0]; exact (World.cell?_alloc_lt w _ ⟨g, k * 4 + 2, none⟩ hg2).trans c2
      have d3 : w0.cell? ⟨g, k * 4 + 3, none⟩ = some (.int .i64 l.i) := by rw [hw0]; exact (World.cell?_alloc_lt w _ ⟨g, k * 4 + 3, none⟩ hg2).trans c3
      rw [← hw0]
      clear hbx hw0 c0 c1 c2 c3 fr
      go_wp2_with (at_builtin; refine wpList_append_own _ rfl _ _ 26 rfl base 52 i0 (.agg #[.int .i64 0, .int .i64 0, .int .i64 0, .int .i64 0]) 4 32 Try.underlying26 hi hz0 hz1 hz2 rfl (by decide) _ _ _ rfl ((ho0.alloc _).alloc _) ⟨w0.heap.size + 1, 0, none⟩ 1 1 (Ed.cells ⟨l.f, l.d + d, l.t, l.i + i⟩) rfl rfl (news_ed w0 ⟨l.f, l.d + d, l.t, l.i + i⟩ _ _) (ed_one _) (by unfold maxLen; omega) (by omega) (by simp; omega) ?_; intro v1 w1 ho1 hg1 _)
      go_ret
      refine ⟨⟨v1, rfl, ?_⟩, ((hb0.alloc hs0 _).alloc (by simp; omega) _).grown hg1 (by simp; omega) (fun k hk => (ho0.lt k hk).1)⟩
      rw [HX.out]
      exact EOw.push HK.out ho1
    · have HX : Hid (ext (r ++ [l]) ⟨f, d, t, i⟩ = r ++ [l] ++ [⟨f, d, t, i⟩]) := ext_new r l ⟨f, d, t, i⟩ hf
      have hfb : (l.f + l.d == f) = false := beq_eq_false_iff_ne.mpr hf
      rw [← hn2] at iw ⊢
      have ho' : w.ownsRow base 52 4 (.slice (some ⟨g, 0, none⟩) n cap) n (ecells (r ++ [l])) := by
        have h := HO.out
        unfold EOw at h
        rw [hn, ← hn2] at h
        exact h
      have HN2 : Hid (n = (r ++ [l]).length) := by show _ = _; rw [hn2, hn]
      clear ho hk hn hf hlast hn2 hal hal'
      go_enter Try.func100, Try.ntmps100
      go_wp2
      go_quiet (fail)
      obtain ⟨w0, hw0⟩ : ∃ w0, w0 = (w.alloc (.cells #[.int .i64 f, .int .i64 d, .int .i64 t, .int .i64 i] 52)).drewN nq := ⟨_, rfl⟩
      have ho0 : w0.ownsRow base 52 4 (.slice (some ⟨g, 0, none⟩) n cap) n (ecells (r ++ [l])) := by rw [hw0]; exact ho'.alloc _
      have hb0 : Below base w w0 := by rw [hw0]; exact below_drewN ((Below.refl base w).alloc hb _) _
      have hs0 : base ≤ w0.heap.size := Nat.le_trans hb hb0.size
      have hbx : w0.heap[w.heap.size]? = some (.cells #[.int .i64 f, .int .i64 d, .int .i64 t, .int .i64 i] 52 (0, 0)) := by rw [hw0]; exact heap_alloc_new w _
      obtain ⟨⟨k0, k1, k2, k3⟩, kf⟩ := row_cells' hbx
      rw [← hw0]
      clear hbx hw0 c0 c1 c2 c3 fr
      go_wp2_with (at_builtin; refine wpList_append_own _ rfl _ _ 26 rfl base 52 i0 (.agg #[.int .i64 0, .int .i64 0, .int .i64 0, .int .i64 0]) 4 32 Try.underlying26 hi hz0 hz1 hz2 rfl (by decide) _ _ _ rfl (ho0.alloc _) ⟨w0.heap.size, 0, none⟩ 1 1 (Ed.cells ⟨f, d, t, i⟩) rfl rfl (new_ed w0 ⟨f, d, t, i⟩ _) (ed_one _) (by unfold maxLen; omega) (by omega) (by simp; omega) ?_; intro v1 w1 ho1 hg1 _)
      go_ret
      refine ⟨⟨v1, rfl, ?_⟩, (hb0.alloc hs0 _).grown hg1 (by simp; omega) (fun k hk => (ho0.lt k hk).1)⟩
      rw [HX.out]
      exact EOw.push HN2.out ho1
end Go.Proofs.Ytidghjalfbklnaa
