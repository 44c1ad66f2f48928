/-
  The walks of takeSteps, takeSizes and takeLimited.
-/
import Derived.Test.YtlgaindeheaodaaDlTake
import Derived.Test.YtlgaindeheaodaaSqLay
namespace Go.Proofs.Ytlgaindeheaodaa
open Go.RowKit

theorem results_tmp4 {fn : Func} {t u v x : Tmp} (h : fn.results = #[.tmp t, .tmp u, .tmp v, .tmp x]) (tmps : Array Value) (P : Program) (w : World) :
    (results fn tmps).run P w = .ok (.tuple #[tmps.getD t undef, tmps.getD u undef, tmps.getD v undef, tmps.getD x undef]) w := by
  simp [results, h]

theorem Try.infoSt : (Try.prog.info? 44).map (fun i => (i.zero, i.size, i.bytes)) = some (some (.agg #[.bool false, .int .i64 0, .int .i64 0]), 3, 24) := by kernel_rfl
/-- The cells of instructions. -/
def scells (ps : List St) : List Value := ps.flatMap St.cells
theorem scells_snoc (ps : List St) (p : St) : scells (ps ++ [p]) = scells ps ++ St.cells p := by simp [scells]
theorem st_one (p : St) : ∀ u ∈ St.cells p, u.oneCell' = true := by
  intro u hu
  simp only [St.cells, List.mem_cons, List.not_mem_nil, or_false] at hu
  rcases hu with rfl | rfl | rfl <;> rfl
theorem news_st (w : World) (p : St) (o : Obj) (t : TypeId) (j : Nat) (u : Value) (hj : (St.cells p)[j]? = some u) :
    ((w.alloc o).alloc (.cells #[.bool p.c, .int .i64 (p.f : Int), .int .i64 (p.n : Int)] t)).cell? ((⟨w.heap.size + 1, 0, none⟩ : Addr).add j) = some u := by
  rw [Addr.add_lit, Nat.zero_add]
  have h := World.cell?_alloc_mark (w.alloc o) #[.bool p.c, .int .i64 (p.f : Int), .int .i64 (p.n : Int)] t (0, 0) j
  have e : (w.alloc o).heap.size = w.heap.size + 1 := by simp
  rw [e] at h
  refine h.trans ?_
  simpa [St.cells] using hj
theorem st_cell {w w4 : World} {base n size : Nat} {e : TypeId} {v : Value} {xs : List Value} {x0 x1 x2 : Value} {t : TypeId} {o : Obj} (ho : w.ownsRow base e size v n xs) (hg : ((w.alloc (.cells #[x0, x1, x2] t)).alloc o).grownBy w4 v.ownBlock) :
    w4.cell? ⟨w.heap.size, 2, none⟩ = some x2 := by
  have hne : some w.heap.size ≠ v.ownBlock := fun h => by
    have := (ho.lt w.heap.size h.symm).2
    omega
  have hr : w4.heap[w.heap.size]? = some (.cells #[x0, x1, x2] t (0, 0)) :=
    (hg.block w.heap.size (by simp; omega) hne).trans ((Below.heap_alloc (w.alloc (.cells #[x0, x1, x2] t)) o w.heap.size (by simp)).trans (heap_alloc_new w _))
  exact cell_of_row w4 _ 2 _ _ _ hr

/-- What takeSteps answers: an error, or a row of instructions. -/
def StsRes (r : List St × Nat) (w : World) (e : Ending) (w' : World) : Prop :=
  (∃ v, e = .returned (.tuple #[v, .int .i64 (r.2 : Int)]) ∧ (r.2 = 0 → w'.ownsRow w.heap.size 44 3 v r.1.length (scells r.1))) ∧ Below w.heap.size w w'
theorem stsRes_err {r : List St × Nat} {l : List St} {k : Nat} {w w' : World} (h : r = (l, k)) (hk : k ≠ 0) (hb : Below w.heap.size w w') : StsRes r w (.returned (.tuple #[.slice none 0 0, .int .i64 (k : Int)])) w' := by
  subst h
  exact ⟨⟨_, rfl, fun h0 => absurd h0 hk⟩, hb⟩

set_option maxHeartbeats 2000000 in
set_option maxRecDepth 4000 in
theorem takeSteps_any (s : ByteArray) (q0 B size : Nat) (w : World) (hs : s.size ≤ 1099511627776) (hB : B ≤ 1099511627776) (hsz : size ≤ 1099511627776) (hq : q0 ≤ s.size) :
    Calls Try.prog 14 #[.string s, .int .i64 q0, .int .i64 B, .int .i64 size] w (StsRes (sts s B size q0 0) w) := by
  obtain ⟨i0, hi, hz0, hz1, hz2⟩ := info_parts Try.infoSt
  obtain ⟨R, hR⟩ : ∃ R, R = sts s B size q0 0 := ⟨_, rfl⟩
  rw [← hR]
  have HR : Hid (R = before [] (sts s B size q0 0)) := by
    show _ = _
    rw [hR, before_nil]
    exact sts_nil
  clear hR
  go_enter Try.func14, Try.ntmps14
  go_wp2
  go_loopw [1, 10, 11] (fun q v d wr => ∃ (ps : List St) (qi : Nat) (done : Nat), q = .int .i64 qi ∧ d = .int .i64 done ∧ qi ≤ s.size ∧ done ≤ size ∧ ps.length ≤ done ∧ R = before ps (sts s B size qi done) ∧ wr.ownsRow w.heap.size 44 3 v ps.length (scells ps) ∧ Below w.heap.size w wr) (fun _ _ d _ => size - (intOf d).toNat)
  case atStart => exact ⟨[], q0, 0, rfl, rfl, hq, by omega, by simp, HR.out, World.ownsRow_nil _ _ _ _, Below.refl _ _⟩
  case round =>
    clear HR
    obtain ⟨ps, qi, done, rfl, rfl, hqs, hds, hpl, hR, hown, hbel⟩ := hrel
    have HR : Hid (R = before ps (sts s B size qi done)) := hR
    clear hR
    by_cases hlt : done < size
    · obtain ⟨left, hleft⟩ : ∃ left, left = size - done := ⟨_, rfl⟩
      have j1 : IntKind.i64.wrap ((size : Int) - done) = (left : Int) := by rw [IntWalk.i64_in _ (by omega)]; omega
      have htp := fun W => takeStep_any s qi B left W (by omega) hB (by omega)
      obtain ⟨r, hr⟩ : ∃ r, ts s qi B left = r := ⟨_, rfl⟩
      rw [hr] at htp
      obtain ⟨⟨pc, pf, pn⟩, q2, pe⟩ := r
      have HTP : Hid (∀ W, Calls Try.prog 24 #[.string s, .int .i64 qi, .int .i64 B, .int .i64 left] W fun e w' => e = .returned (.tuple #[.agg #[.bool pc, .int .i64 pf, .int .i64 pn], .int .i64 q2, .int .i64 pe]) ∧ Below W.heap.size W w') := htp
      have HRR : Hid (ts s qi B (size - done) = (⟨pc, pf, pn⟩, q2, pe)) := by show _ = _; rw [← hleft]; exact hr
      clear htp hr
      by_cases he : pe = 0
      · have hn := ts_ok (s := s) (q := qi) (B := B) (left := size - done) (by rw [HRR.out]; exact he)
        rw [HRR.out] at hn
        obtain ⟨hn1, hn2, -, hn4, -⟩ := hn
        simp only at hn1 hn2 hn4
        have HX : Hid (R = before (ps ++ [⟨pc, pf, pn⟩]) (sts s B size q2 (done + pn))) := by
          show _ = _
          rw [HR.out, sts_on hlt (by rw [HRR.out, he]), before_before]
        have h0 : ((pe : Int) != 0) = false := by simp; omega
        have h1 : ((pe : Int) == 0) = true := by simp; omega
        have hn3 : done + pn ≤ size := by omega
        clear he HR HRR hleft hn2
        go_wp2_with (first
          | (go_at_call 24; ((with_reducible refine (HTP.out _).mono ?_); rintro e2 w2 ⟨rfl, hb2⟩; have hown2 := own_below hown hb2))
          | (at_builtin; refine wpList_append_own _ rfl _ _ 40 rfl w.heap.size 44 i0 (.agg #[.bool false, .int .i64 0, .int .i64 0]) 3 24 Try.underlying40 hi hz0 hz1 hz2 rfl (by decide) _ _ _ rfl ((hown2.alloc _).alloc _) ⟨w2.heap.size + 1, 0, none⟩ 1 1 (St.cells ⟨pc, pf, pn⟩) rfl rfl (news_st w2 ⟨pc, pf, pn⟩ _ _) (st_one _) (by unfold maxLen; omega) (by omega) (by have := hbel.size; have := hb2.size; simp; omega) ?_; intro v4 w4 ho4 hg4 _; have z0 := st_cell hown2 hg4))
        have hb4 : Below w.heap.size w w4 := ((((hbel.trans (hb2.mono hbel.size)).alloc (Nat.le_trans hbel.size hb2.size) _).alloc (by have := hbel.size; have := hb2.size; simp; omega) _).grown hg4 (by have := hbel.size; have := hb2.size; simp; omega) (fun k hk => (hown2.lt k hk).1))
        clear hown hown2 hg4 hb2 z0 j1
        go_roundw
        case rel => exact ⟨ps ++ [⟨pc, pf, pn⟩], q2, done + pn, rfl, by go_num, hn4, hn3, by rw [List.length_append]; simp; omega, HX.out, by rw [List.length_append, scells_snoc]; exact ho4, hb4⟩
        case measure => simp [intOf]; omega
      · have HX : Hid (R = ([], pe)) := by
          show _ = _
          rw [HR.out, sts_err hlt (by rw [HRR.out]) he, before_err he]
        have h0 : ((pe : Int) != 0) = true := by simp; omega
        have h1 : ((pe : Int) == 0) = false := by simp; omega
        have HE : Hid (pe ≠ 0) := he
        clear he HR HRR hleft
        go_wp2_with (go_at_call 24; ((with_reducible refine (HTP.out _).mono ?_); rintro e2 w2 ⟨rfl, hb2⟩))
        go_ret2
        exact stsRes_err HX.out HE.out ((hbel.trans (hb2.mono hbel.size)).alloc (Nat.le_trans hbel.size hb2.size) _)
    · by_cases hq : qi < s.size
      · have HX : Hid (R = ([], 2)) := by show _ = _; rw [HR.out, sts_left hlt hq, before_err (by decide)]
        clear HR
        go_wp2
        go_ret2
        exact stsRes_err HX.out (by decide) hbel
      · have HX : Hid (R = (ps, 0)) := by
          show _ = _
          rw [HR.out, sts_end hlt hq, before_end]
        clear HR
        go_wp2
        go_ret2
        exact ⟨⟨_, by rw [HX.out]; rfl, fun _ => by rw [HX.out]; exact hown⟩, hbel⟩

/-- What takeSizes answers. -/
def TzRes (r : Nat × Nat × Nat × Nat) (w : World) (e : Ending) (w' : World) : Prop := e = .returned (.tuple #[.int .u64 (r.1 : Int), .int .u64 (r.2.1 : Int), .int .i64 (r.2.2.1 : Int), .int .i64 (r.2.2.2 : Int)]) ∧ w = w'
theorem tzRes_mk {a b c d : Nat} {r : Nat × Nat × Nat × Nat} {w : World} (h : r = (a, b, c, d)) : TzRes r w (.returned (.tuple #[.int .u64 (a : Int), .int .u64 (b : Int), .int .i64 (c : Int), .int .i64 (d : Int)])) w := by
  subst h
  exact ⟨rfl, rfl⟩

set_option maxHeartbeats 2000000 in
set_option maxRecDepth 4000 in
theorem takeSizes_any (s : ByteArray) (w : World) (hs : s.size ≤ 4611686018427387904) :
    Calls Try.prog 13 #[.string s] w (TzRes (tz s) w) := by
  rcases takeAt_cases s.data.toList 0 with ⟨e, he1, he3, ht⟩ | ⟨v, q, a, -, -, hq, hv, ht, -⟩
  · have HT : Hid (takeAt s.data.toList 0 = (0, 0, e)) := ht
    have HR : Hid (tz s = (0, 0, 0, e)) := tz_err1 ht (by omega)
    have hne : ((e : Int) != 0) = true := by simp; omega
    have hne2 : ((e : Int) == 0) = false := by simp; omega
    clear ht
    go_enter Try.func13, Try.ntmps13
    go_wp2_with (go_at_call 23; ((with_reducible refine (take_at s 0 _ hs _ _ _ HT.out).mono ?_); rintro e1 w1 ⟨rfl, rfl⟩))
    (try simp only [Exit.inBlock, Exit.then])
    refine bodyPost_ret (results_tmp4 rfl _ _ _) rfl ?_
    exact tzRes_mk HR.out
  · have HT : Hid (takeAt s.data.toList 0 = (v, (q : Int), 0)) := ht
    rcases takeAt_cases s.data.toList q with ⟨e, he1, he3, ht2⟩ | ⟨v2, q2, a2, -, -, hq2, hv2, ht2, -⟩
    · have HT2 : Hid (takeAt s.data.toList q = (0, 0, e)) := ht2
      have HR : Hid (tz s = (0, 0, 0, e)) := tz_err2 ht ht2 (by omega)
      have hne : ((e : Int) != 0) = true := by simp; omega
      have hne2 : ((e : Int) == 0) = false := by simp; omega
      clear ht ht2
      go_enter Try.func13, Try.ntmps13
      go_wp2_with (first
        | (go_at_call 23; ((with_reducible refine (take_at s 0 _ hs _ _ _ HT.out).mono ?_); rintro e1 w1 ⟨rfl, rfl⟩))
        | (go_at_call 23; ((with_reducible refine (take_at s q _ hs _ _ _ HT2.out).mono ?_); rintro e1 w1 ⟨rfl, rfl⟩)))
      (try simp only [Exit.inBlock, Exit.then])
      refine bodyPost_ret (results_tmp4 rfl _ _ _) rfl ?_
      exact tzRes_mk HR.out
    · have HT2 : Hid (takeAt s.data.toList q = (v2, (q2 : Int), 0)) := ht2
      have HR : Hid (tz s = (v, v2, q2, 0)) := tz_ok ht ht2
      clear ht ht2
      go_enter Try.func13, Try.ntmps13
      go_wp2_with (first
        | (go_at_call 23; ((with_reducible refine (take_at s 0 _ hs _ _ _ HT.out).mono ?_); rintro e1 w1 ⟨rfl, rfl⟩))
        | (go_at_call 23; ((with_reducible refine (take_at s q _ hs _ _ _ HT2.out).mono ?_); rintro e1 w1 ⟨rfl, rfl⟩)))
      (try simp only [Exit.inBlock, Exit.then])
      refine bodyPost_ret (results_tmp4 rfl _ _ _) rfl ?_
      exact tzRes_mk HR.out
/-- takeSizes, its answer being known. -/
theorem takeSizes_at (s : ByteArray) (w : World) (hs : s.size ≤ 4611686018427387904) (a b c d : Nat) (h : tz s = (a, b, c, d)) :
    Calls Try.prog 13 #[.string s] w fun e w' => e = .returned (.tuple #[.int .u64 (a : Int), .int .u64 (b : Int), .int .i64 (c : Int), .int .i64 (d : Int)]) ∧ w = w' :=
  (takeSizes_any s w hs).mono fun _ _ x => ⟨by rw [x.1, h], x.2⟩

/-- What takeLimited answers. -/
def DzRes (r : Nat × Nat × Nat × Nat) (w : World) (e : Ending) (w' : World) : Prop := e = .returned (.tuple #[.int .i64 (r.1 : Int), .int .i64 (r.2.1 : Int), .int .i64 (r.2.2.1 : Int), .int .i64 (r.2.2.2 : Int)]) ∧ w = w'
theorem dzRes_mk {a b c d : Nat} {r : Nat × Nat × Nat × Nat} {w : World} (h : r = (a, b, c, d)) : DzRes r w (.returned (.tuple #[.int .i64 (a : Int), .int .i64 (b : Int), .int .i64 (c : Int), .int .i64 (d : Int)])) w := by
  subst h
  exact ⟨rfl, rfl⟩
set_option maxHeartbeats 2000000 in
set_option maxRecDepth 4000 in
theorem takeLimited_any (s : ByteArray) (w : World) (hs : s.size ≤ 4611686018427387904) :
    Calls Try.prog 19 #[.string s] w (DzRes (dsz s) w) := by
  rcases tz_cases s with ⟨e, he1, he3, ht⟩ | ⟨v, v2, q2, hv, hv2, hq2, ht⟩
  · have HT : Hid (tz s = (0, 0, 0, e)) := ht
    have HR : Hid (dsz s = (0, 0, 0, e)) := dsz_err ht (by omega)
    have hne : ((e : Int) != 0) = true := by simp; omega
    have hne2 : ((e : Int) == 0) = false := by simp; omega
    clear ht
    go_enter Try.func19, Try.ntmps19
    go_wp2_with (go_at_call 13; ((with_reducible refine (takeSizes_at s _ hs _ _ _ _ HT.out).mono ?_); rintro e1 w1 ⟨rfl, rfl⟩))
    (try simp only [Exit.inBlock, Exit.then])
    refine bodyPost_ret (results_tmp4 rfl _ _ _) rfl ?_
    exact dzRes_mk HR.out
  · have HT : Hid (tz s = (v, v2, q2, 0)) := ht
    by_cases h1 : 1048576 < v
    · have HR : Hid (dsz s = (0, 0, 0, 4)) := dsz_large ht (.inl h1)
      clear ht
      go_enter Try.func19, Try.ntmps19
      go_wp2_with (go_at_call 13; ((with_reducible refine (takeSizes_at s _ hs _ _ _ _ HT.out).mono ?_); rintro e1 w1 ⟨rfl, rfl⟩))
      (try simp only [Exit.inBlock, Exit.then])
      refine bodyPost_ret (results_tmp4 rfl _ _ _) rfl ?_
      exact dzRes_mk HR.out
    · by_cases h2 : 1048576 < v2
      · have HR : Hid (dsz s = (0, 0, 0, 4)) := dsz_large ht (.inr h2)
        clear ht
        go_enter Try.func19, Try.ntmps19
        go_wp2_with (go_at_call 13; ((with_reducible refine (takeSizes_at s _ hs _ _ _ _ HT.out).mono ?_); rintro e1 w1 ⟨rfl, rfl⟩))
        (try simp only [Exit.inBlock, Exit.then])
        refine bodyPost_ret (results_tmp4 rfl _ _ _) rfl ?_
        exact dzRes_mk HR.out
      · have HR : Hid (dsz s = (v, v2, q2, 0)) := dsz_ok ht (by omega)
        have i1 : IntKind.i64.wrap (v : Int) = (v : Int) := IntWalk.i64_in _ (by omega)
        have i2 : IntKind.i64.wrap (v2 : Int) = (v2 : Int) := IntWalk.i64_in _ (by omega)
        clear ht
        go_enter Try.func19, Try.ntmps19
        go_wp2_with (go_at_call 13; ((with_reducible refine (takeSizes_at s _ hs _ _ _ _ HT.out).mono ?_); rintro e1 w1 ⟨rfl, rfl⟩))
        (try simp only [Exit.inBlock, Exit.then])
        refine bodyPost_ret (results_tmp4 rfl _ _ _) rfl ?_
        exact dzRes_mk HR.out
theorem takeLimited_at (s : ByteArray) (w : World) (hs : s.size ≤ 4611686018427387904) (a b c d : Nat) (h : dsz s = (a, b, c, d)) :
    Calls Try.prog 19 #[.string s] w fun e w' => e = .returned (.tuple #[.int .i64 (a : Int), .int .i64 (b : Int), .int .i64 (c : Int), .int .i64 (d : Int)]) ∧ w = w' :=
  (takeLimited_any s w hs).mono fun _ _ x => ⟨by rw [x.1, h], x.2⟩

set_option maxHeartbeats 2000000 in
set_option maxRecDepth 4000 in
theorem dSizes_at (s : ByteArray) (w : World) (hs : s.size ≤ 4611686018427387904) (a b c d : Nat) (h : dsz s = (a, b, c, d)) :
    Calls Try.prog 9 #[.string s] w fun e w' => e = .returned (.tuple #[.int .i64 (a : Int), .int .i64 (b : Int), .int .i64 (d : Int)]) ∧ w = w' := by
  have HT : Hid (dsz s = (a, b, c, d)) := h
  clear h
  go_enter Try.func9, Try.ntmps9
  go_wp2_with (go_at_call 19; ((with_reducible refine (takeLimited_at s _ hs _ _ _ _ HT.out).mono ?_); rintro e1 w1 ⟨rfl, rfl⟩))
  go_ret3
  exact ⟨rfl, rfl⟩
end Go.Proofs.Ytlgaindeheaodaa
