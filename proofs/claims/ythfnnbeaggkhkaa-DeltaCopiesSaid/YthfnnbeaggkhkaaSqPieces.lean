/-
  The walk of takePieces.
-/
import Derived.Test.YthfnnbeaggkhkaaSqTake
import Derived.Deep.AppendLies
namespace Go.Proofs.Ythfnnbeaggkhkaa
open Go.RowKit

theorem Try.infoPc : (Try.prog.info? 82).map (fun i => (i.zero, i.size, i.bytes)) = some (some (.agg #[.int .i64 0, .int .i64 0, .string ⟨#[]⟩]), 3, 32) := by kernel_rfl
/-- The cells of pieces. -/
def pcells (ps : List Pc) : List Value := ps.flatMap Pc.cells
theorem pcells_len (ps : List Pc) : (pcells ps).length = ps.length * 3 := by
  induction ps with
  | nil => rfl
  | cons p ps ih => simp [pcells, Pc.cells] at ih ⊢; omega
theorem pcells_snoc (ps : List Pc) (p : Pc) : pcells (ps ++ [p]) = pcells ps ++ Pc.cells p := by simp [pcells]
theorem pc_one (p : Pc) : ∀ u ∈ Pc.cells p, u.oneCell' = true := by
  intro u hu
  simp only [Pc.cells, List.mem_cons, List.not_mem_nil, or_false] at hu
  rcases hu with rfl | rfl | rfl <;> rfl

/-- What is read of the pieces from an offset on: the pieces, the error. -/
def tps (s : ByteArray) (size : Nat) (q : Int) (done : Nat) : List Pc × Nat :=
  if done < size then
    if (tp s q done size).2.2 ≠ 0 then ([], (tp s q done size).2.2) else
    if _h : 0 < (tp s q done size).1.n ∧ done + (tp s q done size).1.n ≤ size then
      if (tps s size (tp s q done size).2.1 (done + (tp s q done size).1.n)).2 ≠ 0 then ([], (tps s size (tp s q done size).2.1 (done + (tp s q done size).1.n)).2)
      else ((tp s q done size).1 :: (tps s size (tp s q done size).2.1 (done + (tp s q done size).1.n)).1, 0)
    else ([], 2)
  else if q < s.size then ([], 2) else ([], 0)
termination_by size - done
decreasing_by all_goals omega
/-- Pieces that are there already, ahead of what is still read. -/
def ahead (ps : List Pc) (r : List Pc × Nat) : List Pc × Nat := if r.2 ≠ 0 then ([], r.2) else (ps ++ r.1, 0)
theorem ahead_nil (r : List Pc × Nat) (h : r.2 ≠ 0 → r.1 = []) : ahead [] r = r := by
  unfold ahead
  by_cases h0 : r.2 ≠ 0
  · rw [if_pos h0]; exact Prod.ext (h h0).symm rfl
  · rw [if_neg h0]; exact Prod.ext rfl (by simp at h0; exact h0.symm)
theorem ahead_ahead (ps qs : List Pc) (r : List Pc × Nat) : ahead ps (ahead qs r) = ahead (ps ++ qs) r := by
  unfold ahead
  by_cases h0 : r.2 ≠ 0
  · simp [h0]
  · simp at h0; simp [h0]

/-- A piece that takePiece gives makes at least a byte, and no more than are wanted. -/
theorem tp_n {s : ByteArray} {q : Int} {done size : Nat} (h : (tp s q done size).2.2 = 0) : 0 < (tp s q done size).1.n ∧ (tp s q done size).1.n ≤ size - done := by
  rcases takeAt_cases s.data.toList q with ⟨e, he1, he3, ht⟩ | ⟨v, q2, a, -, -, hq2, hv, ht, -⟩
  · rw [tp_err ht (by omega)] at h; simp only at h; omega
  · by_cases hb : v / 2 = 0 ∨ (v % 2 = 1 ∧ v / 2 < 4) ∨ size - done < v / 2
    · rw [tp_bad ht hb] at h; simp at h
    · by_cases h1 : v % 2 = 1
      · rw [tp_copy ht hb h1] at h ⊢
        rcases takeAt_cases s.data.toList q2 with ⟨e, he1, he3, ht2⟩ | ⟨v2, q3, a2, -, -, hq3, hv2, ht2, -⟩
        · rw [tb_err ht2 (by omega)] at h; simp only at h; omega
        · by_cases hb2 : v2 = 0 ∨ done < v2
          · rw [tb_bad ht2 hb2] at h; simp at h
          · rw [tb_ok ht2 hb2]; simp only; omega
      · by_cases h2 : s.size - q2 < v / 2
        · rw [tp_short ht hb (by omega) h2] at h; simp at h
        · rw [tp_lit ht hb (by omega) h2]; simp only; omega
theorem tps_err {s : ByteArray} {q : Int} {done size e : Nat} (hlt : done < size) (h : (tp s q done size).2.2 = e) (he : e ≠ 0) : tps s size q done = ([], e) := by
  rw [tps, if_pos hlt, if_pos (by rw [h]; exact he), h]
theorem tps_on {s : ByteArray} {q q' : Int} {done size : Nat} {p : Pc} (hlt : done < size) (h : tp s q done size = (p, q', 0)) : tps s size q done = ahead [p] (tps s size q' (done + p.n)) := by
  have hn := tp_n (s := s) (q := q) (done := done) (size := size) (by rw [h])
  rw [tps, if_pos hlt, if_neg (by rw [h]; simp), dif_pos (by omega), h]
  unfold ahead
  by_cases h0 : (tps s size q' (done + p.n)).2 ≠ 0
  · rw [if_pos h0, if_pos h0]
  · rw [if_neg h0, if_neg h0]; rfl
theorem tps_left {s : ByteArray} {q : Int} {done size : Nat} (hlt : ¬ done < size) (h : q < s.size) : tps s size q done = ([], 2) := by rw [tps, if_neg hlt, if_pos h]
theorem tps_end {s : ByteArray} {q : Int} {done size : Nat} (hlt : ¬ done < size) (h : ¬ q < s.size) : tps s size q done = ([], 0) := by rw [tps, if_neg hlt, if_neg h]

theorem news_pc (w : World) (p : Pc) (o : Obj) (t : TypeId) (j : Nat) (u : Value) (hj : (Pc.cells p)[j]? = some u) :
    ((w.alloc o).alloc (.cells #[.int .i64 (p.n : Int), .int .i64 (p.b : Int), .string p.t] t)).cell? ((⟨w.heap.size + 1, 0, none⟩ : Addr).add j) = some u := by
  rw [Addr.add_lit, Nat.zero_add]
  have h := World.cell?_alloc_mark (w.alloc o) #[.int .i64 (p.n : Int), .int .i64 (p.b : Int), .string p.t] t (0, 0) j
  have e : (w.alloc o).heap.size = w.heap.size + 1 := by simp
  rw [e] at h
  refine h.trans ?_
  simpa [Pc.cells] using hj
theorem pc_cell {w w4 : World} {base n size : Nat} {e : TypeId} {v : Value} {xs : List Value} {x0 x1 x2 : Value} {t : TypeId} {o : Obj} (ho : w.ownsRow base e size v n xs) (hg : ((w.alloc (.cells #[x0, x1, x2] t)).alloc o).grownBy w4 v.ownBlock) :
    w4.cell? ⟨w.heap.size, 0, none⟩ = some x0 := by
  have hne : some w.heap.size ≠ v.ownBlock := fun h => by
    have := (ho.lt w.heap.size h.symm).2
    omega
  have hr : w4.heap[w.heap.size]? = some (.cells #[x0, x1, x2] t (0, 0)) :=
    (hg.block w.heap.size (by simp; omega) hne).trans ((Below.heap_alloc (w.alloc (.cells #[x0, x1, x2] t)) o w.heap.size (by simp)).trans (heap_alloc_new w _))
  exact cell_of_row w4 _ 0 _ _ _ hr

/-- What takePieces answers: an error, or a row of pieces. -/
def PsRes (r : List Pc × Nat) (w : World) (e : Ending) (w' : World) : Prop :=
  (∃ v, e = .returned (.tuple #[v, .int .i64 r.2]) ∧ (r.2 = 0 → w'.ownsRow w.heap.size 82 3 v r.1.length (pcells r.1))) ∧ Below w.heap.size w w'
theorem psRes_err {r : List Pc × Nat} {k : Nat} {w w' : World} (h : r.2 = k) (hk : k ≠ 0) (hb : Below w.heap.size w w') : PsRes r w (.returned (.tuple #[.slice none 0 0, .int .i64 k])) w' :=
  ⟨⟨_, by rw [h], fun h0 => absurd (h.symm.trans h0) hk⟩, hb⟩

set_option maxHeartbeats 2000000 in
set_option maxRecDepth 4000 in
theorem takePieces_any (s : ByteArray) (q0 : Int) (size : Nat) (w : World) (hs : s.size ≤ 1099511627776) (hsz : size ≤ 1099511627776) (hq : q0 ≤ 1099511627776) :
    Calls Try.prog 41 #[.string s, .int .i64 q0, .int .i64 size] w (PsRes (tps s size q0 0) w) := by
  obtain ⟨i0, hi, hz0, hz1, hz2⟩ := info_parts Try.infoPc
  obtain ⟨R, hR⟩ : ∃ R, R = tps s size q0 0 := ⟨_, rfl⟩
  rw [← hR]
  have HR : Hid (R = ahead [] (tps s size q0 0)) := by
    show _ = _
    rw [hR, ahead_nil]
    intro h0
    rw [tps] at h0 ⊢
    split
    · split
      · rfl
      · split
        · split
          · rfl
          · rename_i h1 h2 h3 h4
            rw [if_pos h1, if_neg h2, dif_pos h3, if_neg h4] at h0
            simp at h0
        · rfl
    · split <;> rfl
  clear hR
  go_enter Try.func41, Try.ntmps41
  go_wp2
  go_loopw [1, 8, 9] (fun q v d wr => ∃ (ps : List Pc) (qi : Int) (done : Nat), q = .int .i64 qi ∧ d = .int .i64 done ∧ done ≤ size ∧ ps.length ≤ done ∧ R = ahead ps (tps s size qi done) ∧ wr.ownsRow w.heap.size 82 3 v ps.length (pcells ps) ∧ Below w.heap.size w wr) (fun _ _ d _ => size - (intOf d).toNat)
  case atStart => exact ⟨[], q0, 0, rfl, rfl, by omega, by simp, HR.out, World.ownsRow_nil _ _ _ _, Below.refl _ _⟩
  case round =>
    clear HR
    obtain ⟨ps, qi, done, rfl, rfl, hds, hpl, hR, hown, hbel⟩ := hrel
    have HR : Hid (R = ahead ps (tps s size qi done)) := hR
    clear hR
    by_cases hlt : done < size
    · have htp := fun W => takePiece_any s qi done size W (by omega) hds (by omega)
      obtain ⟨r, hr⟩ : ∃ r, tp s qi done size = r := ⟨_, rfl⟩
      rw [hr] at htp
      obtain ⟨⟨pn, pb, pt⟩, q2, pe⟩ := r
      have HTP : Hid (∀ W, Calls Try.prog 58 #[.string s, .int .i64 qi, .int .i64 done, .int .i64 size] W fun e w' => e = .returned (.tuple #[.agg #[.int .i64 pn, .int .i64 pb, .string pt], .int .i64 q2, .int .i64 pe]) ∧ Below W.heap.size W w') := htp
      have HRR : Hid (tp s qi done size = (⟨pn, pb, pt⟩, q2, pe)) := hr
      clear htp hr
      by_cases he : pe = 0
      · have hn := tp_n (s := s) (q := qi) (done := done) (size := size) (by rw [HRR.out]; exact he)
        rw [HRR.out] at hn
        simp only at hn
        have HX : Hid (R = ahead (ps ++ [⟨pn, pb, pt⟩]) (tps s size q2 (done + pn))) := by
          show _ = _
          rw [HR.out, tps_on hlt (by rw [HRR.out, he]), ahead_ahead]
        have h0 : ((pe : Int) != 0) = false := by simp; omega
        have h1 : ((pe : Int) == 0) = true := by simp; omega
        clear he HR HRR
        go_wp2_with (first
          | (go_at_call 58; ((with_reducible refine (HTP.out _).mono ?_); rintro e2 w2 ⟨rfl, hb2⟩; have hown2 := own_below hown hb2))
          | (at_builtin; refine wpList_append_own _ rfl _ _ 59 rfl w.heap.size 82 i0 (.agg #[.int .i64 0, .int .i64 0, .string ⟨#[]⟩]) 3 32 Try.underlying59 hi hz0 hz1 hz2 rfl (by decide) _ _ _ rfl ((hown2.alloc _).alloc _) ⟨w2.heap.size + 1, 0, none⟩ 1 1 (Pc.cells ⟨pn, pb, pt⟩) rfl rfl (news_pc w2 _ _ _) (pc_one _) (by unfold maxLen; omega) (by omega) (by have := hbel.size; have := hb2.size; simp; omega) ?_; intro v4 w4 ho4 hg4 _; have z0 := pc_cell hown2 hg4))
        have hb4 : Below w.heap.size w w4 := ((((hbel.trans (hb2.mono hbel.size)).alloc (Nat.le_trans hbel.size hb2.size) _).alloc (by have := hbel.size; have := hb2.size; simp; omega) _).grown hg4 (by have := hbel.size; have := hb2.size; simp; omega) (fun k hk => (hown2.lt k hk).1))
        clear hown hown2 hg4 hb2 z0
        go_roundw
        case rel => exact ⟨ps ++ [⟨pn, pb, pt⟩], q2, done + pn, rfl, by go_num, by omega, by rw [List.length_append]; simp; omega, HX.out, by rw [List.length_append, pcells_snoc]; exact ho4, hb4⟩
        case measure => simp [intOf]; omega
      · have HX : Hid (R.2 = pe) := by
          show _ = _
          rw [HR.out, tps_err hlt (by rw [HRR.out]) he]
          unfold ahead
          rw [if_pos he]
        have h0 : ((pe : Int) != 0) = true := by simp; omega
        have h1 : ((pe : Int) == 0) = false := by simp; omega
        have HE : Hid (pe ≠ 0) := he
        clear he HR HRR
        go_wp2_with (go_at_call 58; ((with_reducible refine (HTP.out _).mono ?_); rintro e2 w2 ⟨rfl, hb2⟩))
        go_ret2
        exact psRes_err HX.out HE.out ((hbel.trans (hb2.mono hbel.size)).alloc (Nat.le_trans hbel.size hb2.size) _)
    · by_cases hq : qi < s.size
      · have HX : Hid (R.2 = 2) := by show _ = _; rw [HR.out, tps_left hlt hq]; rfl
        go_wp2
        go_ret2
        exact psRes_err HX.out (by decide) hbel
      · have HX : Hid (R = (ps, 0)) := by
          show _ = _
          rw [HR.out, tps_end hlt hq]
          unfold ahead
          simp
        go_wp2
        go_ret2
        exact ⟨⟨_, by rw [HX.out]; rfl, fun _ => by rw [HX.out]; exact hown⟩, hbel⟩
end Go.Proofs.Ythfnnbeaggkhkaa
