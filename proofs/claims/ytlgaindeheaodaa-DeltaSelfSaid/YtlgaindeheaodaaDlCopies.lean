/-
  The walk of Copies.
-/
import Derived.Test.YtlgaindeheaodaaDlApply
namespace Go.Proofs.Ytlgaindeheaodaa
open Go.RowKit

theorem Try.infoRn : (Try.prog.info? 35).map (fun i => (i.zero, i.size, i.bytes)) = some (some (.agg #[.int .i64 0, .int .i64 0, .int .i64 0]), 3, 24) := by kernel_rfl
def Rn.cells (p : Rn) : List Value := [.int .i64 (p.a : Int), .int .i64 (p.b : Int), .int .i64 (p.n : Int)]
def rcells (ps : List Rn) : List Value := ps.flatMap Rn.cells
theorem rcells_snoc (ps : List Rn) (p : Rn) : rcells (ps ++ [p]) = rcells ps ++ Rn.cells p := by simp [rcells]
theorem rn_one (p : Rn) : ∀ u ∈ Rn.cells p, u.oneCell' = true := by
  intro u hu
  simp only [Rn.cells, List.mem_cons, List.not_mem_nil, or_false] at hu
  rcases hu with rfl | rfl | rfl <;> rfl
theorem news_rn (w : World) (p : Rn) (o : Obj) (t : TypeId) (j : Nat) (u : Value) (hj : (Rn.cells p)[j]? = some u) :
    ((w.alloc o).alloc (.cells #[.int .i64 (p.a : Int), .int .i64 (p.b : Int), .int .i64 (p.n : Int)] t)).cell? ((⟨w.heap.size + 1, 0, none⟩ : Addr).add j) = some u := by
  rw [Addr.add_lit, Nat.zero_add]
  have h := World.cell?_alloc_mark (w.alloc o) #[.int .i64 (p.a : Int), .int .i64 (p.b : Int), .int .i64 (p.n : Int)] t (0, 0) j
  have e : (w.alloc o).heap.size = w.heap.size + 1 := by simp
  rw [e] at h
  refine h.trans ?_
  simpa [Rn.cells] using hj
theorem new_rn (w : World) (p : Rn) (t : TypeId) (j : Nat) (u : Value) (hj : (Rn.cells p)[j]? = some u) :
    (w.alloc (.cells #[.int .i64 (p.a : Int), .int .i64 (p.b : Int), .int .i64 (p.n : Int)] t)).cell? ((⟨w.heap.size, 0, none⟩ : Addr).add j) = some u := by
  rw [Addr.add_lit, Nat.zero_add]
  have h := World.cell?_alloc_mark w #[.int .i64 (p.a : Int), .int .i64 (p.b : Int), .int .i64 (p.n : Int)] t (0, 0) j
  refine h.trans ?_
  simpa [Rn.cells] using hj
theorem rcells_at (ps : List Rn) (k : Nat) (h : k < ps.length) (j : Nat) (hj : j < 3) : (rcells ps)[k * 3 + j]? = (Rn.cells ps[k])[j]? := by
  induction ps generalizing k with
  | nil => simp at h
  | cons p ps ih =>
    have e : rcells (p :: ps) = Rn.cells p ++ rcells ps := by simp [rcells]
    have hl : (Rn.cells p).length = 3 := rfl
    rw [e]
    cases k with
    | zero =>
      rw [List.getElem?_append_left (by rw [hl]; omega), Nat.zero_mul, Nat.zero_add]
      rfl
    | succ k =>
      rw [List.getElem?_append_right (by rw [hl]; omega), hl, show (k + 1) * 3 + j - 3 = k * 3 + j by omega]
      exact ih k (by simpa using h)
/-- The row of the runs, as it is read. -/
def RRow (w : World) (p : Option Addr) (ps : List Rn) : Prop := ∀ k (h : k < ps.length), ∃ g, p = some ⟨g, 0, none⟩ ∧ g < w.heap.size ∧
  w.cell? ⟨g, k * 3, none⟩ = some (.int .i64 (ps[k].a : Int)) ∧ w.cell? ⟨g, k * 3 + 1, none⟩ = some (.int .i64 (ps[k].b : Int)) ∧ w.cell? ⟨g, k * 3 + 2, none⟩ = some (.int .i64 (ps[k].n : Int))
theorem rrow_of {w : World} {base : Nat} {e : TypeId} {v : Value} {ps : List Rn} (h : w.ownsRow base e 3 v ps.length (rcells ps)) : ∃ p cap, v = .slice p ps.length cap ∧ RRow w p ps := by
  have h' := h
  rcases h'.2 with ⟨rfl, hx⟩ | ⟨g, cap, cur, rfl, _, hg, _⟩
  · have h0 : ps = [] := by
      cases ps with
      | nil => rfl
      | cons p ps => simp at hx
    subst h0
    exact ⟨none, 0, rfl, fun k hk => absurd hk (Nat.not_lt_zero _)⟩
  · refine ⟨_, cap, rfl, fun k hk => ⟨g, rfl, (Array.getElem?_eq_some_iff.mp hg).1, ?_⟩⟩
    have at' (j : Nat) (hj : j < 3) (u : Value) (hu : (Rn.cells ps[k])[j]? = some u) : w.cell? ⟨g, k * 3 + j, none⟩ = some u := by
      have h1 := h.cells (g := g) rfl (k * 3 + j) u (by rw [rcells_at ps k hk j hj]; exact hu)
      rw [Addr.add_lit, Nat.zero_add] at h1
      exact h1
    exact ⟨at' 0 (by decide) _ rfl, at' 1 (by decide) _ rfl, at' 2 (by decide) _ rfl⟩
theorem RRow.below {w w' : World} {p : Option Addr} {ps : List Rn} (h : RRow w p ps) (hb : Below w.heap.size w w') : RRow w' p ps := fun k hk => by
  obtain ⟨g, rfl, hg, h0, h1, h2⟩ := h k hk
  exact ⟨g, rfl, Nat.lt_of_lt_of_le hg hb.size, (hb.cell (p := ⟨g, k * 3, none⟩) hg).trans h0, (hb.cell (p := ⟨g, k * 3 + 1, none⟩) hg).trans h1, (hb.cell (p := ⟨g, k * 3 + 2, none⟩) hg).trans h2⟩
/-- What Copies answers: the runs, and an error. -/
def CpRes (r : List Rn × Nat) (w : World) (e : Ending) (w' : World) : Prop :=
  (∃ p cap, e = .returned (.tuple #[.slice p r.1.length cap, .int .i64 (r.2 : Int)]) ∧ RRow w' p r.1) ∧ Below w.heap.size w w'
theorem cpRes_err {r : List Rn × Nat} {k : Nat} {w w' : World} (h : r = ([], k)) (hb : Below w.heap.size w w') : CpRes r w (.returned (.tuple #[.slice none 0 0, .int .i64 (k : Int)])) w' := by
  subst h
  exact ⟨⟨none, 0, rfl, fun k hk => absurd hk (Nat.not_lt_zero _)⟩, hb⟩
theorem cpRes_ok {r : List Rn × Nat} {l : List Rn} {w w' : World} {base : Nat} {v : Value} (h : r = (l, 0)) (ho : w'.ownsRow base 35 3 v l.length (rcells l)) (hb : Below w.heap.size w w') : CpRes r w (.returned (.tuple #[v, .int .i64 0])) w' := by
  subst h
  obtain ⟨p, cap, rfl, hr⟩ := rrow_of ho
  exact ⟨⟨p, cap, rfl, hr⟩, hb⟩

set_option maxHeartbeats 4000000 in
set_option maxRecDepth 4000 in
theorem dCopies_any (s : ByteArray) (w : World) (hs : s.size ≤ 1099511627776) :
    Calls Try.prog 12 #[.string s] w (CpRes (dcp s) w) := by
  obtain ⟨i0, hi, hz0, hz1, hz2⟩ := info_parts Try.infoRn
  rcases dsz_cases s with ⟨e, he1, he3, ht⟩ | ⟨v, v2, q2, hv, hv2, hq2, ht, -⟩
  · have HT : Hid (dsz s = (0, 0, 0, e)) := ht
    have HR : Hid (dcp s = ([], e)) := dcp_err ht (by omega)
    have hne : ((e : Int) != 0) = true := by simp; omega
    have hne2 : ((e : Int) == 0) = false := by simp; omega
    clear ht
    go_enter Try.func12, Try.ntmps12
    go_wp2_with (go_at_call 19; ((with_reducible refine (takeLimited_at s _ (by omega) _ _ _ _ HT.out).mono ?_); rintro e1 w1 ⟨rfl, rfl⟩))
    go_ret2
    exact cpRes_err HR.out (Below.refl _ _)
  · have HT : Hid (dsz s = (v, v2, q2, 0)) := ht
    obtain ⟨r, hr⟩ : ∃ r, sts s v v2 q2 0 = r := ⟨_, rfl⟩
    obtain ⟨ps, k⟩ := r
    by_cases h3 : k = 0
    · subst h3
      obtain ⟨n, hn⟩ : ∃ n, n = ps.length := ⟨_, rfl⟩
      have hok := sts_fit s v v2 v2 q2 0 (by omega) (by omega)
      rw [hr] at hok
      have hpl := okSts_len _ _ hok
      have HTS : Hid (∀ W, Calls Try.prog 14 #[.string s, .int .i64 q2, .int .i64 v, .int .i64 v2] W fun e w' => (∃ p cap, e = .returned (.tuple #[.slice p n cap, .int .i64 0]) ∧ SRow w' p ps) ∧ Below W.heap.size W w') := fun W => takeSteps_good s q2 v v2 W hs (by omega) (by omega) hq2 ps n hn hr
      obtain ⟨R, hR⟩ : ∃ R, R = runs 0 ps := ⟨_, rfl⟩
      have HR : Hid (dcp s = (R, 0)) := by
        show _ = _
        rw [dcp_ok ht (by rw [hr]), hr, hR]
      have HL : Hid (R = runs 0 ps) := hR
      have HOK : Hid (okSts s v v2 0 ps) := hok
      have HN : Hid (n = ps.length) := hn
      have hnl : n ≤ v2 := by simp only at hpl; omega
      clear ht hr hR hok hn hpl
      go_enter Try.func12, Try.ntmps12
      go_wp2_with (first
        | (go_at_call 19; ((with_reducible refine (takeLimited_at s _ (by omega) _ _ _ _ HT.out).mono ?_); rintro e1 w1 ⟨rfl, rfl⟩))
        | (go_at_call 14; ((with_reducible refine (HTS.out _).mono ?_); rintro e1 w1 ⟨⟨p, cap, rfl, hrow⟩, hb1⟩)))
      go_loopw [9, 10, 36] (fun x d i wr => ∃ (k done : Nat) (l : List Rn), k ≤ n ∧ i = .int .i64 k ∧ d = .int .i64 done ∧ done ≤ v2 ∧ l.length ≤ k ∧ R = l ++ runs done (ps.drop k) ∧ Hid (okSts s v v2 done (ps.drop k)) ∧ wr.ownsRow w1.heap.size 35 3 x l.length (rcells l) ∧ Below w1.heap.size w1 wr) (fun _ _ i _ => n - (intOf i).toNat)
      case atStart => exact ⟨0, 0, [], by omega, rfl, rfl, by omega, by simp, HL.out, HOK, World.ownsRow_nil _ _ _ _, Below.refl _ _⟩
      case round =>
        clear HL HOK
        obtain ⟨k, done, l, hk, rfl, rfl, hdn, hll, hR, HOK, ho, hb⟩ := hrel
        have HRR : Hid (R = l ++ runs done (ps.drop k)) := hR
        clear hR
        have hsz := hb.size
        by_cases hlt : k < n
        · have hkl : k < ps.length := by rw [← HN.out]; exact hlt
          obtain ⟨t, ht⟩ : ∃ t, t = ps[k] := ⟨_, rfl⟩
          have hd : ps.drop k = t :: ps.drop (k + 1) := by rw [ht]; exact List.drop_eq_getElem_cons hkl
          have hc := (hrow.below hb) k hkl
          rw [← ht] at hc
          obtain ⟨g, rfl, hg, c0, c1, c2⟩ := hc
          obtain ⟨pc, pf, pn⟩ := t
          simp only at c0 c1 c2
          have HOK2 := HOK.out
          rw [hd] at HOK2
          obtain ⟨-, k2, k3, k4⟩ := HOK2
          simp only at k2 k3 k4
          have H4 : Hid (okSts s v v2 (done + pn) (ps.drop (k + 1))) := k4
          have hba := hb.alloc hb.size (.cells #[.bool pc, .int .i64 pf, .int .i64 pn] 44)
          have hsz2 : w1.heap.size ≤ (wr.alloc (.cells #[.bool pc, .int .i64 pf, .int .i64 pn] 44)).heap.size := hba.size
          cases pc with
          | true =>
            have HX : Hid (R = (l ++ [⟨pf, done, pn⟩]) ++ runs (done + pn) (ps.drop (k + 1))) := by
              show _ = _
              rw [HRR.out, hd, List.append_assoc]
              simp [runs]
            have hl2 : l.length + 1 ≤ k + 1 := by omega
            clear ht hd HRR HOK k4 hkl
            go_wp2_with (at_builtin; refine wpList_append_own _ rfl _ _ 30 rfl w1.heap.size 35 i0 (.agg #[.int .i64 0, .int .i64 0, .int .i64 0]) 3 24 Try.underlying30 hi hz0 hz1 hz2 rfl (by decide) _ _ _ rfl ((ho.alloc _).alloc _) ⟨wr.heap.size + 1, 0, none⟩ 1 1 (Rn.cells ⟨pf, done, pn⟩) rfl rfl (news_rn wr ⟨pf, done, pn⟩ _ _) (rn_one _) (by unfold maxLen; omega) (by omega) (by simp; omega) ?_; intro v4 w4 ho4 hg4 _; have z0 := st_cell ho hg4)
            have hb4 : Below w1.heap.size w1 w4 := (hba.alloc hsz2 _).grown hg4 (by simp; omega) (fun k hk => (ho.lt k hk).1)
            clear ho hg4 hba hsz2 z0
            go_roundw
            case rel => exact ⟨k + 1, done + pn, l ++ [⟨pf, done, pn⟩], by omega, by go_num, by go_num, by omega, by rw [List.length_append]; simp; omega, HX.out, H4, by rw [List.length_append, rcells_snoc]; exact ho4, hb4⟩
            case measure => simp [intOf]; omega
          | false =>
            have HX : Hid (R = l ++ runs (done + pn) (ps.drop (k + 1))) := by
              show _ = _
              rw [HRR.out, hd]
              simp [runs]
            have hoa := ho.alloc (.cells #[.bool false, .int .i64 pf, .int .i64 pn] 44)
            clear ht hd HRR HOK k4 hkl ho
            go_wp2
            go_roundw
            case rel => exact ⟨k + 1, done + pn, l, by omega, by go_num, by go_num, by omega, by omega, HX.out, H4, hoa, hba⟩
            case measure => simp [intOf]; omega
        · have HX : Hid (R = l) := by show _ = _; rw [HRR.out, List.drop_eq_nil_of_le (by rw [← HN.out]; omega)]; simp [runs]
          go_wp2
          go_ret2
          exact cpRes_ok (by rw [HR.out, HX.out]) ho (hb1.trans (hb.mono hb1.size))
    · have HTS : Hid (∀ W, Calls Try.prog 14 #[.string s, .int .i64 q2, .int .i64 v, .int .i64 v2] W fun e w' => (∃ v, e = .returned (.tuple #[v, .int .i64 (k : Int)])) ∧ Below W.heap.size W w') := fun W => takeSteps_bad s q2 v v2 W hs (by omega) (by omega) hq2 k (by rw [hr])
      have HR : Hid (dcp s = ([], k)) := dcp_bad ht (by rw [hr]) h3
      have b0 : ((k : Int) != 0) = true := by simp; omega
      have b1 : ((k : Int) == 0) = false := by simp; omega
      clear ht hr h3
      go_enter Try.func12, Try.ntmps12
      go_wp2_with (first
        | (go_at_call 19; ((with_reducible refine (takeLimited_at s _ (by omega) _ _ _ _ HT.out).mono ?_); rintro e1 w1 ⟨rfl, rfl⟩))
        | (go_at_call 14; ((with_reducible refine (HTS.out _).mono ?_); rintro e1 w1 ⟨⟨v, rfl⟩, hb1⟩)))
      go_ret2
      exact cpRes_err HR.out hb1
end Go.Proofs.Ytlgaindeheaodaa
