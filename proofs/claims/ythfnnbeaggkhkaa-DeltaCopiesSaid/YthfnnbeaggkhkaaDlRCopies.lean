/-
  The walks of the reference's Copies and Same.
-/
import Derived.Test.YthfnnbeaggkhkaaDlRApply
namespace Go.Proofs.Ythfnnbeaggkhkaa
open Go.RowKit

/-- What is still answered: runs that are there, instructions that are still read. -/
def finC (l : List Rn) (done : Nat) (r : List St × Nat) : List Rn × Nat := if r.2 ≠ 0 then ([], r.2) else (l ++ runs done r.1, 0)
theorem finC_err {l : List Rn} {done : Nat} {r : List St × Nat} {ps : List St} {k : Nat} (h : r = (ps, k)) (hk : k ≠ 0) : finC l done r = ([], k) := by
  subst h; unfold finC; rw [if_pos hk]
theorem finC_end {l : List Rn} {done : Nat} {r : List St × Nat} (h : r = ([], 0)) : finC l done r = (l, 0) := by
  subst h; unfold finC; simp [runs]
theorem finC_on {l : List Rn} {done : Nat} {r : List St × Nat} {t : St} : finC l done (before [t] r) = finC (l ++ (if t.c = true then [⟨t.f, done, t.n⟩] else [])) (done + t.n) r := by
  unfold before
  by_cases h0 : r.2 ≠ 0
  · rw [if_pos h0]; unfold finC; rw [if_pos h0, if_pos h0]
  · rw [if_neg h0]; unfold finC; rw [if_neg (by simp), if_neg h0]; simp [runs]
theorem dcp_fin {s : ByteArray} {v v2 q2 : Nat} (h : dsz s = (v, v2, q2, 0)) : dcp s = finC [] 0 (sts s v v2 q2 0) := by
  by_cases h0 : (sts s v v2 q2 0).2 = 0
  · rw [dcp_ok h h0]; unfold finC; rw [if_neg (by simpa using h0)]; rfl
  · rw [dcp_bad h rfl h0]; unfold finC; rw [if_pos h0]

set_option maxHeartbeats 4000000 in
set_option maxRecDepth 4000 in
theorem rCopies_any (s : ByteArray) (w : World) (hs : s.size ≤ 1099511627776) :
    Calls Try.prog 30 #[.string s] w (CpRes (dcp s) w) := by
  obtain ⟨i0, hi, hz0, hz1, hz2⟩ := info_parts Try.infoRn
  rcases dsz_cases s with ⟨e, he1, he3, ht⟩ | ⟨v, v2, q2, hv, hv2, hq2, ht, htz⟩
  · have HT : Hid (dsz s = (0, 0, 0, e)) := ht
    have HR : Hid (dcp s = ([], e)) := dcp_err ht (by omega)
    have hne : ((e : Int) != 0) = true := by simp; omega
    have hne2 : ((e : Int) == 0) = false := by simp; omega
    clear ht
    go_enter Try.func30, Try.ntmps30
    go_wp2_with (go_at_call 28; ((with_reducible refine (rSizes_at s _ (by omega) _ _ _ _ HT.out).mono ?_); rintro e1 w1 ⟨rfl, rfl⟩))
    go_ret2
    exact cpRes_err HR.out (Below.refl _ _)
  · have HT : Hid (dsz s = (v, v2, q2, 0)) := ht
    have HZ : Hid (tz s = (v, v2, q2, 0)) := htz
    obtain ⟨R, hR⟩ : ∃ R, R = dcp s := ⟨_, rfl⟩
    have HR : Hid (R = finC [] 0 (sts s v v2 q2 0)) := by show _ = _; rw [hR, dcp_fin ht]
    rw [← hR]
    clear ht htz hR
    go_enter Try.func30, Try.ntmps30
    go_wp2_with (first
      | (go_at_call 28; ((with_reducible refine (rSizes_at s _ (by omega) _ _ _ _ HT.out).mono ?_); rintro e1 w1 ⟨rfl, rfl⟩))
      | (go_at_call 53; ((with_reducible refine (rheads_at s _ (by omega) _ _ _ _ HZ.out).mono ?_); rintro e1 w1 ⟨rfl, rfl⟩)))
    clear HT HZ
    go_loopw [9, 11, 12] (fun qv x d wr => ∃ (q done : Nat) (l : List Rn), qv = .int .i64 q ∧ d = .int .i64 done ∧ q ≤ s.size ∧ done ≤ v2 ∧ l.length ≤ done ∧ R = finC l done (sts s v v2 q done) ∧ wr.ownsRow w.heap.size 45 3 x l.length (rcells l) ∧ Below w.heap.size w wr) (fun _ _ d _ => v2 - (intOf d).toNat)
    case atStart => exact ⟨q2, 0, [], rfl, rfl, hq2, by omega, by simp, HR.out, World.ownsRow_nil _ _ _ _, Below.refl _ _⟩
    case round =>
      clear HR
      obtain ⟨q, done, l, rfl, rfl, hqs, hdn, hll, hR, ho, hb⟩ := hrel
      have HRR : Hid (R = finC l done (sts s v v2 q done)) := hR
      clear hR
      have hsz := hb.size
      have i1 : IntKind.u64.wrap (done : Int) = (done : Int) := IntWalk.u64_in _ (by omega)
      by_cases hlt : done < v2
      · obtain ⟨left, hleft⟩ : ∃ left, left = v2 - done := ⟨_, rfl⟩
        have i2 : IntKind.u64.wrap ((v2 : Int) - done) = (left : Int) := by rw [IntWalk.u64_in _ (by omega)]; omega
        have hleft2 : left ≤ 1048576 := by omega
        obtain ⟨r, hr⟩ : ∃ r, ts s q v left = r := ⟨_, rfl⟩
        obtain ⟨⟨pc, pf, pn⟩, q3, pe⟩ := r
        have hrl : ts s q v (v2 - done) = (⟨pc, pf, pn⟩, q3, pe) := by rw [← hleft]; exact hr
        by_cases he : pe = 0
        · subst he
          have hn := ts_ok (s := s) (q := q) (B := v) (left := left) (by rw [hr])
          rw [hr] at hn
          obtain ⟨k1, k2, -, k3, k4⟩ := hn
          simp only [St.fits] at k1 k2 k3 k4
          have hon := sts_on hlt hrl
          have hsum2 : done + pn ≤ v2 := by omega
          cases pc with
          | true =>
            have HP : Hid (pv (ts s q v left) = ((pn : Int), (pf : Int), (q3 : Int), 0)) := pv_copy hr
            have HX : Hid (R = finC (l ++ [⟨pf, done, pn⟩]) (done + pn) (sts s v v2 q3 (done + pn))) := by
              show _ = _
              rw [HRR.out, hon, finC_on, if_pos rfl]
            have hl2 : l.length + 1 ≤ done + pn := by omega
            have hqs3 : q3 ≤ s.size := k3
            clear hr hrl hon HRR k4 k3 hleft
            go_wp2_with (first
              | (go_at_call 54; ((with_reducible refine (rpiece_at s q v left _ (by omega) (by omega) (by omega) _ _ _ _ HP.out).mono ?_); rintro e1 w1 ⟨rfl, rfl⟩))
              | (at_builtin; refine wpList_append_own _ rfl _ _ 40 rfl w.heap.size 45 i0 (.agg #[.int .i64 0, .int .i64 0, .int .i64 0]) 3 24 Try.underlying40 hi hz0 hz1 hz2 rfl (by decide) _ _ _ rfl (ho.alloc _) ⟨wr.heap.size, 0, none⟩ 1 1 (Rn.cells ⟨pf, done, pn⟩) rfl rfl (new_rn wr ⟨pf, done, pn⟩ _) (rn_one _) (by unfold maxLen; omega) (by omega) (by simp; omega) ?_; intro v4 w4 ho4 hg4 _))
            have hb4 : Below w.heap.size w w4 := (hb.alloc hsz _).grown hg4 (by simp; omega) (fun k hk => (ho.lt k hk).1)
            clear ho hg4
            go_wp2
            go_roundw
            case rel => exact ⟨q3, done + pn, l ++ [⟨pf, done, pn⟩], rfl, by go_num, hqs3, hsum2, by rw [List.length_append]; simp; omega, HX.out, by rw [List.length_append, rcells_snoc]; exact ho4, hb4⟩
            case measure => simp [intOf]; omega
          | false =>
            have HP : Hid (pv (ts s q v left) = ((pn : Int), -1, (pf : Int), 0)) := pv_lit hr
            have hend := ts_lit_end hr
            obtain ⟨m, hm⟩ : ∃ m, m = pf + pn := ⟨_, rfl⟩
            rw [if_neg (by decide)] at k4
            have i3 : IntKind.i64.wrap ((pf : Int) + pn) = (m : Int) := by rw [IntWalk.i64_in _ (by omega)]; omega
            have hm2 : m ≤ s.size := by omega
            have HX : Hid (R = finC l (done + pn) (sts s v v2 m (done + pn))) := by
              show _ = _
              rw [HRR.out, hon, finC_on, if_neg (by simp), List.append_nil, hm, hend]
            have hl2 : l.length ≤ done + pn := by omega
            clear hr hrl hon HRR k4 k3 hleft hend hm
            go_wp2_with (go_at_call 54; ((with_reducible refine (rpiece_at s q v left _ (by omega) (by omega) (by omega) _ _ _ _ HP.out).mono ?_); rintro e1 w1 ⟨rfl, rfl⟩))
            go_roundw
            case rel => exact ⟨m, done + pn, l, rfl, by go_num, hm2, hsum2, hl2, HX.out, ho, hb⟩
            case measure => simp [intOf]; omega
        · have HP : Hid (pv (ts s q v left) = (0, 0, 0, pe)) := pv_err hr he
          have HX : Hid (R = ([], pe)) := by show _ = _; rw [HRR.out]; exact finC_err (sts_err hlt (by rw [hrl]) he) he
          have hne : ((pe : Int) != 0) = true := by simp; omega
          have hne2 : ((pe : Int) == 0) = false := by simp; omega
          clear hr hrl HRR he hleft
          go_wp2_with (go_at_call 54; ((with_reducible refine (rpiece_at s q v left _ (by omega) (by omega) (by omega) _ _ _ _ HP.out).mono ?_); rintro e1 w1 ⟨rfl, rfl⟩))
          go_ret2
          exact cpRes_err HX.out hb
      · by_cases hq : q < s.size
        · have HX : Hid (R = ([], 2)) := by show _ = _; rw [HRR.out]; exact finC_err (sts_left hlt hq) (by decide)
          clear HRR
          go_wp2
          go_ret2
          exact cpRes_err HX.out hb
        · have HX : Hid (R = (l, 0)) := by show _ = _; rw [HRR.out]; exact finC_end (sts_end hlt hq)
          clear HRR
          go_wp2
          go_ret2
          exact cpRes_ok HX.out ho hb

set_option maxHeartbeats 4000000 in
set_option maxRecDepth 4000 in
theorem rSame_any (l : List Rn) (p q : Option Addr) (c d n : Nat) (w : World) (hn : n = l.length) (hp : RRow w p l) (hq : RRow w q l) (hl : l.length ≤ 1099511627776) :
    Calls Try.prog 31 #[.slice p n c, .slice q n d] w fun e w' => e = .returned (.bool true) ∧ ∃ k, w' = w.drewN k := by
  have HN : Hid (n = l.length) := hn
  rw [← hn] at hl
  clear hn
  go_enter Try.func31, Try.ntmps31
  go_wp2
  go_loopw [5] (fun i wr => ∃ (k m : Nat), k ≤ n ∧ i = .int .i64 k ∧ wr = w.drewN m) (fun i _ => n - (intOf i).toNat)
  case atStart => exact ⟨0, 0, by omega, rfl, rfl⟩
  case round =>
    obtain ⟨k, m, hk, rfl, rfl⟩ := hrel
    by_cases hlt : k < n
    · obtain ⟨g, rfl, hg, a0, a1, a2⟩ := hp k (by rw [← HN.out]; exact hlt)
      obtain ⟨h, rfl, hh, b0, b1, b2⟩ := hq k (by rw [← HN.out]; exact hlt)
      obtain ⟨t, ht⟩ : ∃ t, t = l[k]'(by rw [← HN.out]; exact hlt) := ⟨_, rfl⟩
      rw [← ht] at a0 a1 a2 b0 b1 b2
      obtain ⟨x, y, z⟩ := t
      simp only at a0 a1 a2 b0 b1 b2
      clear ht hg hh
      go_wp2
      go_quiet (fail)
      go_wp2
      go_roundw
      case rel => exact ⟨k + 1, _, by omega, by go_num, rfl⟩
      case measure => simp [intOf]; omega
    · go_wp2
      go_ret
      exact ⟨rfl, m, rfl⟩
end Go.Proofs.Ythfnnbeaggkhkaa
