/-
  The walks of the reference's Apply, Copies and Same.
-/
import Derived.Test.YthfnnbeaggkhkaaDlRPiece
import Derived.Deep.QuietTactic
import Derived.BigQuiet
namespace Go.Proofs.Ythfnnbeaggkhkaa
open Go.RowKit

/-- What is still answered: bytes that are there, instructions that are still read. -/
def finA (b s : ByteArray) (l : List UInt8) (r : List St × Nat) : List UInt8 × Nat := if r.2 ≠ 0 then ([], r.2) else (l ++ laid b s r.1, 0)
theorem finA_err {b s : ByteArray} {l : List UInt8} {r : List St × Nat} {ps : List St} {k : Nat} (h : r = (ps, k)) (hk : k ≠ 0) : finA b s l r = ([], k) := by
  subst h; unfold finA; rw [if_pos hk]
theorem finA_end {b s : ByteArray} {l : List UInt8} {r : List St × Nat} (h : r = ([], 0)) : finA b s l r = (l, 0) := by
  subst h; unfold finA; simp [laid]
theorem finA_on {b s : ByteArray} {l : List UInt8} {r : List St × Nat} {t : St} : finA b s l (before [t] r) = finA b s (l ++ t.of b s) r := by
  unfold before
  by_cases h0 : r.2 ≠ 0
  · rw [if_pos h0]; unfold finA; rw [if_pos h0, if_pos h0]
  · rw [if_neg h0]; unfold finA; rw [if_neg (by simp), if_neg h0]; simp [laid]
theorem dap_fin {b s : ByteArray} {v v2 q2 : Nat} (h : tz s = (v, v2, q2, 0)) (hv : v = b.size) (h2 : ¬ 1048576 < v2) : dap b s = finA b s [] (sts s b.size v2 q2 0) := by
  by_cases h0 : (sts s b.size v2 q2 0).2 = 0
  · rw [dap_ok h hv h2 h0]; unfold finA; rw [if_neg (by simpa using h0)]; rfl
  · rw [dap_bad h hv h2 rfl h0]; unfold finA; rw [if_pos h0]
theorem pv_err {r : St × Nat × Nat} {t : St} {q k : Nat} (h : r = (t, q, k)) (hk : k ≠ 0) : pv r = (0, 0, 0, k) := by subst h; unfold pv; rw [if_pos hk]
theorem pv_copy {r : St × Nat × Nat} {f n q : Nat} (h : r = (⟨true, f, n⟩, q, 0)) : pv r = ((n : Int), (f : Int), (q : Int), 0) := by subst h; rfl
theorem pv_lit {r : St × Nat × Nat} {f n q : Nat} (h : r = (⟨false, f, n⟩, q, 0)) : pv r = ((n : Int), -1, (f : Int), 0) := by subst h; rfl
/-- A literal ends where its bytes end. -/
theorem ts_lit_end {s : ByteArray} {q B left f n q' : Nat} (h : ts s q B left = (⟨false, f, n⟩, q', 0)) : q' = f + n := by
  rcases takeAt_cases s.data.toList q with ⟨e, he1, he3, ht⟩ | ⟨v, q2, a, ha, haq, hq2, hv, ht, -⟩
  · rw [ts_err ht (by omega)] at h; simp only [Prod.mk.injEq] at h; omega
  · by_cases h0 : v / 2 = 0
    · rw [ts_zero ht h0] at h; simp at h
    · by_cases h1 : v % 2 = 1
      · rw [ts_copy ht h0 h1] at h
        rcases takeAt_cases s.data.toList q2 with ⟨e, he1, he3, ht2⟩ | ⟨v2, q3, a2, ha2, haq2, hq3, hv2, ht2, -⟩
        · rw [tc_err ht2 (by omega)] at h; simp only [Prod.mk.injEq] at h; omega
        · by_cases hb : B < v / 2 ∨ B - v / 2 < v2
          · rw [tc_out ht2 hb] at h; simp at h
          · by_cases hl : left < v / 2
            · rw [tc_much ht2 hb hl] at h; simp at h
            · rw [tc_ok ht2 hb hl] at h; simp at h
      · by_cases h2 : 1024 < v / 2 ∨ left < v / 2
        · rw [ts_much ht h0 (by omega) h2] at h; simp at h
        · by_cases h3 : s.size - q2 < v / 2
          · rw [ts_short ht h0 (by omega) h2 h3] at h; simp at h
          · rw [ts_lit ht h0 (by omega) h2 h3] at h
            simp only [Prod.mk.injEq, St.mk.injEq, true_and, and_true] at h
            omega
/-- The length of a string. -/
def vlen : Value → Nat
  | .string b => b.size
  | _ => 0

set_option maxHeartbeats 4000000 in
set_option maxRecDepth 4000 in
theorem rApply_any (b s : ByteArray) (w : World) (hbs : b.size ≤ 1099511627776) (hs : s.size ≤ 1099511627776) :
    Calls Try.prog 27 #[.string b, .string s] w (DecRes (dap b s) w) := by
  have j1 : IntKind.u64.wrap (b.size : Int) = (b.size : Int) := IntWalk.u64_in _ (by omega)
  rcases tz_cases s with ⟨e, he1, he3, ht⟩ | ⟨v, v2, q2, hv, hv2, hq2, ht⟩
  · have HT : Hid (tz s = (0, 0, 0, e)) := ht
    have HR : Hid (dap b s = ([], e)) := dap_err ht (by omega)
    have hne : ((e : Int) != 0) = true := by simp; omega
    have hne2 : ((e : Int) == 0) = false := by simp; omega
    clear ht
    go_enter Try.func27, Try.ntmps27
    go_wp2_with (go_at_call 53; ((with_reducible refine (rheads_at s _ (by omega) _ _ _ _ HT.out).mono ?_); rintro e1 w1 ⟨rfl, rfl⟩))
    go_ret2
    exact decRes_mk HR.out rfl (Below.refl _ _)
  · have HT : Hid (tz s = (v, v2, q2, 0)) := ht
    by_cases h1 : v = b.size
    · have a1 : ((v : Int) != (b.size : Int)) = false := by simp; omega
      have a1' : ((v : Int) == (b.size : Int)) = true := by simp; omega
      by_cases h2 : 1048576 < v2
      · have HR : Hid (dap b s = ([], 4)) := dap_large ht h1 h2
        clear ht h1
        go_enter Try.func27, Try.ntmps27
        go_wp2_with (go_at_call 53; ((with_reducible refine (rheads_at s _ (by omega) _ _ _ _ HT.out).mono ?_); rintro e1 w1 ⟨rfl, rfl⟩))
        go_ret2
        exact decRes_mk HR.out rfl (Below.refl _ _)
      · obtain ⟨R, hR⟩ : ∃ R, R = dap b s := ⟨_, rfl⟩
        have HR : Hid (R = finA b s [] (sts s v v2 q2 0)) := by show _ = _; rw [hR, dap_fin ht h1 h2, h1]
        have hvb : v ≤ b.size := by omega
        have hvb2 : b.size ≤ v := by omega
        rw [← hR]
        clear ht h1 hR
        go_enter Try.func27, Try.ntmps27
        go_wp2_with (go_at_call 53; ((with_reducible refine (rheads_at s _ (by omega) _ _ _ _ HT.out).mono ?_); rintro e1 w1 ⟨rfl, rfl⟩))
        clear HT a1 a1' j1
        go_loop [8, 10] (fun qv o => ∃ (q : Nat) (t : ByteArray), qv = .int .i64 q ∧ o = .string t ∧ q ≤ s.size ∧ t.size ≤ v2 ∧ R = finA b s t.data.toList (sts s v v2 q t.size)) (fun _ o => v2 - vlen o)
        case atStart => exact ⟨q2, ⟨#[]⟩, rfl, rfl, hq2, Nat.zero_le _, HR.out⟩
        case round =>
          clear HR
          obtain ⟨q, t, rfl, rfl, hqs, htv, hR⟩ := hrel
          have HRR : Hid (R = finA b s t.data.toList (sts s v v2 q t.size)) := hR
          clear hR
          have i1 : IntKind.u64.wrap (t.size : Int) = (t.size : Int) := IntWalk.u64_in _ (by omega)
          by_cases hlt : t.size < v2
          · obtain ⟨left, hleft⟩ : ∃ left, left = v2 - t.size := ⟨_, rfl⟩
            have i2 : IntKind.u64.wrap ((v2 : Int) - t.size) = (left : Int) := by rw [IntWalk.u64_in _ (by omega)]; omega
            have hleft2 : left ≤ 1048576 := by omega
            obtain ⟨r, hr⟩ : ∃ r, ts s q v left = r := ⟨_, rfl⟩
            obtain ⟨⟨pc, pf, pn⟩, q3, pe⟩ := r
            have hrl : ts s q v (v2 - t.size) = (⟨pc, pf, pn⟩, q3, pe) := by rw [← hleft]; exact hr
            by_cases he : pe = 0
            · subst he
              have hn := ts_ok (s := s) (q := q) (B := v) (left := left) (by rw [hr])
              rw [hr] at hn
              obtain ⟨k1, k2, -, k3, k4⟩ := hn
              simp only [St.fits] at k1 k2 k3 k4
              have hon := sts_on hlt hrl
              obtain ⟨m, hm⟩ : ∃ m, m = pf + pn := ⟨_, rfl⟩
              cases pc with
              | true =>
                have HP : Hid (pv (ts s q v left) = ((pn : Int), (pf : Int), (q3 : Int), 0)) := pv_copy hr
                rw [if_pos rfl] at k4
                have i3 : IntKind.i64.wrap ((pf : Int) + pn) = (m : Int) := by rw [IntWalk.i64_in _ (by omega)]; omega
                have hm1 : pf ≤ m := by omega
                have hm2 : m ≤ b.size := by omega
                obtain ⟨x, hx⟩ : ∃ x, x = b.extract pf m := ⟨_, rfl⟩
                have hxs : x.size = pn := by rw [hx, ByteArray.size_extract]; omega
                have HTX : Hid (b.extract pf m = x) := hx.symm
                have HX : Hid (R = finA b s (t ++ x).data.toList (sts s v v2 q3 (t ++ x).size)) := by
                  show _ = _
                  rw [HRR.out, hon, finA_on, app_list, ByteArray.size_append, hxs, hx, hm]
                  rfl
                have HS : Hid ((t ++ x).size = t.size + pn) := by show _ = _; rw [ByteArray.size_append, hxs]
                have hsum : t.size + x.size ≤ v2 := by omega
                have hsum2 : t.size + pn ≤ v2 := by omega
                have hd0 : decide ((pf : Int) < 0) = false := by simp
                have hqs3 : q3 ≤ s.size := k3
                clear hr hrl hon hx hm hxs HRR k4 k3 hleft
                go_wp2_with (go_at_call 54; ((with_reducible refine (rpiece_at s q v left _ (by omega) (by omega) (by omega) _ _ _ _ HP.out).mono ?_); rintro e1 w1 ⟨rfl, rfl⟩))
                go_round
                case rel => exact ⟨q3, t ++ x, rfl, by rw [← HTX.out], hqs3, by rw [HS.out]; exact hsum2, HX.out⟩
                case measure =>
                  simp only [vlen]
                  rw [HTX.out, HS.out]
                  omega
              | false =>
                have HP : Hid (pv (ts s q v left) = ((pn : Int), -1, (pf : Int), 0)) := pv_lit hr
                have hend := ts_lit_end hr
                rw [if_neg (by decide)] at k4
                have i3 : IntKind.i64.wrap ((pf : Int) + pn) = (m : Int) := by rw [IntWalk.i64_in _ (by omega)]; omega
                have hm1 : pf ≤ m := by omega
                have hm2 : m ≤ s.size := by omega
                obtain ⟨x, hx⟩ : ∃ x, x = s.extract pf m := ⟨_, rfl⟩
                have hxs : x.size = pn := by rw [hx, ByteArray.size_extract]; omega
                have HTX : Hid (s.extract pf m = x) := hx.symm
                have HX : Hid (R = finA b s (t ++ x).data.toList (sts s v v2 m (t ++ x).size)) := by
                  show _ = _
                  rw [HRR.out, hon, finA_on, app_list, ByteArray.size_append, hxs, hx, hm, hend]
                  rfl
                have HS : Hid ((t ++ x).size = t.size + pn) := by show _ = _; rw [ByteArray.size_append, hxs]
                have hsum : t.size + x.size ≤ v2 := by omega
                have hsum2 : t.size + pn ≤ v2 := by omega
                clear hr hrl hon hx hm hxs HRR k4 k3 hend hleft
                go_wp2_with (go_at_call 54; ((with_reducible refine (rpiece_at s q v left _ (by omega) (by omega) (by omega) _ _ _ _ HP.out).mono ?_); rintro e1 w1 ⟨rfl, rfl⟩))
                go_round
                case rel => exact ⟨m, t ++ x, rfl, by rw [← HTX.out], hm2, by rw [HS.out]; exact hsum2, HX.out⟩
                case measure =>
                  simp only [vlen]
                  rw [HTX.out, HS.out]
                  omega
            · have HP : Hid (pv (ts s q v left) = (0, 0, 0, pe)) := pv_err hr he
              have HX : Hid (R = ([], pe)) := by show _ = _; rw [HRR.out]; exact finA_err (sts_err hlt (by rw [hrl]) he) he
              have hne : ((pe : Int) != 0) = true := by simp; omega
              have hne2 : ((pe : Int) == 0) = false := by simp; omega
              clear hr hrl HRR he hleft
              go_wp2_with (go_at_call 54; ((with_reducible refine (rpiece_at s q v left _ (by omega) (by omega) (by omega) _ _ _ _ HP.out).mono ?_); rintro e1 w1 ⟨rfl, rfl⟩))
              go_ret2
              exact decRes_mk HX.out rfl (Below.refl _ _)
          · by_cases hq : q < s.size
            · have HX : Hid (R = ([], 2)) := by show _ = _; rw [HRR.out]; exact finA_err (sts_left hlt hq) (by decide)
              clear HRR
              go_wp2
              go_ret2
              exact decRes_mk HX.out rfl (Below.refl _ _)
            · have HX : Hid (R = (t.data.toList, 0)) := by show _ = _; rw [HRR.out]; exact finA_end (sts_end hlt hq)
              clear HRR
              go_wp2
              go_ret2
              exact decRes_mk HX.out rfl (Below.refl _ _)
    · have a1 : ((v : Int) != (b.size : Int)) = true := by simp; omega
      have a1' : ((v : Int) == (b.size : Int)) = false := by simp; omega
      have HR : Hid (dap b s = ([], 40)) := dap_other ht h1
      clear ht h1
      go_enter Try.func27, Try.ntmps27
      go_wp2_with (go_at_call 53; ((with_reducible refine (rheads_at s _ (by omega) _ _ _ _ HT.out).mono ?_); rintro e1 w1 ⟨rfl, rfl⟩))
      go_ret2
      exact decRes_mk HR.out rfl (Below.refl _ _)
end Go.Proofs.Ythfnnbeaggkhkaa
