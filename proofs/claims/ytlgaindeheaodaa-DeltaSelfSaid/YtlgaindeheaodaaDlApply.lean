/-
  The walk of Apply.
-/
import Derived.Test.YtlgaindeheaodaaDlSteps
import Derived.Test.YtlgaindeheaodaaSqDec
namespace Go.Proofs.Ytlgaindeheaodaa
open Go.RowKit

theorem scells_at (ps : List St) (k : Nat) (h : k < ps.length) (j : Nat) (hj : j < 3) : (scells ps)[k * 3 + j]? = (St.cells ps[k])[j]? := by
  induction ps generalizing k with
  | nil => simp at h
  | cons p ps ih =>
    have e : scells (p :: ps) = St.cells p ++ scells ps := by simp [scells]
    have hl : (St.cells p).length = 3 := rfl
    rw [e]
    cases k with
    | zero =>
      rw [List.getElem?_append_left (by rw [hl]; omega), Nat.zero_mul, Nat.zero_add]
      rfl
    | succ k =>
      rw [List.getElem?_append_right (by rw [hl]; omega), hl, show (k + 1) * 3 + j - 3 = k * 3 + j by omega]
      exact ih k (by simpa using h)
/-- The row of the instructions, as it is read. -/
def SRow (w : World) (p : Option Addr) (ps : List St) : Prop := ∀ k (h : k < ps.length), ∃ g, p = some ⟨g, 0, none⟩ ∧ g < w.heap.size ∧
  w.cell? ⟨g, k * 3, none⟩ = some (.bool ps[k].c) ∧ w.cell? ⟨g, k * 3 + 1, none⟩ = some (.int .i64 (ps[k].f : Int)) ∧ w.cell? ⟨g, k * 3 + 2, none⟩ = some (.int .i64 (ps[k].n : Int))
theorem srow_of {w : World} {base : Nat} {e : TypeId} {v : Value} {ps : List St} (h : w.ownsRow base e 3 v ps.length (scells ps)) : ∃ p cap, v = .slice p ps.length cap ∧ SRow w p ps := by
  have h' := h
  rcases h'.2 with ⟨rfl, hx⟩ | ⟨g, cap, cur, rfl, _, hg, _⟩
  · have h0 : ps = [] := by
      cases ps with
      | nil => rfl
      | cons p ps => simp at hx
    subst h0
    exact ⟨none, 0, rfl, fun k hk => absurd hk (Nat.not_lt_zero _)⟩
  · refine ⟨_, cap, rfl, fun k hk => ⟨g, rfl, (Array.getElem?_eq_some_iff.mp hg).1, ?_⟩⟩
    have at' (j : Nat) (hj : j < 3) (u : Value) (hu : (St.cells ps[k])[j]? = some u) : w.cell? ⟨g, k * 3 + j, none⟩ = some u := by
      have h1 := h.cells (g := g) rfl (k * 3 + j) u (by rw [scells_at ps k hk j hj]; exact hu)
      rw [Addr.add_lit, Nat.zero_add] at h1
      exact h1
    exact ⟨at' 0 (by decide) _ rfl, at' 1 (by decide) _ rfl, at' 2 (by decide) _ rfl⟩
theorem SRow.below {w w' : World} {p : Option Addr} {ps : List St} (h : SRow w p ps) (hb : Below w.heap.size w w') : SRow w' p ps := fun k hk => by
  obtain ⟨g, rfl, hg, h0, h1, h2⟩ := h k hk
  exact ⟨g, rfl, Nat.lt_of_lt_of_le hg hb.size, (hb.cell (p := ⟨g, k * 3, none⟩) hg).trans h0, (hb.cell (p := ⟨g, k * 3 + 1, none⟩) hg).trans h1, (hb.cell (p := ⟨g, k * 3 + 2, none⟩) hg).trans h2⟩
/-- takeSteps, its answer being known. -/
theorem takeSteps_bad (s : ByteArray) (q0 B size : Nat) (w : World) (hs : s.size ≤ 1099511627776) (hB : B ≤ 1099511627776) (hsz : size ≤ 1099511627776) (hq : q0 ≤ s.size) (k : Nat) (h : (sts s B size q0 0).2 = k) :
    Calls Try.prog 14 #[.string s, .int .i64 q0, .int .i64 B, .int .i64 size] w fun e w' => (∃ v, e = .returned (.tuple #[v, .int .i64 (k : Int)])) ∧ Below w.heap.size w w' :=
  (takeSteps_any s q0 B size w hs hB hsz hq).mono fun _ _ ⟨⟨v, he, _⟩, hb⟩ => ⟨⟨v, by rw [he, h]⟩, hb⟩
theorem takeSteps_good (s : ByteArray) (q0 B size : Nat) (w : World) (hs : s.size ≤ 1099511627776) (hB : B ≤ 1099511627776) (hsz : size ≤ 1099511627776) (hq : q0 ≤ s.size) (ps : List St) (n : Nat) (hn : n = ps.length) (h : sts s B size q0 0 = (ps, 0)) :
    Calls Try.prog 14 #[.string s, .int .i64 q0, .int .i64 B, .int .i64 size] w fun e w' => (∃ p cap, e = .returned (.tuple #[.slice p n cap, .int .i64 0]) ∧ SRow w' p ps) ∧ Below w.heap.size w w' :=
  (takeSteps_any s q0 B size w hs hB hsz hq).mono fun _ _ ⟨⟨v, he, ho⟩, hb⟩ => by
    rw [h] at he ho
    obtain ⟨p, cap, rfl, hr⟩ := srow_of (ho rfl)
    exact ⟨⟨p, cap, by rw [he, hn]; rfl, hr⟩, hb⟩

set_option maxHeartbeats 4000000 in
set_option maxRecDepth 4000 in
theorem dApply_any (b s : ByteArray) (w : World) (hbs : b.size ≤ 1099511627776) (hs : s.size ≤ 1099511627776) :
    Calls Try.prog 7 #[.string b, .string s] w (DecRes (dap b s) w) := by
  obtain ⟨i0, hi, hz0, hz1, hz2⟩ := info_parts Try.info5
  have j1 : IntKind.u64.wrap (b.size : Int) = (b.size : Int) := IntWalk.u64_in _ (by omega)
  rcases tz_cases s with ⟨e, he1, he3, ht⟩ | ⟨v, v2, q2, hv, hv2, hq2, ht⟩
  · have HT : Hid (tz s = (0, 0, 0, e)) := ht
    have HR : Hid (dap b s = ([], e)) := dap_err ht (by omega)
    have hne : ((e : Int) != 0) = true := by simp; omega
    have hne2 : ((e : Int) == 0) = false := by simp; omega
    clear ht
    go_enter Try.func7, Try.ntmps7
    go_wp2_with (go_at_call 13; ((with_reducible refine (takeSizes_at s _ (by omega) _ _ _ _ HT.out).mono ?_); rintro e1 w1 ⟨rfl, rfl⟩))
    go_ret2
    exact decRes_mk HR.out rfl (Below.refl _ _)
  · have HT : Hid (tz s = (v, v2, q2, 0)) := ht
    by_cases h1 : v = b.size
    · have a1 : ((v : Int) != (b.size : Int)) = false := by simp; omega
      have a1' : ((v : Int) == (b.size : Int)) = true := by simp; omega
      by_cases h2 : 1048576 < v2
      · have HR : Hid (dap b s = ([], 4)) := dap_large ht h1 h2
        clear ht h1
        go_enter Try.func7, Try.ntmps7
        go_wp2_with (go_at_call 13; ((with_reducible refine (takeSizes_at s _ (by omega) _ _ _ _ HT.out).mono ?_); rintro e1 w1 ⟨rfl, rfl⟩))
        go_ret2
        exact decRes_mk HR.out rfl (Below.refl _ _)
      · have j2 : IntKind.i64.wrap (v2 : Int) = (v2 : Int) := IntWalk.i64_in _ (by omega)
        obtain ⟨r, hr⟩ : ∃ r, sts s b.size v2 q2 0 = r := ⟨_, rfl⟩
        obtain ⟨ps, k⟩ := r
        by_cases h3 : k = 0
        · subst h3
          obtain ⟨n, hn⟩ : ∃ n, n = ps.length := ⟨_, rfl⟩
          have hok := sts_fit s b.size v2 v2 q2 0 (by omega) (by omega)
          rw [hr] at hok
          have hpl := okSts_len _ _ hok
          have HTS : Hid (∀ W, Calls Try.prog 14 #[.string s, .int .i64 q2, .int .i64 b.size, .int .i64 v2] W fun e w' => (∃ p cap, e = .returned (.tuple #[.slice p n cap, .int .i64 0]) ∧ SRow w' p ps) ∧ Below W.heap.size W w') := fun W => takeSteps_good s q2 b.size v2 W hs hbs (by omega) hq2 ps n hn hr
          obtain ⟨R, hR⟩ : ∃ R, R = laid b s ps := ⟨_, rfl⟩
          have HR : Hid (dap b s = (R, 0)) := by
            show _ = _
            rw [dap_ok ht h1 h2 (by rw [hr]), hr, hR]
          have HL : Hid (R = laid b s ps) := hR
          have HOK : Hid (okSts s b.size v2 0 ps) := hok
          have HN : Hid (n = ps.length) := hn
          have hnl : n ≤ v2 := by simp only at hpl; omega
          clear ht h1 hr hR hok hn hpl
          go_enter Try.func7, Try.ntmps7
          go_wp2_with (first
            | (go_at_call 13; ((with_reducible refine (takeSizes_at s _ (by omega) _ _ _ _ HT.out).mono ?_); rintro e1 w1 ⟨rfl, rfl⟩))
            | (go_at_call 14; ((with_reducible refine (HTS.out _).mono ?_); rintro e1 w1 ⟨⟨p, cap, rfl, hrow⟩, hb1⟩))
            | (at_make; refine wpList_make_own _ rfl _ _ 33 rfl w1.heap.size 5 i0 (.int .u8 0) 1 Try.underlying33 hi hz0 hz1 _ _ _ v2 rfl rfl (by omega) (by rw [hz2]; omega) (by unfold maxLen; omega) (Nat.le_refl _) ?_))
          intro w2 hown2 hgrow2
          have hb2 : Below w1.heap.size w1 w2 := (Below.refl _ _).grown hgrow2 (Nat.le_refl _) (by simp)
          have ho2 : Ow w2 w1.heap.size (.slice (some ⟨w1.heap.size, 0, none⟩) 0 v2) [] := hown2
          clear hown2 hgrow2 j1 j2 a1 a1'
          go_wp2
          go_loopw [11, 48] (fun v i wr => ∃ (k : Nat) (l : List UInt8), k ≤ n ∧ i = .int .i64 k ∧ l.length ≤ v2 ∧ R = l ++ laid b s (ps.drop k) ∧ okSts s b.size v2 l.length (ps.drop k) ∧ Ow wr w1.heap.size v l ∧ Below w1.heap.size w1 wr) (fun _ i _ => n - (intOf i).toNat)
          case atStart => exact ⟨0, [], by omega, rfl, by simp, HL.out, HOK.out, ho2, hb2⟩
          case round =>
            clear ho2 hb2 HL HOK
            obtain ⟨k, l, hk, rfl, hll, hR, hok, ho, hb⟩ := hrel
            have HRR : Hid (R = l ++ laid b s (ps.drop k)) := hR
            have HOK : Hid (okSts s b.size v2 l.length (ps.drop k)) := hok
            clear hR hok
            have hsz := hb.size
            by_cases hlt : k < n
            · have hkl : k < ps.length := by rw [← HN.out]; exact hlt
              obtain ⟨t, ht⟩ : ∃ t, t = ps[k] := ⟨_, rfl⟩
              have hd : ps.drop k = t :: ps.drop (k + 1) := by rw [ht]; exact List.drop_eq_getElem_cons hkl
              have hc := (hrow.below hb) k hkl
              rw [← ht] at hc
              obtain ⟨g, rfl, hg, c0, c1, c2⟩ := hc
              obtain ⟨pc, pf, pn⟩ := t
              simp only at c0 c1 c2
              have HOK2 := HOK.out
              rw [hd] at HOK2
              obtain ⟨k1, k2, k3, k4⟩ := HOK2
              simp only [St.fits] at k1 k2 k3 k4
              have H4 : Hid (okSts s b.size v2 (l.length + pn) (ps.drop (k + 1))) := k4
              obtain ⟨m, hm⟩ : ∃ m, m = pf + pn := ⟨_, rfl⟩
              have hoa := ho.below (Below.alloc (Below.refl wr.heap.size wr) (Nat.le_refl _) (.cells #[.bool pc, .int .i64 pf, .int .i64 pn] 44))
              have hba := hb.alloc hb.size (.cells #[.bool pc, .int .i64 pf, .int .i64 pn] 44)
              have hsz2 : w1.heap.size ≤ (wr.alloc (.cells #[.bool pc, .int .i64 pf, .int .i64 pn] 44)).heap.size := hba.size
              cases pc with
              | true =>
                rw [if_pos rfl] at k1
                have i1 : IntKind.i64.wrap ((pf : Int) + pn) = (m : Int) := by rw [IntWalk.i64_in _ (by omega)]; omega
                have hm1 : pf ≤ m := by omega
                have hm2 : m ≤ b.size := by omega
                obtain ⟨t, ht2⟩ : ∃ t, t = b.extract pf m := ⟨_, rfl⟩
                have hts : t.size = pn := by rw [ht2, ByteArray.size_extract]; omega
                have HTX : Hid (b.extract pf m = t) := ht2.symm
                have HX : Hid (R = (l ++ t.data.toList) ++ laid b s (ps.drop (k + 1))) := by
                  show _ = _
                  rw [HRR.out, hd, ht2, hm, List.append_assoc]
                  simp [laid, St.of]
                have HTS2 : Hid (t.size = pn) := hts
                have htl : l.length + t.size ≤ v2 := by omega
                clear ht hd HRR HOK k1 k4 hkl ht2 hts hm
                go_wp2_with (at_builtin; rw [HTX.out]; refine Lib.wpList_append_own_string _ rfl _ _ 33 9 rfl w1.heap.size 5 i0 Try.underlying33 Try.underlying9 hi hz0 hz1 hz2 _ l.length (bcells l) rfl hoa t rfl (by unfold maxLen; omega) (by omega) hsz2 ?_)
                intro v4 w4 ho4 hg4 _
                have hb4 : Below w1.heap.size w1 w4 := hba.grown hg4 hsz2 (fun k hk => (hoa.lt k hk).1)
                have ho5 := Ow.add (by omega) ho4
                clear ho4 hg4 hoa hba hsz2
                go_wp2
                go_roundw
                case rel => exact ⟨k + 1, _, by omega, by go_num, by rw [List.length_append, list_len]; omega, HX.out, by rw [List.length_append, list_len, HTS2.out]; exact H4.out, ho5, hb4⟩
                case measure => simp [intOf]; omega
              | false =>
                rw [if_neg (by decide)] at k1
                have i1 : IntKind.i64.wrap ((pf : Int) + pn) = (m : Int) := by rw [IntWalk.i64_in _ (by omega)]; omega
                have hm1 : pf ≤ m := by omega
                have hm2 : m ≤ s.size := by omega
                obtain ⟨t, ht2⟩ : ∃ t, t = s.extract pf m := ⟨_, rfl⟩
                have hts : t.size = pn := by rw [ht2, ByteArray.size_extract]; omega
                have HTX : Hid (s.extract pf m = t) := ht2.symm
                have HX : Hid (R = (l ++ t.data.toList) ++ laid b s (ps.drop (k + 1))) := by
                  show _ = _
                  rw [HRR.out, hd, ht2, hm, List.append_assoc]
                  simp [laid, St.of]
                have HTS2 : Hid (t.size = pn) := hts
                have htl : l.length + t.size ≤ v2 := by omega
                clear ht hd HRR HOK k1 k4 hkl ht2 hts hm
                go_wp2_with (at_builtin; rw [HTX.out]; refine Lib.wpList_append_own_string _ rfl _ _ 33 9 rfl w1.heap.size 5 i0 Try.underlying33 Try.underlying9 hi hz0 hz1 hz2 _ l.length (bcells l) rfl hoa t rfl (by unfold maxLen; omega) (by omega) hsz2 ?_)
                intro v4 w4 ho4 hg4 _
                have hb4 : Below w1.heap.size w1 w4 := hba.grown hg4 hsz2 (fun k hk => (hoa.lt k hk).1)
                have ho5 := Ow.add (by omega) ho4
                clear ho4 hg4 hoa hba hsz2
                go_wp2
                go_roundw
                case rel => exact ⟨k + 1, _, by omega, by go_num, by rw [List.length_append, list_len]; omega, HX.out, by rw [List.length_append, list_len, HTS2.out]; exact H4.out, ho5, hb4⟩
                case measure => simp [intOf]; omega
            · have HX : Hid (R = l) := by show _ = _; rw [HRR.out, List.drop_eq_nil_of_le (by rw [← HN.out]; omega)]; simp [laid]
              have hcv : (convert 33 9 u11).run Try.prog wr = .ok (.string (str R)) wr := by
                rw [HX.out]
                exact conv_owned (P := Try.prog) 33 9 5 Try.underlying33 Try.underlying5 Try.underlying9 ho
              go_wp2
              go_ret2
              exact decRes_mk HR.out rfl (hb1.trans (hb.mono hb1.size))
        · have HTS : Hid (∀ W, Calls Try.prog 14 #[.string s, .int .i64 q2, .int .i64 b.size, .int .i64 v2] W fun e w' => (∃ v, e = .returned (.tuple #[v, .int .i64 (k : Int)])) ∧ Below W.heap.size W w') := fun W => takeSteps_bad s q2 b.size v2 W hs hbs (by omega) hq2 k (by rw [hr])
          have HR : Hid (dap b s = ([], k)) := dap_bad ht h1 h2 (by rw [hr]) h3
          have b0 : ((k : Int) != 0) = true := by simp; omega
          have b1 : ((k : Int) == 0) = false := by simp; omega
          clear ht h1 hr h3
          go_enter Try.func7, Try.ntmps7
          go_wp2_with (first
            | (go_at_call 13; ((with_reducible refine (takeSizes_at s _ (by omega) _ _ _ _ HT.out).mono ?_); rintro e1 w1 ⟨rfl, rfl⟩))
            | (go_at_call 14; ((with_reducible refine (HTS.out _).mono ?_); rintro e1 w1 ⟨⟨v, rfl⟩, hb1⟩)))
          go_ret2
          exact decRes_mk HR.out rfl hb1
    · have a1 : ((v : Int) != (b.size : Int)) = true := by simp; omega
      have a1' : ((v : Int) == (b.size : Int)) = false := by simp; omega
      have HR : Hid (dap b s = ([], 40)) := dap_other ht h1
      clear ht h1
      go_enter Try.func7, Try.ntmps7
      go_wp2_with (go_at_call 13; ((with_reducible refine (takeSizes_at s _ (by omega) _ _ _ _ HT.out).mono ?_); rintro e1 w1 ⟨rfl, rfl⟩))
      go_ret2
      exact decRes_mk HR.out rfl (Below.refl _ _)
end Go.Proofs.Ytlgaindeheaodaa
