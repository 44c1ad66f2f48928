/-
  The walk of the law DeltaCopies.
-/
import Derived.Test.YthfnnbeaggkhkaaDlReadsLaw
import Derived.Test.YthfnnbeaggkhkaaDlCopiesPlain
namespace Go.Proofs.Ythfnnbeaggkhkaa
open Go.RowKit

set_option maxHeartbeats 2000000 in
set_option maxRecDepth 4000 in
theorem dlCopies_walk (b s : ByteArray) (W : World) : Calls Try.prog 12 #[.string b, .string s] W fun e W' => e = .returned (.bool true) ∧ Below W.heap.size W W' := by
  have hb0 := Below.refl W.heap.size W
  by_cases h1 : b.size ≤ 1500 ∧ s.size ≤ 1500
  · obtain ⟨R, hR⟩ : ∃ R, dap b s = R := ⟨_, rfl⟩
    obtain ⟨T, k⟩ := R
    obtain ⟨P, hP⟩ : ∃ P, str T = P := ⟨_, rfl⟩
    have HF : Hid (∀ w, Calls Try.prog 25 #[.string b, .string s] w fun e w' => e = .returned (.bool true) ∧ w = w') := fun w => few_yes b s w h1.1 h1.2
    have HA : Hid (∀ W, Calls Try.prog 22 #[.string b, .string s] W fun e w' => e = .returned (.tuple #[.string P, .int .i64 k]) ∧ Below W.heap.size W w') := fun W => (dApply_any b s W (by omega) (by omega)).mono fun _ _ x => ⟨by rw [x.1, hR, hP], x.2⟩
    by_cases hk : k = 0
    · subst hk
      obtain ⟨rs, hrs, hok, hTl⟩ := copies_told (by omega) hR
      have hlen := dcp_len s
      rw [hrs] at hlen
      simp only at hlen
      obtain ⟨n, hn⟩ : ∃ n, n = rs.length := ⟨_, rfl⟩
      have HC : Hid (∀ w, Calls Try.prog 29 #[.string s] w fun e w' => (∃ p cap, e = .returned (.tuple #[.slice p n cap, .int .i64 (0 : Nat)]) ∧ RRow w' p rs) ∧ Below w.heap.size w w') := fun w => by
        have h := dCopies_any s w (by omega)
        rw [hrs] at h
        rw [hn]
        exact h
      have hnl : n ≤ 1048576 := by omega
      have HPS : Hid (P.size = T.length) := by show _ = _; rw [← hP, str_size]
      have HP : Hid (P.data.toList = T) := by show _ = _; rw [← hP, str_list]
      have HN := Lib.hid hn
      have HOK := Lib.hid hok
      have hb1048 : b.size ≤ 1048576 := by omega
      clear hR hP h1 hrs hok hn hlen
      go_enter Try.func12, Try.ntmps12
      go_wp2_with (first
        | (go_at_call 25; ((with_reducible refine (HF.out _).mono ?_); rintro e w1 ⟨rfl, rfl⟩))
        | (go_at_call 22; ((with_reducible refine (HA.out _).mono ?_); rintro e w1 ⟨rfl, hb1⟩))
        | (go_at_call 29; ((with_reducible refine (HC.out _).mono ?_); rintro e w2 ⟨⟨p, cap, rfl, hr2⟩, hb2⟩; have hb2' := hb1.trans (hb2.mono hb1.size))))
      go_loopw [9, 10] (fun x i wr => ∃ (k y : Nat), k ≤ n ∧ i = .int .i64 k ∧ x = .int .i64 y ∧ y ≤ 1048576 ∧ Hid (okR b T y (rs.drop k)) ∧ RRow wr p rs ∧ Below W.heap.size W wr) (fun _ i _ => n - (intOf i).toNat)
      case atStart => exact ⟨0, 0, by omega, rfl, rfl, by omega, HOK, hr2, hb2'⟩
      case round =>
        clear HOK hr2 hb1 hb2 hb2'
        obtain ⟨k, y, hkn, rfl, rfl, hy, HO, hrow, hbel⟩ := hrel
        by_cases hlt : k < n
        · have hlr : k < rs.length := by rw [← HN.out]; exact hlt
          have ho := HO.out
          rw [List.drop_eq_getElem_cons hlr] at ho
          obtain ⟨g, rfl, hg, c0, c1, c2⟩ := hrow k hlr
          obtain ⟨r, hr⟩ : ∃ r, r = rs[k]'hlr := ⟨_, rfl⟩
          rw [← hr] at ho c0 c1 c2
          obtain ⟨ra, rb, rn⟩ := r
          obtain ⟨o1, o2, o3, o4, o5, o6⟩ := ho
          simp only at o1 o2 o3 o4 o5 c0 c1 c2
          have HO6 : Hid (okR b T (rb + rn) (rs.drop (k + 1))) := o6
          have HE : Hid (b.extract ra (ra + rn) = P.extract rb (rb + rn)) := by
            show _ = _
            refine ba_ext ?_
            rw [ext_bytes, ext_bytes, Nat.add_sub_cancel_left, Nat.add_sub_cancel_left, HP.out]
            exact o5
          have HRW := Lib.hid hrow
          have HBL := Lib.hid hbel
          rw [← HPS.out] at o3
          clear hr hlr o5 o6 HO hrow
          go_wp2
          have hPle : P.size ≤ 1048576 := by have := HPS.out; omega
          have z0 : rn ≠ 0 := by omega
          have e1 : ¬ ((rn : Int) < 1) := by omega
          have e2 : ¬ (rb < y) := by omega
          have e3 : ¬ ((P.size : Int) - (rb : Int) < (rn : Int)) := by omega
          have e4 : ¬ (b.size < rn) := by omega
          have e5 : ¬ ((b.size : Int) - (rn : Int) < (ra : Int)) := by omega
          have t1 : ((ra : Int) + (rn : Int)).toNat = ra + rn := by omega
          have t2 : ((rb : Int) + (rn : Int)).toNat = rb + rn := by omega
          have t3 : (ra : Int) ≤ (ra : Int) + (rn : Int) := by omega
          have t4 : (rb : Int) ≤ (rb : Int) + (rn : Int) := by omega
          have t5 : (ra : Int) + (rn : Int) ≤ (b.size : Int) := by omega
          have t6 : (rb : Int) + (rn : Int) ≤ (P.size : Int) := by omega
          have i1 : IntKind.i64.wrap ((ra : Int) + (rn : Int)) = (ra : Int) + (rn : Int) := IntWalk.i64_in _ (by omega)
          have i2 : IntKind.i64.wrap ((rb : Int) + (rn : Int)) = (rb : Int) + (rn : Int) := IntWalk.i64_in _ (by omega)
          have i3 : IntKind.i64.wrap ((P.size : Int) - (rb : Int)) = (P.size : Int) - (rb : Int) := IntWalk.i64_in _ (by omega)
          have i4 : IntKind.i64.wrap ((b.size : Int) - (rn : Int)) = (b.size : Int) - (rn : Int) := IntWalk.i64_in _ (by omega)
          have he := HE.out
          go_quiet (fail)
          go_wp2
          exact ⟨⟨k + 1, rb + rn, by omega, by go_num, by go_num, by omega, HO6, HRW.out.below (below_drewN ((Below.refl _ _).alloc (Nat.le_refl _) _) nq), below_drewN (HBL.out.alloc HBL.out.size _) nq⟩, by simp [intOf]; omega⟩
        · go_wp2_with (go_at_call 21; ((with_reducible refine (dLives_inv hbel).mono ?_); rintro e w3 ⟨rfl, hb3⟩))
          go_ret
          exact ⟨rfl, hb3⟩
    · have hk1 : ((k : Int) != 0) = true := by simp; omega
      have hk0 : k ≠ 0 := hk
      have HC : Hid (∀ w, Calls Try.prog 29 #[.string s] w fun e w' => (∃ p cap x, e = .returned (.tuple #[.slice p (dcp s).1.length cap, .int .i64 x])) ∧ Below w.heap.size w w') := fun w => (dCopies_any s w (by omega)).mono fun e w' ⟨⟨p, cap, he, _⟩, hb⟩ => ⟨⟨p, cap, _, he⟩, hb⟩
      clear hR hP h1 hk
      go_enter Try.func12, Try.ntmps12
      go_wp2_with (first
        | (go_at_call 25; ((with_reducible refine (HF.out _).mono ?_); rintro e w1 ⟨rfl, rfl⟩))
        | (go_at_call 22; ((with_reducible refine (HA.out _).mono ?_); rintro e w1 ⟨rfl, hb1⟩))
        | (go_at_call 29; ((with_reducible refine (HC.out _).mono ?_); rintro e w2 ⟨⟨p, cap, x, rfl⟩, hb2⟩; have hb2' := hb1.trans (hb2.mono hb1.size)))
        | (go_at_call 21; ((with_reducible refine (dLives_inv hb2').mono ?_); rintro e w3 ⟨rfl, hb3⟩)))
      go_ret
      exact ⟨rfl, hb3⟩
  · have HF : Hid (∀ w, Calls Try.prog 25 #[.string b, .string s] w fun e w' => e = .returned (.bool false) ∧ w = w') := fun w => few_no b s w h1
    clear h1
    go_enter Try.func12, Try.ntmps12
    go_wp2_with (first
      | (go_at_call 25; ((with_reducible refine (HF.out _).mono ?_); rintro e w1 ⟨rfl, rfl⟩))
      | (go_at_call 21; ((with_reducible refine (dLives_inv hb0).mono ?_); rintro e w3 ⟨rfl, hb3⟩)))
    go_ret
    exact ⟨rfl, hb3⟩
end Go.Proofs.Ythfnnbeaggkhkaa
