/-
  The walk of the law TreeOrder.
-/
import Derived.Test.YtjholoajgnpodaaDoorTrLawB
namespace Go.Proofs.YtjholoajgnpodaaDoor
open Go.RowKit

/-- Two entries, each in a box. -/
structure TwoC (w : World) (A B : Nat) (a b : En) : Prop where
  a0 : w.cell? ⟨A, 0, none⟩ = some (.int .i64 a.m)
  a1 : w.cell? ⟨A, 1, none⟩ = some (.string a.n)
  a2 : w.cell? ⟨A, 2, none⟩ = some (.string a.i)
  b0 : w.cell? ⟨B, 0, none⟩ = some (.int .i64 b.m)
  b1 : w.cell? ⟨B, 1, none⟩ = some (.string b.n)
  b2 : w.cell? ⟨B, 2, none⟩ = some (.string b.i)
theorem TwoC.below {w w' : World} {A B : Nat} {a b : En} (h : TwoC w A B a b) (hb : Below w.heap.size w w') : TwoC w' A B a b :=
  ⟨cell_bel h.a0 hb, cell_bel h.a1 hb, cell_bel h.a2 hb, cell_bel h.b0 hb, cell_bel h.b1 hb, cell_bel h.b2 hb⟩

set_option maxHeartbeats 8000000 in
set_option maxRecDepth 10000 in
theorem treeOrder_walk {W : World} (a b : En) (hT : TrTab W) (ha : a.n.size ≤ 140737488355328 ∧ a.i.size ≤ 140737488355328) (hb : b.n.size ≤ 140737488355328 ∧ b.i.size ≤ 140737488355328) :
    Calls Tryd.prog 8 #[.agg #[.int .i64 a.m, .string a.n, .string a.i], .agg #[.int .i64 b.m, .string b.n, .string b.i]] W fun e W' => e = .returned (.bool true) ∧ Below W.heap.size W W' := by
  obtain ⟨w1, hw1, hbw, ⟨a0, a1, a2⟩, b0, b1, b2⟩ := two_ent W a b
  have HTC : Hid (TwoC w1 W.heap.size (W.heap.size + 1) a b) := ⟨a0, a1, a2, b0, b1, b2⟩
  obtain ⟨B, hB⟩ : ∃ B, B = W.heap.size + 1 := ⟨_, rfl⟩
  obtain ⟨A, hA⟩ : ∃ A, A = W.heap.size := ⟨_, rfl⟩
  rw [← hB] at b0 b1 b2 HTC
  rw [← hA] at a0 a1 a2 HTC
  have HW := Lib.hid hw1
  have HAB : Hid (A = W.heap.size ∧ B = W.heap.size + 1) := ⟨hA, hB⟩
  have HBW := Lib.hid hbw
  have HLV : Hid (∀ w, Below w1.heap.size w1 w → Calls Tryd.prog 10 #[] w fun e w' => e = .returned (.bool true) ∧ Below w1.heap.size w1 w') := fun w hb => tlives_inv (hT.below hbw) hb
  have h0 := Below.refl w1.heap.size w1
  obtain ⟨z, hz⟩ : ∃ z, z = a.n.size + b.n.size := ⟨_, rfl⟩
  have e1 : IntKind.i64.wrap ((a.n.size : Int) + (b.n.size : Int)) = (z : Int) := by rw [IntWalk.i64_in _ (by omega)]; omega
  have e1' : (a.n.size : Int) + (b.n.size : Int) = (z : Int) := by omega
  by_cases hbig : 500 < z
  · have e2 : decide ((500 : Int) < (z : Int)) = true := decide_eq_true (by omega)
    have e3 : (500 : Int) < (z : Int) := by omega
    clear hw1 hbw hB hA hT hz
    go_enter Tryd.func8, Tryd.ntmps8
    go_upto_region 1 with fail
    rw [← HW.out, ← HAB.out.2, ← HAB.out.1]
    go_wp2_with (go_at_call 10; ((with_reducible refine (HLV.out _ (by assumption)).mono ?_); rintro e w7 ⟨rfl, hb7⟩))
    go_ret
    exact ⟨rfl, HBW.out.trans (hb7.mono HBW.out.size)⟩
  · have e2 : decide ((500 : Int) < (z : Int)) = false := decide_eq_false (by omega)
    have e3 : ¬ (500 : Int) < (z : Int) := by omega
    obtain ⟨p, hp⟩ : ∃ p, p = okEn a := ⟨_, rfl⟩
    obtain ⟨q, hq⟩ : ∃ q, q = okEn b := ⟨_, rfl⟩
    have HM1 : Hid (∀ w, Below w1.heap.size w1 w → Calls Tryd.prog 26 #[.agg #[.int .i64 a.m, .string a.n, .string a.i]] w fun e w' => e = .returned (.bool p) ∧ Below w1.heap.size w1 w') := fun w hb' => by
      rw [hp]
      exact (may_any a w (by omega) ha.2).mono fun e w' ⟨he, hb2⟩ => ⟨he, hb'.trans (hb2.mono hb'.size)⟩
    have HM2 : Hid (∀ w, Below w1.heap.size w1 w → Calls Tryd.prog 26 #[.agg #[.int .i64 b.m, .string b.n, .string b.i]] w fun e w' => e = .returned (.bool q) ∧ Below w1.heap.size w1 w') := fun w hb' => by
      rw [hq]
      exact (may_any b w (by omega) hb.2).mono fun e w' ⟨he, hb2⟩ => ⟨he, hb'.trans (hb2.mono hb'.size)⟩
    rcases p with _ | _
    · clear hw1 hbw hB hA hT hz hp hq
      go_enter Tryd.func8, Tryd.ntmps8
      go_upto_region 1 with fail
      rw [← HW.out, ← HAB.out.2, ← HAB.out.1]
      go_wp2_with (first
        | (go_at_call 26; ((with_reducible refine (HM1.out _ (by assumption)).mono ?_); rintro e w2 ⟨rfl, hb2⟩))
        | (go_at_call 10; ((with_reducible refine (HLV.out _ (by assumption)).mono ?_); rintro e w7 ⟨rfl, hb7⟩)))
      go_ret
      exact ⟨rfl, HBW.out.trans (hb7.mono HBW.out.size)⟩
    · rcases q with _ | _
      · clear hw1 hbw hB hA hT hz hp hq
        go_enter Tryd.func8, Tryd.ntmps8
        go_upto_region 1 with fail
        rw [← HW.out, ← HAB.out.2, ← HAB.out.1]
        go_wp2_with (first
          | (go_at_call 26; first
            | ((with_reducible refine (HM1.out _ (by assumption)).mono ?_); rintro e w2 ⟨rfl, hb2⟩; obtain ⟨c0, c1, c2, d0, d1, d2⟩ := HTC.out.below hb2)
            | ((with_reducible refine (HM2.out _ (by assumption)).mono ?_); rintro e w3 ⟨rfl, hb3⟩))
          | (go_at_call 10; ((with_reducible refine (HLV.out _ (by assumption)).mono ?_); rintro e w7 ⟨rfl, hb7⟩)))
        go_ret
        exact ⟨rfl, HBW.out.trans (hb7.mono HBW.out.size)⟩
      · obtain ⟨x, hx⟩ : ∃ x, x = lessE a b := ⟨_, rfl⟩
        obtain ⟨y, hy⟩ : ∃ y, y = lessE b a := ⟨_, rfl⟩
        have HL1 : Hid (∀ w, Below w1.heap.size w1 w → Calls Tryd.prog 20 #[.agg #[.int .i64 a.m, .string a.n, .string a.i], .agg #[.int .i64 b.m, .string b.n, .string b.i]] w fun e w' => e = .returned (.bool x) ∧ Below w1.heap.size w1 w') := fun w hb' => by
          rw [hx]
          exact (tless_any a b w ha.1 hb.1).mono fun e w' ⟨he, hb2⟩ => ⟨he, hb'.trans (hb2.mono hb'.size)⟩
        have HL2 : Hid (∀ w, Below w1.heap.size w1 w → Calls Tryd.prog 20 #[.agg #[.int .i64 b.m, .string b.n, .string b.i], .agg #[.int .i64 a.m, .string a.n, .string a.i]] w fun e w' => e = .returned (.bool y) ∧ Below w1.heap.size w1 w') := fun w hb' => by
          rw [hy]
          exact (tless_any b a w hb.1 ha.1).mono fun e w' ⟨he, hb2⟩ => ⟨he, hb'.trans (hb2.mono hb'.size)⟩
        by_cases hn : a.n = b.n
        · have hos := ord_same hn
          obtain ⟨u, hu⟩ : ∃ u, (a.m == 4) = u := ⟨_, rfl⟩
          obtain ⟨v, hv⟩ : ∃ v, (b.m == 4) = v := ⟨_, rfl⟩
          rw [← hx, ← hy, hu, hv] at hos
          have hnn : (a.n.toList == b.n.toList) = true := by rw [hn]; simp
          clear hw1 hbw hB hA hT hz hp hq hx hy hn
          rcases x with _ | _ <;> rcases y with _ | _ <;> rcases u with _ | _ <;> rcases v with _ | _
          all_goals try (exact absurd hos (by decide))
          all_goals clear hos
          all_goals go_enter Tryd.func8, Tryd.ntmps8
          all_goals go_upto_region 1 with fail
          all_goals rw [← HW.out, ← HAB.out.2, ← HAB.out.1]
          all_goals go_wp2_with (first
            | (go_at_call 26; first
              | ((with_reducible refine (HM1.out _ (by assumption)).mono ?_); rintro e w2 ⟨rfl, hb2⟩; obtain ⟨c0, c1, c2, d0, d1, d2⟩ := HTC.out.below hb2)
              | ((with_reducible refine (HM2.out _ (by assumption)).mono ?_); rintro e w3 ⟨rfl, hb3⟩; obtain ⟨f0, f1, f2, g0, g1, g2⟩ := HTC.out.below hb3))
            | (go_at_call 20; first
              | ((with_reducible refine (HL1.out _ (by assumption)).mono ?_); rintro e w4 ⟨rfl, hb4⟩; obtain ⟨i0, i1, i2, j0, j1, j2⟩ := HTC.out.below hb4)
              | ((with_reducible refine (HL2.out _ (by assumption)).mono ?_); rintro e w5 ⟨rfl, hb5⟩; obtain ⟨k0, k1, k2, l0, l1, l2⟩ := HTC.out.below hb5))
            | (go_at_call 10; ((with_reducible refine (HLV.out _ (by assumption)).mono ?_); rintro e w7 ⟨rfl, hb7⟩)))
          all_goals go_ret
          all_goals exact ⟨rfl, HBW.out.trans (hb7.mono HBW.out.size)⟩
        · have hxy := lessE_xor (key_ne (okEn_flat hp.symm) (okEn_flat hq.symm) hn)
          rw [← hx, ← hy] at hxy
          have hnn : (a.n.toList == b.n.toList) = false := ba_ne hn
          have hnn2 : ¬ a.n.toList = b.n.toList := by simpa using hnn
          clear hw1 hbw hB hA hT hz hp hq hx hy hn
          subst hxy
          rcases y with _ | _
          all_goals go_enter Tryd.func8, Tryd.ntmps8
          all_goals go_upto_region 1 with fail
          all_goals rw [← HW.out, ← HAB.out.2, ← HAB.out.1]
          all_goals go_wp2_with (first
            | (go_at_call 26; first
              | ((with_reducible refine (HM1.out _ (by assumption)).mono ?_); rintro e w2 ⟨rfl, hb2⟩; obtain ⟨c0, c1, c2, d0, d1, d2⟩ := HTC.out.below hb2)
              | ((with_reducible refine (HM2.out _ (by assumption)).mono ?_); rintro e w3 ⟨rfl, hb3⟩; obtain ⟨f0, f1, f2, g0, g1, g2⟩ := HTC.out.below hb3))
            | (go_at_call 20; first
              | ((with_reducible refine (HL1.out _ (by assumption)).mono ?_); rintro e w4 ⟨rfl, hb4⟩; obtain ⟨i0, i1, i2, j0, j1, j2⟩ := HTC.out.below hb4)
              | ((with_reducible refine (HL2.out _ (by assumption)).mono ?_); rintro e w5 ⟨rfl, hb5⟩; obtain ⟨k0, k1, k2, l0, l1, l2⟩ := HTC.out.below hb5))
            | (go_at_call 10; ((with_reducible refine (HLV.out _ (by assumption)).mono ?_); rintro e w7 ⟨rfl, hb7⟩)))
          all_goals go_ret
          all_goals exact ⟨rfl, HBW.out.trans (hb7.mono HBW.out.size)⟩
end Go.Proofs.YtjholoajgnpodaaDoor
