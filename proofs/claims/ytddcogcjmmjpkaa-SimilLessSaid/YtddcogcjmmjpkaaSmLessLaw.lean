/-
  The walk of the law SimilLess.
-/
import Derived.Test.YtddcogcjmmjpkaaSmTellsLaw
namespace Go.Proofs.Ytddcogcjmmjpkaa
open Go.RowKit Go.Maps Go.WideMaps

/-- A world in which what was there is as it was. -/
structure BelW (w0 : World) where
  w : World
  h : Below w0.heap.size w0 w
theorem wp_region_bel {P : Program} {id : Nat} {Q : Exit → Act → World → Prop} {a : Act} {w w0 : World} {l : List Oper} (hi : Below w0.heap.size w0 w) (hm : P.follows .mixedOrders = true) (hB : Region.lexB .any l.toArray = true)
    (h : wpQuiet P l.toArray (fun w' => ∃ x : BelW w0, w' = x.w) (fun a' => ∀ w', (∃ x : BelW w0, w' = x.w) → Q .normal a' w') l a) : (Code.region id l.toArray true).wp P Q a w :=
  wp_region_quiet (C := fun w' => ∃ x : BelW w0, w' = x.w) hm hB ⟨⟨w.drew, hi.drew⟩, rfl⟩ (by simpa using h)
theorem Calls.bel_class {P : Program} {f : FuncId} {args : Array Value} {w0 : World} {x : BelW w0} {v : Value} (h : Calls P f args x.w fun e w' => e = .returned v ∧ Below w0.heap.size w0 w') :
    Calls P f args x.w fun e w'' => e = .returned v ∧ ∃ y : BelW w0, w'' = y.w :=
  h.mono fun _ w' ⟨he, hw⟩ => ⟨he, ⟨w', hw⟩, rfl⟩
theorem SRw.dropTo {w : World} {p : Option Addr} {ls : List (List UInt8)} {c n : Nat} (h : SRw w p ls) (i : Nat) (hn : n = ls.length) (hc : n ≤ c) (hi : i ≤ n) : SRw w (if c = i then p else p.map (·.add i)) (ls.drop i) := fun k hk => by
  rw [List.length_drop] at hk
  have h2 : i + k < ls.length := by omega
  obtain ⟨g, o, rfl, hg, hx⟩ := h (i + k) h2
  rw [if_neg (by omega)]
  refine ⟨g, o + i, by rw [Option.map_some, Addr.add_lit], hg, ?_⟩
  rw [Nat.add_assoc, hx, List.getElem_drop]
theorem join_take_drop (ls : List (List UInt8)) (i : Nat) : (join (ls.take i)).length ≤ (join ls).length ∧ (join (ls.drop i)).length ≤ (join ls).length := by
  have e := congrArg (fun l => (join l).length) (List.take_append_drop i ls)
  simp only [join, List.flatten_append, List.length_append] at e ⊢
  omega

set_option maxHeartbeats 4000000 in
set_option maxRecDepth 8000 in
theorem smLess_walk (a b : ByteArray) (i : Int) (W : World) (hw : (Lit.int .i64 i).wf = true) : Calls Try.prog 8 #[.string a, .string b, .int .i64 i] W fun e W' => e = .returned (.bool true) ∧ Below W.heap.size W W' := by
  have hb0 := Below.refl W.heap.size W
  rcases hfa : fewB a with _ | _
  · have HFA := Lib.hid hfa.symm
    clear hfa
    go_enter Try.func8, Try.ntmps8
    go_wp2_with (first
      | (go_at_call 21; ((with_reducible refine (few_inv (by assumption) a false HFA.out).mono ?_); rintro e w' ⟨rfl, hi⟩))
      | (go_at_call 22; ((with_reducible refine (lives_inv (by assumption)).mono ?_); rintro e w' ⟨rfl, hi⟩)))
    go_ret
    exact ⟨rfl, by assumption⟩
  rcases hfb : fewB b with _ | _
  · have HFA := Lib.hid hfa.symm
    have HFB := Lib.hid hfb.symm
    clear hfa hfb
    go_enter Try.func8, Try.ntmps8
    go_wp2_with (first
      | (go_at_call 21; first
        | ((with_reducible refine (few_inv (by assumption) a true HFA.out).mono ?_); rintro e w' ⟨rfl, hi⟩)
        | ((with_reducible refine (few_inv (by assumption) b false HFB.out).mono ?_); rintro e w' ⟨rfl, hi⟩))
      | (go_at_call 22; ((with_reducible refine (lives_inv (by assumption)).mono ?_); rintro e w' ⟨rfl, hi⟩)))
    go_ret
    exact ⟨rfl, by assumption⟩
  have hsa := few_size hfa
  have hsb := few_size hfb
  have HFA := Lib.hid hfa.symm
  have HFB := Lib.hid hfb.symm
  clear hfa hfb
  obtain ⟨m, hm⟩ : ∃ m, m = shS a b := ⟨_, rfl⟩
  obtain ⟨x, hx⟩ : ∃ x, x = split a.data.toList := ⟨_, rfl⟩
  obtain ⟨n, hn⟩ : ∃ n, n = x.length := ⟨_, rfl⟩
  have HM := Lib.hid hm
  have hma : m ≤ a.size := by rw [hm]; exact shS_le a b
  have hmb : m ≤ b.size := by rw [hm]; exact shS_le2 a b
  have hn1 : n ≤ a.size := by rw [hn, hx]; exact split_lines a
  have HSP : Hid (∀ w, Below W.heap.size W w → Calls Try.prog 32 #[.string a] w fun e w' => (∃ p cap, e = .returned (.slice p n cap) ∧ SRw w' p x ∧ n ≤ cap) ∧ Below W.heap.size W w') := fun w h => by
    have h := split_inv h a (by omega) n (by rw [hn, hx])
    rw [← hx] at h
    exact h
  have HJA : Hid ((join x).length ≤ 3000) := by show _ ≤ _; rw [hx, ← size_join]; exact hsa
  have HSX : Hid (x = split a.data.toList) := hx
  have HN := Lib.hid hn
  clear hm hx hn
  obtain ⟨d1, d2⟩ : (if b.size < a.size then decide (b.size < m) = false else decide (a.size < m) = false) ∧ (if b.size < a.size then decide (m ≤ b.size) = true else decide (m ≤ a.size) = true) := by
    split <;> simp <;> omega
  by_cases hin : 0 ≤ i ∧ i < n
  · obtain ⟨k, rfl⟩ : ∃ k : Nat, i = k := ⟨i.toNat, by omega⟩
    have hkn : k < n := by omega
    have hkx : k < x.length := by rw [← HN.out]; exact hkn
    have e1 : decide ((k : Int) < 0) = false := decide_eq_false (by omega)
    have e2 : decide (n ≤ k) = false := decide_eq_false (by omega)
    obtain ⟨z, hz⟩ : ∃ z, z = k + 1 := ⟨_, rfl⟩
    have hz1 : (k : Int) + 1 = (z : Int) := by omega
    have hz2 : IntKind.i64.wrap (z : Int) = (z : Int) := IntWalk.i64_in _ (by omega)
    have hzn : z ≤ n := by omega
    obtain ⟨j1, hj1⟩ : ∃ j, j = str (join (x.take k)) := ⟨_, rfl⟩
    obtain ⟨j2, hj2⟩ : ∃ j, j = str (join (x.drop z)) := ⟨_, rfl⟩
    have hs1 : j1.size ≤ 3000 := by rw [hj1, str_size]; have := (join_take_drop x k).1; have := HJA.out; omega
    have hs2 : j2.size ≤ 3000 := by rw [hj2, str_size]; have := (join_take_drop x z).2; have := HJA.out; omega
    have hss : split (j1 ++ j2).data.toList = x.take k ++ x.drop z := by
      have h := split_erase a.data.toList k (by rw [← HSX.out]; exact hkx)
      rw [← HSX.out] at h
      rw [app_list, hj1, hj2, str_list, str_list, hz]
      exact h
    obtain ⟨q, hq⟩ : ∃ q, q = shS (j1 ++ j2) b := ⟨_, rfl⟩
    have her := shr_erase x (split b.data.toList) k hkx
    have hqq : q = shr (x.take k ++ x.drop z) (split b.data.toList) := by rw [hq, shS, hss]
    have hmm : m = shr x (split b.data.toList) := by rw [HM.out, shS, ← HSX.out]
    rw [hz] at hqq
    rw [← hqq, ← hmm] at her
    obtain ⟨t, ht⟩ : ∃ t, t = str x[k] := ⟨_, rfl⟩
    have hts : t.size = x[k].length := by rw [ht, str_size]
    rw [← hts] at her
    obtain ⟨r, hr⟩ : ∃ r, r = m - q := ⟨_, rfl⟩
    have d3 : decide (q ≤ m) = true := decide_eq_true her.1
    have hr1 : (m : Int) - (q : Int) = (r : Int) := by have := her.1; omega
    have hr2 : IntKind.i64.wrap (r : Int) = (r : Int) := IntWalk.i64_in _ (by omega)
    have d4 : decide (r ≤ t.size) = true := decide_eq_true (by have := her.2; omega)
    have d5 : r ≤ t.size := by have := her.2; omega
    have hq1 : q ≤ 3000 := by have := her.1; omega
    have HQ := Lib.hid hq
    have HJ1 := Lib.hid hj1
    have HJ2 := Lib.hid hj2
    have HCE : Hid (∀ (w : World) p, SRw w p x → ∃ g o, p = some ⟨g, o, none⟩ ∧ g < w.heap.size ∧ w.cell? ⟨g, o + k, none⟩ = some (.string t)) := fun w p h => by
      obtain ⟨g, o, e, hg, hc⟩ := h k hkx
      exact ⟨g, o, e, hg, by rw [ht]; exact hc⟩
    have HT1 : Hid ((join (x.take k)).length ≤ 1048576) := by show _ ≤ _; have := (join_take_drop x k).1; have := HJA.out; omega
    have HT2 : Hid ((join (x.drop z)).length ≤ 1048576) := by show _ ≤ _; have := (join_take_drop x z).2; have := HJA.out; omega
    have HL1 : Hid (k = (x.take k).length) := by show _ = _; rw [List.length_take]; omega
    have HL2 : Hid (n - z = (x.drop z).length) := by show _ = _; rw [List.length_drop, ← HN.out]
    clear hin hw hz hj1 hj2 hss hq her hqq hmm ht hts hr hkx
    go_enter Try.func8, Try.ntmps8
    have HAB : Hid (b.size < a.size ∨ ¬ b.size < a.size) := Classical.em _
    rcases HAB.out with hab | hab
    all_goals (first | rw [if_pos hab] at d1 d2 | rw [if_neg hab] at d1 d2)
    all_goals go_upto_region 7 with (first
      | (go_at_call 21; first | ((with_reducible refine (few_inv (by assumption) a true HFA.out).mono ?_); rintro e w' ⟨rfl, hi⟩) | ((with_reducible refine (few_inv (by assumption) b true HFB.out).mono ?_); rintro e w' ⟨rfl, hi⟩)) | (go_at_call 22; ((with_reducible refine (lives_inv (by assumption)).mono ?_); rintro e w' ⟨rfl, hi⟩))
      | (go_at_call 23; ((with_reducible refine (common_inv (by assumption) a b m (by omega) (by omega) HM.out).mono ?_); rintro e w' ⟨rfl, hi⟩))
      | (go_at_call 32; ((with_reducible refine (HSP.out _ (by assumption)).mono ?_); rintro e w1 ⟨⟨p1, c1, rfl, hp1, hc1⟩, hi1⟩)))
    all_goals have hkc : k ≤ c1 := by omega
    all_goals have hzc : z ≤ c1 := by omega
    all_goals have HJC1 : Hid (∀ y : BelW w1, Calls Try.prog 33 #[.slice p1 k c1] y.w fun e w'' => e = .returned (.string j1) ∧ ∃ v : BelW w1, w'' = v.w) := fun y => Calls.bel_class ((rJoin_any (x.take k) p1 c1 k j1 y.w HL1.out ((hp1.below y.h).take k) HJ1.out HT1.out (by omega)).mono fun _ _ v => ⟨v.1, y.h.trans (v.2.mono y.h.size)⟩)
    all_goals have HJC2 : Hid (∀ (y : BelW w1) (c : Nat), Calls Try.prog 33 #[.slice (if c1 = z then p1 else p1.map (·.add z)) (n - z) c] y.w fun e w'' => e = .returned (.string j2) ∧ ∃ v : BelW w1, w'' = v.w) := fun y c => Calls.bel_class ((rJoin_any (x.drop z) _ c (n - z) j2 y.w HL2.out ((hp1.below y.h).dropTo z HN.out hc1 hzn) HJ2.out HT2.out (by omega)).mono fun _ _ v => ⟨v.1, y.h.trans (v.2.mono y.h.size)⟩)
    all_goals have hq : Nonempty (BelW w1) := ⟨⟨w1, Below.refl _ _⟩⟩
    all_goals refine wp_region_bel (w0 := w1) (Below.refl _ _) (by kernel_rfl) (by kernel_rfl) ?_
    all_goals repeat (go_big_quiet_step ((go_at_call 33; first | (with_reducible exact HJC1.out _) | (with_reducible exact HJC2.out _ _))))
    all_goals refine wpQuiet_nil ?_
    all_goals rintro _ ⟨y, rfl⟩
    all_goals have hy := y.h
    all_goals have hiy := hi1.trans (hy.mono hi1.size)
    all_goals clear HJC1 HJC2
    all_goals obtain ⟨g, o, rfl, hg, a0⟩ := HCE.out _ _ (hp1.below hy)
    all_goals go_wp2_with (first
      | (go_at_call 23; ((with_reducible refine (common_any (j1 ++ j2) b q _ (by rw [ByteArray.size_append]; omega) (by omega) HQ.out).mono ?_); rintro e w3 ⟨rfl, hb3⟩; have hi3 := hiy.trans (hb3.mono hiy.size); have b0 := (hb3.cell (p := ⟨g, o + k, none⟩) hg).trans a0; clear hb3))
      | (go_at_call 22; ((with_reducible refine (lives_inv (by assumption)).mono ?_); rintro e w' ⟨rfl, hi⟩)))
    all_goals go_ret
    all_goals exact ⟨rfl, by assumption⟩
  · obtain ⟨e1, e2⟩ : (decide (i < 0) = true ∨ decide (i < 0) = false) ∧ (decide (i < 0) = false → decide ((n : Int) ≤ i) = true) := by
      constructor
      · cases decide (i < 0) <;> simp
      · intro h
        have := of_decide_eq_false h
        exact decide_eq_true (by omega)
    have HE2 := Lib.hid e2
    clear hin e2
    go_enter Try.func8, Try.ntmps8
    have HAB : Hid (b.size < a.size ∨ ¬ b.size < a.size) := Classical.em _
    rcases HAB.out with hab | hab <;> rcases e1 with e1 | e1
    all_goals (try have e2 := HE2.out e1)
    all_goals (first | rw [if_pos hab] at d1 d2 | rw [if_neg hab] at d1 d2)
    all_goals go_wp2_with (first
      | (go_at_call 21; first | ((with_reducible refine (few_inv (by assumption) a true HFA.out).mono ?_); rintro e w' ⟨rfl, hi⟩) | ((with_reducible refine (few_inv (by assumption) b true HFB.out).mono ?_); rintro e w' ⟨rfl, hi⟩)) | (go_at_call 22; ((with_reducible refine (lives_inv (by assumption)).mono ?_); rintro e w' ⟨rfl, hi⟩))
      | (go_at_call 23; ((with_reducible refine (common_inv (by assumption) a b m (by omega) (by omega) HM.out).mono ?_); rintro e w' ⟨rfl, hi⟩))
      | (go_at_call 32; ((with_reducible refine (HSP.out _ (by assumption)).mono ?_); rintro e w1 ⟨⟨p1, c1, rfl, hp1, hc1⟩, hi1⟩)))
    all_goals go_ret
    all_goals exact ⟨rfl, by assumption⟩
end Go.Proofs.Ytddcogcjmmjpkaa
