/-
  How many lines a merge has: plain mathematics.
-/
import Derived.Test.YtidghjalfbklnaaThTurnP
import Derived.Test.YtidghjalfbklnaaThRPar
import Derived.Test.YtidghjalfbklnaaThLvPPk
namespace Go.Proofs.Ytidghjalfbklnaa
open Go.RowKit

/-- All lines of all regions. -/
def totR (r : Rg) : Nat := r.l.length + r.o.length + r.b.length + r.t.length
def tot (gs : List Rg) : Nat := (gs.map totR).sum
theorem tot_app (a b : List Rg) : tot (a ++ b) = tot a + tot b := by simp [tot]
theorem tot_mem {gs : List Rg} {r : Rg} (h : r ∈ gs) : totR r ≤ tot gs := by
  obtain ⟨a, b, rfl⟩ := List.append_of_mem h
  rw [tot_app]
  simp [tot]
  omega
theorem tot_cl (gs : List Rg) (ls : List (List UInt8)) : tot (clG gs ls) ≤ tot gs + ls.length := by
  unfold clG
  split
  · omega
  · cases hg : gs.getLast? with
    | none => simp [tot, totR]
    | some r =>
      obtain ⟨pre, hpre⟩ : ∃ pre, gs = pre ++ [r] := List.getLast?_eq_some_iff.mp hg
      rw [hpre]
      simp only [List.dropLast_concat]
      split
      · rw [tot_app, tot_app]
        simp [tot, totR]
        omega
      · rw [tot_app _ [_]]
        simp [tot, totR]
theorem tot_conf (gs : List Rg) (b o t : List (List UInt8)) : tot (confL gs b o t) ≤ tot gs + 3 * o.length + b.length + t.length := by
  unfold confL
  have h1 := tot_cl (clG gs (o.take (headN o t)) ++ [⟨2, [], midL o (headN o t) (tailN o t), b, midL t (headN o t) (tailN o t)⟩]) (o.drop (o.length - tailN o t))
  have h2 := tot_cl gs (o.take (headN o t))
  rw [tot_app] at h1
  have h3 : tot [⟨2, [], midL o (headN o t) (tailN o t), b, midL t (headN o t) (tailN o t)⟩] ≤ o.length + b.length + t.length := by
    simp [tot, totR, midL]
    omega
  rw [List.length_take] at h2
  rw [List.length_drop] at h1
  omega
theorem tot_res (gs : List Rg) (b o t : List (List UInt8)) : tot (resL gs b o t) ≤ tot gs + 3 * o.length + b.length + t.length := by
  unfold resL
  split
  · have := tot_cl gs t; omega
  split
  · have := tot_cl gs o; omega
  · exact tot_conf gs b o t
theorem mrg_tot (X Y Z : List (List UInt8)) (p q : List Int) (M : Nat) (hM : 3 * Y.length + X.length + Z.length + 1 ≤ M) : ∀ (n k : Nat) (gs : List Rg) (b o t : Nat), tot (mrg X Y Z p q n k gs b o t) ≤ tot gs + (n + 1) * M ∧ (mrg X Y Z p q n k gs b o t).length ≤ gs.length + 4 * n + 3
  | 0, k, gs, b, o, t => by
    have h1 := tot_res gs (X.drop b) (Y.drop o) (Z.drop t)
    have h2 := (lastN_res gs (X.drop b) (Y.drop o) (Z.drop t)).2
    simp only [List.length_drop] at h1
    rw [mrg]
    exact ⟨by rw [Nat.zero_add, Nat.one_mul]; omega, by omega⟩
  | n + 1, k, gs, b, o, t => by
    rw [mrg]
    have e : (n + 1 + 1) * M = (n + 1) * M + M := by rw [Nat.add_mul, Nat.one_mul]
    split
    · obtain ⟨h1, h2⟩ := mrg_tot X Y Z p q M hM n (k + 1) gs b o t
      exact ⟨by omega, by omega⟩
    · obtain ⟨A, hA⟩ : ∃ A, A = (X.drop b).take (k - b) := ⟨_, rfl⟩
      obtain ⟨B, hB⟩ : ∃ B, B = (Y.drop o).take ((p[k]?.getD (-1)).toNat - o) := ⟨_, rfl⟩
      obtain ⟨C, hC⟩ : ∃ C, C = (Z.drop t).take ((q[k]?.getD (-1)).toNat - t) := ⟨_, rfl⟩
      obtain ⟨D, hD⟩ : ∃ D, D = (X.drop k).take 1 := ⟨_, rfl⟩
      have lA : A.length ≤ X.length := by rw [hA, List.length_take, List.length_drop]; omega
      have lB : B.length ≤ Y.length := by rw [hB, List.length_take, List.length_drop]; omega
      have lC : C.length ≤ Z.length := by rw [hC, List.length_take, List.length_drop]; omega
      have lD : D.length ≤ 1 := by rw [hD, List.length_take]; omega
      rw [← hA, ← hB, ← hC, ← hD]
      obtain ⟨h1, h2⟩ := mrg_tot X Y Z p q M hM n (k + 1) (clG (resL gs A B C) D) (k + 1) ((p[k]?.getD (-1)).toNat + 1) ((q[k]?.getD (-1)).toNat + 1)
      have h3 := tot_res gs A B C
      have h4 := (lastN_res gs A B C).2
      have h5 := tot_cl (resL gs A B C) D
      have h6 := (lastN_cl (resL gs A B C) D).2
      exact ⟨by omega, by omega⟩
theorem mergeL_tot {X Y Z : List (List UInt8)} (hx : X.length ≤ 60) (hy : Y.length ≤ 60) (hz : Z.length ≤ 60) : (∀ r ∈ mergeL X Y Z, r.l.length ≤ 1000000 ∧ r.o.length ≤ 1000000 ∧ r.b.length ≤ 1000000 ∧ r.t.length ≤ 1000000) ∧ (mergeL X Y Z).length ≤ 1000 := by
  obtain ⟨h1, h2⟩ := mrg_tot X Y Z (kpL X Y) (kpL X Z) 301 (by omega) X.length 0 [] 0 0 0
  have h3 : (X.length + 1) * 301 ≤ 61 * 301 := Nat.mul_le_mul_right _ (by omega)
  have h4 : tot ([] : List Rg) = 0 := rfl
  have h5 : ([] : List Rg).length = 0 := rfl
  refine ⟨fun r hr => ?_, by unfold mergeL; omega⟩
  have := tot_mem hr
  unfold mergeL at this
  unfold totR at this
  omega

end Go.Proofs.Ytidghjalfbklnaa
/-
  The walk of the law ThreeReads.
-/
namespace Go.Proofs.Ytidghjalfbklnaa
open Go.RowKit

/-- What is read has no more lines than there were. -/
theorem goP_tot : ∀ (l : List (List UInt8)) (st st' : Ps), goP l st = some st' → tot st'.gs + st'.o.length + st'.b.length + st'.t.length ≤ tot st.gs + st.o.length + st.b.length + st.t.length + l.length
  | [], st, st', h => by
    simp only [goP, Option.some.injEq] at h
    rw [← h]
    simp
  | x :: l, st, st', h => by
    rw [goP] at h
    rw [List.length_cons]
    split at h
    · have ih := goP_tot l _ st' h
      have h1 : tot (txS st x).gs + (txS st x).o.length + (txS st x).b.length + (txS st x).t.length ≤ tot st.gs + st.o.length + st.b.length + st.t.length + 1 := by
        unfold txS
        split
        · simp; omega
        split
        · simp; omega
        split
        · simp; omega
        · have := tot_cl st.gs [x]
          simp at this ⊢
          omega
      omega
    split at h
    · have ih := goP_tot l _ st' h
      have h1 : tot (mkS st (mkL x)).gs + (mkS st (mkL x)).o.length + (mkS st (mkL x)).b.length + (mkS st (mkL x)).t.length ≤ tot st.gs + st.o.length + st.b.length + st.t.length := by
        unfold mkS
        split
        · simp only [tot_app]
          simp [tot, totR]
          omega
        · simp only
          omega
      omega
    · cases h
theorem goP_len : ∀ (l : List (List UInt8)) (st st' : Ps), goP l st = some st' → st'.gs.length ≤ st.gs.length + l.length
  | [], st, st', h => by
    simp only [goP, Option.some.injEq] at h
    rw [← h]
    simp
  | x :: l, st, st', h => by
    rw [goP] at h
    rw [List.length_cons]
    split at h
    · have ih := goP_len l _ st' h
      have h1 : (txS st x).gs.length ≤ st.gs.length + 1 := by
        unfold txS
        split
        · simp only; omega
        split
        · simp only; omega
        split
        · simp only; omega
        · exact (lastN_cl st.gs [x]).2
      omega
    split at h
    · have ih := goP_len l _ st' h
      have h1 : (mkS st (mkL x)).gs.length ≤ st.gs.length + 1 := by
        unfold mkS
        split
        · simp
        · simp
      omega
    · cases h
theorem par_bound {l : List (List UInt8)} {gs : List Rg} (h : parL l = some gs) (hl : l.length ≤ 1000000) : ∀ r ∈ gs, r.l.length ≤ 1000000 ∧ r.o.length ≤ 1000000 ∧ r.b.length ≤ 1000000 ∧ r.t.length ≤ 1000000 := fun r hr => by
  unfold parL at h
  cases hg : goP l ⟨[], [], [], [], 0⟩ with
  | none => rw [hg] at h; cases h
  | some st =>
    rw [hg, fin0] at h
    split at h
    · simp only [Option.some.injEq] at h
      have h1 := goP_tot l _ st hg
      rw [h] at h1
      have h2 := tot_mem hr
      have e1 : tot [] = 0 := rfl
      simp only [e1, List.length_nil] at h1
      unfold totR at h2
      exact ⟨by omega, by omega, by omega, by omega⟩
    · cases h

section
variable {W : World}
set_option maxHeartbeats 4000000 in
set_option maxRecDepth 10000 in
theorem thReads_walk (s : ByteArray) : Calls Try.prog 6 #[.string s] W fun e W' => e = .returned (.bool true) ∧ Below W.heap.size W W' := by
  have HLV : Hid (∀ w, Calls Try.prog 17 #[] w fun e w' => e = .returned (.bool true) ∧ Below w.heap.size w w') := fun w => lives_inv (Below.refl _ _)
  by_cases hbig : 3000 < s.size
  · have x1 : decide ((3000 : Int) < (s.size : Int)) = true := decide_eq_true (by omega)
    have x2 : (3000 : Int) < (s.size : Int) := by omega
    go_enter Try.func6, Try.ntmps6
    go_wp2_with (go_at_call 17; ((with_reducible refine (HLV.out _).mono ?_); rintro e w3 ⟨rfl, hb3⟩))
    go_ret
    exact ⟨rfl, hb3⟩
  · have x1 : decide ((3000 : Int) < (s.size : Int)) = false := decide_eq_false (by omega)
    have x2 : ¬ (3000 : Int) < (s.size : Int) := by omega
    obtain ⟨V, hV⟩ : ∃ V, V = parL (split s.data.toList) := ⟨_, rfl⟩
    obtain ⟨B, hB⟩ : ∃ B, B = mkdL (split s.data.toList) := ⟨_, rfl⟩
    have HD1 := Lib.hid (fun w => marked_any s B w (by omega) hB)
    have HD2 := Lib.hid (fun w => rmarked_any s B w (by omega) hB)
    have hBB : (B == B) = true := by simp
    cases hV2 : V with
    | none =>
      have HP1 : Hid (∀ w, Calls Try.prog 23 #[.string s] w fun e w' => e = .returned (.tuple #[.slice none 0 0, .int .i64 2]) ∧ Below w.heap.size w w') := fun w =>
        (parse_any s w (by omega)).mono fun e w' ⟨h1, h2⟩ => by
          rw [← hV, hV2] at h2
          exact ⟨h2, h1⟩
      have HP2 : Hid (∀ w, Calls Try.prog 24 #[.string s] w fun e w' => e = .returned (.tuple #[.slice none 0 0, .int .i64 2]) ∧ Below w.heap.size w w') := fun w =>
        (rparse_any s w (by omega)).mono fun e w' ⟨h1, h2⟩ => by
          rw [← hV, hV2] at h2
          exact ⟨h2, h1⟩
      have HSM : Hid (∀ w, Calls Try.prog 19 #[.slice none 0 0, .slice none 0 0] w fun e w' => e = .returned (.bool true) ∧ Below w.heap.size w w') := fun w => rsameG_any [] none none 0 0 0 w rfl (fun k hk => absurd hk (Nat.not_lt_zero _)) (fun k hk => absurd hk (Nat.not_lt_zero _)) (by omega) (fun r hr => by cases hr)
      clear hV hV2 hB hbig
      go_enter Try.func6, Try.ntmps6
      go_wp2_with (first
        | (go_at_call 23; ((with_reducible refine (HP1.out _).mono ?_); rintro e w1 ⟨rfl, b1⟩))
        | (go_at_call 24; ((with_reducible refine (HP2.out _).mono ?_); rintro e w2 ⟨rfl, b2⟩))
        | (go_at_call 17; ((with_reducible refine (HLV.out _).mono ?_); rintro e w3 ⟨rfl, b3⟩))
        | (go_at_call 19; ((with_reducible refine (HSM.out _).mono ?_); rintro e w4 ⟨rfl, b4⟩))
        | (go_at_call 25; ((with_reducible refine (HD1.out _).mono ?_); rintro e w5 ⟨rfl, b5⟩))
        | (go_at_call 26; ((with_reducible refine (HD2.out _).mono ?_); rintro e w6 ⟨rfl, b6⟩)))
      go_ret
      have t2 := b1.trans (b2.mono b1.size)
      have t3 := t2.trans (b3.mono t2.size)
      have t4 := t3.trans (b4.mono t3.size)
      have t5 := t4.trans (b5.mono t4.size)
      exact ⟨by first | rfl | (rw [hBB]; rfl), t5.trans (b6.mono t5.size)⟩
    | some gs =>
      obtain ⟨N, hN⟩ : ∃ N, N = gs.length := ⟨_, rfl⟩
      have hbd := par_bound (hV.symm.trans hV2) (by
        have h2 := split_cnt s.data.toList []
        rw [list_len] at h2
        have h3 : (split s.data.toList).length ≤ s.size + 1 := h2
        omega)
      have hNb : N ≤ 1000000 := by
        have hg := hV.symm.trans hV2
        unfold parL at hg
        cases hgo : goP (split s.data.toList) ⟨[], [], [], [], 0⟩ with
        | none => rw [hgo] at hg; cases hg
        | some st =>
          have h1 := goP_len (split s.data.toList) _ st hgo
          rw [hgo, fin0] at hg
          split at hg
          · simp only [Option.some.injEq] at hg
            rw [hg] at h1
            have h2 := split_cnt s.data.toList []
            rw [list_len] at h2
            have h3 : (split s.data.toList).length ≤ s.size + 1 := h2
            simp only [List.length_nil] at h1
            omega
          · cases hg
      have HP1 : Hid (∀ w, Calls Try.prog 23 #[.string s] w fun e w' => (∃ p c, e = .returned (.tuple #[.slice p N c, .int .i64 0]) ∧ Hid (GRw w' p gs)) ∧ Below w.heap.size w w') := fun w =>
        (parse_any s w (by omega)).mono fun e w' ⟨h1, h2⟩ => by
          rw [← hV, hV2] at h2
          obtain ⟨p, n, c, he, hn, _, hg⟩ := h2
          exact ⟨⟨p, c, by rw [he, hn, hN], hg⟩, h1⟩
      have HP2 : Hid (∀ w, Calls Try.prog 24 #[.string s] w fun e w' => (∃ p c, e = .returned (.tuple #[.slice p N c, .int .i64 0]) ∧ Hid (GRw w' p gs)) ∧ Below w.heap.size w w') := fun w =>
        (rparse_any s w (by omega)).mono fun e w' ⟨h1, h2⟩ => by
          rw [← hV, hV2] at h2
          obtain ⟨p, n, c, he, hn, _, hg⟩ := h2
          exact ⟨⟨p, c, by rw [he, hn, hN], hg⟩, h1⟩
      have HSM : Hid (∀ w p q c d, GRw w p gs → GRw w q gs → Calls Try.prog 19 #[.slice p N c, .slice q N d] w fun e w' => e = .returned (.bool true) ∧ Below w.heap.size w w') := fun w p q c d h1 h2 => rsameG_any gs p q c d N w hN h1 h2 hNb hbd
      clear hV hV2 hB hbig hN hbd hNb
      go_enter Try.func6, Try.ntmps6
      go_wp2_with (first
        | (go_at_call 23; ((with_reducible refine (HP1.out _).mono ?_); rintro e w1 ⟨⟨p1, c1, rfl, g1⟩, b1⟩))
        | (go_at_call 24; ((with_reducible refine (HP2.out _).mono ?_); rintro e w2 ⟨⟨p2, c2, rfl, g2⟩, b2⟩))
        | (go_at_call 17; ((with_reducible refine (HLV.out _).mono ?_); rintro e w3 ⟨rfl, b3⟩))
        | (go_at_call 19; ((with_reducible refine (HSM.out _ _ _ _ _ ((g1.out.below b2).below b3) (g2.out.below b3)).mono ?_); rintro e w4 ⟨rfl, b4⟩))
        | (go_at_call 25; ((with_reducible refine (HD1.out _).mono ?_); rintro e w5 ⟨rfl, b5⟩))
        | (go_at_call 26; ((with_reducible refine (HD2.out _).mono ?_); rintro e w6 ⟨rfl, b6⟩)))
      go_ret
      have t2 := b1.trans (b2.mono b1.size)
      have t3 := t2.trans (b3.mono t2.size)
      have t4 := t3.trans (b4.mono t3.size)
      have t5 := t4.trans (b5.mono t4.size)
      exact ⟨by first | rfl | (rw [hBB]; rfl), t5.trans (b6.mono t5.size)⟩
end
end Go.Proofs.Ytidghjalfbklnaa
