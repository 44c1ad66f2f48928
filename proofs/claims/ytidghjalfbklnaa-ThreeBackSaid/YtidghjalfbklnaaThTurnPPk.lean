/-
  A merge with the sides exchanged: plain mathematics.
-/
import Derived.Test.YtidghjalfbklnaaThResPk
import Derived.Test.YtidghjalfbklnaaThSamePk
import Derived.Test.YtidghjalfbklnaaThRegPk
namespace Go.Proofs.Ytidghjalfbklnaa
open Go.RowKit

def swR (r : Rg) : Rg := ⟨r.k, r.l, r.t, r.b, r.o⟩
theorem clG_sw (gs : List Rg) (ls : List (List UInt8)) : clG (gs.map swR) ls = (clG gs ls).map swR := by
  unfold clG
  split
  · rfl
  · rw [List.getLast?_map]
    cases gs.getLast? with
    | none => rfl
    | some r =>
      simp only [Option.map_some]
      by_cases hk : r.k = 1
      · rw [if_pos hk, if_pos (show (swR r).k = 1 from hk), List.map_append, List.map_dropLast]
        rfl
      · rw [if_neg hk, if_neg (show ¬ (swR r).k = 1 from hk), List.map_append]
        rfl
theorem cnt_all (f : Nat → Bool) (lim : Nat) : ∀ (n k : Nat), lim - k = n → ∀ j, k ≤ j → j < cnt f lim k → f j = true
  | 0, k, h, j, h1, h2 => by rw [cnt_end (by omega)] at h2; omega
  | n + 1, k, h, j, h1, h2 => by
    cases hf : f k with
    | false => rw [cnt_no (by omega) hf] at h2; omega
    | true =>
      rw [cnt_yes (by omega) hf] at h2
      by_cases hj : j = k
      · rw [hj]; exact hf
      · exact cnt_all f lim n (k + 1) (by omega) j (by omega) h2
theorem hdF_sw (o t : List (List UInt8)) : hdF o t = hdF t o := by
  funext k
  unfold hdF
  exact decide_eq_decide.mpr eq_comm
theorem tlF_sw (o t : List (List UInt8)) : tlF o t = tlF t o := by
  funext k
  unfold tlF
  exact decide_eq_decide.mpr eq_comm
theorem headN_sw (o t : List (List UInt8)) : headN o t = headN t o := by unfold headN; rw [hdF_sw, Nat.min_comm]
theorem tailN_sw (o t : List (List UInt8)) : tailN o t = tailN t o := by unfold tailN; rw [tlF_sw, Nat.min_comm, headN_sw]
theorem head_take (o t : List (List UInt8)) : o.take (headN o t) = t.take (headN o t) := by
  apply List.ext_getElem?
  intro k
  by_cases hk : k < headN o t
  · rw [List.getElem?_take_of_lt hk, List.getElem?_take_of_lt hk]
    have := cnt_all (hdF o t) _ _ 0 rfl k (Nat.zero_le _) hk
    exact of_decide_eq_true this
  · rw [List.getElem?_eq_none (by rw [List.length_take]; omega), List.getElem?_eq_none (by rw [List.length_take]; omega)]
theorem tail_drop (o t : List (List UInt8)) : o.drop (o.length - tailN o t) = t.drop (t.length - tailN o t) := by
  have hl := tailN_le o t
  apply List.ext_getElem?
  intro k
  rw [List.getElem?_drop, List.getElem?_drop]
  by_cases hk : k < tailN o t
  · have := of_decide_eq_true (cnt_all (tlF o t) _ _ 0 rfl (tailN o t - 1 - k) (Nat.zero_le _) (by show _ < tailN o t; omega))
    rw [show o.length - 1 - (tailN o t - 1 - k) = o.length - tailN o t + k by omega, show t.length - 1 - (tailN o t - 1 - k) = t.length - tailN o t + k by omega] at this
    exact this
  · rw [List.getElem?_eq_none (by omega), List.getElem?_eq_none (by omega)]
theorem confL_sw (gs : List Rg) (b o t : List (List UInt8)) : confL (gs.map swR) b t o = (confL gs b o t).map swR := by
  unfold confL
  rw [headN_sw t o, tailN_sw t o, ← head_take o t, ← tail_drop o t, ← clG_sw, List.map_append, clG_sw gs]
  rfl
theorem resL_sw (gs : List Rg) (b o t : List (List UInt8)) : resL (gs.map swR) b t o = (resL gs b o t).map swR := by
  unfold resL
  by_cases h1 : o = b <;> by_cases h2 : t = b
  · rw [if_pos h1, if_pos h2, clG_sw, h1, h2]
  · rw [if_pos h1, if_neg h2, if_pos (.inl h1), clG_sw]
  · rw [if_neg h1, if_pos h2, if_pos (.inl h2), clG_sw]
  · rw [if_neg h1, if_neg h2]
    by_cases h3 : o = t
    · rw [if_pos (.inr h3.symm), if_pos (.inr h3), clG_sw, h3]
    · rw [if_neg (fun h => h.elim h1 fun h => h3 h.symm), if_neg (fun h => h.elim h2 h3), confL_sw]
theorem mrg_sw (X Y Z : List (List UInt8)) (p q : List Int) : ∀ (n k : Nat) (gs : List Rg) (b o t : Nat), mrg X Z Y q p n k (gs.map swR) b t o = (mrg X Y Z p q n k gs b o t).map swR
  | 0, k, gs, b, o, t => resL_sw gs _ _ _
  | n + 1, k, gs, b, o, t => by
    rw [mrg, mrg]
    by_cases h : (p[k]?.getD (-1)) < 0 ∨ (q[k]?.getD (-1)) < 0
    · rw [if_pos h, if_pos h.symm, mrg_sw X Y Z p q n]
    · rw [if_neg h, if_neg (fun h' => h h'.symm), resL_sw, clG_sw, mrg_sw X Y Z p q n]
theorem mergeL_sw (X Y Z : List (List UInt8)) : mergeL X Z Y = (mergeL X Y Z).map swR := mrg_sw X Y Z (kpL X Y) (kpL X Z) X.length 0 [] 0 0 0

/-- Without a conflict, and the lines so far. -/
structure CL (gs : List Rg) (ls : List (List UInt8)) : Prop where
  c : ∀ r ∈ gs, r.k ≠ 2
  l : linesL 0 gs = ls
theorem linesL_app (a b : List Rg) : linesL 0 (a ++ b) = linesL 0 a ++ linesL 0 b := by unfold linesL; rw [List.flatMap_append]
theorem CL.cl {gs : List Rg} {ls : List (List UInt8)} (h : CL gs ls) (x : List (List UInt8)) : CL (clG gs x) (ls ++ x) := by
  unfold clG
  split
  · rename_i hx
    rw [hx, List.append_nil]
    exact h
  · cases hg : gs.getLast? with
    | none =>
      rw [List.getLast?_eq_none_iff] at hg
      have := h.l
      rw [hg] at this
      refine ⟨fun r hr => by simp at hr; rw [hr]; simp, ?_⟩
      rw [← this]
      simp [linesL, sideL]
    | some r =>
      obtain ⟨pre, hpre⟩ : ∃ pre, gs = pre ++ [r] := List.getLast?_eq_some_iff.mp hg
      have h1 := h.l
      have h2 := h.c
      rw [hpre] at h1 h2 ⊢
      simp only [List.dropLast_concat]
      split
      · rename_i hk
        refine ⟨fun r' hr' => ?_, ?_⟩
        · rcases List.mem_append.mp hr' with h' | h'
          · exact h2 r' (List.mem_append_left _ h')
          · rw [List.mem_singleton.mp h']; simp [hk]
        · rw [← h1, linesL_app, linesL_app]
          simp [linesL, sideL, hk]
      · refine ⟨fun r' hr' => ?_, ?_⟩
        · rcases List.mem_append.mp hr' with h' | h'
          · exact h2 r' h'
          · rw [List.mem_singleton.mp h']; simp
        · rw [← h1, linesL_app _ [_]]
          congr 1
          simp [linesL, sideL]
theorem take_drop_take (Y : List (List UInt8)) {o x : Nat} (h : o ≤ x) : Y.take o ++ (Y.drop o).take (x - o) = Y.take x := by
  rw [← List.take_add, show o + (x - o) = x by omega]
/-- Both sides are the same. -/
theorem mrg_same (X Y : List (List UInt8)) (p : List Int) (i j : Nat) (hm : Mon X Y p i j) (hj : j ≤ Y.length) : ∀ (n k : Nat) (gs : List Rg) (b o : Nat), o ≤ Y.length → CL gs (Y.take o) → (∀ (k' : Nat) (x : Int), k ≤ k' → p[k']? = some x → 0 ≤ x → (o : Int) ≤ x) → CL (mrg X Y Y p p n k gs b o o) Y
  | 0, k, gs, b, o, ho, hc, _ => by
    rw [mrg, resL]
    have := hc.cl (Y.drop o)
    rw [List.take_append_drop] at this
    split
    · exact this
    · rw [if_pos (.inr rfl)]; exact this
  | n + 1, k, gs, b, o, ho, hc, hp => by
    rw [mrg]
    split
    · exact mrg_same X Y p i j hm hj n (k + 1) gs b o ho hc fun k' x h => hp k' x (by omega)
    · rename_i hneg
      cases hx : p[k]? with
      | none => rw [hx] at hneg; simp at hneg
      | some x =>
        rw [hx] at hneg
        simp only [Option.getD_some, or_self] at hneg ⊢
        obtain ⟨a, rfl⟩ : ∃ a : Nat, x = (a : Int) := ⟨x.toNat, by omega⟩
        simp only [Int.toNat_natCast]
        rcases hm.val k _ hx with h | ⟨_, h2, _, h4⟩
        · omega
        · have hao := hp k _ (Nat.le_refl _) hx (by omega)
          have haY : a < Y.length := by omega
          simp only [Int.toNat_natCast] at h4
          have e1 : (X.drop k).take 1 = [Y[a]] := by
            rw [List.getElem?_eq_getElem haY] at h4
            have hkX := (List.getElem?_eq_some_iff.mp h4).1
            rw [List.drop_eq_getElem_cons hkX, List.take_succ_cons, List.take_zero, (List.getElem?_eq_some_iff.mp h4).2]
          have e2 : resL gs ((X.drop b).take (k - b)) ((Y.drop o).take (a - o)) ((Y.drop o).take (a - o)) = clG gs ((Y.drop o).take (a - o)) := by
            rw [resL]
            split
            · rfl
            · rw [if_pos (.inr rfl)]
          rw [e1, e2]
          have hc2 := (hc.cl ((Y.drop o).take (a - o))).cl [Y[a]]
          rw [take_drop_take Y (by omega), ← List.take_succ_eq_append_getElem haY] at hc2
          refine mrg_same X Y p i j hm hj n (k + 1) _ _ _ (by omega) hc2 fun k' x h hx' h0 => ?_
          have := hm.mono k k' _ x (by omega) hx hx' (by omega) h0
          omega
theorem mergeL_same {X Y : List (List UInt8)} (hx : X.length ≤ 4096) (hy : Y.length ≤ 4096) : CL (mergeL X Y Y) Y := by
  obtain ⟨i, j, hm, hj⟩ := kpL_mon hx hy
  exact mrg_same X Y _ i j hm hj _ 0 [] 0 0 (Nat.zero_le _) ⟨fun r hr => by simp at hr, rfl⟩ fun k' x _ _ h => by omega
theorem leastL_self (X : List (List UInt8)) : leastL X X = [] := by
  unfold leastL
  simp
theorem kpL_self {X : List (List UInt8)} (hl : X.length ≤ 4096) (k : Nat) (h : k < X.length) : (kpL X X)[k]? = some (k : Int) := by
  unfold kpL
  rw [leastL_self, stL]
  rw [if_pos (by omega), List.nil_append, setRuns, setRuns, setRun_get]
  simp only [Int.toNat_zero, List.length_replicate, Nat.zero_add, Nat.sub_zero]
  have hw : (wrap64 ((X.length : Int) - 0)).toNat = X.length := by
    rw [Int.sub_zero, wrap_small (by omega) (by omega)]
    omega
  rw [hw, if_pos ⟨Nat.zero_le _, h, h⟩]
/-- One side has changed nothing. -/
theorem mrg_base (X Z : List (List UInt8)) (p q : List Int) (i j : Nat) (hm : Mon X Z q i j) (hj : j ≤ Z.length) (hpX : ∀ k, k < X.length → p[k]? = some (k : Int)) : ∀ (n k : Nat) (gs : List Rg) (b t : Nat), b ≤ k → t ≤ Z.length → CL gs (Z.take t) → (∀ (k' : Nat) (x : Int), k ≤ k' → q[k']? = some x → 0 ≤ x → (t : Int) ≤ x) → CL (mrg X X Z p q n k gs b b t) Z
  | 0, k, gs, b, t, hb, ht, hc, _ => by
    rw [mrg, resL, if_pos rfl]
    have := hc.cl (Z.drop t)
    rw [List.take_append_drop] at this
    exact this
  | n + 1, k, gs, b, t, hb, ht, hc, hp => by
    rw [mrg]
    split
    · exact mrg_base X Z p q i j hm hj hpX n (k + 1) gs b t (by omega) ht hc fun k' x h => hp k' x (by omega)
    · rename_i hneg
      cases hx : q[k]? with
      | none => rw [hx] at hneg; simp at hneg
      | some x =>
        rw [hx] at hneg
        simp only [Option.getD_some, not_or] at hneg ⊢
        obtain ⟨a, rfl⟩ : ∃ a : Nat, x = (a : Int) := ⟨x.toNat, by omega⟩
        simp only [Int.toNat_natCast]
        rcases hm.val k _ hx with h | ⟨_, h2, _, h4⟩
        · omega
        · have hat := hp k _ (Nat.le_refl _) hx (by omega)
          have haZ : a < Z.length := by omega
          simp only [Int.toNat_natCast] at h4
          rw [List.getElem?_eq_getElem haZ] at h4
          have hkX := (List.getElem?_eq_some_iff.mp h4).1
          have e1 : (X.drop k).take 1 = [Z[a]] := by
            rw [List.drop_eq_getElem_cons hkX, List.take_succ_cons, List.take_zero, (List.getElem?_eq_some_iff.mp h4).2]
          rw [hpX k hkX]
          simp only [Option.getD_some, Int.toNat_natCast]
          rw [resL, if_pos rfl, e1]
          have hc2 := (hc.cl ((Z.drop t).take (a - t))).cl [Z[a]]
          rw [take_drop_take Z (by omega), ← List.take_succ_eq_append_getElem haZ] at hc2
          refine mrg_base X Z p q i j hm hj hpX n (k + 1) _ _ _ (Nat.le_refl _) (by omega) hc2 fun k' x h hx' h0 => ?_
          have := hm.mono k k' _ x (by omega) hx hx' (by omega) h0
          omega
theorem mergeL_base {X Z : List (List UInt8)} (hx : X.length ≤ 4096) (hz : Z.length ≤ 4096) : CL (mergeL X X Z) Z := by
  obtain ⟨i, j, hm, hj⟩ := kpL_mon hx hz
  exact mrg_base X Z _ _ i j hm hj (fun k hk => kpL_self hx k hk) _ 0 [] 0 0 (Nat.le_refl _) (Nat.zero_le _) ⟨fun r hr => by simp at hr, rfl⟩ fun k' x _ _ h => by omega
theorem CL.sw {gs : List Rg} {ls : List (List UInt8)} (h : CL gs ls) : CL (gs.map swR) ls := by
  refine ⟨fun r hr => ?_, ?_⟩
  · obtain ⟨r', hr', rfl⟩ := List.mem_map.mp hr
    exact h.c r' hr'
  · rw [← h.l]
    have h2 := h.c
    clear h
    induction gs with
    | nil => rfl
    | cons r gs ih =>
      simp only [linesL, List.map_cons, List.flatMap_cons] at ih ⊢
      rw [ih (fun r hr => h2 r (List.mem_cons_of_mem _ hr))]
      congr 1
theorem mergeL_base2 {X Y : List (List UInt8)} (hx : X.length ≤ 4096) (hy : Y.length ≤ 4096) : CL (mergeL X Y X) Y := by
  rw [mergeL_sw]
  exact (mergeL_base hx hy).sw
theorem CL.clean {gs : List Rg} {ls : List (List UInt8)} (h : CL gs ls) : cleanB gs = true := by
  unfold cleanB
  simpa using h.c
end Go.Proofs.Ytidghjalfbklnaa
/-
  How many lines a merge has: plain mathematics.
-/
namespace Go.Proofs.Ytidghjalfbklnaa
open Go.RowKit

/-- All lines of all regions. -/
def totR (r : Rg) : Nat := r.l.length + r.o.length + r.b.length + r.t.length
def tot (gs : List Rg) : Nat := (gs.map totR).sum
theorem tot_app (a b : List Rg) : tot (a ++ b) = tot a + tot b := by simp [tot]
theorem tot_mem {gs : List Rg} {r : Rg} (h : r ∈ gs) : totR r ≤ tot gs := by
  obtain ⟨a, b, rfl⟩ := List.append_of_mem h
  rw [tot_app]
  simp [tot]
  omega
theorem tot_cl (gs : List Rg) (ls : List (List UInt8)) : tot (clG gs ls) ≤ tot gs + ls.length := by
  unfold clG
  split
  · omega
  · cases hg : gs.getLast? with
    | none => simp [tot, totR]
    | some r =>
      obtain ⟨pre, hpre⟩ : ∃ pre, gs = pre ++ [r] := List.getLast?_eq_some_iff.mp hg
      rw [hpre]
      simp only [List.dropLast_concat]
      split
      · rw [tot_app, tot_app]
        simp [tot, totR]
        omega
      · rw [tot_app _ [_]]
        simp [tot, totR]
theorem tot_conf (gs : List Rg) (b o t : List (List UInt8)) : tot (confL gs b o t) ≤ tot gs + 3 * o.length + b.length + t.length := by
  unfold confL
  have h1 := tot_cl (clG gs (o.take (headN o t)) ++ [⟨2, [], midL o (headN o t) (tailN o t), b, midL t (headN o t) (tailN o t)⟩]) (o.drop (o.length - tailN o t))
  have h2 := tot_cl gs (o.take (headN o t))
  rw [tot_app] at h1
  have h3 : tot [⟨2, [], midL o (headN o t) (tailN o t), b, midL t (headN o t) (tailN o t)⟩] ≤ o.length + b.length + t.length := by
    simp [tot, totR, midL]
    omega
  rw [List.length_take] at h2
  rw [List.length_drop] at h1
  omega
theorem tot_res (gs : List Rg) (b o t : List (List UInt8)) : tot (resL gs b o t) ≤ tot gs + 3 * o.length + b.length + t.length := by
  unfold resL
  split
  · have := tot_cl gs t; omega
  split
  · have := tot_cl gs o; omega
  · exact tot_conf gs b o t
theorem mrg_tot (X Y Z : List (List UInt8)) (p q : List Int) (M : Nat) (hM : 3 * Y.length + X.length + Z.length + 1 ≤ M) : ∀ (n k : Nat) (gs : List Rg) (b o t : Nat), tot (mrg X Y Z p q n k gs b o t) ≤ tot gs + (n + 1) * M ∧ (mrg X Y Z p q n k gs b o t).length ≤ gs.length + 4 * n + 3
  | 0, k, gs, b, o, t => by
    have h1 := tot_res gs (X.drop b) (Y.drop o) (Z.drop t)
    have h2 := (lastN_res gs (X.drop b) (Y.drop o) (Z.drop t)).2
    simp only [List.length_drop] at h1
    rw [mrg]
    exact ⟨by rw [Nat.zero_add, Nat.one_mul]; omega, by omega⟩
  | n + 1, k, gs, b, o, t => by
    rw [mrg]
    have e : (n + 1 + 1) * M = (n + 1) * M + M := by rw [Nat.add_mul, Nat.one_mul]
    split
    · obtain ⟨h1, h2⟩ := mrg_tot X Y Z p q M hM n (k + 1) gs b o t
      exact ⟨by omega, by omega⟩
    · obtain ⟨A, hA⟩ : ∃ A, A = (X.drop b).take (k - b) := ⟨_, rfl⟩
      obtain ⟨B, hB⟩ : ∃ B, B = (Y.drop o).take ((p[k]?.getD (-1)).toNat - o) := ⟨_, rfl⟩
      obtain ⟨C, hC⟩ : ∃ C, C = (Z.drop t).take ((q[k]?.getD (-1)).toNat - t) := ⟨_, rfl⟩
      obtain ⟨D, hD⟩ : ∃ D, D = (X.drop k).take 1 := ⟨_, rfl⟩
      have lA : A.length ≤ X.length := by rw [hA, List.length_take, List.length_drop]; omega
      have lB : B.length ≤ Y.length := by rw [hB, List.length_take, List.length_drop]; omega
      have lC : C.length ≤ Z.length := by rw [hC, List.length_take, List.length_drop]; omega
      have lD : D.length ≤ 1 := by rw [hD, List.length_take]; omega
      rw [← hA, ← hB, ← hC, ← hD]
      obtain ⟨h1, h2⟩ := mrg_tot X Y Z p q M hM n (k + 1) (clG (resL gs A B C) D) (k + 1) ((p[k]?.getD (-1)).toNat + 1) ((q[k]?.getD (-1)).toNat + 1)
      have h3 := tot_res gs A B C
      have h4 := (lastN_res gs A B C).2
      have h5 := tot_cl (resL gs A B C) D
      have h6 := (lastN_cl (resL gs A B C) D).2
      exact ⟨by omega, by omega⟩
theorem mergeL_tot {X Y Z : List (List UInt8)} (hx : X.length ≤ 60) (hy : Y.length ≤ 60) (hz : Z.length ≤ 60) : (∀ r ∈ mergeL X Y Z, r.l.length ≤ 1000000 ∧ r.o.length ≤ 1000000 ∧ r.b.length ≤ 1000000 ∧ r.t.length ≤ 1000000) ∧ (mergeL X Y Z).length ≤ 1000 := by
  obtain ⟨h1, h2⟩ := mrg_tot X Y Z (kpL X Y) (kpL X Z) 301 (by omega) X.length 0 [] 0 0 0
  have h3 : (X.length + 1) * 301 ≤ 61 * 301 := Nat.mul_le_mul_right _ (by omega)
  have h4 : tot ([] : List Rg) = 0 := rfl
  have h5 : ([] : List Rg).length = 0 := rfl
  refine ⟨fun r hr => ?_, by unfold mergeL; omega⟩
  have := tot_mem hr
  unfold mergeL at this
  unfold totR at this
  omega

end Go.Proofs.Ytidghjalfbklnaa
