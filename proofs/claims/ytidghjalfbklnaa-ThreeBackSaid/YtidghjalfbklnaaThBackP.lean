/-
  Marked text read back: plain mathematics.
-/
import Derived.Test.YtidghjalfbklnaaThParse
import Derived.Test.YtidghjalfbklnaaThTurnPPk
import Derived.Test.YtidghjalfbklnaaThRegPk
namespace Go.Proofs.Ytidghjalfbklnaa
open Go.RowKit

/-- Regions as a merge leaves them. -/
inductive Wf : List Rg → Prop
  | nil : Wf []
  | cl (gs : List Rg) (l : List (List UInt8)) : Wf gs → (∀ r, gs.getLast? = some r → r.k = 2) → l ≠ [] → Wf (gs ++ [⟨1, l, [], [], []⟩])
  | cf (gs : List Rg) (o b t : List (List UInt8)) : Wf gs → Wf (gs ++ [⟨2, [], o, b, t⟩])
theorem clG_one (gs : List Rg) (l ls : List (List UInt8)) : clG (gs ++ [⟨1, l, [], [], []⟩]) ls = gs ++ [⟨1, l ++ ls, [], [], []⟩] := by
  unfold clG
  split
  · rename_i h
    rw [h, List.append_nil]
  · rw [List.getLast?_concat]
    simp
theorem clG_two {gs : List Rg} {ls : List (List UInt8)} (h : ∀ r, gs.getLast? = some r → r.k = 2) (hl : ls ≠ []) : clG gs ls = gs ++ [⟨1, ls, [], [], []⟩] := by
  unfold clG
  rw [if_neg hl]
  cases hg : gs.getLast? with
  | none =>
    rw [List.getLast?_eq_none_iff] at hg
    rw [hg]
    rfl
  | some r =>
    have := h r hg
    show (if r.k = 1 then _ else _) = _
    rw [if_neg (by omega)]
theorem wf_cl {gs : List Rg} (h : Wf gs) (ls : List (List UInt8)) : Wf (clG gs ls) := by
  by_cases hl : ls = []
  · rw [clG, if_pos hl]
    exact h
  · cases h with
    | nil =>
      rw [clG_two (fun r hr => by cases hr) hl]
      exact Wf.cl [] ls .nil (fun r hr => by cases hr) hl
    | cl gs l h1 h2 h3 =>
      rw [clG_one]
      exact Wf.cl gs (l ++ ls) h1 h2 (by simp [h3])
    | cf gs o b t h1 =>
      have hk : ∀ r, (gs ++ [(⟨2, [], o, b, t⟩ : Rg)]).getLast? = some r → r.k = 2 := fun r hr => by
        rw [List.getLast?_concat, Option.some.injEq] at hr
        rw [← hr]
      rw [clG_two hk hl]
      exact Wf.cl _ ls (.cf gs o b t h1) hk hl
theorem wf_res {gs : List Rg} (h : Wf gs) (b o t : List (List UInt8)) : Wf (resL gs b o t) := by
  unfold resL confL
  split
  · exact wf_cl h _
  split
  · exact wf_cl h _
  · exact wf_cl (.cf _ _ _ _ (wf_cl h _)) _
theorem wf_mrg (X Y Z : List (List UInt8)) (p q : List Int) : ∀ (n k : Nat) (gs : List Rg) (b o t : Nat), Wf gs → Wf (mrg X Y Z p q n k gs b o t)
  | 0, k, gs, b, o, t, h => by rw [mrg]; exact wf_res h _ _ _
  | n + 1, k, gs, b, o, t, h => by
    rw [mrg]
    split
    · exact wf_mrg X Y Z p q n _ _ _ _ _ h
    · exact wf_mrg X Y Z p q n _ _ _ _ _ (wf_cl (wf_res h _ _ _) _)
theorem wf_merge (X Y Z : List (List UInt8)) : Wf (mergeL X Y Z) := wf_mrg X Y Z _ _ _ _ _ _ _ _ .nil

/-- What holds of all lines. -/
def AllR (P : List UInt8 → Prop) (gs : List Rg) : Prop := ∀ r ∈ gs, ∀ x, x ∈ r.l ∨ x ∈ r.o ∨ x ∈ r.b ∨ x ∈ r.t → P x
theorem AllR.init {P : List UInt8 → Prop} {a b : List Rg} (h : AllR P (a ++ b)) : AllR P a ∧ AllR P b := ⟨fun r hr => h r (List.mem_append_left _ hr), fun r hr => h r (List.mem_append_right _ hr)⟩
theorem all_snoc {P : List UInt8 → Prop} {gs : List Rg} {r : Rg} (h : AllR P gs) (hr : ∀ x, x ∈ r.l ∨ x ∈ r.o ∨ x ∈ r.b ∨ x ∈ r.t → P x) : AllR P (gs ++ [r]) := fun s hs => by
  rcases List.mem_append.mp hs with hs | hs
  · exact h s hs
  · rw [List.mem_singleton] at hs
    rw [hs]
    exact hr
theorem all_cl {P : List UInt8 → Prop} {gs : List Rg} {ls : List (List UInt8)} (h : AllR P gs) (hl : ∀ x ∈ ls, P x) : AllR P (clG gs ls) := by
  unfold clG
  split
  · exact h
  · cases hg : gs.getLast? with
    | none => exact all_snoc (gs := []) (fun r hr => by cases hr) (fun x hx => by simp at hx; exact hl x hx)
    | some r =>
      obtain ⟨pre, hpre⟩ : ∃ pre, gs = pre ++ [r] := List.getLast?_eq_some_iff.mp hg
      show AllR P (if r.k = 1 then _ else _)
      split
      · rw [hpre, List.dropLast_concat]
        rw [hpre] at h
        refine all_snoc h.init.1 fun x hx => ?_
        have hr : r ∈ pre ++ [r] := by simp
        rcases hx with hx | hx
        · rcases List.mem_append.mp hx with hx | hx
          · exact h r hr x (.inl hx)
          · exact hl x hx
        · exact h r hr x (.inr hx)
      · exact all_snoc h (fun x hx => by simp at hx; exact hl x hx)
theorem all_res {P : List UInt8 → Prop} {gs : List Rg} {b o t : List (List UInt8)} (h : AllR P gs) (hb : ∀ x ∈ b, P x) (ho : ∀ x ∈ o, P x) (ht : ∀ x ∈ t, P x) : AllR P (resL gs b o t) := by
  unfold resL confL midL
  split
  · exact all_cl h ht
  split
  · exact all_cl h ho
  · refine all_cl (all_snoc (all_cl h fun x hx => ho x (List.mem_of_mem_take hx)) fun x hx => ?_) fun x hx => ho x (List.mem_of_mem_drop hx)
    rcases hx with hx | hx | hx | hx
    · cases hx
    · exact ho x (List.mem_of_mem_drop (List.mem_of_mem_take hx))
    · exact hb x hx
    · exact ht x (List.mem_of_mem_drop (List.mem_of_mem_take hx))
theorem all_mrg {P : List UInt8 → Prop} {X Y Z : List (List UInt8)} (hX : ∀ x ∈ X, P x) (hY : ∀ x ∈ Y, P x) (hZ : ∀ x ∈ Z, P x) (p q : List Int) : ∀ (n k : Nat) (gs : List Rg) (b o t : Nat), AllR P gs → AllR P (mrg X Y Z p q n k gs b o t)
  | 0, k, gs, b, o, t, h => by rw [mrg]; exact all_res h (fun x hx => hX x (List.mem_of_mem_drop hx)) (fun x hx => hY x (List.mem_of_mem_drop hx)) (fun x hx => hZ x (List.mem_of_mem_drop hx))
  | n + 1, k, gs, b, o, t, h => by
    rw [mrg]
    split
    · exact all_mrg hX hY hZ p q n _ _ _ _ _ h
    · exact all_mrg hX hY hZ p q n _ _ _ _ _ (all_cl (all_res h (fun x hx => hX x (List.mem_of_mem_drop (List.mem_of_mem_take hx))) (fun x hx => hY x (List.mem_of_mem_drop (List.mem_of_mem_take hx))) (fun x hx => hZ x (List.mem_of_mem_drop (List.mem_of_mem_take hx)))) fun x hx => hX x (List.mem_of_mem_drop (List.mem_of_mem_take hx)))
theorem all_merge {P : List UInt8 → Prop} {X Y Z : List (List UInt8)} (hX : ∀ x ∈ X, P x) (hY : ∀ x ∈ Y, P x) (hZ : ∀ x ∈ Z, P x) : AllR P (mergeL X Y Z) := all_mrg hX hY hZ _ _ _ _ _ _ _ _ fun r hr => by cases hr

/-- How much is printed. -/
def szL (ls : List (List UInt8)) : Nat := (ls.map fun x => x.length + 1).sum
def szR (r : Rg) : Nat := szL r.l + szL r.o + szL r.b + szL r.t + if r.k = 2 then 500 else 0
def sz (gs : List Rg) : Nat := (gs.map szR).sum
theorem szL_app (a b : List (List UInt8)) : szL (a ++ b) = szL a + szL b := by simp [szL]
theorem sz_app (a b : List Rg) : sz (a ++ b) = sz a + sz b := by simp [sz]
theorem sz_one (r : Rg) : sz [r] = szR r := by simp [sz]
theorem szL_cut (l : List (List UInt8)) (n : Nat) : szL (l.take n) + szL (l.drop n) = szL l := by rw [← szL_app, List.take_append_drop]
theorem szL_le {l : List (List UInt8)} {m : Nat} (h : ∀ x ∈ l, x.length ≤ m) : szL l ≤ (m + 1) * l.length := by
  induction l with
  | nil => simp [szL]
  | cons a l ih =>
    have h1 := h a (by simp)
    have h2 := ih fun x hx => h x (by simp [hx])
    have e : szL (a :: l) = a.length + 1 + szL l := by simp [szL]
    rw [e, List.length_cons, Nat.mul_add]
    omega
theorem szL_mem {l : List (List UInt8)} {x : List UInt8} (h : x ∈ l) : x.length + 1 ≤ szL l := by
  obtain ⟨a, b, rfl⟩ := List.append_of_mem h
  rw [szL_app]
  simp [szL]
  omega
theorem szL_len (l : List (List UInt8)) : l.length ≤ szL l := by
  induction l with
  | nil => simp
  | cons a l ih => simp [szL] at ih ⊢; omega
theorem szL_join (l : List (List UInt8)) : (join l).length ≤ szL l := by
  induction l with
  | nil => simp [join]
  | cons a l ih => simp [szL, join] at ih ⊢; omega
theorem sz_cl (gs : List Rg) (ls : List (List UInt8)) : sz (clG gs ls) ≤ sz gs + szL ls := by
  unfold clG
  split
  · omega
  · cases hg : gs.getLast? with
    | none =>
      show sz [_] ≤ _
      rw [sz_one]
      simp [szR, szL]
    | some r =>
      obtain ⟨pre, hpre⟩ : ∃ pre, gs = pre ++ [r] := List.getLast?_eq_some_iff.mp hg
      show sz (if r.k = 1 then _ else _) ≤ _
      split
      · rw [hpre, List.dropLast_concat, sz_app, sz_app, sz_one, sz_one]
        simp only [szR, szL_app]
        omega
      · rw [sz_app, sz_one]
        simp [szR, szL]
theorem sz_conf (gs : List Rg) (b o t : List (List UInt8)) : sz (confL gs b o t) ≤ sz gs + szL b + szL o + szL t + 500 := by
  unfold confL midL
  obtain ⟨h, hh⟩ : ∃ h, h = headN o t := ⟨_, rfl⟩
  obtain ⟨m, hm⟩ : ∃ m, m = tailN o t := ⟨_, rfl⟩
  have hl := tailN_le o t
  rw [← hh, ← hm] at hl ⊢
  obtain ⟨G, hG⟩ : ∃ G, G = clG gs (o.take h) := ⟨_, rfl⟩
  have h1 := sz_cl gs (o.take h)
  rw [← hG] at h1 ⊢
  have h2 := sz_cl (G ++ [⟨2, [], (o.drop h).take (o.length - m - h), b, (t.drop h).take (t.length - m - h)⟩]) (o.drop (o.length - m))
  rw [sz_app, sz_one] at h2
  have h3 : szR ⟨2, [], (o.drop h).take (o.length - m - h), b, (t.drop h).take (t.length - m - h)⟩ = szL ((o.drop h).take (o.length - m - h)) + szL b + szL ((t.drop h).take (t.length - m - h)) + 500 := by simp [szR, szL]
  have h4 := szL_cut o h
  have h5 := szL_cut (o.drop h) (o.length - m - h)
  rw [List.drop_drop, show h + (o.length - m - h) = o.length - m by omega] at h5
  have h6 := szL_cut t h
  have h7 := szL_cut (t.drop h) (t.length - m - h)
  omega
theorem sz_res (gs : List Rg) (b o t : List (List UInt8)) : sz (resL gs b o t) ≤ sz gs + szL b + szL o + szL t + 500 := by
  unfold resL
  split
  · have := sz_cl gs t; omega
  split
  · have := sz_cl gs o; omega
  · exact sz_conf gs b o t
theorem szL_two (Y : List (List UInt8)) {o a : Nat} (h : o ≤ a) : szL ((Y.drop o).take (a - o)) + szL (Y.drop a) = szL (Y.drop o) := by
  have := szL_cut (Y.drop o) (a - o)
  rwa [List.drop_drop, show o + (a - o) = a by omega] at this
theorem szL_one (Y : List (List UInt8)) (a : Nat) : szL ((Y.drop a).take 1) + szL (Y.drop (a + 1)) = szL (Y.drop a) := by
  have := szL_cut (Y.drop a) 1
  rwa [List.drop_drop] at this
theorem sz_mrg (X Y Z : List (List UInt8)) (p q : List Int) (i j i' j' : Nat) (hm : Mon X Y p i j) (hm' : Mon X Z q i' j') : ∀ (n k : Nat) (gs : List Rg) (b o t : Nat), b ≤ k → (∀ (k' : Nat) (x : Int), k ≤ k' → p[k']? = some x → 0 ≤ x → (o : Int) ≤ x) → (∀ (k' : Nat) (x : Int), k ≤ k' → q[k']? = some x → 0 ≤ x → (t : Int) ≤ x) →
    sz (mrg X Y Z p q n k gs b o t) ≤ sz gs + szL (X.drop b) + szL (Y.drop o) + szL (Z.drop t) + 500 * (n + 1)
  | 0, k, gs, b, o, t, _, _, _ => by
    rw [mrg]
    have := sz_res gs (X.drop b) (Y.drop o) (Z.drop t)
    omega
  | n + 1, k, gs, b, o, t, hb, hp, hq => by
    have e500 : 500 * (n + 1 + 1) = 500 * (n + 1) + 500 := Nat.mul_succ _ _
    generalize 500 * (n + 1 + 1) = T2 at e500 ⊢
    rw [mrg]
    split
    · have := sz_mrg X Y Z p q i j i' j' hm hm' n (k + 1) gs b o t (by omega) (fun k' x h => hp k' x (by omega)) (fun k' x h => hq k' x (by omega))
      omega
    · rename_i hneg
      cases hx : p[k]? with
      | none => rw [hx] at hneg; simp at hneg
      | some x =>
        cases hy : q[k]? with
        | none => rw [hy] at hneg; simp at hneg
        | some y =>
          rw [hx, hy] at hneg
          simp only [Option.getD_some] at hneg ⊢
          have h1 := hp k x (Nat.le_refl _) hx (by omega)
          have h2 := hq k y (Nat.le_refl _) hy (by omega)
          have ih := sz_mrg X Y Z p q i j i' j' hm hm' n (k + 1) (clG (resL gs ((X.drop b).take (k - b)) ((Y.drop o).take (x.toNat - o)) ((Z.drop t).take (y.toNat - t))) ((X.drop k).take 1)) (k + 1) (x.toNat + 1) (y.toNat + 1) (Nat.le_refl _)
            (fun k' x' h hx' h0 => by have := hm.mono k k' _ x' (by omega) hx hx' (by omega) h0; omega)
            (fun k' x' h hx' h0 => by have := hm'.mono k k' _ x' (by omega) hy hx' (by omega) h0; omega)
          have h3 := sz_cl (resL gs ((X.drop b).take (k - b)) ((Y.drop o).take (x.toNat - o)) ((Z.drop t).take (y.toNat - t))) ((X.drop k).take 1)
          have h4 := sz_res gs ((X.drop b).take (k - b)) ((Y.drop o).take (x.toNat - o)) ((Z.drop t).take (y.toNat - t))
          have h5 := szL_two X hb
          have h6 := szL_two Y (o := o) (a := x.toNat) (by omega)
          have h7 := szL_two Z (o := t) (a := y.toNat) (by omega)
          have h8 := szL_one X k
          have h9 := szL_one Y x.toNat
          have h10 := szL_one Z y.toNat
          omega
theorem sz_merge {X Y Z : List (List UInt8)} (hx : X.length ≤ 60) (hy : Y.length ≤ 60) (hz : Z.length ≤ 60) (kx : ∀ l ∈ X, l.length ≤ 200) (ky : ∀ l ∈ Y, l.length ≤ 200) (kz : ∀ l ∈ Z, l.length ≤ 200) : sz (mergeL X Y Z) ≤ 66680 := by
  obtain ⟨i, j, hm, _⟩ := kpL_mon (X := X) (Y := Y) (by omega) (by omega)
  obtain ⟨i', j', hm', _⟩ := kpL_mon (X := X) (Y := Z) (by omega) (by omega)
  have h := sz_mrg X Y Z _ _ i j i' j' hm hm' X.length 0 [] 0 0 0 (Nat.le_refl _) (fun k' x _ _ h => by omega) (fun k' x _ _ h => by omega)
  have h1 := szL_le kx
  have h2 := szL_le ky
  have h3 := szL_le kz
  have h4 : sz [] = 0 := rfl
  simp only [List.drop_zero] at h
  unfold mergeL
  have k1 : (200 + 1) * X.length ≤ 12060 := by omega
  have k2 : (200 + 1) * Y.length ≤ 12060 := by omega
  have k3 : (200 + 1) * Z.length ≤ 12060 := by omega
  have k4 : 500 * (X.length + 1) ≤ 30500 := by omega
  generalize 500 * (X.length + 1) = T at h k4
  generalize (200 + 1) * X.length = T1 at h1 k1
  generalize (200 + 1) * Y.length = T2 at h2 k2
  generalize (200 + 1) * Z.length = T3 at h3 k3
  generalize szL X = S1 at *
  generalize szL Y = S2 at *
  generalize szL Z = S3 at *
  refine Nat.le_trans h ?_
  rw [h4, Nat.zero_add]
  omega

/-- A whole line. -/
def Wh (x : List UInt8) : Prop := isLine x = true ∧ x.getLast? = some 10
theorem okL : ∀ {ls : List (List UInt8)}, (∀ x ∈ ls, Wh x) → okLines ls = true
  | [], _ => rfl
  | [x], h => (h x (by simp)).1
  | x :: y :: r, h => by
    rw [okLines, (h x (by simp)).1, (h x (by simp)).2, okL (ls := y :: r) fun z hz => h z (by simp [hz])]
    rfl
theorem wh_mark {z : List UInt8} (h : ∀ c ∈ z, c ≠ 10) : Wh (endL z) := by
  have e : endL z = z ++ [10] := by
    unfold endL
    rw [if_neg]
    intro h2
    exact h 10 (List.mem_of_getLast? h2) rfl
  rw [e]
  refine ⟨?_, by simp⟩
  simp only [isLine, List.dropLast_concat]
  simp
  exact fun c hc => h c hc
theorem map_end {ls : List (List UInt8)} (h : ∀ x ∈ ls, x.getLast? = some 10) : ls.map endL = ls := by
  induction ls with
  | nil => rfl
  | cons a l ih =>
    rw [List.map_cons, ih fun x hx => h x (by simp [hx])]
    rw [endL, if_pos (h a (by simp))]
/-- What a region of whole lines is printed as. -/
def mk1 (oN tN : List UInt8) (two : Bool) (r : Rg) : List (List UInt8) :=
  if r.k = 2 then [endL (openM ++ oN)] ++ (r.o ++ ((if two then [endL baseM] ++ r.b else []) ++ ([endL divM] ++ (r.t ++ [endL (closeM ++ tN)])))) else r.l
theorem markAcc_eq (oN tN : List UInt8) (two : Bool) (n : Nat) : ∀ (gs : List Rg) (i : Nat), AllR (fun x => x.getLast? = some 10) gs → markAcc oN tN two n gs i = gs.flatMap (mk1 oN tN two)
  | [], _, _ => rfl
  | r :: gs, i, h => by
    rw [markAcc, List.flatMap_cons, markAcc_eq oN tN two n gs (i + 1) fun s hs => h s (by simp [hs])]
    have hr := h r (by simp)
    congr 1
    unfold markR mk1
    rw [map_end fun x hx => hr x (.inl hx), map_end fun x hx => hr x (.inr (.inl hx)), map_end fun x hx => hr x (.inr (.inr (.inl hx))), map_end fun x hx => hr x (.inr (.inr (.inr hx)))]
    split
    · simp only [List.append_assoc]
    · simp
theorem endL_len (z : List UInt8) : (endL z).length ≤ z.length + 1 := by
  unfold endL
  split <;> simp
theorem sz_mk {oN tN : List UInt8} (h : oN.length + tN.length ≤ 400) (two : Bool) (r : Rg) : szL (mk1 oN tN two r) ≤ szR r := by
  unfold mk1 szR
  split
  · have h1 := endL_len (openM ++ oN)
    have h2 := endL_len (closeM ++ tN)
    have h3 : (endL baseM).length = 8 := by decide
    have h4 : (endL divM).length = 8 := by decide
    have e : ∀ x : List UInt8, szL [x] = x.length + 1 := fun x => by simp [szL]
    have h5 : (if two = true then [endL baseM] ++ r.b else []) = [endL baseM] ++ r.b ∨ (if two = true then [endL baseM] ++ r.b else []) = [] := by
      cases two
      · exact .inr rfl
      · exact .inl rfl
    rw [List.length_append] at h1 h2
    have h6 : openM.length = 8 := rfl
    have h7 : closeM.length = 8 := rfl
    rcases h5 with h5 | h5
    · rw [h5]
      simp only [szL_app, e]
      omega
    · rw [h5]
      have e0 : szL [] = 0 := rfl
      simp only [szL_app, e, e0]
      omega
  · omega
theorem sz_flat {oN tN : List UInt8} (h : oN.length + tN.length ≤ 400) (two : Bool) (gs : List Rg) : szL (gs.flatMap (mk1 oN tN two)) ≤ sz gs := by
  induction gs with
  | nil => exact Nat.le_refl _
  | cons r gs ih =>
    have e : sz (r :: gs) = szR r + sz gs := by simp [sz]
    rw [List.flatMap_cons, szL_app, e]
    have := sz_mk h two r
    omega
theorem mem_mk {oN tN : List UInt8} {two : Bool} {r : Rg} {x : List UInt8} (h : x ∈ mk1 oN tN two r) : x = endL (openM ++ oN) ∨ x = endL baseM ∨ x = endL divM ∨ x = endL (closeM ++ tN) ∨ (x ∈ r.l ∨ x ∈ r.o ∨ x ∈ r.b ∨ x ∈ r.t) := by
  unfold mk1 at h
  split at h
  · simp only [List.mem_append, List.mem_singleton] at h
    rcases h with h | h | h | h | h | h
    · exact .inl h
    · exact .inr (.inr (.inr (.inr (.inr (.inl h)))))
    · cases two with
      | false => cases h
      | true =>
        simp only [if_true, List.mem_append, List.mem_singleton] at h
        rcases h with h | h
        · exact .inr (.inl h)
        · exact .inr (.inr (.inr (.inr (.inr (.inr (.inl h))))))
    · exact .inr (.inr (.inl h))
    · exact .inr (.inr (.inr (.inr (.inr (.inr (.inr h))))))
    · exact .inr (.inr (.inr (.inl h)))
  · exact .inr (.inr (.inr (.inr (.inl h))))
theorem wh_flat {oN tN : List UInt8} (ho : ∀ c ∈ oN, c ≠ 10) (ht : ∀ c ∈ tN, c ≠ 10) {two : Bool} {gs : List Rg} (h : AllR Wh gs) : ∀ x ∈ gs.flatMap (mk1 oN tN two), Wh x := fun x hx => by
  obtain ⟨r, hr, hx⟩ := List.mem_flatMap.mp hx
  rcases mem_mk hx with rfl | rfl | rfl | rfl | hx
  · refine wh_mark fun c hc => ?_
    rcases List.mem_append.mp hc with hc | hc
    · simp [openM] at hc; rcases hc with rfl | rfl <;> decide
    · exact ho c hc
  · refine wh_mark fun c hc => ?_
    simp [baseM] at hc; rw [hc]; decide
  · refine wh_mark fun c hc => ?_
    simp [divM] at hc; rw [hc]; decide
  · refine wh_mark fun c hc => ?_
    rcases List.mem_append.mp hc with hc | hc
    · simp [closeM] at hc; rcases hc with rfl | rfl <;> decide
    · exact ht c hc
  · exact h r hr x hx

theorem mkL_open (n : List UInt8) : mkL (endL (openM ++ n)) = 1 := by
  have h : opnL.isPrefixOf (endL (openM ++ n)) = true := by
    unfold endL
    split <;> simp [openM, opnL, List.isPrefixOf]
  rw [mkL, if_pos h]
theorem mkL_close (n : List UInt8) : mkL (endL (closeM ++ n)) = 4 := by
  have h1 : opnL.isPrefixOf (endL (closeM ++ n)) = false := by
    unfold endL
    split <;> simp [closeM, opnL, List.isPrefixOf]
  have h2 : clsL.isPrefixOf (endL (closeM ++ n)) = true := by
    unfold endL
    split <;> simp [closeM, clsL, List.isPrefixOf]
  rw [mkL, h1, if_neg (by decide), if_pos h2]
theorem mkL_base : mkL (endL baseM) = 2 := by decide +kernel
theorem mkL_div : mkL (endL divM) = 3 := by decide +kernel
theorem goP_app (a b : List (List UInt8)) : ∀ (st : Ps), goP (a ++ b) st = (goP a st).bind (goP b) := by
  induction a with
  | nil => intro st; rfl
  | cons x a ih =>
    intro st
    rw [List.cons_append, goP, goP]
    split
    · exact ih _
    split
    · exact ih _
    · rfl
theorem txS_1 (gs : List Rg) (o b t : List (List UInt8)) (x : List UInt8) : txS ⟨gs, o, b, t, 1⟩ x = ⟨gs, o ++ [x], b, t, 1⟩ := rfl
theorem txS_2 (gs : List Rg) (o b t : List (List UInt8)) (x : List UInt8) : txS ⟨gs, o, b, t, 2⟩ x = ⟨gs, o, b ++ [x], t, 2⟩ := rfl
theorem txS_3 (gs : List Rg) (o b t : List (List UInt8)) (x : List UInt8) : txS ⟨gs, o, b, t, 3⟩ x = ⟨gs, o, b, t ++ [x], 3⟩ := rfl
theorem txS_0 (gs : List Rg) (x : List UInt8) : txS ⟨gs, [], [], [], 0⟩ x = ⟨clG gs [x], [], [], [], 0⟩ := rfl
theorem goP_text {ls : List (List UInt8)} (h : ∀ x ∈ ls, mkL x = 0) : (∀ gs o b t, goP ls ⟨gs, o, b, t, 1⟩ = some ⟨gs, o ++ ls, b, t, 1⟩) ∧ (∀ gs o b t, goP ls ⟨gs, o, b, t, 2⟩ = some ⟨gs, o, b ++ ls, t, 2⟩) ∧ (∀ gs o b t, goP ls ⟨gs, o, b, t, 3⟩ = some ⟨gs, o, b, t ++ ls, 3⟩) := by
  induction ls with
  | nil => simp [goP]
  | cons x l ih =>
    obtain ⟨i1, i2, i3⟩ := ih fun y hy => h y (by simp [hy])
    have hx := h x (by simp)
    refine ⟨fun gs o b t => ?_, fun gs o b t => ?_, fun gs o b t => ?_⟩
    · rw [goP, if_pos hx, txS_1, i1, List.append_assoc]; rfl
    · rw [goP, if_pos hx, txS_2, i2, List.append_assoc]; rfl
    · rw [goP, if_pos hx, txS_3, i3, List.append_assoc]; rfl
theorem goP_one {ls : List (List UInt8)} (h : ∀ x ∈ ls, mkL x = 0) : ∀ (gs : List Rg) (l : List (List UInt8)), goP ls ⟨gs ++ [⟨1, l, [], [], []⟩], [], [], [], 0⟩ = some ⟨gs ++ [⟨1, l ++ ls, [], [], []⟩], [], [], [], 0⟩ := by
  induction ls with
  | nil => intro gs l; rw [List.append_nil]; rfl
  | cons x r ih =>
    intro gs l
    have hx := h x (by simp)
    rw [goP, if_pos hx, txS_0, clG_one, ih fun y hy => h y (by simp [hy]), List.append_assoc]
    rfl
theorem goP_cl {ls : List (List UInt8)} (h : ∀ x ∈ ls, mkL x = 0) (hl : ls ≠ []) {gs : List Rg} (hg : ∀ r, gs.getLast? = some r → r.k = 2) : goP ls ⟨gs, [], [], [], 0⟩ = some ⟨gs ++ [⟨1, ls, [], [], []⟩], [], [], [], 0⟩ := by
  cases ls with
  | nil => exact absurd rfl hl
  | cons x r =>
    rw [goP, if_pos (h x (by simp)), txS_0, clG_two hg (by simp), goP_one fun y hy => h y (by simp [hy])]
    rfl
/-- What is read back of a region. -/
def stR (two : Bool) (r : Rg) : Rg := ⟨r.k, r.l, r.o, if two then r.b else [], r.t⟩
theorem goP_conf (oN tN : List UInt8) (two : Bool) {o b t : List (List UInt8)} (gs : List Rg) (ho : ∀ x ∈ o, mkL x = 0) (hb : ∀ x ∈ b, mkL x = 0) (ht : ∀ x ∈ t, mkL x = 0) :
    goP (mk1 oN tN two ⟨2, [], o, b, t⟩) ⟨gs, [], [], [], 0⟩ = some ⟨gs ++ [⟨2, [], o, if two then b else [], t⟩], [], [], [], 0⟩ := by
  have hS : ∀ (m : Nat) (x : List UInt8) (l : List (List UInt8)) (st : Ps), mkL x = m → m ≠ 0 → nestB m st.last = true → goP ([x] ++ l) st = goP l (mkS st m) := fun m x l st h1 h2 h3 => by
    rw [List.singleton_append, goP, h1, if_neg h2, if_pos h3]
  unfold mk1
  rw [if_pos rfl, hS 1 _ _ _ (mkL_open oN) (by decide) rfl, goP_app, show mkS ⟨gs, [], [], [], 0⟩ 1 = ⟨gs, [], [], [], 1⟩ from rfl, (goP_text ho).1, Option.bind_some, List.nil_append]
  have hE : ∀ (B : List (List UInt8)), goP (t ++ [endL (closeM ++ tN)]) ⟨gs, o, B, [], 3⟩ = some ⟨gs ++ [⟨2, [], o, B, t⟩], [], [], [], 0⟩ := fun B => by
    rw [goP_app, (goP_text ht).2.2, Option.bind_some, List.nil_append]
    have := hS 4 (endL (closeM ++ tN)) [] ⟨gs, o, B, t, 3⟩ (mkL_close tN) (by decide) rfl
    rw [List.append_nil] at this
    rw [this]
    rfl
  cases two with
  | false =>
    show goP ([] ++ ([endL divM] ++ _)) _ = _
    rw [List.nil_append, hS 3 _ _ _ mkL_div (by decide) rfl]
    exact hE []
  | true =>
    show goP (([endL baseM] ++ b) ++ ([endL divM] ++ _)) _ = _
    rw [List.append_assoc, hS 2 _ _ _ mkL_base (by decide) rfl, goP_app, show mkS ⟨gs, o, [], [], 1⟩ 2 = ⟨gs, o, [], [], 2⟩ from rfl, (goP_text hb).2.1, Option.bind_some, List.nil_append, hS 3 _ _ _ mkL_div (by decide) rfl]
    exact hE b
theorem last_st {gs : List Rg} {two : Bool} (h : ∀ r, gs.getLast? = some r → r.k = 2) : ∀ r, (gs.map (stR two)).getLast? = some r → r.k = 2 := fun r hr => by
  rw [List.getLast?_map] at hr
  cases hg : gs.getLast? with
  | none => rw [hg] at hr; cases hr
  | some s =>
    rw [hg] at hr
    simp only [Option.map_some, Option.some.injEq] at hr
    rw [← hr]
    exact h s hg
theorem goP_back (oN tN : List UInt8) (two : Bool) {gs : List Rg} (h : Wf gs) : AllR (fun x => mkL x = 0) gs → goP (gs.flatMap (mk1 oN tN two)) ⟨[], [], [], [], 0⟩ = some ⟨gs.map (stR two), [], [], [], 0⟩ := by
  induction h with
  | nil => intro _; rfl
  | cl gs l h1 h2 h3 ih =>
    intro ha
    have hl := ha.init.2 _ (List.mem_singleton.mpr rfl)
    rw [List.flatMap_append, goP_app, ih ha.init.1, Option.bind_some, List.map_append]
    show goP (mk1 oN tN two ⟨1, l, [], [], []⟩ ++ []) _ = _
    rw [List.append_nil, mk1, if_neg (show ¬ (1 : Int) = 2 by decide), goP_cl (fun x hx => hl x (.inl hx)) h3 (last_st h2)]
    cases two <;> rfl
  | cf gs o b t h1 ih =>
    intro ha
    have hl := ha.init.2 _ (List.mem_singleton.mpr rfl)
    rw [List.flatMap_append, goP_app, ih ha.init.1, Option.bind_some, List.map_append]
    show goP (mk1 oN tN two ⟨2, [], o, b, t⟩ ++ []) _ = _
    rw [List.append_nil, goP_conf oN tN two _ (fun x hx => hl x (.inr (.inl hx))) (fun x hx => hl x (.inr (.inr (.inl hx)))) (fun x hx => hl x (.inr (.inr (.inr hx))))]
    rfl
theorem st_true (gs : List Rg) : gs.map (stR true) = gs := by
  rw [show stR true = id from rfl, List.map_id]
theorem mkd_flat (oN tN : List UInt8) (two : Bool) {gs : List Rg} (h : AllR (fun x => mkL x = 0) gs) : mkdL (gs.flatMap (mk1 oN tN two)) = !cleanB gs := by
  induction gs with
  | nil => rfl
  | cons r gs ih =>
    have ih := ih fun s hs => h s (by simp [hs])
    unfold mkdL cleanB at ih ⊢
    rw [List.flatMap_cons, List.any_append, ih, List.all_cons, Bool.not_and, Bool.not_not]
    congr 1
    by_cases hk : r.k = 2
    · rw [decide_eq_true hk, mk1, if_pos hk, List.any_append]
      have : ([endL (openM ++ oN)].any fun l => decide (mkL l ≠ 0)) = true := by
        rw [List.any_cons, mkL_open]
        rfl
      rw [this, Bool.true_or]
    · rw [decide_eq_false hk, mk1, if_neg hk, List.any_eq_false]
      intro x hx
      have := h r (by simp) x (.inl hx)
      simp [this]
theorem clean_sides {gs : List Rg} (h : cleanB gs = true) : linesL 1 gs = linesL 2 gs := by
  unfold linesL
  induction gs with
  | nil => rfl
  | cons r gs ih =>
    unfold cleanB at h ih
    rw [List.all_cons, Bool.and_eq_true] at h
    rw [List.flatMap_cons, List.flatMap_cons, ih h.2]
    have : ¬ r.k = 2 := by simpa using h.1
    rw [sideL, sideL, if_neg this, if_neg this]
/-- What is read of a marked text. -/
theorem par_back {oN tN : List UInt8} (ho : ∀ c ∈ oN, c ≠ 10) (ht : ∀ c ∈ tN, c ≠ 10) (two : Bool) (n : Nat) {gs : List Rg} (h : Wf gs) (hw : AllR Wh gs) (hm : AllR (fun x => mkL x = 0) gs) :
    split (join (markAcc oN tN two n gs 0)) = gs.flatMap (mk1 oN tN two) ∧ parL (gs.flatMap (mk1 oN tN two)) = some (gs.map (stR two)) := by
  rw [markAcc_eq oN tN two n gs 0 fun r hr x hx => (hw r hr x hx).2, join_split (okL (wh_flat ho ht hw)), parL, goP_back oN tN two h hm]
  exact ⟨rfl, rfl⟩
end Go.Proofs.Ytidghjalfbklnaa
