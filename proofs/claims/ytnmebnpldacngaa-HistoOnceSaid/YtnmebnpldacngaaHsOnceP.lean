/-
  Plain mathematics: where each line comes once, and both lists keep one order, the histogram script costs as little as the least.
-/
import Derived.Test.YtnmebnpldacngaaHsVal2
namespace Go.Proofs.Ytnmebnpldacngaa

theorem anc_none_o {a b : List (List UInt8)} (h : anc a b = none) {i : Nat} (hi : i < a.length) (hb : a[i] ∈ b) : 64 < a.count a[i] := by
  have h1 := anc_is a b
  rw [h] at h1
  obtain ⟨j, hj, he⟩ := List.getElem_of_mem hb
  have hij : a[i]? = b[j]? := by rw [List.getElem?_eq_getElem hi, List.getElem?_eq_getElem hj, he]
  obtain ⟨hr, _⟩ := run_is (a := a) (b := b) hi hj hij
  have h2 := h1 _ hr
  have hbk := bk_le a b i j
  have hc := (run_is (a := a) (b := b) hi hj hij).2
  have h3 := rr_le (a := a) (r := run a b i j) (k := bk a b i j) (x := a[i]) (by simp only [run]; omega) (by simp only [run]; rw [show i - bk a b i j + bk a b i j = i by omega]; exact List.getElem?_eq_getElem hi)
  have h4 : @List.count _ instBEqOfDecidableEq a[i] a = a.count a[i] := List.countP_congr fun x _ => ⟨fun h => beq_iff_eq.mpr (of_decide_eq_true h), fun h => decide_eq_true (beq_iff_eq.mp h)⟩
  omega

/-- A list in one order: each line has a greater key than those ahead of it. -/
def Up (K : List UInt8 → Nat) (X : List (List UInt8)) : Prop := X.Pairwise fun a b => K a < K b
theorem Up.sub {K : List UInt8 → Nat} {X Y : List (List UInt8)} (h : Up K X) (hs : Y.Sublist X) : Up K Y := List.Pairwise.sublist hs h
theorem Up.nodup {K : List UInt8 → Nat} {X : List (List UInt8)} (h : Up K X) : X.Nodup := List.Pairwise.imp (fun hab e => by subst e; exact Nat.lt_irrefl _ hab) h
theorem Up.lt {K : List UInt8 → Nat} {X : List (List UInt8)} (h : Up K X) {i j : Nat} (hi : i < X.length) (hj : j < X.length) (hij : i < j) : K X[i] < K X[j] := List.pairwise_iff_getElem.1 h i j hi hj hij
/-- How many lines of the first list come in the second. -/
def cc (X Y : List (List UInt8)) : Nat := (X.filter (fun x => decide (x ∈ Y))).length
theorem cc_app (A B Y : List (List UInt8)) : cc (A ++ B) Y = cc A Y + cc B Y := by unfold cc; rw [List.filter_append, List.length_append]
theorem cc_len (A Y : List (List UInt8)) : cc A Y ≤ A.length := List.length_filter_le _ _
theorem cc_mono {A Y Z : List (List UInt8)} (h : ∀ x ∈ A, x ∈ Y → x ∈ Z) : cc A Y ≤ cc A Z := by
  unfold cc
  induction A with
  | nil => simp
  | cons a A ih =>
    have h1 := ih fun x hx => h x (by simp [hx])
    rw [List.filter_cons, List.filter_cons]
    by_cases e : a ∈ Y
    · rw [if_pos (decide_eq_true e), if_pos (decide_eq_true (h a (by simp) e))]
      simp only [List.length_cons]
      omega
    · rw [if_neg (by simpa using e)]
      split
      · simp only [List.length_cons]; omega
      · exact h1
theorem cc_zero {A Y : List (List UInt8)} (h : ∀ x ∈ A, x ∉ Y) : cc A Y = 0 := by
  unfold cc
  rw [List.length_eq_zero_iff, List.filter_eq_nil_iff]
  intro x hx
  simpa using h x hx
theorem lcs_cc : ∀ (X Y : List (List UInt8)), lcs X Y ≤ cc X Y
  | [], _ => by rw [lcs]; exact Nat.zero_le _
  | _ :: _, [] => by rw [lcs]; exact Nat.zero_le _
  | x :: a, y :: b => by
    rw [lcs]
    split
    · rename_i e
      subst e
      have h1 := lcs_cc a b
      have h2 : cc a b ≤ cc a (x :: b) := cc_mono fun z _ hz => List.mem_cons_of_mem _ hz
      have h3 : cc (x :: a) (x :: b) = 1 + cc a (x :: b) := by
        unfold cc
        rw [List.filter_cons, if_pos (by simp), List.length_cons]
        omega
      omega
    · have h1 := lcs_cc a (y :: b)
      have h2 := lcs_cc (x :: a) b
      have h3 : cc (x :: a) b ≤ cc (x :: a) (y :: b) := cc_mono fun z _ hz => List.mem_cons_of_mem _ hz
      have h4 : cc a (y :: b) ≤ cc (x :: a) (y :: b) := by
        unfold cc
        rw [List.filter_cons]
        split
        · simp only [List.length_cons]; omega
        · exact Nat.le_refl _
      omega
termination_by a b => a.length + b.length

/-- All lines of runs. -/
def rsumN (l : List Rn) : Int := (l.map Rn.n).sum
theorem rsumN_app (a b : List Rn) : rsumN (a ++ b) = rsumN a + rsumN b := by unfold rsumN; rw [List.map_append, List.sum_append]
theorem rsumN_kp (i j : Int) (n : Nat) : rsumN (kp i j n) = n := by
  unfold kp
  split
  · simp [rsumN]
  · simp [rsumN]; omega
theorem rsumN_flat (l : List Rn) (i j : Int) : 0 ≤ rsumN (l.flatMap fun r => kp (i + r.a) (j + r.b) r.n) := by
  induction l with
  | nil => exact Int.le_refl _
  | cons r l ih =>
    rw [List.flatMap_cons, rsumN_app]
    have : 0 ≤ rsumN (kp (i + r.a) (j + r.b) r.n) := by
      unfold kp
      split
      · simp [rsumN]; omega
      · simp [rsumN]
    omega
theorem cc_none {X Y : List (List UInt8)} (hX : X.Nodup) (h : anc X Y = none) : cc X Y = 0 := cc_zero fun x hx hy => by
  obtain ⟨i, hi, rfl⟩ := List.getElem_of_mem hx
  have h1 := anc_none_o h hi hy
  have h2 := List.nodup_iff_count.1 hX X[i]
  omega
theorem mem_split3 {X : List (List UInt8)} (a n : Nat) : X = X.take a ++ ((X.drop a).take n ++ X.drop (a + n)) := by
  rw [← List.drop_drop, List.take_append_drop, List.take_append_drop]
theorem cc_some {K : List UInt8 → Nat} {X Y : List (List UInt8)} (hX : Up K X) (hY : Up K Y) {r : Ru} (h : anc X Y = some r) :
    cc X Y ≤ cc (X.take r.a) (Y.take r.b) + r.n + cc (X.drop (r.a + r.n)) (Y.drop (r.b + r.n)) := by
  have h0 := anc_is X Y
  rw [h] at h0
  obtain ⟨hr, _, _⟩ := h0
  have p1 := hr.pos
  have p2 := hr.la
  have p3 := hr.lb
  have e0 : X[r.a]'(by omega) = Y[r.b]'(by omega) := by
    have := hr.eq 0 p1
    rw [Nat.add_zero, Nat.add_zero, List.getElem?_eq_getElem (by omega), List.getElem?_eq_getElem (by omega)] at this
    exact Option.some.inj this
  have e1 : X[r.a + (r.n - 1)]'(by omega) = Y[r.b + (r.n - 1)]'(by omega) := by
    have := hr.eq (r.n - 1) (by omega)
    rw [List.getElem?_eq_getElem (by omega), List.getElem?_eq_getElem (by omega)] at this
    exact Option.some.inj this
  have hsp : cc X Y = cc (X.take r.a) Y + (cc ((X.drop r.a).take r.n) Y + cc (X.drop (r.a + r.n)) Y) := by
    conv => lhs; rw [mem_split3 (X := X) r.a r.n]
    rw [cc_app, cc_app]
  have q1 : cc (X.take r.a) Y ≤ cc (X.take r.a) (Y.take r.b) := cc_mono fun x hx hy => by
    obtain ⟨i, hi, rfl⟩ := List.getElem_of_mem hx
    rw [List.length_take] at hi
    rw [List.getElem_take] at hy ⊢
    obtain ⟨j, hj, he⟩ := List.getElem_of_mem hy
    have k1 : K X[i] < K X[r.a] := hX.lt (by omega) (by omega) (by omega)
    rw [← he] at k1 ⊢
    rw [e0] at k1
    have hjb : j < r.b := by
      rcases Nat.lt_or_ge j r.b with h | h
      · exact h
      · rcases Nat.lt_or_ge r.b j with h2 | h2
        · have := hY.lt (i := r.b) (j := j) (by omega) hj h2; omega
        · have : j = r.b := by omega
          subst this
          exact absurd k1 (Nat.lt_irrefl _)
    exact List.mem_take_iff_getElem.2 ⟨j, by omega, rfl⟩
  have q2 : cc ((X.drop r.a).take r.n) Y ≤ r.n := Nat.le_trans (cc_len _ _) (by rw [List.length_take]; omega)
  have q3 : cc (X.drop (r.a + r.n)) Y ≤ cc (X.drop (r.a + r.n)) (Y.drop (r.b + r.n)) := cc_mono fun x hx hy => by
    obtain ⟨i, hi, rfl⟩ := List.getElem_of_mem hx
    rw [List.length_drop] at hi
    rw [List.getElem_drop] at hy ⊢
    obtain ⟨j, hj, he⟩ := List.getElem_of_mem hy
    have k1 : K X[r.a + (r.n - 1)] < K X[r.a + r.n + i] := hX.lt (by omega) (by omega) (by omega)
    rw [← he] at k1 ⊢
    rw [e1] at k1
    have hjb : r.b + r.n ≤ j := by
      rcases Nat.lt_or_ge (r.b + (r.n - 1)) j with h | h
      · omega
      · rcases Nat.lt_or_ge j (r.b + (r.n - 1)) with h2 | h2
        · have := hY.lt (i := j) (j := r.b + (r.n - 1)) hj (by omega) h2; omega
        · have e5 : j = r.b + (r.n - 1) := by omega
          subst e5
          exact absurd k1 (Nat.lt_irrefl _)
    rw [List.mem_iff_getElem]
    exact ⟨j - (r.b + r.n), by rw [List.length_drop]; omega, by rw [List.getElem_drop]; congr 1; omega⟩
  omega
/-- The lines kept at both ends, and those between. -/
theorem cc_ends {X Y : List (List UInt8)} (hX : X.Nodup) : cc X Y ≤ cpre X Y + cc (inr X Y X) (inr X Y Y) + tl X Y := by
  obtain ⟨C, hC⟩ : ∃ C, C = cpre X Y := ⟨_, rfl⟩
  obtain ⟨T, hT⟩ : ∃ T, T = tl X Y := ⟨_, rfl⟩
  have hCle := cpre_le X Y
  have hTle := csuf_le (X.drop C) (Y.drop C)
  rw [List.length_drop, List.length_drop, show csuf (X.drop C) (Y.drop C) = T by rw [hT, tl, hC]] at hTle
  rw [← hC] at hCle
  have htk : X.take C = Y.take C := by rw [hC]; exact cpre_take X Y
  have hst := csuf_take (X.drop C) (Y.drop C)
  rw [show csuf (X.drop C) (Y.drop C) = T by rw [hT, tl, hC], List.length_drop, List.length_drop, List.drop_drop, List.drop_drop] at hst
  have hix : inr X Y X = (X.drop C).take (X.length - C - T) := by rw [inr, ← hC, ← hT]
  have hiy : inr X Y Y = (Y.drop C).take (Y.length - C - T) := by rw [inr, ← hC, ← hT]
  have eX : X = X.take C ++ (inr X Y X ++ X.drop (C + (X.length - C - T))) := by rw [hix]; exact mem_split3 C (X.length - C - T)
  have eY : Y = Y.take C ++ (inr X Y Y ++ Y.drop (C + (Y.length - C - T))) := by rw [hiy]; exact mem_split3 C (Y.length - C - T)
  have hsX : (X.drop (C + (X.length - C - T))).take T = X.drop (C + (X.length - C - T)) := List.take_of_length_le (by rw [List.length_drop]; omega)
  have hsY : (Y.drop (C + (Y.length - C - T))).take T = Y.drop (C + (Y.length - C - T)) := List.take_of_length_le (by rw [List.length_drop]; omega)
  rw [hsX, hsY] at hst
  rw [← hC, ← hT]
  have h1 : cc X Y = cc (X.take C) Y + (cc (inr X Y X) Y + cc (X.drop (C + (X.length - C - T))) Y) := by
    conv => lhs; rw [eX]
    rw [cc_app, cc_app]
  have h2 : cc (X.take C) Y ≤ C := Nat.le_trans (cc_len _ _) (by rw [List.length_take]; omega)
  have h3 : cc (X.drop (C + (X.length - C - T))) Y ≤ T := Nat.le_trans (cc_len _ _) (by rw [List.length_drop]; omega)
  have h4 : cc (inr X Y X) Y ≤ cc (inr X Y X) (inr X Y Y) := cc_mono fun x hx hy => by
    have hn := hX
    rw [eX] at hn
    obtain ⟨_, hn2, hd⟩ := List.nodup_append.1 hn
    obtain ⟨_, _, hd2⟩ := List.nodup_append.1 hn2
    rw [eY, List.mem_append, List.mem_append] at hy
    rcases hy with hy | hy | hy
    · rw [← htk] at hy
      exact absurd rfl (hd x hy x (by simp [hx]))
    · exact hy
    · rw [← hst] at hy
      exact absurd rfl (hd2 x hx x hy)
  omega
theorem sp_cc {K : List UInt8 → Nat} (LS : List (List UInt8) → List (List UInt8) → List Rn) : ∀ (k : Nat) (X Y : List (List UInt8)) (i j : Int), Up K X → Up K Y → X.length + Y.length < k → (cc X Y : Int) ≤ rsumN (sp LS k X Y i j)
  | 0, _, _, _, _, _, _, h => absurd h (Nat.not_lt_zero _)
  | k + 1, X, Y, i, j, hX, hY, hk => by
    have h1 := cc_ends (Y := Y) hX.nodup
    have hxl := inr_len X Y X
    have hyl := inr_len X Y Y
    have hXi : Up K (inr X Y X) := hX.sub ((List.take_sublist _ _).trans (List.drop_sublist _ _))
    have hYi : Up K (inr X Y Y) := hY.sub ((List.take_sublist _ _).trans (List.drop_sublist _ _))
    rw [sp, rsumN_app, rsumN_app, rsumN_kp, rsumN_kp]
    have h2 : (cc (inr X Y X) (inr X Y Y) : Int) ≤ rsumN (if (inr X Y X).length = 0 ∨ (inr X Y Y).length = 0 then [] else mid LS (sp LS k) (inr X Y X) (inr X Y Y) (i + cpre X Y) (j + cpre X Y)) := by
      split
      · rename_i h0
        have : cc (inr X Y X) (inr X Y Y) = 0 := by
          rcases h0 with h0 | h0
          · rw [List.eq_nil_of_length_eq_zero h0]; rfl
          · rw [List.eq_nil_of_length_eq_zero h0]; exact cc_zero fun x _ => by simp
        rw [this]
        exact Int.le_refl _
      · unfold mid
        split
        · rename_i ho
          rw [cc_none hXi.nodup ho]
          exact rsumN_flat _ _ _
        · rename_i r ho
          have h3 := cc_some hXi hYi ho
          have h0 := anc_is (inr X Y X) (inr X Y Y)
          rw [ho] at h0
          obtain ⟨hr, _, _⟩ := h0
          have p1 := hr.pos
          have p2 := hr.la
          have p3 := hr.lb
          have h4 := sp_cc LS k ((inr X Y X).take r.a) ((inr X Y Y).take r.b) (i + cpre X Y) (j + cpre X Y) (hXi.sub (List.take_sublist _ _)) (hYi.sub (List.take_sublist _ _)) (by rw [List.length_take, List.length_take]; omega)
          have h5 := sp_cc LS k ((inr X Y X).drop (r.a + r.n)) ((inr X Y Y).drop (r.b + r.n)) (i + cpre X Y + (r.a + r.n : Nat)) (j + cpre X Y + (r.b + r.n : Nat)) (hXi.sub (List.drop_sublist _ _)) (hYi.sub (List.drop_sublist _ _)) (by rw [List.length_drop, List.length_drop]; omega)
          rw [rsumN_app, rsumN_app, rsumN_kp]
          omega
    omega
theorem csum_chg (i j i' j' : Int) (acc : List Ed) (h1 : i ≤ i') (h2 : j ≤ j') : csum (chg i j i' j' acc) = csum acc + (i' - i) + (j' - j) := by
  have happ : ∀ (a : List Ed) (e : Ed), csum (a ++ [e]) = csum a + (e.d + e.i) := fun a e => by
    induction a with
    | nil => simp [csum]
    | cons x a ih => rw [List.cons_append, csum, csum, ih]; omega
  unfold chg
  split
  · rw [happ]
    simp only
    omega
  · omega
theorem ofL_cost {A B : List (List UInt8)} : ∀ (l : List Rn) (i j : Nat) (acc : List Ed), Ch A B l i j A.length B.length → i ≤ A.length → j ≤ B.length →
    csum (ofL A.length B.length l i j acc) = csum acc + ((A.length : Int) - i) + ((B.length : Int) - j) - 2 * rsumN l
  | [], i, j, acc, _, hi, hj => by
    rw [ofL, csum_chg _ _ _ _ _ (by omega) (by omega)]
    simp [rsumN]
  | r :: l, i, j, acc, h, hi, hj => by
    obtain ⟨a, b, n, rfl, h1, h2, h3, h4, h5, _, h7⟩ := h
    have hok : okR ⟨(a : Int), (b : Int), (n : Int)⟩ i j A.length B.length := by unfold okR; simp only; omega
    have ih := ofL_cost l (a + n) (b + n) (chg (i : Int) (j : Int) (a : Int) (b : Int) acc) h7 h4 h5
    rw [ofL_go hok]
    simp only at ih ⊢
    rw [show ((a : Int) + (n : Int)) = ((a + n : Nat) : Int) by omega, show ((b : Int) + (n : Int)) = ((b + n : Nat) : Int) by omega, ih, csum_chg _ _ _ _ _ (by omega) (by omega)]
    have : rsumN (⟨(a : Int), (b : Int), (n : Int)⟩ :: l) = n + rsumN l := by simp [rsumN]
    rw [this]
    omega
theorem once_cost {K : List UInt8 → Nat} {la lb : List (List UInt8)} (ha : la.length ≤ 4096) (hb : lb.length ≤ 4096) (hA : Up K la) (hB : Up K lb) : csum (scL la lb) = csum (leastL la lb) := by
  have h1 := (scL_cost ha hb).1
  have h2 := leastL_cost (la := la) (lb := lb) ⟨ha, hb⟩
  have h3 := sp_cc LSr (la.length + lb.length + 1) la lb 0 0 hA hB (by omega)
  have h4 := lcs_cc la lb
  have hch := sp_ch la lb ha hb (la.length + lb.length + 1) la lb la.length lb.length 0 0 (by simp) (by simp) (by omega) (by omega) (by omega)
  simp only [Int.natCast_zero, Nat.zero_add] at hch
  have h5 := ofL_cost (sp LSr (la.length + lb.length + 1) la lb 0 0) 0 0 [] hch (Nat.zero_le _) (Nat.zero_le _)
  have h6 : csum (scL la lb) = csum (ofL la.length lb.length (sp LSr (la.length + lb.length + 1) la lb 0 0) 0 0 []) := by
    unfold scL fromL
    rw [if_neg (by omega)]
  simp only [Int.natCast_zero] at h5
  rw [h5] at h6
  simp only [csum] at h6
  omega
end Go.Proofs.Ytnmebnpldacngaa
