/-
  The walk of the reference's stay, over its middle.
-/
import Derived.Test.YtnmebnpldacngaaHsRJoin
import Derived.Test.YtnmebnpldacngaaHsRRun
import Derived.Test.YtnmebnpldacngaaDfRLst
namespace Go.Proofs.Ytnmebnpldacngaa
open Go.RowKit

theorem app_none_r (w : World) (base : Nat) (t ty e : TypeId) (i : TypeInfo) (size : Nat) (ht : Try.prog.underlying t = some (.slice e)) (hi : Try.prog.info? e = some i) (v : Value) (n : Nat) (xs : List Value) (ho : w.ownsRow base e size v n xs) (c : Nat) :
    (Builtin.append_ #[t, t] ty #[v, .slice none 0 c]).run Try.prog w = .ok v w := by
  rcases ho.2 with ⟨rfl, rfl⟩ | ⟨g, cap, cur, rfl, _, _, hc, _⟩ <;> simp [Builtin.append_, run_underlying ht, sizeOf, typeInfo, hi, Builtin.lenOf, Builtin.firstCells, storeCells, *]
/-- append of a row of runs that is read to a row of the call's own. -/
theorem app_rrw (w : World) {ops : Array Oper} {rest : List Oper} {o : Oper} {a : Act} {Q : Exit → Act → World → Prop} (hgd : o.guard = none) (s x : Operand) (t : TypeId)
    (ho : o.op = .call { callee := .builtin .append, args := #[s, x], argTypes := #[t, t] }) (ht : Try.prog.underlying t = some (.slice 30))
    (base : Nat) (v : Value) (n : Nat) (acc : List Rn) (hs : a.eval s = v) (hn : n = acc.length) (hown : ROw w base v acc)
    (p : Option Addr) (m c : Nat) (news : List Rn) (hx : a.eval x = .slice p m c) (hm : m = news.length) (hr : RRw w p news)
    (hb : n + m ≤ 1048576) (hbase : base ≤ w.heap.size)
    (h : ∀ q cap w', ROw w' base (.slice q (n + m) cap) (acc ++ news) → w.grownBy w' v.ownBlock → wpList Try.prog ops Q rest (a.put o.dst (.slice q (n + m) cap)) w') : wpList Try.prog ops Q (o :: rest) a w := by
  obtain ⟨i0, hi, hz0, hz1, hz2⟩ := info_parts Try.infoRn
  have hown' : w.ownsRow base 30 3 v n (rcells acc) := hown.of hn
  have fin : ∀ v' w', w'.ownsRow base 30 3 v' (n + m) (rcells acc ++ rcells news) → w.grownBy w' v.ownBlock → wpList Try.prog ops Q rest (a.put o.dst v') w' := fun v' w' h1 h2 => by
    have h3 : ROw w' base v' (acc ++ news) := by
      unfold ROw
      rw [List.length_append, ← hn, ← hm, rcells, List.flatMap_append]
      exact h1
    obtain ⟨q, cap, rfl⟩ := h3.shapeN (n := n + m) (by rw [List.length_append, hn, hm])
    exact h q cap w' h3 h2
  rcases p with _ | ad
  · have h0 : news = [] := by
      cases news with
      | nil => rfl
      | cons y l =>
        obtain ⟨g, o', h1, _⟩ := hr 0 (by simp)
        cases h1
    subst h0
    obtain rfl : m = 0 := hm
    refine wpList_plain hgd fun K hK => ?_
    have hrun := app_none_r w base t o.type 30 i0 3 ht hi v n (rcells acc) hown' c
    unfold Oper.wp
    simp [execOp, ho, resolve, invoke, builtin, hs, hx, hrun, Result.andThen]
    exact hK _ _ (fin v w (by simpa [rcells] using hown') ⟨rfl, rfl, rfl, Nat.le_refl _, fun _ _ _ => rfl⟩)
  · refine wpList_append_own w hgd s x t ho base 30 i0 (.agg #[.int .i64 0, .int .i64 0, .int .i64 0]) 3 24 ht hi hz0 hz1 hz2 rfl (by decide) v n (rcells acc) hs hown' ad m c (rcells news) hx (by rw [rcells_len, hm]) (fun j u hj => ?_) (fun u hu => ?_) (by unfold maxLen; omega) (by omega) hbase (fun v' w' h1 h2 _ => fin v' w' h1 h2)
    · have hj' : j < news.length * 3 := by
        have := (List.getElem?_eq_some_iff.mp hj).1
        rwa [rcells_len] at this
      obtain ⟨k, e, he, rfl⟩ : ∃ k e, e < 3 ∧ j = k * 3 + e := ⟨j / 3, j % 3, Nat.mod_lt _ (by decide), by omega⟩
      have hk : k < news.length := by omega
      obtain ⟨g, o', h1, _, h2, h3, h4⟩ := hr k hk
      simp only [Option.some.injEq] at h1
      subst h1
      rw [rcells_at news k e hk he] at hj
      rw [Addr.add_lit]
      match e, he with
      | 0, _ => rw [show o' + (k * 3 + 0) = o' + k * 3 by omega, h2]; simpa [Rn.cells] using hj
      | 1, _ => rw [show o' + (k * 3 + 1) = o' + k * 3 + 1 by omega, h3]; simpa [Rn.cells] using hj
      | 2, _ => rw [show o' + (k * 3 + 2) = o' + k * 3 + 2 by omega, h4]; simpa [Rn.cells] using hj
    · simp only [rcells, List.mem_flatMap] at hu
      obtain ⟨r, _, hr⟩ := hu
      exact rn_one r u hr

/-- What stay answers. -/
def StayP (k : Nat) : Prop := ∀ (X Y : List (List UInt8)) (p q : Option Addr) (c d n m : Nat) (w : World), n = X.length → m = Y.length → SRw w p X → SRw w q Y → n ≤ c → m ≤ d → n ≤ 2000 → m ≤ 2000 → n + m < k →
  Calls Try.prog 27 #[.slice p n c, .slice q m d] w fun e w' => (∃ v, e = .returned v ∧ ROw w' w.heap.size v (sp LSr k X Y 0 0)) ∧ Below w.heap.size w w'
/-- What middle answers. -/
def MiddP (k : Nat) : Prop := ∀ (X Y : List (List UInt8)) (p q : Option Addr) (c d n m : Nat) (w : World), n = X.length → m = Y.length → SRw w p X → SRw w q Y → n ≤ c → m ≤ d → n ≤ 2000 → m ≤ 2000 → n + m ≤ k →
  Calls Try.prog 45 #[.slice p n c, .slice q m d] w fun e w' => (∃ v, e = .returned v ∧ ROw w' w.heap.size v (mid LSr (sp LSr k) X Y 0 0)) ∧ Below w.heap.size w w'
theorem sp_all {k : Nat} {X Y : List (List UInt8)} (hx : X.length ≤ 4096) (hy : Y.length ≤ 4096) (hk : X.length + Y.length < k) : ∀ r ∈ sp LSr k X Y 0 0, ∃ a b n : Nat, r = ⟨a, b, n⟩ ∧ 1 ≤ n ∧ a + n ≤ X.length ∧ b + n ≤ Y.length := by
  have h := sp_ch X Y (by omega) (by omega) k X Y X.length Y.length 0 0 (by simp) (by simp) (by omega) (by omega) hk
  simp only [Int.natCast_zero] at h
  exact h.all
theorem sp_inn {N k : Nat} {X Y : List (List UInt8)} (hx : X.length ≤ N) (hy : Y.length ≤ N) (hN : N ≤ 4096) (hk : X.length + Y.length < k) : ∀ r ∈ sp LSr k X Y 0 0, Inn N r := by
  have h := sp_ch X Y (by omega) (by omega) k X Y X.length Y.length 0 0 (by simp) (by simp) (by omega) (by omega) hk
  simp only [Int.natCast_zero] at h
  exact ch_inn h hx hy
theorem mid_inn {N k : Nat} {X Y : List (List UInt8)} (hx : X.length ≤ N) (hy : Y.length ≤ N) (hN : N ≤ 4096) (hk : X.length + Y.length ≤ k) : ∀ r ∈ mid LSr (sp LSr k) X Y 0 0, Inn N r := by
  cases h : anc X Y with
  | none =>
    rw [mid_none (by omega) (by omega) h]
    exact ch_inn (lsr_ch (by omega) (by omega)) hx hy
  | some r =>
    obtain ⟨h1, h2, h3⟩ := anc_facts h
    rw [mid_some h]
    intro z hz
    rw [List.mem_append, List.mem_append, List.mem_singleton, List.mem_map] at hz
    rcases hz with (hz | rfl) | ⟨y, hy2, rfl⟩
    · exact sp_inn (X := X.take r.a) (Y := Y.take r.b) (by rw [List.length_take]; omega) (by rw [List.length_take]; omega) hN (by rw [List.length_take, List.length_take]; omega) z hz
    · exact ⟨r.a, r.b, r.n, rfl, h1, by omega, by omega⟩
    · obtain ⟨a, b, n, rfl, g1, g2, g3⟩ := sp_all (X := X.drop (r.a + r.n)) (Y := Y.drop (r.b + r.n)) (by rw [List.length_drop]; omega) (by rw [List.length_drop]; omega) (by rw [List.length_drop, List.length_drop]; omega) y hy2
      rw [List.length_drop] at g2 g3
      exact ⟨a + (r.a + r.n), b + (r.b + r.n), n, by simp [sh], g1, by omega, by omega⟩
theorem cpre_at {X Y : List (List UInt8)} {k : Nat} (h : k < cpre X Y) : X[k]? = Y[k]? := by
  have e := congrArg (fun l => l[k]?) (cpre_take X Y)
  simp only [List.getElem?_take, h, if_true] at e
  exact e
theorem rev_at (X : List (List UInt8)) (C t : Nat) (h : t < X.length - C) : (X.drop C).reverse[t]? = X[X.length - 1 - t]? := by
  rw [List.getElem?_reverse (by rw [List.length_drop]; exact h), List.length_drop, List.getElem?_drop]
  congr 1
  omega
theorem tl_at {X Y : List (List UInt8)} {t : Nat} (h : t < tl X Y) : X[X.length - 1 - t]? = Y[Y.length - 1 - t]? := by
  have hl := csuf_le (X.drop (cpre X Y)) (Y.drop (cpre X Y))
  rw [List.length_drop, List.length_drop] at hl
  have hle : tl X Y ≤ X.length - cpre X Y ∧ tl X Y ≤ Y.length - cpre X Y := hl
  have e := cpre_at (X := (X.drop (cpre X Y)).reverse) (Y := (Y.drop (cpre X Y)).reverse) (k := t) h
  rw [rev_at X _ t (by omega), rev_at Y _ t (by omega)] at e
  exact e
theorem tl_stop (X Y : List (List UInt8)) : tl X Y = X.length - cpre X Y ∨ (tl X Y < X.length - cpre X Y ∧ tl X Y = Y.length - cpre X Y) ∨ (tl X Y < X.length - cpre X Y ∧ tl X Y < Y.length - cpre X Y ∧ X[X.length - 1 - tl X Y]? ≠ Y[Y.length - 1 - tl X Y]?) := by
  have hl := csuf_le (X.drop (cpre X Y)) (Y.drop (cpre X Y))
  rw [List.length_drop, List.length_drop] at hl
  have hle : tl X Y ≤ X.length - cpre X Y ∧ tl X Y ≤ Y.length - cpre X Y := hl
  rcases cpre_max (X.drop (cpre X Y)).reverse (Y.drop (cpre X Y)).reverse with h | h | h
  · rw [List.length_reverse, List.length_drop] at h
    exact .inl h
  · rw [List.length_reverse, List.length_drop] at h
    have h' : tl X Y = Y.length - cpre X Y := h
    by_cases e : tl X Y = X.length - cpre X Y
    · exact .inl e
    · exact .inr (.inl ⟨by omega, h'⟩)
  · by_cases e : tl X Y = X.length - cpre X Y
    · exact .inl e
    · by_cases e2 : tl X Y = Y.length - cpre X Y
      · exact .inr (.inl ⟨by omega, e2⟩)
      · refine .inr (.inr ⟨by omega, by omega, ?_⟩)
        have h' : (X.drop (cpre X Y)).reverse[tl X Y]? ≠ (Y.drop (cpre X Y)).reverse[tl X Y]? := h
        rw [rev_at X _ _ (by omega), rev_at Y _ _ (by omega)] at h'
        exact h'
theorem srw_cutTo {w : World} {p : Option Addr} {ls : List (List UInt8)} {c n : Nat} (h : SRw w p ls) (i F : Nat) (hn : n = ls.length) (hc : n ≤ c) (hi : i ≤ F) (hF : F ≤ n) : SRw w (if c = i then p else p.map (·.add i)) ((ls.drop i).take (F - i)) := by
  split
  · rw [List.drop_of_length_le (by omega), List.take_nil]
    exact SRw.none _ _
  · exact h.part i _
theorem cells_twoP {w : World} {p q : Option Addr} {n m a b : Nat} {la lb : List (List UInt8)} (h : SRw w p la) (h' : SRw w q lb) (hn : n = la.length) (hm : m = lb.length) (ha : a < n) (hb : b < m) :
    ∃ g o g' o', p = some ⟨g, o, Option.none⟩ ∧ q = some ⟨g', o', Option.none⟩ ∧
    (la[a]? = lb[b]? → ∃ u : ByteArray, w.cell? ⟨g, o + a, Option.none⟩ = some (.string u) ∧ w.cell? ⟨g', o' + b, Option.none⟩ = some (.string u)) ∧
    (la[a]? ≠ lb[b]? → ∃ u v : ByteArray, w.cell? ⟨g, o + a, Option.none⟩ = some (.string u) ∧ w.cell? ⟨g', o' + b, Option.none⟩ = some (.string v) ∧ (u.toList == v.toList) = false) := by
  obtain ⟨g, o, rfl, _, _⟩ := h a (by omega)
  obtain ⟨g', o', rfl, _, _⟩ := h' b (by omega)
  exact ⟨g, o, g', o', rfl, rfl, cells_two h h' hn hm ha hb⟩

set_option maxHeartbeats 8000000 in
set_option maxRecDepth 8000 in
theorem rstay_step (k : Nat) (hmid : MiddP k) : StayP (k + 1) := by
  intro X Y p q c d n m w hn hm hp hq hnc hmd hl hl2 hk
  obtain ⟨i0, hif, hz0, hz1, hz2⟩ := info_parts Try.infoRn
  obtain ⟨C, hC⟩ : ∃ C, C = cpre X Y := ⟨_, rfl⟩
  obtain ⟨T, hT⟩ : ∃ T, T = tl X Y := ⟨_, rfl⟩
  have hCle := cpre_le X Y
  have hTle := csuf_le (X.drop C) (Y.drop C)
  rw [List.length_drop, List.length_drop, ← hn, ← hm, show csuf (X.drop C) (Y.drop C) = T by rw [hT, tl, hC]] at hTle
  rw [← hn, ← hm, ← hC] at hCle
  have hstop1 := cpre_max X Y
  rw [← hn, ← hm, ← hC] at hstop1
  have hstop2 := tl_stop X Y
  rw [← hn, ← hm, ← hC, ← hT] at hstop2
  have HEQ1 : Hid (∀ j, j < C → X[j]? = Y[j]?) := fun j hj => cpre_at (by rw [← hC]; exact hj)
  have HEQ2 : Hid (∀ j, j < T → X[n - 1 - j]? = Y[m - 1 - j]?) := fun j hj => by
    have h := tl_at (X := X) (Y := Y) (t := j) (by rw [← hT]; exact hj)
    rw [← hn, ← hm] at h
    exact h
  obtain ⟨nC, hnC⟩ : ∃ nC, nC = n - C := ⟨_, rfl⟩
  obtain ⟨mC, hmC⟩ : ∃ mC, mC = m - C := ⟨_, rfl⟩
  rw [← hnC, ← hmC] at hTle hstop2
  obtain ⟨xn, hxn⟩ : ∃ xn, xn = nC - T := ⟨_, rfl⟩
  obtain ⟨yn, hyn⟩ : ∃ yn, yn = mC - T := ⟨_, rfl⟩
  obtain ⟨nT, hnT⟩ : ∃ nT, nT = n - T := ⟨_, rfl⟩
  obtain ⟨mT, hmT⟩ : ∃ mT, mT = m - T := ⟨_, rfl⟩
  have hix : inr X Y X = (X.drop C).take (nT - C) := by rw [inr, ← hn, ← hC, ← hT, show n - C - T = nT - C by omega]
  have hiy : inr X Y Y = (Y.drop C).take (mT - C) := by rw [inr, ← hm, ← hC, ← hT, show m - C - T = mT - C by omega]
  obtain ⟨IX, hIX⟩ : ∃ IX, IX = inr X Y X := ⟨_, rfl⟩
  obtain ⟨IY, hIY⟩ : ∃ IY, IY = inr X Y Y := ⟨_, rfl⟩
  have hxl2 : xn = IX.length := by rw [hIX, inr_len, ← hn, ← hC, ← hT]; omega
  have hyl2 : yn = IY.length := by rw [hIY, inr_len, ← hm, ← hC, ← hT]; omega
  obtain ⟨P, hP⟩ : ∃ P, (if c = C then p else p.map (·.add C)) = P := ⟨_, rfl⟩
  obtain ⟨Q, hQ⟩ : ∃ Q, (if d = C then q else q.map (·.add C)) = Q := ⟨_, rfl⟩
  have HSX : Hid (∀ w', Below w.heap.size w w' → SRw w' P IX) := fun w' hb => by
    rw [← hP, hIX, hix]
    exact srw_cutTo (hp.below hb) C nT hn hnc (by omega) (by omega)
  have HSY : Hid (∀ w', Below w.heap.size w w' → SRw w' Q IY) := fun w' hb => by
    rw [← hQ, hIY, hiy]
    exact srw_cutTo (hq.below hb) C mT hm hmd (by omega) (by omega)
  obtain ⟨A1, hA1⟩ : ∃ A1, A1 = kp 0 0 (C : Int) := ⟨_, rfl⟩
  obtain ⟨MM, hMM⟩ : ∃ MM, MM = mid LSr (sp LSr k) IX IY 0 0 := ⟨_, rfl⟩
  obtain ⟨A2, hA2⟩ : ∃ A2, A2 = A1 ++ (if xn = 0 ∨ yn = 0 then [] else MM.map (sh (C : Int) (C : Int))) := ⟨_, rfl⟩
  obtain ⟨R, hR⟩ : ∃ R, R = sp LSr (k + 1) X Y 0 0 := ⟨_, rfl⟩
  have hR2 : R = A2 ++ kp (nT : Int) (mT : Int) (T : Int) := by
    rw [hR, sp, ← hIX, ← hIY, ← hxl2, ← hyl2, hA2, hA1, ← hC, ← hT, List.append_assoc, Int.zero_add, mid_at, ← hMM, show ((C : Int) + (xn : Int)) = (nT : Int) by omega, show ((C : Int) + (yn : Int)) = (mT : Int) by omega]
  have hMi : ∀ r ∈ MM, Inn 2000 r := by rw [hMM]; exact mid_inn (by omega) (by omega) (by omega) (by omega)
  have hMl : MM.length ≤ 100000 := by
    rw [hMM]
    have := mid_len (sp LSr k) IX IY 0 0 (fun X' Y' i j _ => sp_len k X' Y' i j)
    by_cases h0 : 1 ≤ IX.length + IY.length
    · have := this h0; omega
    · have hx0 : IX = [] := List.eq_nil_of_length_eq_zero (by omega)
      have hy0 : IY = [] := List.eq_nil_of_length_eq_zero (by omega)
      have h3 := mid_inn (N := 0) (k := k) (X := IX) (Y := IY) (by omega) (by omega) (by omega) (by omega)
      cases hmm : mid LSr (sp LSr k) IX IY 0 0 with
      | nil => simp
      | cons r l =>
        obtain ⟨a, b, x, _, g1, g2, _⟩ := h3 r (by rw [hmm]; simp)
        omega
  obtain ⟨ML, hML⟩ : ∃ ML, ML = MM.length := ⟨_, rfl⟩
  have HMID : Hid (∀ w', Below w.heap.size w w' → Calls Try.prog 45 #[.slice P xn (c - C), .slice Q yn (d - C)] w' fun e w'' => (∃ v cap, e = .returned (.slice v ML cap) ∧ RRw w'' v MM) ∧ Below w'.heap.size w' w'') := fun w' hb =>
    (hmid IX IY P Q (c - C) (d - C) xn yn w' hxl2 hyl2 (HSX.out w' hb) (HSY.out w' hb) (by omega) (by omega) (by omega) (by omega) (by omega)).mono fun e w'' ⟨⟨v, he, ho⟩, hb2⟩ => by
      rw [← hMM] at ho
      obtain ⟨p2, cap2, rfl, hr⟩ := ho.rw
      exact ⟨⟨p2, cap2, by rw [hML]; exact he, hr⟩, hb2⟩
  have HMOV : Hid (∀ w' v cap, RRw w' v MM → Calls Try.prog 44 #[.slice v ML cap, .int .i64 (C : Int), .int .i64 (C : Int)] w' fun e w'' => (∃ v2 cap2, e = .returned (.slice v2 ML cap2) ∧ RRw w'' v2 (MM.map (sh (C : Int) (C : Int)))) ∧ Below w'.heap.size w' w'') := fun w' v cap hr =>
    (rmoved_any MM 2000 C C v cap ML w' hML hr (by omega) hMi (by omega) (by omega) (by omega)).mono fun e w'' ⟨⟨v2, he, ho⟩, hb2⟩ => by
      obtain ⟨p2, cap2, rfl, hr⟩ := ho.rw
      exact ⟨⟨p2, cap2, by rw [hML]; rw [List.length_map] at he; exact he, hr⟩, hb2⟩
  obtain ⟨L1, hL1⟩ : ∃ L1, L1 = A1.length := ⟨_, rfl⟩
  obtain ⟨L2, hL2⟩ : ∃ L2, L2 = A2.length := ⟨_, rfl⟩
  have hL1l : L1 ≤ 1 := by rw [hL1, hA1]; exact kp_len _ _ _
  have hL2l : L2 ≤ 100001 := by
    rw [hL2, hA2, List.length_append, ← hL1]
    split
    · simp; omega
    · rw [List.length_map]; omega
  have hMLl : ML ≤ 100000 := by rw [hML]; exact hMl
  have HP := Lib.hid hp
  have HQ := Lib.hid hq
  have HN := Lib.hid hn
  have HM := Lib.hid hm
  have HR : Hid (R = A2 ++ kp (nT : Int) (mT : Int) (T : Int)) := hR2
  have HA1 := Lib.hid hA1
  have HA2 := Lib.hid hA2
  have HL1 := Lib.hid hL1
  have HL2 := Lib.hid hL2
  have HMLM := Lib.hid hML
  have HST1 := Lib.hid hstop1
  have HST2 := Lib.hid hstop2
  have hTn : T ≤ nC := hTle.1
  have hTm : T ≤ mC := hTle.2
  have hCn : C ≤ n := hCle.1
  have hCm : C ≤ m := hCle.2
  obtain ⟨ch, hch⟩ : ∃ ch, c - C = ch := ⟨_, rfl⟩
  obtain ⟨dh, hdh⟩ : ∃ dh, d - C = dh := ⟨_, rfl⟩
  rw [hch, hdh] at HMID
  have hxe : nT - C = xn := by omega
  have hye : mT - C = yn := by omega
  have t1 : (n : Int) - (C : Int) = (nC : Int) := by omega
  have t2 : (m : Int) - (C : Int) = (mC : Int) := by omega
  have t3 : IntKind.i64.wrap (nC : Int) = (nC : Int) := IntWalk.i64_in _ (by omega)
  have t4 : IntKind.i64.wrap (mC : Int) = (mC : Int) := IntWalk.i64_in _ (by omega)
  have t5 : (n : Int) - (T : Int) = (nT : Int) := by omega
  have t6 : (m : Int) - (T : Int) = (mT : Int) := by omega
  have t7 : IntKind.i64.wrap (nT : Int) = (nT : Int) := IntWalk.i64_in _ (by omega)
  have t8 : IntKind.i64.wrap (mT : Int) = (mT : Int) := IntWalk.i64_in _ (by omega)
  have hCnT : C ≤ nT := by omega
  have hCmT : C ≤ mT := by omega
  have hnTc : nT ≤ c := by omega
  have hmTd : mT ≤ d := by omega
  have hnTl : nT ≤ 2000 := by omega
  have hmTl : mT ≤ 2000 := by omega
  have hnCl : nC ≤ n := by omega
  have hmCl : mC ≤ m := by omega
  have HV := Lib.hid (And.intro hnC (And.intro hmC (And.intro hxn (And.intro hyn (And.intro hnT hmT)))))
  rw [← hR]
  clear hn hm hp hq hR hR2 hA1 hA2 hL1 hL2 hML hMM hMi hMl hstop1 hstop2 hC hT hCle hTle hix hiy hIX hIY hxl2 hyl2 hmid hk HSX HSY hnC hmC hxn hyn hnT hmT
  go_enter Try.func27, Try.ntmps27
  go_wp2
  go_loopw [5] (fun nv wr => ∃ t z : Nat, t ≤ C ∧ nv = .int .i64 (t : Int) ∧ Hid (wr = w.drewN z)) (fun nv _ => C - (intOf nv).toNat)
  case atStart => exact ⟨0, 0, by omega, rfl, rfl⟩
  case round =>
    obtain ⟨t, z, ht, rfl, HW⟩ := hrel
    have HP1 : Hid (SRw wr p X) := by show SRw _ _ _; rw [HW.out]; exact HP.out.below (below_drewN (Below.refl _ _) z)
    have HQ1 : Hid (SRw wr q Y) := by show SRw _ _ _; rw [HW.out]; exact HQ.out.below (below_drewN (Below.refl _ _) z)
    go_upto_region 2 with fail
    go_cut [30] from 10 to 32 (fun b wx => b = .bool (decide (t < C)) ∧ ∃ z2, wx = w.drewN z2)
    case first =>
      by_cases hlt : t < C
      · obtain ⟨g, o, g', o', rfl, rfl, hc1, -⟩ := cells_twoP HP1.out HQ1.out HN.out HM.out (show t < n by omega) (show t < m by omega)
        obtain ⟨u, a0, b0⟩ := hc1 (HEQ1.out t hlt)
        have x0 : decide (t < C) = true := decide_eq_true hlt
        have x1 : decide ((t : Int) < (n : Int)) = true := decide_eq_true (by omega)
        have x2 : decide (t < n) = true := decide_eq_true (by omega)
        have x3 : decide ((t : Int) < (m : Int)) = true := decide_eq_true (by omega)
        have x4 : decide (t < m) = true := decide_eq_true (by omega)
        have x5 : (t : Int) < (n : Int) := by omega
        have x6 : (t : Int) < (m : Int) := by omega
        have x7 : t < n := by omega
        have x8 : t < m := by omega
        have HX0 := Lib.hid x0
        clear hc1 HP1 HQ1 x0
        go_quiet (fail)
        go_wp2_with fail
        go_meet
        exact ⟨by rw [HX0.out], z + nq, by rw [HW.out, World.drewN_drewN]⟩
      · have hx0 : decide (t < C) = false := decide_eq_false hlt
        have HX0 := Lib.hid hx0
        have htC : t = C := by omega
        have hRR : t = n ∨ (t < n ∧ t = m) ∨ (t < n ∧ t < m ∧ X[t]? ≠ Y[t]?) := by
          rcases HST1.out with h | h | h
          · exact .inl (by omega)
          · by_cases e : t = n
            · exact .inl e
            · exact .inr (.inl ⟨by omega, by omega⟩)
          · by_cases e : t = n
            · exact .inl e
            · by_cases e2 : t = m
              · exact .inr (.inl ⟨by omega, e2⟩)
              · exact .inr (.inr ⟨by omega, by omega, by rw [htC]; exact h⟩)
        rcases hRR with e1 | ⟨e1, e2⟩ | ⟨e1, e2, e3⟩
        · have x1 : decide ((t : Int) < (n : Int)) = false := decide_eq_false (by omega)
          have x2 : decide (t < n) = false := decide_eq_false (by omega)
          clear HP1 HQ1 hlt e1 htC hx0
          go_quiet (fail)
          go_wp2_with fail
          go_meet
          exact ⟨by rw [HX0.out], z + nq, by rw [HW.out, World.drewN_drewN]⟩
        · have x1 : decide ((t : Int) < (n : Int)) = true := decide_eq_true (by omega)
          have x2 : decide (t < n) = true := decide_eq_true (by omega)
          have x3 : decide ((t : Int) < (m : Int)) = false := decide_eq_false (by omega)
          have x4 : decide (t < m) = false := decide_eq_false (by omega)
          clear HP1 HQ1 hlt e1 e2 htC hx0
          go_quiet (fail)
          go_wp2_with fail
          go_meet
          exact ⟨by rw [HX0.out], z + nq, by rw [HW.out, World.drewN_drewN]⟩
        · obtain ⟨g, o, g', o', rfl, rfl, -, hc2⟩ := cells_twoP HP1.out HQ1.out HN.out HM.out e1 e2
          obtain ⟨u, v, a0, b0, x9⟩ := hc2 e3
          have x1 : decide ((t : Int) < (n : Int)) = true := decide_eq_true (by omega)
          have x2 : decide (t < n) = true := decide_eq_true (by omega)
          have x3 : decide ((t : Int) < (m : Int)) = true := decide_eq_true (by omega)
          have x4 : decide (t < m) = true := decide_eq_true (by omega)
          have x5 : (t : Int) < (n : Int) := by omega
          have x6 : (t : Int) < (m : Int) := by omega
          clear HP1 HQ1 hlt e3 hc2 htC hx0
          go_quiet (fail)
          go_wp2_with fail
          go_meet
          exact ⟨by rw [HX0.out], z + nq, by rw [HW.out, World.drewN_drewN]⟩
    case rest =>
      obtain ⟨rfl, z2, hwx⟩ := hcut
      have HWX := Lib.hid hwx
      clear hwx HP1 HQ1
      by_cases hlt : t < C
      · have x0 : decide (t < C) = true := decide_eq_true hlt
        go_wp2_with fail
        go_roundw
        case rel => exact ⟨t + 1, z2, hlt, by go_num, HWX.out⟩
        case measure => simp [intOf]; omega
      · obtain rfl : t = C := by omega
        have x0 : decide (t < t) = false := decide_eq_false hlt
        clear hlt ht HW HEQ1 HST1
        go_wp2_with fail
        clear x0
        go_loopw [6] (fun mv wr => ∃ s z : Nat, s ≤ T ∧ mv = .int .i64 (s : Int) ∧ Hid (wr = w.drewN z)) (fun mv _ => T - (intOf mv).toNat)
        case atStart => exact ⟨0, z2, by omega, rfl, HWX.out⟩
        case round =>
          clear HWX
          obtain ⟨s, z, hs, rfl, HW⟩ := hrel
          have HP1 : Hid (SRw wr p X) := by show SRw _ _ _; rw [HW.out]; exact HP.out.below (below_drewN (Below.refl _ _) z)
          have HQ1 : Hid (SRw wr q Y) := by show SRw _ _ _; rw [HW.out]; exact HQ.out.below (below_drewN (Below.refl _ _) z)
          go_upto_region 5 with fail
          go_cut [65] from 33 to 67 (fun b wx => b = .bool (decide (s < T)) ∧ ∃ z2, wx = w.drewN z2)
          case first =>
            have hXA : ∀ (_ : s < n) (_ : s < m), ∃ n1 m1 xa ya : Nat, (n : Int) - 1 = (n1 : Int) ∧ (m : Int) - 1 = (m1 : Int) ∧ (n1 : Int) - (s : Int) = (xa : Int) ∧ (m1 : Int) - (s : Int) = (ya : Int) ∧ xa = n - 1 - s ∧ ya = m - 1 - s ∧ n1 ≤ n ∧ m1 ≤ m ∧ xa < n ∧ ya < m := fun h1 h2 => ⟨n - 1, m - 1, n - 1 - s, m - 1 - s, by omega, by omega, by omega, by omega, rfl, rfl, by omega, by omega, by omega, by omega⟩
            by_cases hlt : s < T
            · obtain ⟨n1, m1, xa, ya, r1, r2, r3, r4, hxa, hya, l1, l2, x7, x8⟩ := hXA (by omega) (by omega)
              obtain ⟨g, o, g', o', rfl, rfl, hc1, -⟩ := cells_twoP HP1.out HQ1.out HN.out HM.out x7 x8
              obtain ⟨u, a0, b0⟩ := hc1 (by rw [hxa, hya]; exact HEQ2.out s hlt)
              have x0 : decide (s < T) = true := decide_eq_true hlt
              have r5 : IntKind.i64.wrap (n1 : Int) = (n1 : Int) := IntWalk.i64_in _ (by omega)
              have r6 : IntKind.i64.wrap (m1 : Int) = (m1 : Int) := IntWalk.i64_in _ (by omega)
              have r7 : IntKind.i64.wrap (xa : Int) = (xa : Int) := IntWalk.i64_in _ (by omega)
              have r8 : IntKind.i64.wrap (ya : Int) = (ya : Int) := IntWalk.i64_in _ (by omega)
              have x1 : decide ((s : Int) < (nC : Int)) = true := decide_eq_true (by omega)
              have x2 : decide (s < nC) = true := decide_eq_true (by omega)
              have x3 : decide ((s : Int) < (mC : Int)) = true := decide_eq_true (by omega)
              have x4 : decide (s < mC) = true := decide_eq_true (by omega)
              have x5 : (xa : Int) < (n : Int) := by omega
              have x6 : (ya : Int) < (m : Int) := by omega
              have HX0 := Lib.hid x0
              clear hc1 HP1 HQ1 x0 hXA hxa hya
              go_quiet (fail)
              go_wp2_with fail
              go_meet
              exact ⟨by rw [HX0.out], z + nq, by rw [HW.out, World.drewN_drewN]⟩
            · have hx0 : decide (s < T) = false := decide_eq_false hlt
              have HX0 := Lib.hid hx0
              obtain rfl : s = T := by omega
              rcases HST2.out with e1 | ⟨e1, e2⟩ | ⟨e1, e2, e3⟩
              · have x1 : decide ((s : Int) < (nC : Int)) = false := decide_eq_false (by omega)
                have x2 : decide (s < nC) = false := decide_eq_false (by omega)
                clear HP1 HQ1 hlt e1 hx0 hXA
                go_quiet (fail)
                go_wp2_with fail
                go_meet
                exact ⟨by rw [HX0.out], z + nq, by rw [HW.out, World.drewN_drewN]⟩
              · have x1 : decide ((s : Int) < (nC : Int)) = true := decide_eq_true (by omega)
                have x2 : decide (s < nC) = true := decide_eq_true (by omega)
                have x3 : decide ((s : Int) < (mC : Int)) = false := decide_eq_false (by omega)
                have x4 : decide (s < mC) = false := decide_eq_false (by omega)
                clear HP1 HQ1 hlt e1 e2 hx0 hXA
                go_quiet (fail)
                go_wp2_with fail
                go_meet
                exact ⟨by rw [HX0.out], z + nq, by rw [HW.out, World.drewN_drewN]⟩
              · obtain ⟨n1, m1, xa, ya, r1, r2, r3, r4, hxa, hya, l1, l2, x7, x8⟩ := hXA (by omega) (by omega)
                obtain ⟨g, o, g', o', rfl, rfl, -, hc2⟩ := cells_twoP HP1.out HQ1.out HN.out HM.out x7 x8
                obtain ⟨u, v, a0, b0, x9⟩ := hc2 (by rw [hxa, hya]; exact e3)
                have r5 : IntKind.i64.wrap (n1 : Int) = (n1 : Int) := IntWalk.i64_in _ (by omega)
                have r6 : IntKind.i64.wrap (m1 : Int) = (m1 : Int) := IntWalk.i64_in _ (by omega)
                have r7 : IntKind.i64.wrap (xa : Int) = (xa : Int) := IntWalk.i64_in _ (by omega)
                have r8 : IntKind.i64.wrap (ya : Int) = (ya : Int) := IntWalk.i64_in _ (by omega)
                have x1 : decide ((s : Int) < (nC : Int)) = true := decide_eq_true (by omega)
                have x2 : decide (s < nC) = true := decide_eq_true (by omega)
                have x3 : decide ((s : Int) < (mC : Int)) = true := decide_eq_true (by omega)
                have x4 : decide (s < mC) = true := decide_eq_true (by omega)
                have x5 : (xa : Int) < (n : Int) := by omega
                have x6 : (ya : Int) < (m : Int) := by omega
                clear HP1 HQ1 hlt e3 hc2 hx0 hXA hxa hya
                go_quiet (fail)
                go_wp2_with fail
                go_meet
                exact ⟨by rw [HX0.out], z + nq, by rw [HW.out, World.drewN_drewN]⟩
          case rest =>
            obtain ⟨rfl, z3, hwx⟩ := hcut
            have HWX := Lib.hid hwx
            clear hwx HP1 HQ1
            by_cases hlt : s < T
            · have x0 : decide (s < T) = true := decide_eq_true hlt
              go_wp2_with fail
              go_roundw
              case rel => exact ⟨s + 1, z3, hlt, by go_num, HWX.out⟩
              case measure => simp [intOf]; omega
            · obtain rfl : s = T := by omega
              have x0 : decide (s < s) = false := decide_eq_false hlt
              clear hlt hs HW HEQ2 HST2
              have HB2 : Hid (Below w.heap.size w wc) := by show Below _ _ _; rw [HWX.out]; exact below_drewN (Below.refl _ _) _
              have hws := HB2.out.size
              clear HWX
              rcases Nat.lt_or_ge 0 t with hc1 | hc1
              · have HK1 : Hid (A1 = [] ++ [⟨0, 0, (t : Int)⟩]) := by show _ = _; rw [HA1.out, kp, if_pos (by omega)]; rfl
                have y1 : decide ((0 : Int) < (t : Int)) = true := decide_eq_true (by omega)
                have y2 : decide (0 < t) = true := decide_eq_true (by omega)
                rcases (show (0 < xn ∧ 0 < yn) ∨ (xn = 0) ∨ (0 < xn ∧ yn = 0) by omega) with hc2 | hc2 | hc2
                · have HK2 : Hid (A2 = A1 ++ MM.map (sh (t : Int) (t : Int))) := by show _ = _; rw [HA2.out, if_neg (by omega)]
                  have y3 : decide ((0 : Int) < (xn : Int)) = true := decide_eq_true (by omega)
                  have y4 : decide (0 < xn) = true := decide_eq_true (by omega)
                  have y5 : decide ((0 : Int) < (yn : Int)) = true := decide_eq_true (by omega)
                  have y6 : decide (0 < yn) = true := decide_eq_true (by omega)
                  rcases Nat.lt_or_ge 0 s with hc3 | hc3
                  · have HK3 : Hid (R = A2 ++ [⟨(nT : Int), (mT : Int), (s : Int)⟩]) := by show _ = _; rw [HR.out, kp, if_pos (by omega)]
                    have y7 : decide ((0 : Int) < (s : Int)) = true := decide_eq_true (by omega)
                    have y8 : decide (0 < s) = true := decide_eq_true (by omega)
                    clear hc1 hc2 hc3
                    go_upto_region 10 with (at_builtin; refine wpList_append_own _ rfl _ _ 45 rfl w.heap.size 30 i0 (.agg #[.int .i64 0, .int .i64 0, .int .i64 0]) 3 24 Try.underlying45 hif hz0 hz1 hz2 rfl (by decide) _ 0 [] rfl (World.ownsRow_nil _ _ _ _) ⟨wc.heap.size, 0, none⟩ 1 1 (Rn.cells ⟨0, 0, (t : Int)⟩) rfl rfl (new_rn wc ⟨0, 0, (t : Int)⟩ _) (rn_one _) (by unfold maxLen; omega) (by omega) (by simp; omega) ?_; intro v1 w1 ho1 hg1 _)
                    have HO1 : Hid (ROw w1 w.heap.size v1 A1) := by have h := ROw.push (l := []) (n := 0) rfl ho1; show ROw _ _ _ _; rw [HK1.out]; exact h
                    obtain ⟨q1, cap1, rfl⟩ := HO1.out.shapeN (n := L1) HL1.out
                    have HB1 := Lib.hid ((below_new HB2.out _).grown hg1 (by simp; omega) (fun j hj => by cases hj))
                    clear ho1 hg1
                    have hb1s := HB1.out.size
                    go_upto_region 14 with (first
                      | (go_at_call 45; ((with_reducible refine (HMID.out _ HB1.out).mono ?_); rintro e wm ⟨⟨pm, cm, rfl, hrm⟩, hbm⟩))
                      | (go_at_call 44; ((with_reducible refine (HMOV.out _ _ _ hrm).mono ?_); rintro e wv ⟨⟨pv, cv, rfl, hrv⟩, hbv⟩; have HO1v := Lib.hid ((HO1.out.below hbm).below hbv); have hbx := HB1.out.trans ((hbm.trans (hbv.mono hbm.size)).mono HB1.out.size); have hbxs := hbx.size))
                      | (at_builtin; refine app_rrw _ rfl _ _ 45 rfl Try.underlying45 w.heap.size (.slice q1 L1 cap1) L1 A1 rfl HL1.out HO1v.out pv ML cv (MM.map (sh (t : Int) (t : Int))) rfl (by rw [List.length_map]; exact HMLM.out) hrv (by omega) hbxs ?_; intro q2 cap2 w2 ho2 hg2))
                    have HO2 : Hid (ROw w2 w.heap.size (.slice q2 (L1 + ML) cap2) A2) := by show ROw _ _ _ _; rw [HK2.out]; exact ho2
                    have HL2' : Hid (L1 + ML = A2.length) := by show _ = _; rw [HK2.out, List.length_append, List.length_map, ← HMLM.out, ← HL1.out]
                    have HB3 := Lib.hid (hbx.grown hg2 hbxs (fun j hj => (HO1v.out.lt j hj).1))
                    have hlz : L1 + ML ≤ 100001 := by rw [HL2'.out, ← HL2.out]; exact hL2l
                    clear ho2 hg2 hrm hbm hrv hbv hbx HO1v
                    obtain ⟨LZ, hLZ⟩ : ∃ LZ, LZ = L1 + ML := ⟨_, rfl⟩
                    rw [← hLZ] at HO2 HL2' hlz ⊢
                    clear hLZ
                    have hb3s := HB3.out.size
                    have ho5 := HO2.out.of HL2'.out
                    go_wp2_with (at_builtin; refine wpList_append_own _ rfl _ _ 45 rfl w.heap.size 30 i0 (.agg #[.int .i64 0, .int .i64 0, .int .i64 0]) 3 24 Try.underlying45 hif hz0 hz1 hz2 rfl (by decide) _ _ _ rfl (ho5.alloc _) ⟨w2.heap.size, 0, none⟩ 1 1 (Rn.cells ⟨(nT : Int), (mT : Int), (s : Int)⟩) rfl rfl (new_rn w2 ⟨(nT : Int), (mT : Int), (s : Int)⟩ _) (rn_one _) (by unfold maxLen; omega) (by omega) (by simp; omega) ?_; intro v6 w6 ho6 hg6 _)
                    have HO6 : Hid (ROw w6 w.heap.size v6 R) := by have h := ROw.push HL2'.out ho6; show ROw _ _ _ _; rw [HK3.out]; exact h
                    have HB6 := Lib.hid ((below_new HB3.out _).grown hg6 (by simp; omega) (fun j hj => (ho5.lt j hj).1))
                    clear ho6 hg6 ho5
                    go_ret
                    exact ⟨⟨_, rfl, HO6.out⟩, HB6.out⟩
                  · have HK3 : Hid (R = A2) := by show _ = _; rw [HR.out, kp, if_neg (by omega), List.append_nil]
                    have y7 : decide ((0 : Int) < (s : Int)) = false := decide_eq_false (by omega)
                    have y8 : decide (0 < s) = false := decide_eq_false (by omega)
                    clear hc1 hc2 hc3
                    go_upto_region 10 with (at_builtin; refine wpList_append_own _ rfl _ _ 45 rfl w.heap.size 30 i0 (.agg #[.int .i64 0, .int .i64 0, .int .i64 0]) 3 24 Try.underlying45 hif hz0 hz1 hz2 rfl (by decide) _ 0 [] rfl (World.ownsRow_nil _ _ _ _) ⟨wc.heap.size, 0, none⟩ 1 1 (Rn.cells ⟨0, 0, (t : Int)⟩) rfl rfl (new_rn wc ⟨0, 0, (t : Int)⟩ _) (rn_one _) (by unfold maxLen; omega) (by omega) (by simp; omega) ?_; intro v1 w1 ho1 hg1 _)
                    have HO1 : Hid (ROw w1 w.heap.size v1 A1) := by have h := ROw.push (l := []) (n := 0) rfl ho1; show ROw _ _ _ _; rw [HK1.out]; exact h
                    obtain ⟨q1, cap1, rfl⟩ := HO1.out.shapeN (n := L1) HL1.out
                    have HB1 := Lib.hid ((below_new HB2.out _).grown hg1 (by simp; omega) (fun j hj => by cases hj))
                    clear ho1 hg1
                    have hb1s := HB1.out.size
                    go_upto_region 14 with (first
                      | (go_at_call 45; ((with_reducible refine (HMID.out _ HB1.out).mono ?_); rintro e wm ⟨⟨pm, cm, rfl, hrm⟩, hbm⟩))
                      | (go_at_call 44; ((with_reducible refine (HMOV.out _ _ _ hrm).mono ?_); rintro e wv ⟨⟨pv, cv, rfl, hrv⟩, hbv⟩; have HO1v := Lib.hid ((HO1.out.below hbm).below hbv); have hbx := HB1.out.trans ((hbm.trans (hbv.mono hbm.size)).mono HB1.out.size); have hbxs := hbx.size))
                      | (at_builtin; refine app_rrw _ rfl _ _ 45 rfl Try.underlying45 w.heap.size (.slice q1 L1 cap1) L1 A1 rfl HL1.out HO1v.out pv ML cv (MM.map (sh (t : Int) (t : Int))) rfl (by rw [List.length_map]; exact HMLM.out) hrv (by omega) hbxs ?_; intro q2 cap2 w2 ho2 hg2))
                    have HO2 : Hid (ROw w2 w.heap.size (.slice q2 (L1 + ML) cap2) A2) := by show ROw _ _ _ _; rw [HK2.out]; exact ho2
                    have HL2' : Hid (L1 + ML = A2.length) := by show _ = _; rw [HK2.out, List.length_append, List.length_map, ← HMLM.out, ← HL1.out]
                    have HB3 := Lib.hid (hbx.grown hg2 hbxs (fun j hj => (HO1v.out.lt j hj).1))
                    have hlz : L1 + ML ≤ 100001 := by rw [HL2'.out, ← HL2.out]; exact hL2l
                    clear ho2 hg2 hrm hbm hrv hbv hbx HO1v
                    obtain ⟨LZ, hLZ⟩ : ∃ LZ, LZ = L1 + ML := ⟨_, rfl⟩
                    rw [← hLZ] at HO2 HL2' hlz ⊢
                    clear hLZ
                    have hb3s := HB3.out.size
                    go_wp2_with fail
                    go_ret
                    exact ⟨⟨_, rfl, by rw [HK3.out]; exact HO2.out⟩, HB3.out⟩
                · have HK2 : Hid (A2 = A1) := by show _ = _; rw [HA2.out, if_pos (by omega), List.append_nil]
                  have y3 : decide ((0 : Int) < (xn : Int)) = false := decide_eq_false (by omega)
                  have y4 : decide (0 < xn) = false := decide_eq_false (by omega)
                  rcases Nat.lt_or_ge 0 s with hc3 | hc3
                  · have HK3 : Hid (R = A2 ++ [⟨(nT : Int), (mT : Int), (s : Int)⟩]) := by show _ = _; rw [HR.out, kp, if_pos (by omega)]
                    have y7 : decide ((0 : Int) < (s : Int)) = true := decide_eq_true (by omega)
                    have y8 : decide (0 < s) = true := decide_eq_true (by omega)
                    clear hc1 hc2 hc3
                    go_upto_region 10 with (at_builtin; refine wpList_append_own _ rfl _ _ 45 rfl w.heap.size 30 i0 (.agg #[.int .i64 0, .int .i64 0, .int .i64 0]) 3 24 Try.underlying45 hif hz0 hz1 hz2 rfl (by decide) _ 0 [] rfl (World.ownsRow_nil _ _ _ _) ⟨wc.heap.size, 0, none⟩ 1 1 (Rn.cells ⟨0, 0, (t : Int)⟩) rfl rfl (new_rn wc ⟨0, 0, (t : Int)⟩ _) (rn_one _) (by unfold maxLen; omega) (by omega) (by simp; omega) ?_; intro v1 w1 ho1 hg1 _)
                    have HO1 : Hid (ROw w1 w.heap.size v1 A1) := by have h := ROw.push (l := []) (n := 0) rfl ho1; show ROw _ _ _ _; rw [HK1.out]; exact h
                    obtain ⟨q1, cap1, rfl⟩ := HO1.out.shapeN (n := L1) HL1.out
                    have HB1 := Lib.hid ((below_new HB2.out _).grown hg1 (by simp; omega) (fun j hj => by cases hj))
                    clear ho1 hg1
                    have hb1s := HB1.out.size
                    go_upto_region 14 with fail
                    have HO2 : Hid (ROw w1 w.heap.size (.slice q1 L1 cap1) A2) := by show ROw _ _ _ _; rw [HK2.out]; exact HO1.out
                    have HL2' : Hid (L1 = A2.length) := by show _ = _; rw [HK2.out]; exact HL1.out
                    have HB3 := HB1
                    have hb3s := HB3.out.size
                    have ho5 := HO2.out.of HL2'.out
                    go_wp2_with (at_builtin; refine wpList_append_own _ rfl _ _ 45 rfl w.heap.size 30 i0 (.agg #[.int .i64 0, .int .i64 0, .int .i64 0]) 3 24 Try.underlying45 hif hz0 hz1 hz2 rfl (by decide) _ _ _ rfl (ho5.alloc _) ⟨w1.heap.size, 0, none⟩ 1 1 (Rn.cells ⟨(nT : Int), (mT : Int), (s : Int)⟩) rfl rfl (new_rn w1 ⟨(nT : Int), (mT : Int), (s : Int)⟩ _) (rn_one _) (by unfold maxLen; omega) (by omega) (by simp; omega) ?_; intro v6 w6 ho6 hg6 _)
                    have HO6 : Hid (ROw w6 w.heap.size v6 R) := by have h := ROw.push HL2'.out ho6; show ROw _ _ _ _; rw [HK3.out]; exact h
                    have HB6 := Lib.hid ((below_new HB3.out _).grown hg6 (by simp; omega) (fun j hj => (ho5.lt j hj).1))
                    clear ho6 hg6 ho5
                    go_ret
                    exact ⟨⟨_, rfl, HO6.out⟩, HB6.out⟩
                  · have HK3 : Hid (R = A2) := by show _ = _; rw [HR.out, kp, if_neg (by omega), List.append_nil]
                    have y7 : decide ((0 : Int) < (s : Int)) = false := decide_eq_false (by omega)
                    have y8 : decide (0 < s) = false := decide_eq_false (by omega)
                    clear hc1 hc2 hc3
                    go_upto_region 10 with (at_builtin; refine wpList_append_own _ rfl _ _ 45 rfl w.heap.size 30 i0 (.agg #[.int .i64 0, .int .i64 0, .int .i64 0]) 3 24 Try.underlying45 hif hz0 hz1 hz2 rfl (by decide) _ 0 [] rfl (World.ownsRow_nil _ _ _ _) ⟨wc.heap.size, 0, none⟩ 1 1 (Rn.cells ⟨0, 0, (t : Int)⟩) rfl rfl (new_rn wc ⟨0, 0, (t : Int)⟩ _) (rn_one _) (by unfold maxLen; omega) (by omega) (by simp; omega) ?_; intro v1 w1 ho1 hg1 _)
                    have HO1 : Hid (ROw w1 w.heap.size v1 A1) := by have h := ROw.push (l := []) (n := 0) rfl ho1; show ROw _ _ _ _; rw [HK1.out]; exact h
                    obtain ⟨q1, cap1, rfl⟩ := HO1.out.shapeN (n := L1) HL1.out
                    have HB1 := Lib.hid ((below_new HB2.out _).grown hg1 (by simp; omega) (fun j hj => by cases hj))
                    clear ho1 hg1
                    have hb1s := HB1.out.size
                    go_upto_region 14 with fail
                    have HO2 : Hid (ROw w1 w.heap.size (.slice q1 L1 cap1) A2) := by show ROw _ _ _ _; rw [HK2.out]; exact HO1.out
                    have HL2' : Hid (L1 = A2.length) := by show _ = _; rw [HK2.out]; exact HL1.out
                    have HB3 := HB1
                    have hb3s := HB3.out.size
                    go_wp2_with fail
                    go_ret
                    exact ⟨⟨_, rfl, by rw [HK3.out]; exact HO2.out⟩, HB3.out⟩
                · have HK2 : Hid (A2 = A1) := by show _ = _; rw [HA2.out, if_pos (by omega), List.append_nil]
                  have y3 : decide ((0 : Int) < (xn : Int)) = true := decide_eq_true (by omega)
                  have y4 : decide (0 < xn) = true := decide_eq_true (by omega)
                  have y5 : decide ((0 : Int) < (yn : Int)) = false := decide_eq_false (by omega)
                  have y6 : decide (0 < yn) = false := decide_eq_false (by omega)
                  rcases Nat.lt_or_ge 0 s with hc3 | hc3
                  · have HK3 : Hid (R = A2 ++ [⟨(nT : Int), (mT : Int), (s : Int)⟩]) := by show _ = _; rw [HR.out, kp, if_pos (by omega)]
                    have y7 : decide ((0 : Int) < (s : Int)) = true := decide_eq_true (by omega)
                    have y8 : decide (0 < s) = true := decide_eq_true (by omega)
                    clear hc1 hc2 hc3
                    go_upto_region 10 with (at_builtin; refine wpList_append_own _ rfl _ _ 45 rfl w.heap.size 30 i0 (.agg #[.int .i64 0, .int .i64 0, .int .i64 0]) 3 24 Try.underlying45 hif hz0 hz1 hz2 rfl (by decide) _ 0 [] rfl (World.ownsRow_nil _ _ _ _) ⟨wc.heap.size, 0, none⟩ 1 1 (Rn.cells ⟨0, 0, (t : Int)⟩) rfl rfl (new_rn wc ⟨0, 0, (t : Int)⟩ _) (rn_one _) (by unfold maxLen; omega) (by omega) (by simp; omega) ?_; intro v1 w1 ho1 hg1 _)
                    have HO1 : Hid (ROw w1 w.heap.size v1 A1) := by have h := ROw.push (l := []) (n := 0) rfl ho1; show ROw _ _ _ _; rw [HK1.out]; exact h
                    obtain ⟨q1, cap1, rfl⟩ := HO1.out.shapeN (n := L1) HL1.out
                    have HB1 := Lib.hid ((below_new HB2.out _).grown hg1 (by simp; omega) (fun j hj => by cases hj))
                    clear ho1 hg1
                    have hb1s := HB1.out.size
                    go_upto_region 14 with fail
                    have HO2 : Hid (ROw w1 w.heap.size (.slice q1 L1 cap1) A2) := by show ROw _ _ _ _; rw [HK2.out]; exact HO1.out
                    have HL2' : Hid (L1 = A2.length) := by show _ = _; rw [HK2.out]; exact HL1.out
                    have HB3 := HB1
                    have hb3s := HB3.out.size
                    have ho5 := HO2.out.of HL2'.out
                    go_wp2_with (at_builtin; refine wpList_append_own _ rfl _ _ 45 rfl w.heap.size 30 i0 (.agg #[.int .i64 0, .int .i64 0, .int .i64 0]) 3 24 Try.underlying45 hif hz0 hz1 hz2 rfl (by decide) _ _ _ rfl (ho5.alloc _) ⟨w1.heap.size, 0, none⟩ 1 1 (Rn.cells ⟨(nT : Int), (mT : Int), (s : Int)⟩) rfl rfl (new_rn w1 ⟨(nT : Int), (mT : Int), (s : Int)⟩ _) (rn_one _) (by unfold maxLen; omega) (by omega) (by simp; omega) ?_; intro v6 w6 ho6 hg6 _)
                    have HO6 : Hid (ROw w6 w.heap.size v6 R) := by have h := ROw.push HL2'.out ho6; show ROw _ _ _ _; rw [HK3.out]; exact h
                    have HB6 := Lib.hid ((below_new HB3.out _).grown hg6 (by simp; omega) (fun j hj => (ho5.lt j hj).1))
                    clear ho6 hg6 ho5
                    go_ret
                    exact ⟨⟨_, rfl, HO6.out⟩, HB6.out⟩
                  · have HK3 : Hid (R = A2) := by show _ = _; rw [HR.out, kp, if_neg (by omega), List.append_nil]
                    have y7 : decide ((0 : Int) < (s : Int)) = false := decide_eq_false (by omega)
                    have y8 : decide (0 < s) = false := decide_eq_false (by omega)
                    clear hc1 hc2 hc3
                    go_upto_region 10 with (at_builtin; refine wpList_append_own _ rfl _ _ 45 rfl w.heap.size 30 i0 (.agg #[.int .i64 0, .int .i64 0, .int .i64 0]) 3 24 Try.underlying45 hif hz0 hz1 hz2 rfl (by decide) _ 0 [] rfl (World.ownsRow_nil _ _ _ _) ⟨wc.heap.size, 0, none⟩ 1 1 (Rn.cells ⟨0, 0, (t : Int)⟩) rfl rfl (new_rn wc ⟨0, 0, (t : Int)⟩ _) (rn_one _) (by unfold maxLen; omega) (by omega) (by simp; omega) ?_; intro v1 w1 ho1 hg1 _)
                    have HO1 : Hid (ROw w1 w.heap.size v1 A1) := by have h := ROw.push (l := []) (n := 0) rfl ho1; show ROw _ _ _ _; rw [HK1.out]; exact h
                    obtain ⟨q1, cap1, rfl⟩ := HO1.out.shapeN (n := L1) HL1.out
                    have HB1 := Lib.hid ((below_new HB2.out _).grown hg1 (by simp; omega) (fun j hj => by cases hj))
                    clear ho1 hg1
                    have hb1s := HB1.out.size
                    go_upto_region 14 with fail
                    have HO2 : Hid (ROw w1 w.heap.size (.slice q1 L1 cap1) A2) := by show ROw _ _ _ _; rw [HK2.out]; exact HO1.out
                    have HL2' : Hid (L1 = A2.length) := by show _ = _; rw [HK2.out]; exact HL1.out
                    have HB3 := HB1
                    have hb3s := HB3.out.size
                    go_wp2_with fail
                    go_ret
                    exact ⟨⟨_, rfl, by rw [HK3.out]; exact HO2.out⟩, HB3.out⟩
              · have HK1 : Hid (A1 = []) := by show _ = _; rw [HA1.out, kp, if_neg (by omega)]
                have y1 : decide ((0 : Int) < (t : Int)) = false := decide_eq_false (by omega)
                have y2 : decide (0 < t) = false := decide_eq_false (by omega)
                rcases (show (0 < xn ∧ 0 < yn) ∨ (xn = 0) ∨ (0 < xn ∧ yn = 0) by omega) with hc2 | hc2 | hc2
                · have HK2 : Hid (A2 = A1 ++ MM.map (sh (t : Int) (t : Int))) := by show _ = _; rw [HA2.out, if_neg (by omega)]
                  have y3 : decide ((0 : Int) < (xn : Int)) = true := decide_eq_true (by omega)
                  have y4 : decide (0 < xn) = true := decide_eq_true (by omega)
                  have y5 : decide ((0 : Int) < (yn : Int)) = true := decide_eq_true (by omega)
                  have y6 : decide (0 < yn) = true := decide_eq_true (by omega)
                  rcases Nat.lt_or_ge 0 s with hc3 | hc3
                  · have HK3 : Hid (R = A2 ++ [⟨(nT : Int), (mT : Int), (s : Int)⟩]) := by show _ = _; rw [HR.out, kp, if_pos (by omega)]
                    have y7 : decide ((0 : Int) < (s : Int)) = true := decide_eq_true (by omega)
                    have y8 : decide (0 < s) = true := decide_eq_true (by omega)
                    clear hc1 hc2 hc3
                    go_upto_region 10 with fail
                    have HO1 : Hid (ROw wc w.heap.size (.slice none 0 0) A1) := by show ROw _ _ _ _; rw [HK1.out]; exact ROw.nil _ _
                    have HB1 := HB2
                    have hb1s := HB1.out.size
                    go_upto_region 14 with (first
                      | (go_at_call 45; ((with_reducible refine (HMID.out _ HB1.out).mono ?_); rintro e wm ⟨⟨pm, cm, rfl, hrm⟩, hbm⟩))
                      | (go_at_call 44; ((with_reducible refine (HMOV.out _ _ _ hrm).mono ?_); rintro e wv ⟨⟨pv, cv, rfl, hrv⟩, hbv⟩; have HO1v := Lib.hid ((HO1.out.below hbm).below hbv); have hbx := HB1.out.trans ((hbm.trans (hbv.mono hbm.size)).mono HB1.out.size); have hbxs := hbx.size))
                      | (at_builtin; refine app_rrw _ rfl _ _ 45 rfl Try.underlying45 w.heap.size (.slice none 0 0) 0 A1 rfl (by rw [HK1.out]; rfl) HO1v.out pv ML cv (MM.map (sh (t : Int) (t : Int))) rfl (by rw [List.length_map]; exact HMLM.out) hrv (by omega) hbxs ?_; intro q2 cap2 w2 ho2 hg2))
                    have HO2 : Hid (ROw w2 w.heap.size (.slice q2 (0 + ML) cap2) A2) := by show ROw _ _ _ _; rw [HK2.out]; exact ho2
                    have HL2' : Hid (0 + ML = A2.length) := by show _ = _; rw [HK2.out, List.length_append, List.length_map, ← HMLM.out, ← (show 0 = A1.length by rw [HK1.out]; rfl)]
                    have HB3 := Lib.hid (hbx.grown hg2 hbxs (fun j hj => (HO1v.out.lt j hj).1))
                    have hlz : 0 + ML ≤ 100001 := by rw [HL2'.out, ← HL2.out]; exact hL2l
                    clear ho2 hg2 hrm hbm hrv hbv hbx HO1v
                    rw [Nat.zero_add] at HO2 HL2' hlz
                    have hb3s := HB3.out.size
                    have ho5 := HO2.out.of HL2'.out
                    go_wp2_with (at_builtin; refine wpList_append_own _ rfl _ _ 45 rfl w.heap.size 30 i0 (.agg #[.int .i64 0, .int .i64 0, .int .i64 0]) 3 24 Try.underlying45 hif hz0 hz1 hz2 rfl (by decide) _ _ _ rfl (ho5.alloc _) ⟨w2.heap.size, 0, none⟩ 1 1 (Rn.cells ⟨(nT : Int), (mT : Int), (s : Int)⟩) rfl rfl (new_rn w2 ⟨(nT : Int), (mT : Int), (s : Int)⟩ _) (rn_one _) (by unfold maxLen; omega) (by omega) (by simp; omega) ?_; intro v6 w6 ho6 hg6 _)
                    have HO6 : Hid (ROw w6 w.heap.size v6 R) := by have h := ROw.push HL2'.out ho6; show ROw _ _ _ _; rw [HK3.out]; exact h
                    have HB6 := Lib.hid ((below_new HB3.out _).grown hg6 (by simp; omega) (fun j hj => (ho5.lt j hj).1))
                    clear ho6 hg6 ho5
                    go_ret
                    exact ⟨⟨_, rfl, HO6.out⟩, HB6.out⟩
                  · have HK3 : Hid (R = A2) := by show _ = _; rw [HR.out, kp, if_neg (by omega), List.append_nil]
                    have y7 : decide ((0 : Int) < (s : Int)) = false := decide_eq_false (by omega)
                    have y8 : decide (0 < s) = false := decide_eq_false (by omega)
                    clear hc1 hc2 hc3
                    go_upto_region 10 with fail
                    have HO1 : Hid (ROw wc w.heap.size (.slice none 0 0) A1) := by show ROw _ _ _ _; rw [HK1.out]; exact ROw.nil _ _
                    have HB1 := HB2
                    have hb1s := HB1.out.size
                    go_upto_region 14 with (first
                      | (go_at_call 45; ((with_reducible refine (HMID.out _ HB1.out).mono ?_); rintro e wm ⟨⟨pm, cm, rfl, hrm⟩, hbm⟩))
                      | (go_at_call 44; ((with_reducible refine (HMOV.out _ _ _ hrm).mono ?_); rintro e wv ⟨⟨pv, cv, rfl, hrv⟩, hbv⟩; have HO1v := Lib.hid ((HO1.out.below hbm).below hbv); have hbx := HB1.out.trans ((hbm.trans (hbv.mono hbm.size)).mono HB1.out.size); have hbxs := hbx.size))
                      | (at_builtin; refine app_rrw _ rfl _ _ 45 rfl Try.underlying45 w.heap.size (.slice none 0 0) 0 A1 rfl (by rw [HK1.out]; rfl) HO1v.out pv ML cv (MM.map (sh (t : Int) (t : Int))) rfl (by rw [List.length_map]; exact HMLM.out) hrv (by omega) hbxs ?_; intro q2 cap2 w2 ho2 hg2))
                    have HO2 : Hid (ROw w2 w.heap.size (.slice q2 (0 + ML) cap2) A2) := by show ROw _ _ _ _; rw [HK2.out]; exact ho2
                    have HL2' : Hid (0 + ML = A2.length) := by show _ = _; rw [HK2.out, List.length_append, List.length_map, ← HMLM.out, ← (show 0 = A1.length by rw [HK1.out]; rfl)]
                    have HB3 := Lib.hid (hbx.grown hg2 hbxs (fun j hj => (HO1v.out.lt j hj).1))
                    have hlz : 0 + ML ≤ 100001 := by rw [HL2'.out, ← HL2.out]; exact hL2l
                    clear ho2 hg2 hrm hbm hrv hbv hbx HO1v
                    rw [Nat.zero_add] at HO2 HL2' hlz
                    have hb3s := HB3.out.size
                    go_wp2_with fail
                    go_ret
                    exact ⟨⟨_, rfl, by rw [HK3.out]; exact HO2.out⟩, HB3.out⟩
                · have HK2 : Hid (A2 = A1) := by show _ = _; rw [HA2.out, if_pos (by omega), List.append_nil]
                  have y3 : decide ((0 : Int) < (xn : Int)) = false := decide_eq_false (by omega)
                  have y4 : decide (0 < xn) = false := decide_eq_false (by omega)
                  rcases Nat.lt_or_ge 0 s with hc3 | hc3
                  · have HK3 : Hid (R = A2 ++ [⟨(nT : Int), (mT : Int), (s : Int)⟩]) := by show _ = _; rw [HR.out, kp, if_pos (by omega)]
                    have y7 : decide ((0 : Int) < (s : Int)) = true := decide_eq_true (by omega)
                    have y8 : decide (0 < s) = true := decide_eq_true (by omega)
                    clear hc1 hc2 hc3
                    go_upto_region 10 with fail
                    have HO1 : Hid (ROw wc w.heap.size (.slice none 0 0) A1) := by show ROw _ _ _ _; rw [HK1.out]; exact ROw.nil _ _
                    have HB1 := HB2
                    have hb1s := HB1.out.size
                    go_upto_region 14 with fail
                    have HO2 : Hid (ROw wc w.heap.size (.slice none 0 0) A2) := by show ROw _ _ _ _; rw [HK2.out]; exact HO1.out
                    have HL2' : Hid (0 = A2.length) := by show _ = _; rw [HK2.out]; exact (by rw [HK1.out]; rfl)
                    have HB3 := HB1
                    have hb3s := HB3.out.size
                    have ho5 := HO2.out.of HL2'.out
                    go_wp2_with (at_builtin; refine wpList_append_own _ rfl _ _ 45 rfl w.heap.size 30 i0 (.agg #[.int .i64 0, .int .i64 0, .int .i64 0]) 3 24 Try.underlying45 hif hz0 hz1 hz2 rfl (by decide) _ _ _ rfl (ho5.alloc _) ⟨wc.heap.size, 0, none⟩ 1 1 (Rn.cells ⟨(nT : Int), (mT : Int), (s : Int)⟩) rfl rfl (new_rn wc ⟨(nT : Int), (mT : Int), (s : Int)⟩ _) (rn_one _) (by unfold maxLen; omega) (by omega) (by simp; omega) ?_; intro v6 w6 ho6 hg6 _)
                    have HO6 : Hid (ROw w6 w.heap.size v6 R) := by have h := ROw.push HL2'.out ho6; show ROw _ _ _ _; rw [HK3.out]; exact h
                    have HB6 := Lib.hid ((below_new HB3.out _).grown hg6 (by simp; omega) (fun j hj => (ho5.lt j hj).1))
                    clear ho6 hg6 ho5
                    go_ret
                    exact ⟨⟨_, rfl, HO6.out⟩, HB6.out⟩
                  · have HK3 : Hid (R = A2) := by show _ = _; rw [HR.out, kp, if_neg (by omega), List.append_nil]
                    have y7 : decide ((0 : Int) < (s : Int)) = false := decide_eq_false (by omega)
                    have y8 : decide (0 < s) = false := decide_eq_false (by omega)
                    clear hc1 hc2 hc3
                    go_upto_region 10 with fail
                    have HO1 : Hid (ROw wc w.heap.size (.slice none 0 0) A1) := by show ROw _ _ _ _; rw [HK1.out]; exact ROw.nil _ _
                    have HB1 := HB2
                    have hb1s := HB1.out.size
                    go_upto_region 14 with fail
                    have HO2 : Hid (ROw wc w.heap.size (.slice none 0 0) A2) := by show ROw _ _ _ _; rw [HK2.out]; exact HO1.out
                    have HL2' : Hid (0 = A2.length) := by show _ = _; rw [HK2.out]; exact (by rw [HK1.out]; rfl)
                    have HB3 := HB1
                    have hb3s := HB3.out.size
                    go_wp2_with fail
                    go_ret
                    exact ⟨⟨_, rfl, by rw [HK3.out]; exact HO2.out⟩, HB3.out⟩
                · have HK2 : Hid (A2 = A1) := by show _ = _; rw [HA2.out, if_pos (by omega), List.append_nil]
                  have y3 : decide ((0 : Int) < (xn : Int)) = true := decide_eq_true (by omega)
                  have y4 : decide (0 < xn) = true := decide_eq_true (by omega)
                  have y5 : decide ((0 : Int) < (yn : Int)) = false := decide_eq_false (by omega)
                  have y6 : decide (0 < yn) = false := decide_eq_false (by omega)
                  rcases Nat.lt_or_ge 0 s with hc3 | hc3
                  · have HK3 : Hid (R = A2 ++ [⟨(nT : Int), (mT : Int), (s : Int)⟩]) := by show _ = _; rw [HR.out, kp, if_pos (by omega)]
                    have y7 : decide ((0 : Int) < (s : Int)) = true := decide_eq_true (by omega)
                    have y8 : decide (0 < s) = true := decide_eq_true (by omega)
                    clear hc1 hc2 hc3
                    go_upto_region 10 with fail
                    have HO1 : Hid (ROw wc w.heap.size (.slice none 0 0) A1) := by show ROw _ _ _ _; rw [HK1.out]; exact ROw.nil _ _
                    have HB1 := HB2
                    have hb1s := HB1.out.size
                    go_upto_region 14 with fail
                    have HO2 : Hid (ROw wc w.heap.size (.slice none 0 0) A2) := by show ROw _ _ _ _; rw [HK2.out]; exact HO1.out
                    have HL2' : Hid (0 = A2.length) := by show _ = _; rw [HK2.out]; exact (by rw [HK1.out]; rfl)
                    have HB3 := HB1
                    have hb3s := HB3.out.size
                    have ho5 := HO2.out.of HL2'.out
                    go_wp2_with (at_builtin; refine wpList_append_own _ rfl _ _ 45 rfl w.heap.size 30 i0 (.agg #[.int .i64 0, .int .i64 0, .int .i64 0]) 3 24 Try.underlying45 hif hz0 hz1 hz2 rfl (by decide) _ _ _ rfl (ho5.alloc _) ⟨wc.heap.size, 0, none⟩ 1 1 (Rn.cells ⟨(nT : Int), (mT : Int), (s : Int)⟩) rfl rfl (new_rn wc ⟨(nT : Int), (mT : Int), (s : Int)⟩ _) (rn_one _) (by unfold maxLen; omega) (by omega) (by simp; omega) ?_; intro v6 w6 ho6 hg6 _)
                    have HO6 : Hid (ROw w6 w.heap.size v6 R) := by have h := ROw.push HL2'.out ho6; show ROw _ _ _ _; rw [HK3.out]; exact h
                    have HB6 := Lib.hid ((below_new HB3.out _).grown hg6 (by simp; omega) (fun j hj => (ho5.lt j hj).1))
                    clear ho6 hg6 ho5
                    go_ret
                    exact ⟨⟨_, rfl, HO6.out⟩, HB6.out⟩
                  · have HK3 : Hid (R = A2) := by show _ = _; rw [HR.out, kp, if_neg (by omega), List.append_nil]
                    have y7 : decide ((0 : Int) < (s : Int)) = false := decide_eq_false (by omega)
                    have y8 : decide (0 < s) = false := decide_eq_false (by omega)
                    clear hc1 hc2 hc3
                    go_upto_region 10 with fail
                    have HO1 : Hid (ROw wc w.heap.size (.slice none 0 0) A1) := by show ROw _ _ _ _; rw [HK1.out]; exact ROw.nil _ _
                    have HB1 := HB2
                    have hb1s := HB1.out.size
                    go_upto_region 14 with fail
                    have HO2 : Hid (ROw wc w.heap.size (.slice none 0 0) A2) := by show ROw _ _ _ _; rw [HK2.out]; exact HO1.out
                    have HL2' : Hid (0 = A2.length) := by show _ = _; rw [HK2.out]; exact (by rw [HK1.out]; rfl)
                    have HB3 := HB1
                    have hb3s := HB3.out.size
                    go_wp2_with fail
                    go_ret
                    exact ⟨⟨_, rfl, by rw [HK3.out]; exact HO2.out⟩, HB3.out⟩
end Go.Proofs.Ytnmebnpldacngaa
