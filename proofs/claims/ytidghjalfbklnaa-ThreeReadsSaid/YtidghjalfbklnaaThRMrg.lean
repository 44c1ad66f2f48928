/-
  The walks of the reference's region and Merge.
-/
import Derived.Test.YtidghjalfbklnaaThRReg
import Derived.Test.YtidghjalfbklnaaThMerge
namespace Go.Proofs.Ytidghjalfbklnaa
open Go.RowKit

set_option maxHeartbeats 4000000 in
set_option maxRecDepth 8000 in
theorem rregion_any (gs : List Rg) (b o t : List (List UInt8)) (p pb po pt : Option Addr) (base n cap nb cb no co nt ct : Nat) (w : World) (hn : n = gs.length) (ho : GOw w base (.slice p n cap) gs) (hbase : base ≤ w.heap.size) (hnb : nb = b.length) (hno : no = o.length) (hnt : nt = t.length)
    (hqb : ∀ w', w.grownBy w' (Value.slice p n cap).ownBlock → SRw w' pb b) (hqo : ∀ w', w.grownBy w' (Value.slice p n cap).ownBlock → SRw w' po o) (hqt : ∀ w', w.grownBy w' (Value.slice p n cap).ownBlock → SRw w' pt t) (hcb : nb ≤ cb) (hco : no ≤ co) (hct : nt ≤ ct)
    (hl : n ≤ 90000) (hlast : lastN gs ≤ 300000) (hb1 : nb ≤ 100000) (hno1 : no ≤ 100000) (hnt1 : nt ≤ 100000) :
    Calls Try.prog 47 #[.slice p n cap, .slice pb nb cb, .slice po no co, .slice pt nt ct] w (RGR w base (.slice p n cap) (resL gs b o t)) := by
  have hd : ∀ z, w.grownBy (w.drewN z) (Value.slice p n cap).ownBlock := fun z => grown_any (grown_of_below (below_drewN (Below.refl w.heap.size w) z))
  have hk : ∀ z, GOw (w.drewN z) base (.slice p n cap) gs := fun z => ho.keep (below_drewN (Below.refl w.heap.size w) z)
  have HCt : Hid (∀ z, Calls Try.prog 48 #[.slice p n cap, .slice pt nt ct] (w.drewN z) (RGR w base (.slice p n cap) (clG gs t))) := fun z =>
    (rcl_any gs t p pt base n cap nt ct (w.drewN z) hn hnt (hk z) hbase (fun w' hw' => hqt w' (grown_chain (hd z) hw' (.inl rfl))) (by omega) (by omega) (by omega)).mono fun e w' h => h.step (hd z) (.inl rfl)
  have HCo : Hid (∀ z, Calls Try.prog 48 #[.slice p n cap, .slice po no co] (w.drewN z) (RGR w base (.slice p n cap) (clG gs o))) := fun z =>
    (rcl_any gs o p po base n cap no co (w.drewN z) hn hno (hk z) hbase (fun w' hw' => hqo w' (grown_chain (hd z) hw' (.inl rfl))) (by omega) (by omega) (by omega)).mono fun e w' h => h.step (hd z) (.inl rfl)
  have HE1 : Hid (Calls Try.prog 27 #[.slice po no co, .slice pb nb cb] w fun e w' => e = .returned (.bool (decide (o = b))) ∧ ∃ k, w' = w.drewN k) :=
    rsame6_any o b po pb co cb no nb w hno hnb (hqo _ (grown_refl _ _)) (hqb _ (grown_refl _ _)) (by omega)
  have HE2 : Hid (∀ z, Calls Try.prog 27 #[.slice pt nt ct, .slice pb nb cb] (w.drewN z) fun e w' => e = .returned (.bool (decide (t = b))) ∧ ∃ k, w' = w.drewN k) := fun z =>
    (rsame6_any t b pt pb ct cb nt nb (w.drewN z) hnt hnb (hqt _ (hd z)) (hqb _ (hd z)) (by omega)).mono fun e w' ⟨he, k, hw⟩ => ⟨he, _, hw.trans (World.drewN_drewN _ _ _)⟩
  have HE3 : Hid (∀ z, Calls Try.prog 27 #[.slice po no co, .slice pt nt ct] (w.drewN z) fun e w' => e = .returned (.bool (decide (o = t))) ∧ ∃ k, w' = w.drewN k) := fun z =>
    (rsame6_any o t po pt co ct no nt (w.drewN z) hno hnt (hqo _ (hd z)) (hqt _ (hd z)) (by omega)).mono fun e w' ⟨he, k, hw⟩ => ⟨he, _, hw.trans (World.drewN_drewN _ _ _)⟩
  by_cases c1 : o = b
  · have hr : clG gs t = resL gs b o t := by rw [resL, if_pos c1]
    rw [hr] at HCt
    have HE1' : Hid (Calls Try.prog 27 #[.slice po no co, .slice pb nb cb] w fun e w' => e = .returned (.bool true) ∧ ∃ k, w' = w.drewN k) := by
      have := HE1
      rw [decide_eq_true c1] at this
      exact this
    clear ho hnb hno hnt hqb hqo hqt hd hk c1 hr HE1 HE2 HE3 hn hlast
    go_enter Try.func47, Try.ntmps47
    go_wp2_with (first
      | (go_at_call 27; ((with_reducible refine HE1'.out.mono ?_); rintro e w1 ⟨rfl, k1, rfl⟩))
      | (go_at_call 48; ((with_reducible refine (HCt.out _).mono ?_); rintro e w9 ⟨p9, n9, c9, rfl, hn9, ho9, hg9, hat9⟩; have HN9 := Lib.hid hn9; clear hn9)))
    go_ret
    exact ⟨p9, n9, c9, rfl, HN9.out, ho9, hg9, hat9⟩
  have HE1' : Hid (Calls Try.prog 27 #[.slice po no co, .slice pb nb cb] w fun e w' => e = .returned (.bool false) ∧ ∃ k, w' = w.drewN k) := by
    have := HE1
    rw [decide_eq_false c1] at this
    exact this
  by_cases c2 : t = b
  · have hr : clG gs o = resL gs b o t := by rw [resL, if_neg c1, if_pos (.inl c2)]
    rw [hr] at HCo
    have HE2' : Hid (∀ z, Calls Try.prog 27 #[.slice pt nt ct, .slice pb nb cb] (w.drewN z) fun e w' => e = .returned (.bool true) ∧ ∃ k, w' = w.drewN k) := fun z => by
      have := HE2.out z
      rw [decide_eq_true c2] at this
      exact this
    clear ho hnb hno hnt hqb hqo hqt hd hk c1 c2 hr HE1 HE2 HE3 hn hlast
    go_enter Try.func47, Try.ntmps47
    go_wp2_with (first
      | (go_at_call 27; first | ((with_reducible refine HE1'.out.mono ?_); rintro e w1 ⟨rfl, k1, rfl⟩) | ((with_reducible refine (HE2'.out _).mono ?_); rintro e w1 ⟨rfl, k2, rfl⟩))
      | (go_at_call 48; ((with_reducible refine (HCo.out _).mono ?_); rintro e w9 ⟨p9, n9, c9, rfl, hn9, ho9, hg9, hat9⟩; have HN9 := Lib.hid hn9; clear hn9)))
    go_ret
    exact ⟨p9, n9, c9, rfl, HN9.out, ho9, hg9, hat9⟩
  have HE2' : Hid (∀ z, Calls Try.prog 27 #[.slice pt nt ct, .slice pb nb cb] (w.drewN z) fun e w' => e = .returned (.bool false) ∧ ∃ k, w' = w.drewN k) := fun z => by
    have := HE2.out z
    rw [decide_eq_false c2] at this
    exact this
  by_cases c3 : o = t
  · have hr : clG gs o = resL gs b o t := by rw [resL, if_neg c1, if_pos (.inr c3)]
    rw [hr] at HCo
    have HE3' : Hid (∀ z, Calls Try.prog 27 #[.slice po no co, .slice pt nt ct] (w.drewN z) fun e w' => e = .returned (.bool true) ∧ ∃ k, w' = w.drewN k) := fun z => by
      have := HE3.out z
      rw [decide_eq_true c3] at this
      exact this
    clear ho hnb hno hnt hqb hqo hqt hd hk c1 c2 c3 hr HE1 HE2 HE3 hn hlast
    go_enter Try.func47, Try.ntmps47
    go_wp2_with (first
      | (go_at_call 27; first | ((with_reducible refine HE1'.out.mono ?_); rintro e w1 ⟨rfl, k1, rfl⟩) | ((with_reducible refine (HE2'.out _).mono ?_); rintro e w1 ⟨rfl, k2, rfl⟩) | ((with_reducible refine (HE3'.out _).mono ?_); rintro e w1 ⟨rfl, k3, rfl⟩))
      | (go_at_call 48; ((with_reducible refine (HCo.out _).mono ?_); rintro e w9 ⟨p9, n9, c9, rfl, hn9, ho9, hg9, hat9⟩; have HN9 := Lib.hid hn9; clear hn9)))
    go_ret
    exact ⟨p9, n9, c9, rfl, HN9.out, ho9, hg9, hat9⟩
  · have hr : confL gs b o t = resL gs b o t := by rw [resL, if_neg c1, if_neg (by rintro (h | h); exact c2 h; exact c3 h)]
    rw [← hr]
    exact rconf_any gs b o t p pb po pt base n cap nb cb no co nt ct w hn ho hbase hnb hno hnt hqb hqo hqt hcb hco hct hl hlast hb1 hno1 hnt1 c1 c2 c3

theorem GOw.grw {w : World} {base n c : Nat} {p : Option Addr} {gs : List Rg} (h : GOw w base (.slice p n c) gs) (hn : n = gs.length) : n ≤ c ∧ GRw w p gs := by
  obtain ⟨xs, h1, h2⟩ := h
  subst hn
  refine ⟨?_, fun k hk => ?_⟩
  · rcases h1.2 with ⟨h', h0⟩ | ⟨g', cap', cur, h', _, _, hc', _⟩
    · simp only [Value.slice.injEq] at h'
      omega
    · simp only [Value.slice.injEq] at h'
      obtain ⟨_, h3, h4⟩ := h'
      omega
  · obtain ⟨g, c2, he, _, hg⟩ := h1.form (by omega)
    simp only [Value.slice.injEq, true_and] at he
    obtain ⟨rfl, rfl⟩ := he
    obtain ⟨v0, v1, v2, v3, v4, x0, x1, x2, x3, x4, hc⟩ := h2 w (grown_refl _ _) k hk
    have hl : xs.length = gs.length * 5 := h1.1
    have ca : ∀ i, i < 5 → w.cell? ⟨g, k * 5 + i, none⟩ = xs[k * 5 + i]? := fun i hi => World.ownsRow.cellAt h1 (k * 5 + i) (by omega)
    refine ⟨g, 0, v0, v1, v2, v3, v4, rfl, hg, ?_, ?_, ?_, ?_, ?_, hc⟩
    · rw [Nat.zero_add, ← x0]; exact ca 0 (by omega)
    · rw [Nat.zero_add, ← x1]; exact ca 1 (by omega)
    · rw [Nat.zero_add, ← x2]; exact ca 2 (by omega)
    · rw [Nat.zero_add, ← x3]; exact ca 3 (by omega)
    · rw [Nat.zero_add, ← x4]; exact ca 4 (by omega)
theorem GOw.below {w w' wB : World} {base : Nat} {v : Value} {gs : List Rg} (h : GOw w base v gs) (hb : Below base wB w) (hs : base ≤ w.heap.size) (hg : w.grownBy w' v.ownBlock) : Below base wB w' := by
  obtain ⟨xs, h1, _⟩ := h
  exact hb.grown hg hs fun k hk => (h1.lt k hk).1

set_option maxHeartbeats 8000000 in
set_option maxRecDepth 10000 in
theorem rmerge_any (X Y Z : List (List UInt8)) (nb cb no co nt ct : Nat) (pb po pt : Option Addr) (w : World) (hnb : nb = X.length) (hno : no = Y.length) (hnt : nt = Z.length)
    (hpb : SRw w pb X) (hpo : SRw w po Y) (hpt : SRw w pt Z) (hcb : nb ≤ cb) (hco : no ≤ co) (hct : nt ≤ ct) (hb1 : nb ≤ 2000) (ho1 : no ≤ 2000) (ht1 : nt ≤ 2000) :
    Calls Try.prog 20 #[.slice pb nb cb, .slice po no co, .slice pt nt ct] w fun e w' => (∃ p n cap, e = .returned (.slice p n cap) ∧ Hid (n = (mergeL X Y Z).length ∧ n ≤ cap ∧ GRw w' p (mergeL X Y Z))) ∧ Below w.heap.size w w' := by
  obtain ⟨p, hp⟩ : ∃ p, p = kpL X Y := ⟨_, rfl⟩
  obtain ⟨q, hq⟩ : ∃ q, q = kpL X Z := ⟨_, rfl⟩
  obtain ⟨ip, jp, hmp, hjp⟩ := kpL_mon (X := X) (Y := Y) (by omega) (by omega)
  obtain ⟨iq, jq, hmq, hjq⟩ := kpL_mon (X := X) (Y := Z) (by omega) (by omega)
  rw [← hp] at hmp
  rw [← hq] at hmq
  have hpl : p.length = nb := by rw [hp, kpL_len, hnb]
  have hql : q.length = nb := by rw [hq, kpL_len, hnb]
  obtain ⟨T, hT⟩ : ∃ T, T = mergeL X Y Z := ⟨_, rfl⟩
  have HT : Hid (T = mrg X Y Z p q (nb - 0) 0 [] 0 0 0) := by show _ = _; rw [hT, mergeL, ← hp, ← hq, Nat.sub_zero, ← hnb]
  have HKo : Hid (Calls Try.prog 46 #[.slice pb nb cb, .slice po no co] w fun e w' => (∃ G, e = .returned (.slice (some ⟨G, 0, none⟩) nb nb) ∧ w.heap.size ≤ G ∧ Hid (w'.heap[G]? = some (.cells (ints p).toArray 3 (0, 0)))) ∧ Below w.heap.size w w') := by
    rw [hp]
    exact places_any X Y pb po cb co nb no w hnb hno hpb hpo hcb hco hb1 ho1
  have HKt : Hid (∀ w', Below w.heap.size w w' → Calls Try.prog 46 #[.slice pb nb cb, .slice pt nt ct] w' fun e w'' => (∃ G, e = .returned (.slice (some ⟨G, 0, none⟩) nb nb) ∧ w'.heap.size ≤ G ∧ Hid (w''.heap[G]? = some (.cells (ints q).toArray 3 (0, 0)))) ∧ Below w'.heap.size w' w'') := fun w' hb => by
    rw [hq]
    exact places_any X Z pb pt cb ct nb nt w' hnb hnt (hpb.below hb) (hpt.below hb) hcb hct hb1 ht1
  rw [← hT]
  have HMP := Lib.hid hmp
  have HMQ := Lib.hid hmq
  have HPL := Lib.hid hpl
  have HQL := Lib.hid hql
  have HNB := Lib.hid hnb
  have HNO := Lib.hid hno
  have HNT := Lib.hid hnt
  have HPB := Lib.hid hpb
  have HPO := Lib.hid hpo
  have HPT := Lib.hid hpt
  have hjp2 : jp ≤ no := by omega
  have hjq2 : jq ≤ nt := by omega
  clear hp hq hmp hmq hpl hql hT hnb hno hnt hpb hpo hpt hjp hjq
  go_enter Try.func20, Try.ntmps20
  go_upto_region 3 with (go_at_call 46; first
    | ((with_reducible refine HKo.out.mono ?_); rintro e w1 ⟨⟨G1, rfl, hg1, hr1⟩, hb1'⟩)
    | ((with_reducible refine (HKt.out _ hb1').mono ?_); rintro e w2 ⟨⟨G2, rfl, hg2, hr2⟩, hb2'⟩))
  obtain ⟨R, hR⟩ : ∃ R, R = w2.heap.size := ⟨_, rfl⟩
  have hb02 : Below w.heap.size w w2 := hb1'.trans (hb2'.mono hb1'.size)
  have hr12 : w2.heap[G1]? = some (.cells (ints p).toArray 3 (0, 0)) := (hb2'.block G1 (row_lt hr1.out)).trans hr1.out
  have hG1 : G1 < R := by rw [hR]; exact row_lt hr12
  have hG2 : G2 < R := by rw [hR]; exact row_lt hr2.out
  have hRw : w.heap.size ≤ R := by rw [hR]; exact hb02.size
  have hR2 : R ≤ w2.heap.size := Nat.le_of_eq hR
  have HSA : Hid (∀ w', Below R w2 w' → SRw w' pb X ∧ SRw w' po Y ∧ SRw w' pt Z) := fun w' hb => by
    have h1 : Below w.heap.size w w' := hb02.trans (hb.mono hRw)
    exact ⟨HPB.out.below h1, HPO.out.below h1, HPT.out.below h1⟩
  have HB02 := Lib.hid hb02
  have HR1 : Hid (∀ w', Below R w2 w' → w'.heap[G1]? = some (.cells (ints p).toArray 3 (0, 0))) := fun w' hb => (hb.block G1 hG1).trans hr12
  have HR2 : Hid (∀ w', Below R w2 w' → w'.heap[G2]? = some (.cells (ints q).toArray 3 (0, 0))) := fun w' hb => (hb.block G2 hG2).trans hr2.out
  have HP0 : Hid (∀ (k' : Nat) (x : Int), 0 ≤ k' → p[k']? = some x → 0 ≤ x → ((0 : Nat) : Int) ≤ x) := fun k' x _ _ h => by omega
  have HQ0 : Hid (∀ (k' : Nat) (x : Int), 0 ≤ k' → q[k']? = some x → 0 ≤ x → ((0 : Nat) : Int) ≤ x) := fun k' x _ _ h => by omega
  clear hR hb02 hr12 hr1 hr2 hb1' hb2' hg1 hg2 HKo HKt
  go_upto_region 5 with fail
  go_wp2_with fail
  go_loopw [13, 10, 11, 12, 9] (fun kv bv ov tv vv wr => ∃ (k b o t : Nat) (gs : List Rg) (pv : Option Addr) (nv cv : Nat), k ≤ nb ∧ b ≤ k ∧ o ≤ no ∧ t ≤ nt ∧ kv = .int .i64 (k : Int) ∧ bv = .int .i64 (b : Int) ∧ ov = .int .i64 (o : Int) ∧ tv = .int .i64 (t : Int) ∧ vv = .slice pv nv cv ∧ Hid (nv = gs.length ∧ GOw wr R (.slice pv nv cv) gs) ∧ Hid (T = mrg X Y Z p q (nb - k) k gs b o t) ∧ Hid (Below R w2 wr) ∧ nv ≤ 4 * k ∧ Hid (lastN gs ≤ o + t + k) ∧ Hid (∀ (k' : Nat) (x : Int), k ≤ k' → p[k']? = some x → 0 ≤ x → (o : Int) ≤ x) ∧ Hid (∀ (k' : Nat) (x : Int), k ≤ k' → q[k']? = some x → 0 ≤ x → (t : Int) ≤ x)) (fun kv _ _ _ _ _ => nb - (intOf kv).toNat)
  case atStart => exact ⟨0, 0, 0, 0, [], none, 0, 0, Nat.zero_le _, Nat.zero_le _, Nat.zero_le _, Nat.zero_le _, rfl, rfl, rfl, rfl, rfl, ⟨rfl, GOw.nil _ _⟩, HT.out, Below.refl _ _, by simp, by show 0 ≤ _; omega, HP0.out, HQ0.out⟩
  case round =>
    clear HT HP0 HQ0
    obtain ⟨k, b, o, t, gs, pv, nv, cv, hk, hbk, hon, htn, rfl, rfl, rfl, rfl, rfl, HGO, HT, HW, hgl, HLN, HPO2, HPT2⟩ := hrel
    by_cases hlt : k < nb
    · obtain ⟨x, hx⟩ : ∃ x, p[k]? = some x := ⟨_, List.getElem?_eq_getElem (by rw [HPL.out]; exact hlt)⟩
      obtain ⟨y, hy⟩ : ∃ y, q[k]? = some y := ⟨_, List.getElem?_eq_getElem (by rw [HQL.out]; exact hlt)⟩
      have rowp : ∀ w', Below R w2 w' → w'.cell? ⟨G1, k, none⟩ = some (.int .i64 x) := fun w' hw' => by
        rw [cell_of_row w' G1 k _ _ _ (HR1.out w' hw'), ints_at p k (by rw [HPL.out]; exact hlt)]
        rw [List.getElem?_eq_getElem (by rw [HPL.out]; exact hlt)] at hx
        rw [Option.some.inj hx]
      have rowq : ∀ w', Below R w2 w' → w'.cell? ⟨G2, k, none⟩ = some (.int .i64 y) := fun w' hw' => by
        rw [cell_of_row w' G2 k _ _ _ (HR2.out w' hw'), ints_at q k (by rw [HQL.out]; exact hlt)]
        rw [List.getElem?_eq_getElem (by rw [HQL.out]; exact hlt)] at hy
        rw [Option.some.inj hy]
      have cellp := rowp wr HW.out
      have cellq := rowq wr HW.out
      have hstep : T = if x < 0 ∨ y < 0 then mrg X Y Z p q (nb - (k + 1)) (k + 1) gs b o t else mrg X Y Z p q (nb - (k + 1)) (k + 1) (clG (resL gs ((X.drop b).take (k - b)) ((Y.drop o).take (x.toNat - o)) ((Z.drop t).take (y.toNat - t))) ((X.drop k).take 1)) (k + 1) (x.toNat + 1) (y.toNat + 1) := by
        rw [HT.out, show nb - k = (nb - (k + 1)) + 1 by omega, mrg, hx, hy]
        rfl
      have hvx := HMP.out.val k x hx
      have hvy := HMQ.out.val k y hy
      have HX := Lib.hid hx
      have HY := Lib.hid hy
      have ROWP := Lib.hid rowp
      have ROWQ := Lib.hid rowq
      clear hx hy HT rowp rowq
      by_cases hneg : x < 0 ∨ y < 0
      · rw [if_pos hneg] at hstep
        have HT2 := Lib.hid hstep
        have HP3 : Hid (∀ (k' : Nat) (x : Int), k + 1 ≤ k' → p[k']? = some x → 0 ≤ x → (o : Int) ≤ x) := fun k' x h => HPO2.out k' x (by omega)
        have HQ3 : Hid (∀ (k' : Nat) (x : Int), k + 1 ≤ k' → q[k']? = some x → 0 ≤ x → (t : Int) ≤ x) := fun k' x h => HPT2.out k' x (by omega)
        have HL3 : Hid (lastN gs ≤ o + t + (k + 1)) := Nat.le_trans HLN.out (by omega)
        clear hstep hvx hvy
        by_cases hx0 : x < 0
        · clear hneg
          go_wp2
          go_roundw
          case rel => exact ⟨k + 1, b, o, t, gs, pv, nv, cv, by omega, by omega, hon, htn, by go_num, rfl, rfl, rfl, rfl, HGO.out, HT2.out, HW.out, by omega, HL3.out, HP3.out, HQ3.out⟩
          case measure => simp [intOf]; omega
        · have hy0 : y < 0 := by omega
          clear hneg
          go_wp2
          go_roundw
          case rel => exact ⟨k + 1, b, o, t, gs, pv, nv, cv, by omega, by omega, hon, htn, by go_num, rfl, rfl, rfl, rfl, HGO.out, HT2.out, HW.out, by omega, HL3.out, HP3.out, HQ3.out⟩
          case measure => simp [intOf]; omega
      · rw [if_neg hneg] at hstep
        obtain ⟨i, rfl⟩ : ∃ i : Nat, x = (i : Int) := ⟨x.toNat, by omega⟩
        obtain ⟨j, rfl⟩ : ∃ j : Nat, y = (j : Int) := ⟨y.toNat, by omega⟩
        simp only [Int.toNat_natCast] at hstep
        have hio : i < no := by omega
        have hjt : j < nt := by omega
        have hoi : o ≤ i := by have := HPO2.out k i (Nat.le_refl _) HX.out (by omega); omega
        have htj : t ≤ j := by have := HPT2.out k j (Nat.le_refl _) HY.out (by omega); omega
        have HT2 := Lib.hid hstep
        have HP3 : Hid (∀ (k' : Nat) (x : Int), k + 1 ≤ k' → p[k']? = some x → 0 ≤ x → ((i + 1 : Nat) : Int) ≤ x) := fun k' x h hx' h0 => by
          have := HMP.out.mono k k' i x (by omega) HX.out hx' (by omega) h0
          omega
        have HQ3 : Hid (∀ (k' : Nat) (x : Int), k + 1 ≤ k' → q[k']? = some x → 0 ≤ x → ((j + 1 : Nat) : Int) ≤ x) := fun k' x h hx' h0 => by
          have := HMQ.out.mono k k' j x (by omega) HY.out hx' (by omega) h0
          omega
        clear hstep hvx hvy hneg
        go_upto_region 9 with fail
        obtain ⟨Pb, hPb⟩ : ∃ P, (if cb = b then pb else pb.map (·.add b)) = P := ⟨_, rfl⟩
        obtain ⟨Po, hPo⟩ : ∃ P, (if co = o then po else po.map (·.add o)) = P := ⟨_, rfl⟩
        obtain ⟨Pt, hPt⟩ : ∃ P, (if ct = t then pt else pt.map (·.add t)) = P := ⟨_, rfl⟩
        have r1 : k ≤ cb := by omega
        have r2 : i ≤ co := by omega
        have r3 : j ≤ ct := by omega
        have HPB1 := Lib.hid hPb
        have HPO1 := Lib.hid hPo
        have HPT1 := Lib.hid hPt
        go_still_tail 19, (by kernel_rfl)
        change wpList _ _ _ _ _ wr.drew
        have hbk5 : Below wr.heap.size wr wr.drew := (Below.refl _ _).drew
        have HW5 : Hid (Below R w2 wr.drew) := HW.out.trans (hbk5.mono (by have := HW.out.size; omega))
        have HG5 : Hid (nv = gs.length ∧ GOw wr.drew R (.slice pv nv cv) gs) := ⟨HGO.out.1, HGO.out.2.keep hbk5⟩
        clear cellp cellq hbk5 HGO HW
        generalize wr.drew = w5 at HW5 HG5 ⊢
        have hs5 : R ≤ w5.heap.size := Nat.le_trans hR2 HW5.out.size
        have HCH : Hid (∀ w', w5.grownBy w' (Value.slice pv nv cv).ownBlock → Below R w2 w') := fun w' hw' => HG5.out.2.below HW5.out hs5 hw'
        have HRV : Hid (Calls Try.prog 47 #[.slice pv nv cv, .slice Pb (k - b) (cb - b), .slice Po (i - o) (co - o), .slice Pt (j - t) (ct - t)] w5 (RGR w5 R (.slice pv nv cv) (resL gs ((X.drop b).take (k - b)) ((Y.drop o).take (i - o)) ((Z.drop t).take (j - t))))) := by
          refine rregion_any gs _ _ _ pv Pb Po Pt R nv cv (k - b) (cb - b) (i - o) (co - o) (j - t) (ct - t) w5 HG5.out.1 HG5.out.2 hs5 (by rw [List.length_take, List.length_drop, ← HNB.out]; omega) (by rw [List.length_take, List.length_drop, ← HNO.out]; omega) (by rw [List.length_take, List.length_drop, ← HNT.out]; omega) (fun w' hw' => ?_) (fun w' hw' => ?_) (fun w' hw' => ?_) (by omega) (by omega) (by omega) (by omega) (by have := HLN.out; omega) (by omega) (by omega) (by omega)
          · rw [← HPB1.out]; exact srw_cut (HSA.out w' (HCH.out w' hw')).1 b k HNB.out hcb hbk (by omega)
          · rw [← HPO1.out]; exact srw_cut (HSA.out w' (HCH.out w' hw')).2.1 o i HNO.out hco hoi (by omega)
          · rw [← HPT1.out]; exact srw_cut (HSA.out w' (HCH.out w' hw')).2.2 t j HNT.out hct htj (by omega)
        clear hPb hPo hPt
        go_upto_region 10 with (go_at_call 47; ((with_reducible refine HRV.out.mono ?_); rintro e w6 ⟨p6, n6, c6, rfl, hn6, ho6, hg6, hat6⟩; have HN6 := Lib.hid hn6; clear hn6))
        obtain ⟨Pk, hPk⟩ : ∃ P, (if cb = k then pb else pb.map (·.add k)) = P := ⟨_, rfl⟩
        have HPK1 := Lib.hid hPk
        have HW6 : Hid (Below R w2 w6) := HCH.out w6 hg6
        have hs6 : R ≤ w6.heap.size := Nat.le_trans hR2 HW6.out.size
        have HLR := Lib.hid (lastN_res gs ((X.drop b).take (k - b)) ((Y.drop o).take (i - o)) ((Z.drop t).take (j - t)))
        obtain ⟨g2, hg2⟩ : ∃ g2, g2 = resL gs ((X.drop b).take (k - b)) ((Y.drop o).take (i - o)) ((Z.drop t).take (j - t)) := ⟨_, rfl⟩
        rw [← hg2] at ho6 HLR HT2 HN6
        have hl2 : lastN g2 ≤ i + j + k ∧ n6 ≤ 4 * k + 3 := by
          have h1 := HLR.out
          have h2 := HLN.out
          have h3 := HN6.out
          have h4 := HG5.out.1
          rw [List.length_take, List.length_take, List.length_drop, List.length_drop] at h1
          omega
        have HL2 := Lib.hid hl2
        have HG6 := Lib.hid ho6
        have HCH6 : Hid (∀ w', w6.grownBy w' (Value.slice p6 n6 c6).ownBlock → Below R w2 w') := fun w' hw' => HG6.out.below HW6.out hs6 hw'
        have HCN : Hid (Calls Try.prog 48 #[.slice p6 n6 c6, .slice Pk 1 (cb - k)] w6 (RGR w6 R (.slice p6 n6 c6) (clG g2 ((X.drop k).take 1)))) := by
          refine rcl_any g2 ((X.drop k).take 1) p6 Pk R n6 c6 1 (cb - k) w6 HN6.out (by rw [List.length_take, List.length_drop, ← HNB.out]; omega) HG6.out hs6 (fun w' hw' => ?_) (by have := HL2.out; omega) (by omega) (by have := HL2.out; omega)
          rw [← HPK1.out]
          have := srw_cut (c := cb) (n := nb) (HSA.out w' (HCH6.out w' hw')).1 k (k + 1) HNB.out hcb (by omega) (by omega)
          rw [show k + 1 - k = 1 by omega] at this
          exact this
        have i1 : IntKind.i64.wrap ((k : Int) + 1) = ((k + 1 : Nat) : Int) := by rw [IntWalk.i64_in _ (by omega)]; omega
        have q1 : k + 1 ≤ cb := by omega
        have q2 : k + 1 - k = 1 := by omega
        clear hg2 hl2 ho6 hg6 hat6 HRV HG5 HW5 HCH
        go_upto_region 11 with (go_at_call 48; ((with_reducible refine HCN.out.mono ?_); rintro e w7 ⟨p7, n7, c7, rfl, hn7, ho7, hg7, hat7⟩; have HN7 := Lib.hid hn7; clear hn7))
        have HG7 : Hid (n7 = (clG g2 ((X.drop k).take 1)).length ∧ GOw w7 R (.slice p7 n7 c7) (clG g2 ((X.drop k).take 1))) := ⟨HN7.out, ho7⟩
        have HW7 : Hid (Below R w2 w7) := HCH6.out w7 hg7
        have HL7 : Hid (lastN (clG g2 ((X.drop k).take 1)) ≤ (i + 1) + (j + 1) + (k + 1)) := by
          have h1 := (lastN_cl g2 ((X.drop k).take 1)).1
          have h2 := HL2.out.1
          have h3 : ((X.drop k).take 1).length ≤ 1 := by rw [List.length_take]; omega
          show _ ≤ _
          omega
        have hg7' : n7 ≤ 4 * (k + 1) := by
          have h1 := (lastN_cl g2 ((X.drop k).take 1)).2
          have h2 := HL2.out.2
          have h3 := HN6.out
          have h4 := HN7.out
          omega
        have i2 : IntKind.i64.wrap ((i : Int) + 1) = ((i + 1 : Nat) : Int) := by rw [IntWalk.i64_in _ (by omega)]; omega
        have i3 : IntKind.i64.wrap ((j : Int) + 1) = ((j + 1 : Nat) : Int) := by rw [IntWalk.i64_in _ (by omega)]; omega
        have cp7 := ROWP.out w7 HW7.out
        have cq7 := ROWQ.out w7 HW7.out
        clear ho7 hg7 hat7 HCN HCH6 HG6 hPk HN7 HN6
        go_wp2
        go_roundw
        case rel => exact ⟨k + 1, k + 1, i + 1, j + 1, clG g2 ((X.drop k).take 1), p7, n7, c7, by omega, by omega, by omega, by omega, by go_num, by first | rfl | go_num, by first | rfl | go_num, by first | rfl | go_num, rfl, HG7.out, HT2.out, HW7.out, hg7', HL7.out, HP3.out, HQ3.out⟩
        case measure => simp [intOf]; omega
    · obtain rfl : k = nb := by omega
      have ht := HT.out
      rw [Nat.sub_self, mrg] at ht
      have HT2 := Lib.hid ht
      clear ht HT HPO2 HPT2
      go_upto_region 14 with fail
      obtain ⟨Pb, hPb⟩ : ∃ P, (if cb = b then pb else pb.map (·.add b)) = P := ⟨_, rfl⟩
      obtain ⟨Po, hPo⟩ : ∃ P, (if co = o then po else po.map (·.add o)) = P := ⟨_, rfl⟩
      obtain ⟨Pt, hPt⟩ : ∃ P, (if ct = t then pt else pt.map (·.add t)) = P := ⟨_, rfl⟩
      have HPB1 := Lib.hid hPb
      have HPO1 := Lib.hid hPo
      have HPT1 := Lib.hid hPt
      go_still_tail 10, (by kernel_rfl)
      change wpList _ _ _ _ _ wr.drew
      have hbk5 : Below wr.heap.size wr wr.drew := (Below.refl _ _).drew
      have HW5 : Hid (Below R w2 wr.drew) := HW.out.trans (hbk5.mono (by have := HW.out.size; omega))
      have HG5 : Hid (nv = gs.length ∧ GOw wr.drew R (.slice pv nv cv) gs) := ⟨HGO.out.1, HGO.out.2.keep hbk5⟩
      clear hbk5 HGO HW
      generalize wr.drew = w5 at HW5 HG5 ⊢
      have hs5 : R ≤ w5.heap.size := Nat.le_trans hR2 HW5.out.size
      have HCH : Hid (∀ w', w5.grownBy w' (Value.slice pv nv cv).ownBlock → Below R w2 w') := fun w' hw' => HG5.out.2.below HW5.out hs5 hw'
      have HRV : Hid (Calls Try.prog 47 #[.slice pv nv cv, .slice Pb (k - b) (cb - b), .slice Po (no - o) (co - o), .slice Pt (nt - t) (ct - t)] w5 (RGR w5 R (.slice pv nv cv) (resL gs (X.drop b) (Y.drop o) (Z.drop t)))) := by
        refine rregion_any gs _ _ _ pv Pb Po Pt R nv cv (k - b) (cb - b) (no - o) (co - o) (nt - t) (ct - t) w5 HG5.out.1 HG5.out.2 hs5 (by rw [List.length_drop, ← HNB.out]) (by rw [List.length_drop, ← HNO.out]) (by rw [List.length_drop, ← HNT.out]) (fun w' hw' => ?_) (fun w' hw' => ?_) (fun w' hw' => ?_) (by omega) (by omega) (by omega) (by omega) (by have := HLN.out; omega) (by omega) (by omega) (by omega)
        · rw [← HPB1.out]; exact (HSA.out w' (HCH.out w' hw')).1.cut b (by rw [← HNB.out]; exact hcb) (by rw [← HNB.out]; omega)
        · rw [← HPO1.out]; exact (HSA.out w' (HCH.out w' hw')).2.1.cut o (by rw [← HNO.out]; exact hco) (by rw [← HNO.out]; omega)
        · rw [← HPT1.out]; exact (HSA.out w' (HCH.out w' hw')).2.2.cut t (by rw [← HNT.out]; exact hct) (by rw [← HNT.out]; omega)
      clear hPb hPo hPt
      go_wp2_with (go_at_call 47; ((with_reducible refine HRV.out.mono ?_); rintro e w6 ⟨p6, n6, c6, rfl, hn6, ho6, hg6, hat6⟩; have HN6 := Lib.hid hn6; have HG6 := Lib.hid ho6; have HGR6 := Lib.hid hg6; clear hn6 ho6 hg6 hat6))
      go_ret
      have hr6 := HG6.out.grw HN6.out
      rw [← HT2.out] at hr6
      exact ⟨⟨p6, n6, c6, rfl, by rw [HN6.out, HT2.out], hr6.1, hr6.2⟩, HB02.out.trans ((HCH.out w6 HGR6.out).mono hRw)⟩
end Go.Proofs.Ytidghjalfbklnaa
