/-
  The walk of the reference's middle, over its stay; Script; the law HistoScripts.
-/
import Derived.Test.YtnmebnpldacngaaHsRStay
import Derived.Test.YtnmebnpldacngaaHsRAnch
import Derived.StillTailTactics
import Derived.Test.YtnmebnpldacngaaHsLives
import Derived.Test.YtnmebnpldacngaaDfSA
namespace Go.Proofs.Ytnmebnpldacngaa
open Go.RowKit

theorem srw_takeTo {w : World} {p : Option Addr} {ls : List (List UInt8)} (h : SRw w p ls) (k : Nat) : SRw w p (ls.take k) := fun i hi => by
  have h2 : i < ls.length := by rw [List.length_take] at hi; omega
  obtain ⟨g, o, rfl, hg, hc⟩ := h i h2
  exact ⟨g, o, rfl, hg, by rw [hc]; congr 3; simp⟩
theorem srw_dropTo {w : World} {p : Option Addr} {ls : List (List UInt8)} {c n : Nat} (h : SRw w p ls) (i : Nat) (hn : n = ls.length) (hc : n ≤ c) (hi : i ≤ n) : SRw w (if c = i then p else p.map (·.add i)) (ls.drop i) := by
  have h1 := srw_cutTo h i n hn hc hi (Nat.le_refl _)
  rw [List.take_of_length_le (by rw [List.length_drop]; omega)] at h1
  exact h1

/-- append of a row of runs, as it runs. -/
theorem run_app_rrw (w : World) (t ty : TypeId) (ht : Try.prog.underlying t = some (.slice 30)) (base : Nat) (v : Value) (n : Nat) (acc : List Rn) (hn : n = acc.length) (hown : ROw w base v acc)
    (p : Option Addr) (m c : Nat) (news : List Rn) (hm : m = news.length) (hr : RRw w p news) (hb : n + m ≤ 1048576) (hbase : base ≤ w.heap.size) :
    ∃ q cap w', (Builtin.append_ #[t, t] ty #[v, .slice p m c]).run Try.prog w = .ok (.slice q (n + m) cap) w' ∧ ROw w' base (.slice q (n + m) cap) (acc ++ news) ∧ w.grownBy w' v.ownBlock := by
  obtain ⟨i0, hi, hz0, hz1, hz2⟩ := info_parts Try.infoRn
  have hown' : w.ownsRow base 30 3 v n (rcells acc) := hown.of hn
  have fin : ∀ v' w', (Builtin.append_ #[t, t] ty #[v, .slice p m c]).run Try.prog w = .ok v' w' → w'.ownsRow base 30 3 v' (n + m) (rcells acc ++ rcells news) → w.grownBy w' v.ownBlock → ∃ q cap w', (Builtin.append_ #[t, t] ty #[v, .slice p m c]).run Try.prog w = .ok (.slice q (n + m) cap) w' ∧ ROw w' base (.slice q (n + m) cap) (acc ++ news) ∧ w.grownBy w' v.ownBlock := fun v' w' hrun h1 h2 => by
    have h3 : ROw w' base v' (acc ++ news) := by
      unfold ROw
      rw [List.length_append, ← hn, ← hm, rcells, List.flatMap_append]
      exact h1
    obtain ⟨q, cap, rfl⟩ := h3.shapeN (n := n + m) (by rw [List.length_append, hn, hm])
    exact ⟨q, cap, w', hrun, h3, h2⟩
  rcases p with _ | ad
  · have h0 : news = [] := by
      cases news with
      | nil => rfl
      | cons y l =>
        obtain ⟨g, o', h1, _⟩ := hr 0 (by simp)
        cases h1
    subst h0
    obtain rfl : m = 0 := hm
    exact fin v w (app_none_r w base t ty 30 i0 3 ht hi v n (rcells acc) hown' c) (by simpa [rcells] using hown') ⟨rfl, rfl, rfl, Nat.le_refl _, fun _ _ _ => rfl⟩
  · obtain ⟨v', w', hrun, r1, r2, _⟩ := run_append_own (P := Try.prog) w base t ty 30 i0 (.agg #[.int .i64 0, .int .i64 0, .int .i64 0]) 3 24 ht hi hz0 hz1 hz2 rfl (by decide) v n (rcells acc) hown' ad m c (rcells news) (by rw [rcells_len, hm]) (fun j u hj => by
      have hj' : j < news.length * 3 := by
        have := (List.getElem?_eq_some_iff.mp hj).1
        rwa [rcells_len] at this
      obtain ⟨k, e, he, rfl⟩ : ∃ k e, e < 3 ∧ j = k * 3 + e := ⟨j / 3, j % 3, Nat.mod_lt _ (by decide), by omega⟩
      have hk : k < news.length := by omega
      obtain ⟨g, o', h1, _, h2, h3, h4⟩ := hr k hk
      simp only [Option.some.injEq] at h1
      subst h1
      rw [rcells_at news k e hk he] at hj
      rw [Addr.add_lit]
      match e, he with
      | 0, _ => rw [show o' + (k * 3 + 0) = o' + k * 3 by omega, h2]; simpa [Rn.cells] using hj
      | 1, _ => rw [show o' + (k * 3 + 1) = o' + k * 3 + 1 by omega, h3]; simpa [Rn.cells] using hj
      | 2, _ => rw [show o' + (k * 3 + 2) = o' + k * 3 + 2 by omega, h4]; simpa [Rn.cells] using hj) (fun u hu => by
      simp only [rcells, List.mem_flatMap] at hu
      obtain ⟨r, _, hr⟩ := hu
      exact rn_one r u hr) (by unfold maxLen; omega) (by omega) hbase
    exact fin v' w' hrun r1 r2
/-- .. at a step of a region that draws its order. -/
theorem step_app_rrw (w : World) {ops : Array Oper} {o : Oper} {a : Act} {K : Act → World → Prop} {Q : Exit → Act → World → Prop} {E : Prop} (hgd : o.guard = none) (s x : Operand) (t : TypeId)
    (ho : o.op = .call { callee := .builtin .append, args := #[s, x], argTypes := #[t, t] }) (ht : Try.prog.underlying t = some (.slice 30)) (base : Nat) (v : Value) (n : Nat) (acc : List Rn) (hs : a.eval s = v) (hn : n = acc.length) (hown : ROw w base v acc)
    (p : Option Addr) (m c : Nat) (news : List Rn) (hx : a.eval x = .slice p m c) (hm : m = news.length) (hr : RRw w p news) (hb : n + m ≤ 1048576) (hbase : base ≤ w.heap.size)
    (h : ∀ q cap w', ROw w' base (.slice q (n + m) cap) (acc ++ news) → w.grownBy w' v.ownBlock → K (a.put o.dst (.slice q (n + m) cap)) w') :
    if Region.wanted o (yielded ops a.tmps) = true then Oper.wp Try.prog o a w K Q else E := by
  have hw : Region.wanted o (yielded ops a.tmps) = true := by simp [Region.wanted, hgd]
  rw [if_pos hw]
  obtain ⟨q, cap, w', hrun, r1, r2⟩ := run_app_rrw w t o.type ht base v n acc hn hown p m c news hm hr hb hbase
  unfold Oper.wp
  simp [execOp, ho, resolve, invoke, builtin, hs, hx, hrun, Result.andThen]
  exact h _ _ _ r1 r2

theorem box_grown3 {w w' : World} {base E : Nat} {v a b c : Value} {l : List Rn} (h : ROw w base v l) (hE : E < base) (hEw : E < w.heap.size) (hk : w.cell? ⟨E, 0, none⟩ = some a ∧ w.cell? ⟨E, 1, none⟩ = some b ∧ w.cell? ⟨E, 2, none⟩ = some c) (hg : w.grownBy w' v.ownBlock) :
    w'.cell? ⟨E, 0, none⟩ = some a ∧ w'.cell? ⟨E, 1, none⟩ = some b ∧ w'.cell? ⟨E, 2, none⟩ = some c := by
  have h' : w.ownsRow base 30 3 v l.length (rcells l) := h
  have hne : some E ≠ v.ownBlock := fun e => by have := (h'.lt E e.symm).1; omega
  exact ⟨(hg.cell_far ⟨E, 0, none⟩ hEw hne).trans hk.1, (hg.cell_far ⟨E, 1, none⟩ hEw hne).trans hk.2.1, (hg.cell_far ⟨E, 2, none⟩ hEw hne).trans hk.2.2⟩

set_option maxHeartbeats 8000000 in
set_option maxRecDepth 8000 in
theorem rmid_step (k : Nat) (hstay : StayP k) : MiddP k := by
  intro X Y p q c d n m w hn hm hp hq hnc hmd hl hl2 hk
  obtain ⟨i0, hif, hz0, hz1, hz2⟩ := info_parts Try.infoRn
  obtain ⟨R, hR⟩ : ∃ R, R = mid LSr (sp LSr k) X Y 0 0 := ⟨_, rfl⟩
  rw [← hR]
  have HANC : Hid (Calls Try.prog 14 #[.slice p n c, .slice q m d] w fun e w' => e = .returned (ancV (anc X Y)) ∧ Below w.heap.size w w') := ranchor_any X Y p q c d n m w hn hm hp hq (by omega) (by omega)
  cases ho : anc X Y with
  | none =>
    rw [mid_none (by omega) (by omega) ho] at hR
    rw [ho] at HANC
    have HLE : Hid (∀ w', Below w.heap.size w w' → Calls Try.prog 57 #[.slice p n c, .slice q m d] w' fun e w'' => (∃ v L cap, e = .returned (.slice v L cap) ∧ L = (leastL X Y).length ∧ ERw w'' v (leastL X Y)) ∧ Below w'.heap.size w' w'') := fun w' hb =>
      (rleast_any X Y p q c d n m w' hn hm (hp.below hb) (hq.below hb) hnc hmd (by omega) (by omega)).mono fun e w'' ⟨⟨v, he, hr⟩, hb2⟩ => by
        obtain ⟨p2, cap2, rfl, hr2⟩ := hr.rw
        exact ⟨⟨p2, _, cap2, he, rfl, hr2⟩, hb2⟩
    have hlen : (leastL X Y).length ≤ 1000000 := by have := leastL_len X Y; omega
    have HST : Hid (∀ w' v L cap, L = (leastL X Y).length → ERw w' v (leastL X Y) → Calls Try.prog 56 #[.slice v L cap, .int .i64 (n : Int)] w' fun e w'' => (∃ v, e = .returned v ∧ ROw w'' w'.heap.size v R) ∧ Below w'.heap.size w' w'') := fun w' v L cap hL hr => by
      have h := stay_any (leastL X Y) v cap L (n : Int) w' hL hr (by omega)
      rw [hR]
      unfold LSr
      rw [← hn]
      exact h
    have HANC' : Hid (Calls Try.prog 14 #[.slice p n c, .slice q m d] w fun e w' => e = .returned (.tuple #[.agg #[.int .i64 0, .int .i64 0, .int .i64 0], .bool false]) ∧ Below w.heap.size w w') := HANC
    clear hn hm hp hq hR ho hlen hstay HANC
    go_enter Try.func45, Try.ntmps45
    go_upto_region 2 with (go_at_call 14; ((refine HANC'.out.mono ?_); rintro e w1 ⟨rfl, hb1⟩))
    have hb2 : Below w.heap.size w (w1.alloc (.cells #[.int .i64 0, .int .i64 0, .int .i64 0] 30)) := below_new hb1 _
    generalize w1.alloc (.cells #[.int .i64 0, .int .i64 0, .int .i64 0] 30) = w2 at hb2 ⊢
    go_wp2_with (first
      | (go_at_call 57; ((with_reducible refine (HLE.out _ hb2).mono ?_); rintro e w3 ⟨⟨v3, L3, cap3, rfl, hL3, hr3⟩, hb3⟩; have HL3 := Lib.hid hL3; clear hL3))
      | (go_at_call 56; ((with_reducible refine (HST.out _ _ _ _ HL3.out hr3).mono ?_); rintro e w4 ⟨⟨v4, rfl, ho4⟩, hb4⟩)))
    go_ret
    have hb23 := hb2.trans (hb3.mono hb2.size)
    exact ⟨⟨_, rfl, ho4.lower hb23.size⟩, hb23.trans (hb4.mono hb23.size)⟩
  | some r =>
    obtain ⟨h1, h2, h3⟩ := anc_facts ho
    rw [mid_some ho] at hR
    rw [ho] at HANC
    obtain ⟨ra, rb, rn⟩ := r
    simp only at h1 h2 h3 hR
    rw [← hn] at h2
    rw [← hm] at h3
    obtain ⟨za, hza⟩ : ∃ za, za = ra + rn := ⟨_, rfl⟩
    obtain ⟨zb, hzb⟩ : ∃ zb, zb = rb + rn := ⟨_, rfl⟩
    rw [← hza, ← hzb] at hR
    obtain ⟨S1, hS1⟩ : ∃ S1, S1 = sp LSr k (X.take ra) (Y.take rb) 0 0 := ⟨_, rfl⟩
    obtain ⟨S2, hS2⟩ : ∃ S2, S2 = sp LSr k (X.drop za) (Y.drop zb) 0 0 := ⟨_, rfl⟩
    rw [← hS1, ← hS2] at hR
    have htx : (X.take ra).length = ra := by rw [List.length_take]; omega
    have hty : (Y.take rb).length = rb := by rw [List.length_take]; omega
    have hdx : (X.drop za).length = n - za := by rw [List.length_drop, ← hn]
    have hdy : (Y.drop zb).length = m - zb := by rw [List.length_drop, ← hm]
    have hi2 : ∀ r ∈ S2, Inn 2000 r := by rw [hS2]; exact sp_inn (by omega) (by omega) (by omega) (by omega)
    have hl1 : S1.length ≤ 20000 := by rw [hS1]; have := sp_len k (X.take ra) (Y.take rb) 0 0; omega
    have hl2' : S2.length ≤ 20000 := by rw [hS2]; have := sp_len k (X.drop za) (Y.drop zb) 0 0; omega
    obtain ⟨L1, hL1⟩ : ∃ L1, L1 = S1.length := ⟨_, rfl⟩
    obtain ⟨L2, hL2⟩ : ∃ L2, L2 = S2.length := ⟨_, rfl⟩
    have HS1 : Hid (∀ w', Below w.heap.size w w' → Calls Try.prog 27 #[.slice p ra c, .slice q rb d] w' fun e w'' => (∃ v cap, e = .returned (.slice v L1 cap) ∧ ROw w'' w'.heap.size (.slice v L1 cap) S1) ∧ Below w'.heap.size w' w'') := fun w' hb =>
      (hstay (X.take ra) (Y.take rb) p q c d ra rb w' htx.symm hty.symm (srw_takeTo (hp.below hb) _) (srw_takeTo (hq.below hb) _) (by omega) (by omega) (by omega) (by omega) (by omega)).mono fun e w'' ⟨⟨v, he, ho⟩, hb2⟩ => by
        rw [← hS1] at ho
        obtain ⟨p2, cap2, rfl⟩ := ho.shapeN (n := L1) hL1
        exact ⟨⟨p2, cap2, he, ho⟩, hb2⟩
    obtain ⟨P, hP⟩ : ∃ P, (if c = za then p else p.map (·.add za)) = P := ⟨_, rfl⟩
    obtain ⟨Q, hQ⟩ : ∃ Q, (if d = zb then q else q.map (·.add zb)) = Q := ⟨_, rfl⟩
    have HS2 : Hid (∀ w', Below w.heap.size w w' → Calls Try.prog 27 #[.slice P (n - za) (c - za), .slice Q (m - zb) (d - zb)] w' fun e w'' => (∃ v cap, e = .returned (.slice v L2 cap) ∧ RRw w'' v S2) ∧ Below w'.heap.size w' w'') := fun w' hb =>
      (hstay (X.drop za) (Y.drop zb) P Q (c - za) (d - zb) (n - za) (m - zb) w' hdx.symm hdy.symm (by rw [← hP]; exact srw_dropTo (hp.below hb) za hn hnc (by omega)) (by rw [← hQ]; exact srw_dropTo (hq.below hb) zb hm hmd (by omega)) (by omega) (by omega) (by omega) (by omega) (by omega)).mono fun e w'' ⟨⟨v, he, ho⟩, hb2⟩ => by
        rw [← hS2] at ho
        obtain ⟨p2, cap2, rfl, hr⟩ := ho.rw
        exact ⟨⟨p2, cap2, by rw [hL2]; exact he, hr⟩, hb2⟩
    have HMV : Hid (∀ w' v cap, RRw w' v S2 → Calls Try.prog 44 #[.slice v L2 cap, .int .i64 (za : Int), .int .i64 (zb : Int)] w' fun e w'' => (∃ v2 cap2, e = .returned (.slice v2 L2 cap2) ∧ RRw w'' v2 (S2.map (sh (za : Int) (zb : Int)))) ∧ Below w'.heap.size w' w'') := fun w' v cap hr =>
      (rmoved_any S2 2000 za zb v cap L2 w' hL2 hr (by omega) hi2 (by omega) (by omega) (by omega)).mono fun e w'' ⟨⟨v2, he, ho⟩, hb2⟩ => by
        obtain ⟨p2, cap2, rfl, hr⟩ := ho.rw
        exact ⟨⟨p2, cap2, by rw [hL2]; rw [List.length_map] at he; exact he, hr⟩, hb2⟩
    have HR : Hid (R = S1 ++ [⟨(ra : Int), (rb : Int), (rn : Int)⟩] ++ S2.map (sh (za : Int) (zb : Int))) := hR
    have HL1 := Lib.hid hL1
    have HL2 := Lib.hid hL2
    have g1 : ra ≤ c := by omega
    have g2 : rb ≤ d := by omega
    have g3 : za ≤ n := by omega
    have g4 : zb ≤ m := by omega
    have g5 : (ra : Int) + (rn : Int) = (za : Int) := by omega
    have g6 : (rb : Int) + (rn : Int) = (zb : Int) := by omega
    have g7 : IntKind.i64.wrap (za : Int) = (za : Int) := IntWalk.i64_in _ (by omega)
    have g8 : IntKind.i64.wrap (zb : Int) = (zb : Int) := IntWalk.i64_in _ (by omega)
    have g9 : L1 ≤ 20000 := by omega
    have g10 : L2 ≤ 20000 := by omega
    have g11 : (ra : Int) ≤ (c : Int) := by omega
    have g12 : (rb : Int) ≤ (d : Int) := by omega
    have g13 : (za : Int) ≤ (n : Int) := by omega
    have g14 : (zb : Int) ≤ (m : Int) := by omega
    have HANC' : Hid (Calls Try.prog 14 #[.slice p n c, .slice q m d] w fun e w' => e = .returned (.tuple #[.agg #[.int .i64 (ra : Int), .int .i64 (rb : Int), .int .i64 (rn : Int)], .bool true]) ∧ Below w.heap.size w w') := HANC
    clear hn hm hp hq hR ho hstay hS1 hS2 hi2 hL1 hL2 hl1 hl2' htx hty hdx hdy hza hzb hk
    go_enter Try.func45, Try.ntmps45
    go_upto_region 2 with (go_at_call 14; ((refine HANC'.out.mono ?_); rintro e w1 ⟨rfl, hb1⟩))
    obtain ⟨w2, hw2⟩ : ∃ w2, w2 = w1.alloc (.cells #[.int .i64 (ra : Int), .int .i64 (rb : Int), .int .i64 (rn : Int)] 30) := ⟨_, rfl⟩
    obtain ⟨E, hE⟩ : ∃ E, E = w1.heap.size := ⟨_, rfl⟩
    rw [← hw2, ← hE]
    have hb2 : Below w.heap.size w w2 := by rw [hw2]; exact below_new hb1 _
    have hent : w2.heap[E]? = some (.cells #[.int .i64 (ra : Int), .int .i64 (rb : Int), .int .i64 (rn : Int)] 30 (0, 0)) := by rw [hw2, hE]; exact heap_alloc_new _ _
    have r0 := cell_of_row w2 E 0 _ _ _ hent
    have r1 := cell_of_row w2 E 1 _ _ _ hent
    have r2 := cell_of_row w2 E 2 _ _ _ hent
    have HB2 := Lib.hid hb2
    have HEN := Lib.hid hent
    clear hw2 hE hb1 hb2 hent HANC HANC'
    go_upto_region 4 with fail
    go_still_tail 8, (by kernel_rfl)
    change wpList _ _ _ _ _ w2.drew
    have HB4 : Hid (Below w.heap.size w w2.drew) := HB2.out.drew
    have HEN4 : Hid (w2.drew.heap[E]? = some (.cells #[.int .i64 (ra : Int), .int .i64 (rb : Int), .int .i64 (rn : Int)] 30 (0, 0))) := HEN.out
    clear r0 r1 r2 HB2 HEN
    generalize w2.drew = w4 at HB4 HEN4 ⊢
    go_upto_region 5 with (go_at_call 27; ((with_reducible refine (HS1.out _ HB4.out).mono ?_); rintro e w5 ⟨⟨v5, c5, rfl, ho5⟩, hb5⟩))
    have hE4 : E < w4.heap.size := row_lt HEN4.out
    have hen5 := (hb5.block E hE4).trans HEN4.out
    have r0 := cell_of_row w5 E 0 _ _ _ hen5
    have r1 := cell_of_row w5 E 1 _ _ _ hen5
    have r2 := cell_of_row w5 E 2 _ _ _ hen5
    have HB5 := Lib.hid (HB4.out.trans (hb5.mono HB4.out.size))
    have HEN5 := Lib.hid hen5
    have ho5' := ho5.of HL1.out
    have hw45 := hb5.size
    have hB4s := HB4.out.size
    clear hb5 hen5
    go_upto_region 6 with (at_builtin; refine wpList_append_own _ rfl _ _ 45 rfl w4.heap.size 30 i0 (.agg #[.int .i64 0, .int .i64 0, .int .i64 0]) 3 24 Try.underlying45 hif hz0 hz1 hz2 rfl (by decide) _ _ _ rfl (ho5'.alloc _) ⟨w5.heap.size, 0, none⟩ 1 1 (Rn.cells ⟨(ra : Int), (rb : Int), (rn : Int)⟩) rfl rfl (new_rn w5 ⟨(ra : Int), (rb : Int), (rn : Int)⟩ _) (rn_one _) (by unfold maxLen; omega) (by omega) (by simp; omega) ?_; intro v6 w6 ho6 hg6 _)
    have hO6 := ROw.push HL1.out ho6
    obtain ⟨q6, c6, rfl⟩ := hO6.shapeN (n := L1 + 1) (by rw [List.length_append, ← HL1.out, List.length_singleton])
    have HO6 := Lib.hid hO6
    have HB6 := Lib.hid ((below_new HB5.out _).grown hg6 (by simp; omega) (fun j hj => Nat.le_trans hB4s (ho5'.lt j hj).1))
    have hen6 : w6.heap[E]? = some (.cells #[.int .i64 (ra : Int), .int .i64 (rb : Int), .int .i64 (rn : Int)] 30 (0, 0)) := (hg6.block E (by simp; omega) (fun h => by have := (ho5'.lt E h.symm).1; omega)).trans (row_alloc HEN5.out (row_lt HEN5.out))
    have hw56 := hg6.size
    have HEN6 := Lib.hid hen6
    have HL6 : Hid (L1 + 1 = (S1 ++ [Rn.mk (ra : Int) (rb : Int) (rn : Int)]).length) := by show _ = _; rw [List.length_append, ← HL1.out, List.length_singleton]
    simp only [World.size_alloc] at hw56
    clear r0 r1 r2 ho5 ho5' ho6 hg6 hO6 hen6
    have r0 := cell_of_row w6 E 0 _ _ _ HEN6.out
    have r1 := cell_of_row w6 E 1 _ _ _ HEN6.out
    have r2 := cell_of_row w6 E 2 _ _ _ HEN6.out
    have hE6 : E < w6.heap.size := row_lt HEN6.out
    have hb46 : w4.heap.size ≤ w6.heap.size := by omega
    go_region_held3 (fun w' => w'.cell? ⟨E, 0, none⟩ = some (.int .i64 (ra : Int)) ∧ w'.cell? ⟨E, 1, none⟩ = some (.int .i64 (rb : Int)) ∧ w'.cell? ⟨E, 2, none⟩ = some (.int .i64 (rn : Int))) (first | go_keep | exact hk7 | exact hk8 | exact hk9)
      (first
        | (go_at_call 27; ((with_reducible refine (HS2.out _ HB6.out.drew).mono ?_); rintro e w7 ⟨⟨v7, c7, rfl, hr7⟩, hb7⟩; have hk7 : w7.cell? ⟨E, 0, none⟩ = some (.int .i64 (ra : Int)) ∧ w7.cell? ⟨E, 1, none⟩ = some (.int .i64 (rb : Int)) ∧ w7.cell? ⟨E, 2, none⟩ = some (.int .i64 (rn : Int)) := ⟨(hb7.cell (p := ⟨E, 0, none⟩) hE6).trans r0, (hb7.cell (p := ⟨E, 1, none⟩) hE6).trans r1, (hb7.cell (p := ⟨E, 2, none⟩) hE6).trans r2⟩))
        | (go_at_call 44; ((with_reducible refine (HMV.out _ _ _ hr7).mono ?_); rintro e w8 ⟨⟨v8, c8, rfl, hr8⟩, hb8⟩; have hb78 : Below w6.drew.heap.size w6.drew w8 := hb7.trans (hb8.mono hb7.size); have hk8 : w8.cell? ⟨E, 0, none⟩ = some (.int .i64 (ra : Int)) ∧ w8.cell? ⟨E, 1, none⟩ = some (.int .i64 (rb : Int)) ∧ w8.cell? ⟨E, 2, none⟩ = some (.int .i64 (rn : Int)) := ⟨(hb78.cell (p := ⟨E, 0, none⟩) hE6).trans r0, (hb78.cell (p := ⟨E, 1, none⟩) hE6).trans r1, (hb78.cell (p := ⟨E, 2, none⟩) hE6).trans r2⟩; have hs8 : w6.heap.size ≤ w8.heap.size := hb78.size; have HO8 := Lib.hid ((HO6.out.below (Below.refl _ _).drew).below hb78)))
        | (((refine step_app_rrw _ (by rfl) _ _ _ (by rfl) Try.underlying45 w4.heap.size _ (L1 + 1) _ (by rfl) HL6.out HO8.out _ L2 _ (S2.map (sh (za : Int) (zb : Int))) (by rfl) (by rw [List.length_map]; exact HL2.out) hr8 (by omega) (by omega) ?_; intro q9 c9 w9 ho9 hg9; have hg9' := hg9; have hk9 := box_grown3 HO8.out hE4 (by omega) hk8 hg9))))
    all_goals have HB8 := HB6.out.drew.trans (hb78.mono HB6.out.drew.size)
    all_goals have HB9 := Lib.hid (HB8.grown hg9 HB8.size (fun j hj => Nat.le_trans hB4s (HO8.out.lt j hj).1))
    all_goals have HO9 : Hid (ROw w9 w.heap.size (.slice q9 (L1 + 1 + L2) c9) R) := by (show ROw _ _ _ _; rw [HR.out]; exact ho9.lower hB4s)
    all_goals clear HB8 ho9 hg9
    all_goals go_wp2
    all_goals go_ret
    all_goals exact ⟨⟨_, rfl, HO9.out⟩, HB9.out⟩

theorem rstay_all : ∀ k, StayP (k + 1)
  | 0 => rstay_step 0 (rmid_step 0 (fun X Y p q c d n m w _ _ _ _ _ _ _ _ h => absurd h (Nat.not_lt_zero _)))
  | k + 1 => rstay_step (k + 1) (rmid_step (k + 1) (rstay_all k))

set_option maxHeartbeats 4000000 in
set_option maxRecDepth 8000 in
theorem rscript_any (la lb : List (List UInt8)) (p q : Option Addr) (c d n m : Nat) (w : World) (hn : n = la.length) (hm : m = lb.length) (hp : SRw w p la) (hq : SRw w q lb) (hnc : n ≤ c) (hmd : m ≤ d) (hl : n ≤ 2000) (hl2 : m ≤ 2000) :
    Calls Try.prog 12 #[.slice p n c, .slice q m d] w fun e w' => (∃ v, e = .returned v ∧ EOw w' w.heap.size v (scL la lb)) ∧ Below w.heap.size w w' := by
  obtain ⟨S, hS⟩ : ∃ S, S = sp LSr (la.length + lb.length + 1) la lb 0 0 := ⟨_, rfl⟩
  have hin : ∀ r ∈ S, Inn 2000 r := by rw [hS]; exact sp_inn (by omega) (by omega) (by omega) (by omega)
  have hlen : S.length ≤ 20000 := by rw [hS]; have := sp_len (la.length + lb.length + 1) la lb 0 0; omega
  have hsc : scL la lb = fromL (n : Int) (m : Int) (jn [] S) := by
    rw [jn_from (N := 2000) n m S hin, scL, ← hS, ← hn, ← hm]
  have hjl : (jn [] S).length ≤ 20000 := by have := jn_len S []; simp at this; omega
  have HST : Hid (Calls Try.prog 27 #[.slice p n c, .slice q m d] w fun e w' => (∃ v L cap, e = .returned (.slice v L cap) ∧ L = S.length ∧ RRw w' v S) ∧ Below w.heap.size w w') :=
    (rstay_all (la.length + lb.length) la lb p q c d n m w hn hm hp hq hnc hmd hl hl2 (by omega)).mono fun e w' ⟨⟨v, he, ho⟩, hb⟩ => by
      rw [← hS] at ho
      obtain ⟨p2, cap2, rfl, hr⟩ := ho.rw
      exact ⟨⟨p2, _, cap2, he, rfl, hr⟩, hb⟩
  have HJN : Hid (∀ w' v L cap, L = S.length → RRw w' v S → Calls Try.prog 26 #[.slice v L cap] w' fun e w'' => (∃ v L cap, e = .returned (.slice v L cap) ∧ L = (jn [] S).length ∧ RRw w'' v (jn [] S)) ∧ Below w'.heap.size w' w'') := fun w' v L cap hL hr =>
    (rjoined_any S 2000 v cap L w' hL hr (by omega) hin (by omega)).mono fun e w'' ⟨⟨v, he, ho⟩, hb⟩ => by
      obtain ⟨p2, cap2, rfl, hr⟩ := ho.rw
      exact ⟨⟨p2, _, cap2, he, rfl, hr⟩, hb⟩
  have HOF : Hid (∀ w' v L cap, L = (jn [] S).length → RRw w' v (jn [] S) → Calls Try.prog 25 #[.int .i64 (n : Int), .int .i64 (m : Int), .slice v L cap] w' fun e w'' => (∃ v, e = .returned v ∧ EOw w'' w'.heap.size v (scL la lb)) ∧ Below w'.heap.size w' w'') := fun w' v L cap hL hr => by
    rw [hsc]
    exact of_any (jn [] S) v cap L n m _ w' hL hr (by omega) (by omega) (by omega) rfl
  clear hn hm hp hq hS hin hlen hsc hjl
  go_enter Try.func12, Try.ntmps12
  go_wp2_with (first
    | (go_at_call 27; ((with_reducible refine HST.out.mono ?_); rintro e w1 ⟨⟨v1, L1, c1, rfl, hL1, hr1⟩, hb1⟩; have HL1 := Lib.hid hL1; clear hL1))
    | (go_at_call 26; ((with_reducible refine (HJN.out _ _ _ _ HL1.out hr1).mono ?_); rintro e w2 ⟨⟨v2, L2, c2, rfl, hL2, hr2⟩, hb2⟩; have HL2 := Lib.hid hL2; clear hL2))
    | (go_at_call 25; ((with_reducible refine (HOF.out _ _ _ _ HL2.out hr2).mono ?_); rintro e w3 ⟨⟨v3, rfl, ho3⟩, hb3⟩)))
  go_ret
  have hb12 := hb1.trans (hb2.mono hb1.size)
  exact ⟨⟨_, rfl, ho3.lower hb12.size⟩, hb12.trans (hb3.mono hb12.size)⟩
set_option maxHeartbeats 1000000 in
set_option maxRecDepth 4000 in
theorem lsame_any (ls : List Ed) (p q : Option Addr) (c d n m : Nat) (w : World) (hn : n = ls.length) (hm : m = ls.length) (hp : ERw w p ls) (hq : ERw w q ls) (hl : n ≤ 1000000) :
    Calls Try.prog 10 #[.slice p n c, .slice q m d] w fun e w' => e = .returned (.bool true) ∧ Below w.heap.size w w' := by
  obtain rfl : m = n := by omega
  have HN := Lib.hid hn
  clear hn hm
  go_enter Try.func10, Try.ntmps10
  go_wp2
  go_loopw [5] (fun i wr => ∃ (k x : Nat), k ≤ m ∧ i = .int .i64 k ∧ wr = w.drewN x) (fun i _ => m - (intOf i).toNat)
  case atStart => exact ⟨0, 0, by omega, rfl, rfl⟩
  case round =>
    obtain ⟨k, x, hk, rfl, rfl⟩ := hrel
    by_cases hlt : k < m
    · obtain ⟨g, o, rfl, hg, a0, a1, a2, a3⟩ := hp k (by rw [← HN.out]; exact hlt)
      obtain ⟨h, o2, rfl, hh, b0, b1, b2, b3⟩ := hq k (by rw [← HN.out]; exact hlt)
      obtain ⟨t, ht⟩ : ∃ t, t = ls[k]'(by rw [← HN.out]; exact hlt) := ⟨_, rfl⟩
      rw [← ht] at a0 a1 a2 a3 b0 b1 b2 b3
      clear ht hg hh
      go_wp2
      go_quiet (fail)
      go_wp2
      go_roundw
      case rel => exact ⟨k + 1, _, by omega, by go_num, by first | rfl | exact World.drewN_drewN _ _ _⟩
      case measure => simp [intOf]; omega
    · go_wp2
      go_ret
      exact ⟨rfl, below_drewN (Below.refl _ _) _⟩
theorem EOw.rwS {w : World} {base : Nat} {v : Value} {l : List Ed} (h : EOw w base v l) : ∃ g L cap, v = .slice g L cap ∧ L = l.length ∧ ERw w g l := by
  obtain ⟨g, cap, rfl, hr⟩ := h.rw
  exact ⟨g, _, cap, rfl, rfl, hr⟩
section
variable {W : World} {la lb : List (List UInt8)} {p q : Option Addr} {n m c d : Nat}
set_option maxHeartbeats 4000000 in
set_option maxRecDepth 4000 in
theorem hsScripts_walk (A : SA W la p n c) (B : SA W lb q m d) : Calls Try.prog 3 #[.slice p n c, .slice q m d] W fun e W' => e = .returned (.bool true) ∧ Below W.heap.size W W' := by
  obtain ⟨sa, hsa⟩ : ∃ sa, sa = smallL la := ⟨_, rfl⟩
  obtain ⟨sb, hsb⟩ : ∃ sb, sb = smallL lb := ⟨_, rfl⟩
  have HS1 := Lib.hid (hsmall_any la p c n sa W A.len A.row (by have := A.few; omega) A.short hsa)
  have HS2 := Lib.hid (hsmall_any lb q d m sb W B.len B.row (by have := B.few; omega) B.short hsb)
  have HLV := Lib.hid (fun w => hlives_any w)
  by_cases hs : sa = true ∧ sb = true
  · obtain ⟨rfl, rfl⟩ := hs
    have hn := (smallL_out hsa.symm).1
    have hm := (smallL_out hsb.symm).1
    rw [← A.len] at hn
    rw [← B.len] at hm
    have hSL := scL_len la lb (by rw [← A.len]; exact hn) (by rw [← B.len]; exact hm)
    have HSC := Lib.hid (fun (w : World) (hb : Below W.heap.size W w) => hscript_any la lb p q c d n m w A.len B.len (A.row.below hb) (B.row.below hb) A.cap B.cap (by omega) (by omega) A.short B.short)
    have HRS := Lib.hid (fun (w : World) (hb : Below W.heap.size W w) => rscript_any la lb p q c d n m w A.len B.len (A.row.below hb) (B.row.below hb) A.cap B.cap (by omega) (by omega))
    have HSM := Lib.hid (fun (w : World) (g g' : Option Addr) (L L' cap cap' : Nat) (h1 : L = (scL la lb).length) (h2 : L' = (scL la lb).length) (h3 : ERw w g (scL la lb)) (h4 : ERw w g' (scL la lb)) => lsame_any (scL la lb) g g' cap cap' L L' w h1 h2 h3 h4 (by omega))
    obtain ⟨R, hR⟩ : ∃ R, R = scL la lb := ⟨_, rfl⟩
    rw [← hR] at HSC HRS HSM
    have hi := Below.refl W.heap.size W
    clear hsa hsb hn hm hSL hR A B
    go_enter Try.func3, Try.ntmps3
    go_wp2_with (first
      | (go_at_call 8; first
        | ((with_reducible refine HS1.out.mono ?_); rintro e w' ⟨rfl, rfl⟩)
        | ((with_reducible refine HS2.out.mono ?_); rintro e w' ⟨rfl, rfl⟩))
      | (go_at_call 9; ((with_reducible refine (HLV.out _).mono ?_); rintro e w1 ⟨rfl, hb1⟩))
      | (go_at_call 11; ((with_reducible refine (HSC.out _ hb1).mono ?_); rintro e w2 ⟨⟨v2, rfl, ho2⟩, hb2⟩; obtain ⟨g2, L2, cap2, rfl, hL2', hr2⟩ := ho2.rwS; have hL2 := Lib.hid hL2'; clear ho2 hL2'; have hi2 := hb1.trans (hb2.mono hb1.size)))
      | (go_at_call 12; ((with_reducible refine (HRS.out _ hi2).mono ?_); rintro e w3 ⟨⟨v3, rfl, ho3⟩, hb3⟩; obtain ⟨g3, L3, cap3, rfl, hL3', hr3⟩ := ho3.rwS; have hL3 := Lib.hid hL3'; clear ho3 hL3'; have hi3 := hi2.trans (hb3.mono hi2.size)))
      | (go_at_call 10; ((with_reducible refine (HSM.out _ _ _ _ _ _ _ hL2.out hL3.out (hr2.below hb3) hr3).mono ?_); rintro e w4 ⟨rfl, hb4⟩)))
    go_ret
    exact ⟨rfl, hi3.trans (hb4.mono hi3.size)⟩
  · clear hsa hsb A B
    rcases sa with _ | _ <;> rcases sb with _ | _
    all_goals try (exact absurd ⟨rfl, rfl⟩ hs)
    all_goals clear hs
    all_goals go_enter Try.func3, Try.ntmps3
    all_goals go_wp2_with (first
      | (go_at_call 8; first
        | ((with_reducible refine HS1.out.mono ?_); rintro e w' ⟨rfl, rfl⟩)
        | ((with_reducible refine HS2.out.mono ?_); rintro e w' ⟨rfl, rfl⟩))
      | (go_at_call 9; ((with_reducible refine (HLV.out _).mono ?_); rintro e w3 ⟨rfl, hb3⟩)))
    all_goals go_ret
    all_goals exact ⟨rfl, hb3⟩
end
end Go.Proofs.Ytnmebnpldacngaa
