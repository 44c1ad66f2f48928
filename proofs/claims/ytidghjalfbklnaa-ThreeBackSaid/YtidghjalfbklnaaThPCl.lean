/-
  The walk of (*regions).clean.
-/
import Derived.Test.YtidghjalfbklnaaThRClNPk
import Derived.Deep.AppendLies
import Derived.BigQuiet
import Derived.Deep.QuietTactic
namespace Go.Proofs.Ytidghjalfbklnaa
open Go.RowKit

/-- The append of some strings to a row of the call's own; where the new slice lies. -/
theorem app_srwL (w : World) {ops : Array Oper} {rest : List Oper} {o : Oper} {a : Act} {Q : Exit → Act → World → Prop} (hgd : o.guard = none) (s x : Operand) (t : TypeId)
    (ho : o.op = .call { callee := .builtin .append, args := #[s, x], argTypes := #[t, t] }) (ht : Try.prog.underlying t = some (.slice 9))
    (base : Nat) (v : Value) (n : Nat) (xs : List Value) (hs : a.eval s = v) (hown : w.ownsRow base 9 1 v n xs)
    (p : Option Addr) (m c : Nat) (news : List (List UInt8)) (hx : a.eval x = .slice p m c) (hm : m = news.length) (hr : SRw w p news) (hm0 : 0 < m)
    (hb : n + m ≤ 1048576) (hbase : base ≤ w.heap.size)
    (h : ∀ g cap w', w'.ownsRow base 9 1 (.slice (some ⟨g, 0, none⟩) (n + m) cap) (n + m) (xs ++ strs news) → w.grownBy w' v.ownBlock → (v.ownBlock = some g ∨ g = w.heap.size) → wpList Try.prog ops Q rest (a.put o.dst (.slice (some ⟨g, 0, none⟩) (n + m) cap)) w') : wpList Try.prog ops Q (o :: rest) a w := by
  obtain ⟨i0, hi, hz0, hz1, hz2⟩ := info_parts Try.infoStr
  obtain ⟨ga, oa, rfl, hga, _⟩ := hr 0 (by omega)
  refine wpList_append_lies (w := w) hgd s x t ho base 9 i0 (.string ⟨#[]⟩) 1 16 ht hi hz0 hz1 hz2 rfl (by decide) v n xs hs hown ⟨ga, oa, none⟩ m c (strs news) hx (by rw [strs_len, Nat.mul_one, hm]) (fun j u hj => ?_) (strs_one _) hm0 (by unfold maxLen; omega) (by omega) hbase _ rfl (fun g cap w' h1 h2 h3 _ => h g cap w' h1 h2 h3)
  have hj' : j < news.length := by
    have := (List.getElem?_eq_some_iff.mp hj).1
    rwa [strs_len] at this
  obtain ⟨g, o', h1, _, h2⟩ := hr j hj'
  simp only [Option.some.injEq] at h1
  rw [h1, Addr.add_lit, h2]
  have h3 : (strs news)[j]? = some (Value.string (str news[j])) := by simp [strs, List.getElem?_map, List.getElem?_eq_getElem hj']
  rw [← h3, hj]

/-- The cells of a block but the first stand as they stood. -/
def BoxK (w w' : World) (R : Nat) : Prop := ∀ cs t, w.heap[R]? = some (.cells cs t (0, 0)) → ∃ cs', w'.heap[R]? = some (.cells cs' t (0, 0)) ∧ cs'.size = cs.size ∧ ∀ i, i ≠ 0 → cs'[i]? = cs[i]?
theorem BoxK.refl (w : World) (R : Nat) : BoxK w w R := fun cs t h => ⟨cs, h, rfl, fun _ _ => rfl⟩
theorem BoxK.trans {w w1 w2 : World} {R : Nat} (h : BoxK w w1 R) (h2 : BoxK w1 w2 R) : BoxK w w2 R := fun cs t hc => by
  obtain ⟨c1, e1, s1, k1⟩ := h cs t hc
  obtain ⟨c2, e2, s2, k2⟩ := h2 c1 t e1
  exact ⟨c2, e2, s2.trans s1, fun i hi => (k2 i hi).trans (k1 i hi)⟩
theorem BoxK.same {w w' : World} {R : Nat} (h : w'.heap[R]? = w.heap[R]?) : BoxK w w' R := fun cs t hc => ⟨cs, h.trans hc, rfl, fun _ _ => rfl⟩
theorem BoxK.set (w : World) (R : Nat) (v : Value) : BoxK w (w.setCell ⟨R, 0, none⟩ v) R := fun cs t hc => by
  refine ⟨_, heap_setCell_same w R 0 cs t v hc, by simp, fun i hi => ?_⟩
  rw [Array.getElem?_setIfInBounds_ne (by omega)]
/-- What clean does to the regions. -/
def PCl (w : World) (base R : Nat) (S : Nat → Prop) (gs' : List Rg) (e : Ending) (w' : World) : Prop := e = .returned (.tuple #[]) ∧ ∃ S' v' xs', RS w' base R S' gs' v' xs' ∧ Chg (own2 S R) w w' ∧ (∀ b, S' b → S b ∨ w.heap.size ≤ b) ∧ BoxK w w' R
theorem clG_nil (gs : List Rg) : clG gs [] = gs := by rw [clG, if_pos rfl]
theorem clG_new {gs : List Rg} {ls : List (List UInt8)} (h : ls ≠ []) (hl : ∀ r, gs.getLast? = some r → r.k ≠ 1) : clG gs ls = gs ++ [⟨1, ls, [], [], []⟩] := by
  rw [clG, if_neg h]
  cases hg : gs.getLast? with
  | none =>
    rw [List.getLast?_eq_none_iff] at hg
    rw [hg]
    rfl
  | some r =>
    simp only
    rw [if_neg (hl r hg)]
theorem clG_old {pre : List Rg} {r : Rg} {ls : List (List UInt8)} (h : ls ≠ []) (hk : r.k = 1) (ho : r.o = []) (hb : r.b = []) (ht : r.t = []) : clG (pre ++ [r]) ls = pre ++ [⟨1, r.l ++ ls, [], [], []⟩] := by
  rw [clG, if_neg h]
  simp [hk, ho, hb, ht]

theorem RS.open {w w2 : World} {base R : Nat} {S : Nat → Prop} {gs : List Rg} {v : Value} {xs : List Value} {g cap n : Nat} {o : Obj} (hn : n = gs.length) (h : RS w base R S gs v xs)
    (ho : w2.ownsRow base 43 5 (.slice (some ⟨g, 0, none⟩) (n + 1) cap) (n + 1) (xs ++ [.int .i64 1, .slice none 0 0, .slice none 0 0, .slice none 0 0, .slice none 0 0])) (hg : (w.alloc o).grownBy w2 v.ownBlock) (hat : v.ownBlock = some g ∨ g = (w.alloc o).heap.size) (hbase : base ≤ w.heap.size) :
    RS (w2.setCell ⟨R, 0, none⟩ (.slice (some ⟨g, 0, none⟩) (n + 1) cap)) base R (fun b => b = g) (gs ++ [⟨1, [], [], [], []⟩]) (.slice (some ⟨g, 0, none⟩) (n + 1) cap) (xs ++ [.int .i64 1, .slice none 0 0, .slice none 0 0, .slice none 0 0, .slice none 0 0]) ∧
      Chg (own2 S R) w (w2.setCell ⟨R, 0, none⟩ (.slice (some ⟨g, 0, none⟩) (n + 1) cap)) ∧ (S g ∨ w.heap.size ≤ g) ∧ BoxK w (w2.setCell ⟨R, 0, none⟩ (.slice (some ⟨g, 0, none⟩) (n + 1) cap)) R ∧ (xs ++ [.int .i64 1, .slice none 0 0, .slice none 0 0, .slice none 0 0, .slice none 0 0])[n * 5 + 1]? = some (.slice none 0 0) := by
  subst hn
  obtain ⟨a1, a2, a3⟩ := h.push (below_new (Below.refl _ _) o) ho hg hat hbase (.inr ⟨rfl, rfl, rfl, rfl, rfl, rfl⟩)
  obtain ⟨cs, t, hbox, _, _, ht2⟩ := h.box
  have hvR : v.ownBlock ≠ some R := own_ty h.own hbox ht2
  have hxl : xs.length = gs.length * 5 := h.own.1
  refine ⟨a1, a2, a3, (BoxK.same ?_).trans (BoxK.set w2 R _), ?_⟩
  · exact (hg.block R (by rw [World.size_alloc]; exact Nat.lt_succ_of_lt (row_lt hbox)) (fun e => hvR e.symm)).trans (Below.heap_alloc w o R (row_lt hbox))
  · rw [List.getElem?_append_right (by omega), hxl, show gs.length * 5 + 1 - gs.length * 5 = 1 by omega]; rfl

set_option maxHeartbeats 4000000 in
set_option maxRecDepth 8000 in
theorem pclean_any (gs : List Rg) (ls : List (List UInt8)) (base R m d : Nat) (q : Option Addr) (S : Nat → Prop) (v : Value) (xs : List Value) (w : World) (h : RS w base R S gs v xs) (hm : m = ls.length) (hq : ∀ w', Chg (own2 S R) w w' → SRw w' q ls)
    (hn : gs.length ≤ 100000) (hl : ∀ r, gs.getLast? = some r → r.l.length + m ≤ 1000000) (hm1 : m ≤ 1000000) (hbase : base ≤ w.heap.size) :
    Calls Try.prog 45 #[.pointer (some ⟨R, 0, none⟩), .slice q m d] w (PCl w base R S (clG gs ls)) := by
  by_cases hm0 : m = 0
  · have hls : ls = [] := List.eq_nil_of_length_eq_zero (by omega)
    have HX : Hid (RS w base R S (clG gs ls) v xs) := by show RS _ _ _ _ _ _ _; rw [hls, clG_nil]; exact h
    subst hm0
    clear h hm hq hl hls
    go_enter Try.func45, Try.ntmps45
    go_wp2
    refine bodyPost_ret (results_none rfl _ _ _) rfl ?_
    exact ⟨rfl, S, v, xs, HX.out, Chg.refl _ _, fun b hb => .inl hb, BoxK.refl _ _⟩
  have hmi : ((m : Int) == 0) = false := by rw [beq_eq_false_iff_ne]; omega
  have hls : ls ≠ [] := fun e => hm0 (by rw [hm, e]; rfl)
  obtain ⟨n, hnn⟩ : ∃ n, n = gs.length := ⟨_, rfl⟩
  have HU : Hid (Try.prog.underlying 22 = some (.slice 9)) := Try.underlying22
  have HM := Lib.hid hm
  have HQ := Lib.hid hq
  obtain ⟨cs, t, hbox, hcs, ht1, ht2⟩ := h.box
  have c0 := (cell_of_row w R 0 cs t _ hbox).trans hcs
  have f0 := frozen_of_row w R 0 cs t hbox
  have hown := h.own
  rw [← hnn] at hown
  by_cases hB : ∃ r, gs.getLast? = some r ∧ r.k = 1
  · obtain ⟨r, hr, hrk⟩ := hB
    obtain ⟨pre, hpre⟩ : ∃ pre, gs = pre ++ [r] := List.getLast?_eq_some_iff.mp hr
    subst hpre
    obtain ⟨K, hK⟩ : ∃ K, K = pre.length := ⟨_, rfl⟩
    have hnK : n = K + 1 := by rw [hnn, hK]; simp
    obtain ⟨G, cap, rfl, hGb, hGl⟩ := hown.form (by omega)
    have hlast := h.last pre.length (by simp) (by simp) (by simpa using hrk)
    have hlr : (pre ++ [r])[pre.length]'(by simp) = r := by simp
    rw [hlr] at hlast
    obtain ⟨u1, x0, x1, x2, x3, x4, e1, e2, e3, hu, hus⟩ := hlast
    rw [← hK] at x0 x1
    have HCL : Hid (clG (pre ++ [r]) ls = pre ++ [⟨1, r.l ++ ls, [], [], []⟩]) := clG_old hls hrk e1 e2 e3
    obtain ⟨n1, hn1⟩ : ∃ n1, n1 = r.l.length := ⟨_, rfl⟩
    have hll : n1 + m ≤ 1000000 := by rw [hn1]; exact hl r hr
    rw [← hn1] at hu
    obtain ⟨p1, c1, hu1⟩ : ∃ p1 c1, u1 = .slice p1 n1 c1 := by
      rcases hu.2 with ⟨h', h0⟩ | ⟨g', cap', cur, h', _⟩
      · exact ⟨_, 0, by rw [h', h0]⟩
      · exact ⟨_, _, h'⟩
    subst hu1
    have huG : (Value.slice p1 n1 c1).ownBlock ≠ some G := own_ne hown hu (by decide) rfl
    have k0 : w.cell? ⟨G, K * 5, none⟩ = some (.int .i64 1) := by rw [World.ownsRow.cellAt hown (K * 5) (by omega), x0]
    have k1 : w.cell? ⟨G, K * 5 + 1, none⟩ = some (.slice p1 n1 c1) := by rw [World.ownsRow.cellAt hown (K * 5 + 1) (by omega), x1]
    have HOW := Lib.hid hown
    have HUL := Lib.hid hu
    have HH := Lib.hid h
    have HX1 := Lib.hid x1
    have HUG := Lib.hid huG
    have HN1 := Lib.hid hn1
    have HK := Lib.hid hK
    have HRK := Lib.hid hrk
    have HNK := Lib.hid hnK
    have hkn : K < n := by omega
    have i2 : IntKind.i64.wrap ((n : Int) - 1) = (K : Int) := by rw [IntWalk.i64_in _ (by omega)]; omega
    have hn' : n ≤ 100000 := by omega
    have hk0 : ¬ (K : Int) < 0 := by omega
    clear h hm hq hl hls hnn hcs ht1 ht2 hbox hown hr hrk hK hnK x0 x1 x2 x3 x4 e1 e2 e3 hu hus hn1 huG hlr hn hGb hGl
    go_enter Try.func45, Try.ntmps45
    go_upto_region 4 with fail
    go_quiet (fail)
    have HWq : Hid (Below w.heap.size w (w.drewN nq)) := below_drewN (Below.refl _ _) nq
    have HRq : Hid (RS (w.drewN nq) base R S (pre ++ [r]) (.slice (some ⟨G, 0, none⟩) n cap) xs) := HH.out.keep HWq.out
    have HOq : Hid ((w.drewN nq).ownsRow base 43 5 (.slice (some ⟨G, 0, none⟩) n cap) n xs) := HOW.out
    have HUq : Hid ((w.drewN nq).ownsRow base 9 1 (.slice p1 n1 c1) n1 (strs r.l)) := HUL.out
    have HQq : Hid (SRw (w.drewN nq) q ls) := HQ.out _ (Chg.below HWq.out)
    have q1 : (w.drewN nq).cell? ⟨G, K * 5 + 1, none⟩ = some (.slice p1 n1 c1) := k1
    have hsz : base ≤ (w.drewN nq).heap.size := hbase
    have HSZ : Hid (w.heap.size = (w.drewN nq).heap.size) := rfl
    have HBK : Hid (BoxK w (w.drewN nq) R) := BoxK.same rfl
    clear c0 f0 k0 k1
    generalize w.drewN nq = wq at HWq HRq HOq HUq HQq q1 hsz HSZ HBK ⊢
    go_wp2_with (at_builtin; refine app_srwL _ rfl _ _ 22 rfl HU.out base _ n1 _ rfl HUq.out q m d ls rfl HM.out HQq.out (by omega) (by omega) hsz ?_; intro g6 c6 w6 ho6 hg6 hat6; have hown6 := HOq.out.kept hg6 (.inr (Ne.symm HUG.out)); have s1 := World.ownsRow.cellAt hown6 (K * 5 + 1) (by omega); rw [HX1.out] at s1; have z1 := hown6.frozenAt (K * 5 + 1); have HO6 := Lib.hid ho6; have HG6 := Lib.hid hg6; have HA6 := Lib.hid hat6; clear ho6 hg6 hat6 hown6)
    refine bodyPost_end (results_none rfl _ _ _) rfl ?_
    have ho6 := HO6.out
    rw [← strs_append] at ho6
    obtain ⟨a1, a2, a3, a4, a5⟩ := HRq.out.grow (m1 := n1 + m) (ls := ls) (by rw [HNK.out, HK.out]) HRK.out (by rw [← HK.out]; exact HX1.out) (by rw [List.length_append, ← HN1.out, ← HM.out]) ho6 HG6.out HA6.out
    rw [← HK.out] at a1 a2
    rw [← HCL.out] at a1
    refine ⟨rfl, _, _, _, a1, (Chg.below HWq.out).trans' a2, fun b hb => ?_, HBK.out.trans ((BoxK.same a4).trans (BoxK.same ?_))⟩
    · have := a3 b hb
      rw [HSZ.out]
      exact this
    · exact Below.heap_setCell w6 ⟨G, K * 5 + 1, none⟩ _ R a5.symm
  · have hlast : ∀ r, gs.getLast? = some r → r.k ≠ 1 := fun r hr hk => hB ⟨r, hr, hk⟩
    obtain ⟨i0, hi, hz0, hz1, hz2⟩ := info_parts Try.infoRg
    have HCL : Hid (clG gs ls = gs ++ [⟨1, ls, [], [], []⟩]) := clG_new hls hlast
    obtain ⟨p, cap, rfl⟩ : ∃ p cap, v = .slice p n cap := by
      rcases hown.2 with ⟨h', h0⟩ | ⟨g', cap', cur, h', _⟩
      · exact ⟨_, 0, by rw [h', h0]⟩
      · exact ⟨_, _, h'⟩
    have HOW := Lib.hid hown
    have HH := Lib.hid h
    have HNN := Lib.hid hnn
    have hn' : n ≤ 100000 := by omega
    have HBX := Lib.hid hbox
    have HVR : Hid ((Value.slice p n cap).ownBlock ≠ some R) := own_ty hown hbox ht2
    have HRL : Hid (R < w.heap.size) := row_lt hbox
    have HCS := Lib.hid hcs
    have HNEW : Hid ((w.alloc (.cells #[.int .i64 1, .slice none 0 0, .slice none 0 0, .slice none 0 0, .slice none 0 0] 43)).ownsRow base 43 5 (.slice p n cap) n xs) := own_below hown (below_new (Below.refl _ _) _)
    have hk0 : ¬ ((n : Int) < 0) := by omega
    by_cases h0 : n = 0
    · have i2 : IntKind.i64.wrap ((n : Int) - 1) = -1 := by rw [IntWalk.i64_in _ (by omega)]; omega
      clear h0 h hm hq hl hls hnn hcs ht1 ht2 hbox hown hlast hn hB hk0
      go_enter Try.func45, Try.ntmps45
      go_upto_region 4 with (at_builtin; refine wpList_append_lies _ rfl _ _ 70 rfl base 43 i0 (.agg #[.int .i64 0, .slice none 0 0, .slice none 0 0, .slice none 0 0, .slice none 0 0]) 5 104 Try.underlying70 hi hz0 hz1 hz2 rfl (by decide) _ n xs rfl HNEW.out ⟨w.heap.size, 0, none⟩ 1 1 [.int .i64 1, .slice none 0 0, .slice none 0 0, .slice none 0 0, .slice none 0 0] rfl rfl (World.news_of_block (heap_alloc_new _ _)) (by simp [Value.oneCell']) (by decide) (by unfold maxLen; omega) (by omega) (by rw [World.size_alloc]; omega) _ rfl ?_; intro g7 cap7 w7 ho7 hg7 hat7 hlt7; have hb7 := (hg7.block R (by rw [World.size_alloc]; exact Nat.lt_succ_of_lt HRL.out) (fun e => HVR.out e.symm)).trans (row_alloc HBX.out HRL.out); have y0 := (cell_of_row w7 R 0 _ _ _ hb7).trans HCS.out; have z0 := frozen_of_row w7 R 0 _ _ hb7; have HO7 := Lib.hid ho7; have HG7 := Lib.hid hg7; have HA7 := Lib.hid hat7; clear ho7 hg7 hat7 hb7)
      obtain ⟨b1, b2, b3, b4, b5⟩ := RS.open HNN.out HH.out HO7.out HG7.out HA7.out hbase
      obtain ⟨w8, hw8⟩ : ∃ w8, w8 = w7.setCell ⟨R, 0, none⟩ (.slice (some ⟨g7, 0, none⟩) (n + 1) cap7) := ⟨_, rfl⟩
      rw [← hw8] at b1 b2 b4 ⊢
      have hsz8 : w.heap.size ≤ w8.heap.size := b2.size
      obtain ⟨XS, hXS⟩ : ∃ XS, XS = xs ++ [.int .i64 1, .slice none 0 0, .slice none 0 0, .slice none 0 0, .slice none 0 0] := ⟨_, rfl⟩
      rw [← hXS] at b1 b5
      have hown8 : w8.ownsRow base 43 5 (.slice (some ⟨g7, 0, none⟩) (n + 1) cap7) (n + 1) XS := by
        have := b1.own
        rw [List.length_append, List.length_singleton, ← HNN.out] at this
        exact this
      obtain ⟨cs8, t8, hbox8, hcs8, _, _⟩ := b1.box
      have c8 := (cell_of_row w8 R 0 _ _ _ hbox8).trans hcs8
      have k1 : w8.cell? ⟨g7, n * 5 + 1, none⟩ = some (.slice none 0 0) := by rw [World.ownsRow.cellAt hown8 (n * 5 + 1) (by omega), b5]
      have i3 : IntKind.i64.wrap (((n + 1 : Nat) : Int) - 1) = (n : Int) := by rw [IntWalk.i64_in _ (by omega)]; omega
      have i4 : ((n + 1 : Nat) : Int) - 1 = (n : Int) := by omega
      have HR8 := Lib.hid b1
      have HC8 := Lib.hid b2
      have HS8 := Lib.hid b3
      have HK8 := Lib.hid b4
      have HX8 := Lib.hid b5
      have HW8 := Lib.hid hown8
      clear hw8 b1 b2 b3 b4 b5 hown8 hbox8 hcs8 hXS HO7 HG7 HA7 y0 z0 c0 f0 HNEW HBX HCS i2 hi hz0 hz1 hz2
      go_quiet (fail)
      have HWq : Hid (Below w8.heap.size w8 (w8.drewN nq)) := below_drewN (Below.refl _ _) nq
      have HRq : Hid (RS (w8.drewN nq) base R _ (gs ++ [⟨1, [], [], [], []⟩]) (.slice (some ⟨g7, 0, none⟩) (n + 1) cap7) XS) := HR8.out.keep HWq.out
      have HOq : Hid ((w8.drewN nq).ownsRow base 43 5 (.slice (some ⟨g7, 0, none⟩) (n + 1) cap7) (n + 1) XS) := HW8.out
      have HCq : Hid (Chg (own2 S R) w (w8.drewN nq)) := HC8.out.trans' (Chg.below HWq.out)
      have HQq : Hid (SRw (w8.drewN nq) q ls) := HQ.out _ HCq.out
      have HUq : Hid ((w8.drewN nq).ownsRow base 9 1 (.slice none 0 0) 0 []) := World.ownsRow_nil _ _ _ _
      have q1 : (w8.drewN nq).cell? ⟨g7, n * 5 + 1, none⟩ = some (.slice none 0 0) := k1
      have hsz : base ≤ (w8.drewN nq).heap.size := Nat.le_trans hbase hsz8
      have hszw : w.heap.size ≤ (w8.drewN nq).heap.size := hsz8
      have HBK : Hid (BoxK w (w8.drewN nq) R) := HK8.out.trans (BoxK.same rfl)
      clear c8 k1
      generalize w8.drewN nq = wq at HRq HOq HCq HUq HQq q1 hsz hszw HBK ⊢
      go_wp2_with (at_builtin; refine app_srwL _ rfl _ _ 22 rfl HU.out base _ 0 _ rfl HUq.out q m d ls rfl HM.out HQq.out (by omega) (by omega) hsz ?_; intro g6 c6 w6 ho6 hg6 hat6; have hown6 := HOq.out.kept hg6 (.inr (by intro e; cases e)); have s1 := World.ownsRow.cellAt hown6 (n * 5 + 1) (by omega); rw [HX8.out] at s1; have z1 := hown6.frozenAt (n * 5 + 1); rw [Nat.zero_add, List.nil_append] at ho6; have HO6 := Lib.hid ho6; have HG6 := Lib.hid hg6; have HA6 := Lib.hid hat6; clear ho6 hg6 hat6 hown6)
      refine bodyPost_end (results_none rfl _ _ _) rfl ?_
      have ho6 := HO6.out
      obtain ⟨a1, a2, a3, a4, a5⟩ := HRq.out.grow (m1 := m) (ls := ls) (by rw [HNN.out]) rfl (by rw [← HNN.out]; exact HX8.out) (by rw [List.nil_append, ← HM.out]) ho6 HG6.out HA6.out
      rw [← HNN.out] at a1 a2
      rw [List.nil_append, ← HCL.out] at a1
      refine ⟨rfl, _, _, _, a1, HCq.out.trans a2 ?_, fun b hb => ?_, HBK.out.trans ((BoxK.same a4).trans (BoxK.same ?_))⟩
      · rintro b (rfl | rfl)
        · exact HS8.out.imp (fun h => .inl h) id
        · exact .inl (.inr rfl)
      · rcases a3 b hb with rfl | h'
        · exact HS8.out
        · exact .inr (by omega)
      · exact Below.heap_setCell w6 ⟨g7, n * 5 + 1, none⟩ _ R a5.symm
    · obtain ⟨K, hK⟩ : ∃ K, n = K + 1 := ⟨n - 1, by omega⟩
      have hKl : K < gs.length := by omega
      obtain ⟨G, cap2, he, _, _⟩ := hown.form (by omega)
      simp only [Value.slice.injEq, true_and] at he
      obtain ⟨rfl, rfl⟩ := he
      obtain ⟨v0, u1, u2, u3, u4, x0, _, _, _, _, hr⟩ := h.read K hKl
      have hz := hlast gs[K] (by rw [List.getLast?_eq_getElem?, show gs.length - 1 = K by omega]; exact List.getElem?_eq_getElem hKl)
      have hk := hr.kind
      obtain ⟨z, hzz⟩ : ∃ z, z = gs[K].k := ⟨_, rfl⟩
      rw [← hzz] at hz hk
      rw [hk] at x0
      have k0 : w.cell? ⟨G, K * 5, none⟩ = some (.int .i64 z) := by rw [World.ownsRow.cellAt hown (K * 5) (by omega), x0]
      have i2 : IntKind.i64.wrap ((n : Int) - 1) = (K : Int) := by rw [IntWalk.i64_in _ (by omega)]; omega
      have hKn : K < n := by omega
      have hzA : ¬ z = 1 := hz
      have hzB : (z == 1) = false := by simpa using hz
      have hzC : (z != 1) = true := by simpa using hz
      have hK0 : ¬ ((K : Int) < 0) := by omega
      clear h0 h hm hq hl hls hnn hcs ht1 ht2 hbox hown hlast hn hB hk0 hK hKl hzz hk hr x0
      go_enter Try.func45, Try.ntmps45
      go_upto_region 4 with (at_builtin; refine wpList_append_lies _ rfl _ _ 70 rfl base 43 i0 (.agg #[.int .i64 0, .slice none 0 0, .slice none 0 0, .slice none 0 0, .slice none 0 0]) 5 104 Try.underlying70 hi hz0 hz1 hz2 rfl (by decide) _ n xs rfl HNEW.out ⟨w.heap.size, 0, none⟩ 1 1 [.int .i64 1, .slice none 0 0, .slice none 0 0, .slice none 0 0, .slice none 0 0] rfl rfl (World.news_of_block (heap_alloc_new _ _)) (by simp [Value.oneCell']) (by decide) (by unfold maxLen; omega) (by omega) (by rw [World.size_alloc]; omega) _ rfl ?_; intro g7 cap7 w7 ho7 hg7 hat7 hlt7; have hb7 := (hg7.block R (by rw [World.size_alloc]; exact Nat.lt_succ_of_lt HRL.out) (fun e => HVR.out e.symm)).trans (row_alloc HBX.out HRL.out); have y0 := (cell_of_row w7 R 0 _ _ _ hb7).trans HCS.out; have z0 := frozen_of_row w7 R 0 _ _ hb7; have HO7 := Lib.hid ho7; have HG7 := Lib.hid hg7; have HA7 := Lib.hid hat7; clear ho7 hg7 hat7 hb7)
      obtain ⟨b1, b2, b3, b4, b5⟩ := RS.open HNN.out HH.out HO7.out HG7.out HA7.out hbase
      obtain ⟨w8, hw8⟩ : ∃ w8, w8 = w7.setCell ⟨R, 0, none⟩ (.slice (some ⟨g7, 0, none⟩) (n + 1) cap7) := ⟨_, rfl⟩
      rw [← hw8] at b1 b2 b4 ⊢
      have hsz8 : w.heap.size ≤ w8.heap.size := b2.size
      obtain ⟨XS, hXS⟩ : ∃ XS, XS = xs ++ [.int .i64 1, .slice none 0 0, .slice none 0 0, .slice none 0 0, .slice none 0 0] := ⟨_, rfl⟩
      rw [← hXS] at b1 b5
      have hown8 : w8.ownsRow base 43 5 (.slice (some ⟨g7, 0, none⟩) (n + 1) cap7) (n + 1) XS := by
        have := b1.own
        rw [List.length_append, List.length_singleton, ← HNN.out] at this
        exact this
      obtain ⟨cs8, t8, hbox8, hcs8, _, _⟩ := b1.box
      have c8 := (cell_of_row w8 R 0 _ _ _ hbox8).trans hcs8
      have k1 : w8.cell? ⟨g7, n * 5 + 1, none⟩ = some (.slice none 0 0) := by rw [World.ownsRow.cellAt hown8 (n * 5 + 1) (by omega), b5]
      have i3 : IntKind.i64.wrap (((n + 1 : Nat) : Int) - 1) = (n : Int) := by rw [IntWalk.i64_in _ (by omega)]; omega
      have i4 : ((n + 1 : Nat) : Int) - 1 = (n : Int) := by omega
      have HR8 := Lib.hid b1
      have HC8 := Lib.hid b2
      have HS8 := Lib.hid b3
      have HK8 := Lib.hid b4
      have HX8 := Lib.hid b5
      have HW8 := Lib.hid hown8
      clear hw8 b1 b2 b3 b4 b5 hown8 hbox8 hcs8 hXS HO7 HG7 HA7 y0 z0 c0 f0 HNEW HBX HCS i2 hi hz0 hz1 hz2 k0
      go_quiet (fail)
      have HWq : Hid (Below w8.heap.size w8 (w8.drewN nq)) := below_drewN (Below.refl _ _) nq
      have HRq : Hid (RS (w8.drewN nq) base R _ (gs ++ [⟨1, [], [], [], []⟩]) (.slice (some ⟨g7, 0, none⟩) (n + 1) cap7) XS) := HR8.out.keep HWq.out
      have HOq : Hid ((w8.drewN nq).ownsRow base 43 5 (.slice (some ⟨g7, 0, none⟩) (n + 1) cap7) (n + 1) XS) := HW8.out
      have HCq : Hid (Chg (own2 S R) w (w8.drewN nq)) := HC8.out.trans' (Chg.below HWq.out)
      have HQq : Hid (SRw (w8.drewN nq) q ls) := HQ.out _ HCq.out
      have HUq : Hid ((w8.drewN nq).ownsRow base 9 1 (.slice none 0 0) 0 []) := World.ownsRow_nil _ _ _ _
      have q1 : (w8.drewN nq).cell? ⟨g7, n * 5 + 1, none⟩ = some (.slice none 0 0) := k1
      have hsz : base ≤ (w8.drewN nq).heap.size := Nat.le_trans hbase hsz8
      have hszw : w.heap.size ≤ (w8.drewN nq).heap.size := hsz8
      have HBK : Hid (BoxK w (w8.drewN nq) R) := HK8.out.trans (BoxK.same rfl)
      clear c8 k1
      generalize w8.drewN nq = wq at HRq HOq HCq HUq HQq q1 hsz hszw HBK ⊢
      go_wp2_with (at_builtin; refine app_srwL _ rfl _ _ 22 rfl HU.out base _ 0 _ rfl HUq.out q m d ls rfl HM.out HQq.out (by omega) (by omega) hsz ?_; intro g6 c6 w6 ho6 hg6 hat6; have hown6 := HOq.out.kept hg6 (.inr (by intro e; cases e)); have s1 := World.ownsRow.cellAt hown6 (n * 5 + 1) (by omega); rw [HX8.out] at s1; have z1 := hown6.frozenAt (n * 5 + 1); rw [Nat.zero_add, List.nil_append] at ho6; have HO6 := Lib.hid ho6; have HG6 := Lib.hid hg6; have HA6 := Lib.hid hat6; clear ho6 hg6 hat6 hown6)
      refine bodyPost_end (results_none rfl _ _ _) rfl ?_
      have ho6 := HO6.out
      obtain ⟨a1, a2, a3, a4, a5⟩ := HRq.out.grow (m1 := m) (ls := ls) (by rw [HNN.out]) rfl (by rw [← HNN.out]; exact HX8.out) (by rw [List.nil_append, ← HM.out]) ho6 HG6.out HA6.out
      rw [← HNN.out] at a1 a2
      rw [List.nil_append, ← HCL.out] at a1
      refine ⟨rfl, _, _, _, a1, HCq.out.trans a2 ?_, fun b hb => ?_, HBK.out.trans ((BoxK.same a4).trans (BoxK.same ?_))⟩
      · rintro b (rfl | rfl)
        · exact HS8.out.imp (fun h => .inl h) id
        · exact .inl (.inr rfl)
      · rcases a3 b hb with rfl | h'
        · exact HS8.out
        · exact .inr (by omega)
      · exact Below.heap_setCell w6 ⟨g7, n * 5 + 1, none⟩ _ R a5.symm
end Go.Proofs.Ytidghjalfbklnaa
