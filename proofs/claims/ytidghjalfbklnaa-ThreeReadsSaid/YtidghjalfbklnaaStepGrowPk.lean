/-
  An append that finds the row full, at a step of a region that draws its order.
-/
import Derived.Test.YtidghjalfbklnaaLawPostPk
import Derived.ArgAppend
import Derived.Deep.RegionHeld3
import Derived.Test.YtidghjalfbklnaaThRClWPk
import Derived.Test.YtidghjalfbklnaaThConf
namespace Go.Proofs.Ytidghjalfbklnaa
open Go Go.RowKit

theorem step_append_growsT {P : Program} (w : World) {ops : Array Oper} {o : Oper} {a : Act} {K : Act → World → Prop} {Q : Exit → Act → World → Prop} {E : Prop} (hgd : o.guard = none) (s x : Operand) (t : TypeId)
    (ho : o.op = .call { callee := .builtin .append, args := #[s, x], argTypes := #[t, t] })
    (e : TypeId) (i : TypeInfo) (z : Value) (size bytes : Nat) (ht : P.underlying t = some (.slice e)) (hi : P.info? e = some i) (hz : i.zero = some z)
    (hsize : i.size = size) (hby : i.bytes = bytes) (hzs : z.cells.size = size) (hsz : 0 < size)
    (b : Addr) (n cap : Nat) (olds : List Value) (hs : a.eval s = .slice (some b) n cap) (hlo : olds.length = n * size) (holds : ∀ j u, olds[j]? = some u → w.cell? (b.add j) = some u)
    (ad : Addr) (m c : Nat) (news : List Value) (hx : a.eval x = .slice (some ad) m c) (hl : news.length = m * size) (hnews : ∀ j u, news[j]? = some u → w.cell? (ad.add j) = some u)
    (hg : cap < n + m) (h63 : n + m ≤ maxLen) (hbytes : (n + m) * bytes ≤ 140737488355328)
    (h : ∀ v' w', w'.ownsRow w.heap.size e size v' (n + m) (olds ++ news) → w.grownBy w' none → K (a.put o.dst v') w') :
    if Region.wanted o (yielded ops a.tmps) = true then Oper.wp P o a w K Q else E := by
  have hw : Region.wanted o (yielded ops a.tmps) = true := by simp [Region.wanted, hgd]
  rw [if_pos hw]
  obtain ⟨v', w', hrun, r1, r2⟩ := run_append_arg_grows (P := P) w t o.type e i z size bytes ht hi hz hsize hby hzs hsz b n cap olds hlo holds ad m c news hl hnews hg h63 hbytes
  unfold Oper.wp
  simp [execOp, ho, resolve, invoke, builtin, hs, hx, hrun, Result.andThen]
  exact h _ _ r1 r2
end Go.Proofs.Ytidghjalfbklnaa
/-
  The reference's clean where the last region is clean; clean as a whole.
-/
namespace Go.Proofs.Ytidghjalfbklnaa
open Go.RowKit

/-- What a call that appends regions leaves. -/
def RGR (w : World) (base : Nat) (v : Value) (gs : List Rg) (e : Ending) (w' : World) : Prop :=
  ∃ p n c, e = .returned (.slice p n c) ∧ n = gs.length ∧ GOw w' base (.slice p n c) gs ∧ w.grownBy w' v.ownBlock ∧ ((Value.slice p n c).ownBlock = v.ownBlock ∨ ∀ g, (Value.slice p n c).ownBlock = some g → w.heap.size ≤ g)
theorem grown_refl (w : World) (b : Option Nat) : w.grownBy w b := ⟨rfl, rfl, rfl, Nat.le_refl _, fun _ _ _ => rfl⟩
theorem grown_any {w w' : World} {b : Option Nat} (h : w.grownBy w' none) : w.grownBy w' b := ⟨h.os, h.tape, h.output, h.size, fun k hk _ => h.block k hk (by simp)⟩
/-- One step behind another. -/
theorem RGR.step {w w1 : World} {base : Nat} {v v1 : Value} {gs : List Rg} {e : Ending} {w2 : World} (h1 : w.grownBy w1 v.ownBlock) (hv : v1.ownBlock = v.ownBlock ∨ ∀ g, v1.ownBlock = some g → w.heap.size ≤ g) (h : RGR w1 base v1 gs e w2) : RGR w base v gs e w2 := by
  obtain ⟨p, n, c, rfl, hn, ho, hg, hat⟩ := h
  refine ⟨p, n, c, rfl, hn, ho, grown_chain h1 hg hv, ?_⟩
  rcases hat with h | h
  · rw [h]
    exact hv
  · exact .inr fun g hg => Nat.le_trans h1.size (h g hg)
theorem GOw.keep {w w' : World} {base : Nat} {v : Value} {gs : List Rg} (h : GOw w base v gs) (hb : Below w.heap.size w w') : GOw w' base v gs := by
  obtain ⟨xs, h1, h2⟩ := h
  exact ⟨xs, own_below h1 hb, fun w2 h3 => h2 w2 (grown_chain (grown_any (grown_of_below hb)) h3 (.inl rfl))⟩
theorem own_setI {w : World} {base size n P i : Nat} {e : TypeId} {v u : Value} {xs : List Value} (h : w.ownsRow base e size v n xs) (hne : v.ownBlock ≠ some P) : (w.setCell ⟨P, i, none⟩ u).ownsRow base e size v n xs :=
  h.kept (row := some P) ⟨rfl, rfl, rfl, Nat.le_of_eq (by simp), fun k hk hkP => Below.heap_setCell w _ _ k (fun he => hkP (by rw [he]))⟩ (.inr hne)
/-- What the appends leave where the last region is clean. -/
theorem rclC_end {w w7 w8 : World} {base B8 K n cap g : Nat} {v7 v8 v2 v3 v4 : Value} {gs : List Rg} {r : Rg} {L : List (List UInt8)} {xs : List Value} (hn : n = K + 1) (hgl : gs.length = n) (hr : gs[K]? = some r)
    (hown : w.ownsRow base 43 5 (.slice (some ⟨g, 0, none⟩) n cap) n xs)
    (hst : ∀ w', w.grownBy w' (some g) → ∀ k (h : k < gs.length), ∃ v0 v1 v2 v3 v4, xs[k * 5]? = some v0 ∧ xs[k * 5 + 1]? = some v1 ∧ xs[k * 5 + 2]? = some v2 ∧ xs[k * 5 + 3]? = some v3 ∧ xs[k * 5 + 4]? = some v4 ∧ RgC w' gs[k] v0 v1 v2 v3 v4)
    (x2 : xs[K * 5 + 2]? = some v2) (x3 : xs[K * 5 + 3]? = some v3) (x4 : xs[K * 5 + 4]? = some v4)
    (hb7 : Below w.heap.size w w7) (h7 : TOw w7 w.heap.size v7 L) (hbase : base ≤ w.heap.size)
    (ho8 : w8.ownsRow B8 43 5 v8 n (xs.take (K * 5) ++ [.int .i64 1, v7, v2, v3, v4])) (hg8 : w7.grownBy w8 none) (hB8 : w7.heap.size ≤ B8) :
    GOw w8 base v8 (gs.dropLast ++ [⟨1, L, r.o, r.b, r.t⟩]) ∧ w.grownBy w8 (some g) ∧ ∀ k, v8.ownBlock = some k → w.heap.size ≤ k := by
  have hnew : ∀ k, v8.ownBlock = some k → w7.heap.size ≤ k := fun k hk => Nat.le_trans hB8 (ho8.lt k hk).1
  have hw8 : w.grownBy w8 none := grown_chain (grown_of_below hb7) hg8 (.inl rfl)
  have hlen : (gs.dropLast ++ [(⟨1, L, r.o, r.b, r.t⟩ : Rg)]).length = n := by rw [List.length_append, List.length_dropLast, hgl]; simp; omega
  have hxl : xs.length = n * 5 := hown.1
  have htl : (xs.take (K * 5)).length = K * 5 := by rw [List.length_take]; omega
  refine ⟨⟨xs.take (K * 5) ++ [.int .i64 1, v7, v2, v3, v4], ?_, fun w' hw' k hk => ?_⟩, grown_any hw8, fun k hk => Nat.le_trans hb7.size (hnew k hk)⟩
  · rw [hlen]
    exact rows_low ho8 (Nat.le_trans hbase (Nat.le_trans hb7.size hB8))
  · rw [hlen] at hk
    have hgr : w.grownBy w' (some g) := grown_chain (grown_any hw8) hw' (.inr fun k hk => Nat.le_trans hb7.size (hnew k hk))
    by_cases hlt : k < K
    · obtain ⟨a0, a1, a2, a3, a4, h0, h1, h2, h3, h4, hc⟩ := hst w' hgr k (by omega)
      refine ⟨a0, a1, a2, a3, a4, ?_, ?_, ?_, ?_, ?_, ?_⟩
      · rw [List.getElem?_append_left (by omega), List.getElem?_take_of_lt (by omega)]; exact h0
      · rw [List.getElem?_append_left (by omega), List.getElem?_take_of_lt (by omega)]; exact h1
      · rw [List.getElem?_append_left (by omega), List.getElem?_take_of_lt (by omega)]; exact h2
      · rw [List.getElem?_append_left (by omega), List.getElem?_take_of_lt (by omega)]; exact h3
      · rw [List.getElem?_append_left (by omega), List.getElem?_take_of_lt (by omega)]; exact h4
      · have e : (gs.dropLast ++ [(⟨1, L, r.o, r.b, r.t⟩ : Rg)])[k]'(by omega) = gs[k]'(by omega) := by
          rw [List.getElem_append_left (by rw [List.length_dropLast]; omega), List.getElem_dropLast]
        rw [e]
        exact hc
    · have hke : k = K := by omega
      subst hke
      obtain ⟨a0, a1, a2, a3, a4, h0, h1, h2, h3, h4, hc⟩ := hst w' hgr k (by omega)
      rw [h2, Option.some.injEq] at x2
      rw [h3, Option.some.injEq] at x3
      rw [h4, Option.some.injEq] at x4
      subst x2 x3 x4
      rw [List.getElem?_eq_getElem (by omega), Option.some.injEq] at hr
      rw [hr] at hc
      have ix : ∀ (i : Nat) (u : Value), ([Value.int .i64 1, v7, a2, a3, a4] : List Value)[i]? = some u → (xs.take (k * 5) ++ [.int .i64 1, v7, a2, a3, a4])[k * 5 + i]? = some u := fun i u h => by
        rw [List.getElem?_append_right (by omega), htl, show k * 5 + i - k * 5 = i by omega]
        exact h
      refine ⟨.int .i64 1, v7, a2, a3, a4, ix 0 _ rfl, ix 1 _ rfl, ix 2 _ rfl, ix 3 _ rfl, ix 4 _ rfl, ?_⟩
      have e : (gs.dropLast ++ [(⟨1, L, r.o, r.b, r.t⟩ : Rg)])[k]'(by omega) = ⟨1, L, r.o, r.b, r.t⟩ := by
        rw [List.getElem_append_right (by rw [List.length_dropLast]; omega)]
        simp
      rw [e]
      refine ⟨rfl, ?_, hc.our, hc.bas, hc.their⟩
      have s7 : SlW w8 v7 L := slw_ch (S := fun _ => False) (own_slw h7) (Chg.grown hg8 fun k hk => by cases hk) fun _ _ h => h
      refine slw_ch (S := fun b => v8.ownBlock = some b) s7 (Chg.grown hw' fun k hk => hk) fun k hk hk2 => ?_
      have h1 := (World.ownsRow.lt h7 k hk).2
      have h2 := hnew k hk2
      omega
set_option maxHeartbeats 4000000 in
set_option maxRecDepth 8000 in
theorem rclC_any (gs : List Rg) (ls : List (List UInt8)) (p q : Option Addr) (base n cap m d : Nat) (r : Rg) (w : World) (hn : n = gs.length) (hm : m = ls.length) (ho : GOw w base (.slice p n cap) gs) (hbase : base ≤ w.heap.size) (hq : ∀ w', w.grownBy w' (Value.slice p n cap).ownBlock → SRw w' q ls) (hl : n ≤ 100000) (hm0 : 0 < m) (hm1 : m ≤ 400000) (hr : gs.getLast? = some r) (hk : r.k = 1) (hrl : r.l.length ≤ 400000) :
    Calls Try.prog 48 #[.slice p n cap, .slice q m d] w (RGR w base (.slice p n cap) (gs.dropLast ++ [⟨1, r.l ++ ls, r.o, r.b, r.t⟩])) := by
  obtain ⟨i0, hi, hz0, hz1, hz2⟩ := info_parts Try.infoRg
  have HU : Hid (Try.prog.underlying 22 = some (.slice 9)) := Try.underlying22
  obtain ⟨xs, hown, hst⟩ := ho
  have hne : gs ≠ [] := fun e => by rw [e] at hr; cases hr
  obtain ⟨K, hK⟩ : ∃ K, n = K + 1 := ⟨n - 1, by have := List.length_pos_iff.mpr hne; omega⟩
  have hKl : K < gs.length := by omega
  have hrK : gs[K]? = some r := by rw [← hr, List.getLast?_eq_getElem?, show gs.length - 1 = K by omega]
  have hgK : gs[K] = r := by rw [List.getElem?_eq_getElem hKl, Option.some.injEq] at hrK; exact hrK
  rw [← hn] at hown
  obtain ⟨g, cap2, he, hgb, hgl⟩ := hown.form (by omega)
  simp only [Value.slice.injEq, true_and] at he
  obtain ⟨rfl, rfl⟩ := he
  obtain ⟨v0, v1, v2, v3, v4, x0, x1, x2, x3, x4, hc⟩ := hst w (grown_refl _ _) K hKl
  rw [hgK] at hc
  have hs1 : ∀ w', w.grownBy w' (some g) → SlW w' v1 r.l := fun w' hw' => by
    obtain ⟨a0, a1, a2, a3, a4, _, h1, _, _, _, hc'⟩ := hst w' hw' K hKl
    rw [x1, Option.some.injEq] at h1
    rw [hgK, ← h1] at hc'
    exact hc'.line
  obtain rfl : v0 = .int .i64 1 := by rw [hc.kind, hk]
  obtain ⟨p1, c1, e1, _, _⟩ := hc.line
  obtain ⟨n1, hn1⟩ : ∃ n1, n1 = r.l.length := ⟨_, rfl⟩
  rw [← hn1] at e1
  subst e1
  have hs2 : ∀ w', w.grownBy w' (some g) → SRw w' p1 r.l := fun w' hw' => by
    obtain ⟨p', c', e', _, h'⟩ := hs1 w' hw'
    simp only [Value.slice.injEq] at e'
    obtain ⟨rfl, _, _⟩ := e'
    exact h'
  obtain ⟨p2, c2, e2, _, _⟩ := hc.our
  obtain ⟨n2, hn2⟩ : ∃ n2, n2 = r.o.length := ⟨_, rfl⟩
  rw [← hn2] at e2
  subst e2
  obtain ⟨p3, c3, e3, _, _⟩ := hc.bas
  obtain ⟨n3, hn3⟩ : ∃ n3, n3 = r.b.length := ⟨_, rfl⟩
  rw [← hn3] at e3
  subst e3
  obtain ⟨p4, c4, e4, _, _⟩ := hc.their
  obtain ⟨n4, hn4⟩ : ∃ n4, n4 = r.t.length := ⟨_, rfl⟩
  rw [← hn4] at e4
  subst e4
  have hxl : xs.length = n * 5 := hown.1
  have d0 : w.cell? ⟨g, K * 5, none⟩ = some (.int .i64 1) := by rw [World.ownsRow.cellAt hown (K * 5) (by omega), x0]
  have d1 : w.cell? ⟨g, K * 5 + 1, none⟩ = some (.slice p1 n1 c1) := by rw [World.ownsRow.cellAt hown (K * 5 + 1) (by omega), x1]
  have d2 : w.cell? ⟨g, K * 5 + 2, none⟩ = some (.slice p2 n2 c2) := by rw [World.ownsRow.cellAt hown (K * 5 + 2) (by omega), x2]
  have d3 : w.cell? ⟨g, K * 5 + 3, none⟩ = some (.slice p3 n3 c3) := by rw [World.ownsRow.cellAt hown (K * 5 + 3) (by omega), x3]
  have d4 : w.cell? ⟨g, K * 5 + 4, none⟩ = some (.slice p4 n4 c4) := by rw [World.ownsRow.cellAt hown (K * 5 + 4) (by omega), x4]
  have holds : ∀ w', Below w.heap.size w w' → ∀ j u, (xs.take (K * 5))[j]? = some u → w'.cell? ⟨g, j, none⟩ = some u := fun w' hb j u hj => by
    have hj1 : j < K * 5 := by
      have := (List.getElem?_eq_some_iff.mp hj).1
      rw [List.length_take] at this
      omega
    rw [List.getElem?_take_of_lt hj1] at hj
    rw [← hj, ← World.ownsRow.cellAt hown j (by omega)]
    exact hb.cell (p := ⟨g, j, none⟩) hgl
  have hcap : n ≤ cap := by
    rcases hown.2 with ⟨h', _⟩ | ⟨g', cap', cur, h', _, _, hc', _⟩
    · simp at h'
    · simp only [Value.slice.injEq, true_and] at h'
      obtain ⟨_, rfl⟩ := h'
      exact hc'
  have e2 : IntKind.i64.wrap ((n : Int) - 1) = (K : Int) := by rw [IntWalk.i64_in _ (by omega)]; omega
  have hKn : K < n := by omega
  have hK0 : ¬ ((K : Int) < 0) := by omega
  have hKc : K ≤ cap := by omega
  have hKc' : (K : Int) ≤ (cap : Int) := by omega
  have hmi : ¬ (m : Int) = 0 := by omega
  have HTL : Hid ((xs.take (K * 5)).length = K * 5) := by show _ = _; rw [List.length_take]; omega
  have HQ : Hid (∀ w', Below w.heap.size w w' → SRw w' q ls) := fun w' hb => hq w' (grown_any (grown_of_below hb))
  have HS1 : Hid (∀ w', Below w.heap.size w w' → SRw w' p1 r.l) := fun w' hb => hs2 w' (grown_any (grown_of_below hb))
  have HOLD := Lib.hid holds
  have HM := Lib.hid hm
  have HN1 := Lib.hid hn1
  have HNN : Hid (n = K + 1) := hK
  have hn1b : n1 ≤ 400000 := by omega
  have HEND : Hid (∀ (w7 w8 : World) (B8 : Nat) (v7 v8 : Value), Below w.heap.size w w7 → TOw w7 w.heap.size v7 (r.l ++ ls) → w8.ownsRow B8 43 5 v8 n (xs.take (K * 5) ++ [.int .i64 1, v7, .slice p2 n2 c2, .slice p3 n3 c3, .slice p4 n4 c4]) → w7.grownBy w8 none → w7.heap.size ≤ B8 → GOw w8 base v8 (gs.dropLast ++ [⟨1, r.l ++ ls, r.o, r.b, r.t⟩]) ∧ w.grownBy w8 (some g) ∧ ∀ k, v8.ownBlock = some k → w.heap.size ≤ k) :=
    fun w7 w8 B8 v7 v8 h1 h2 h3 h4 h5 => rclC_end hK hn.symm hrK hown hst x2 x3 x4 h1 h2 hbase h3 h4 h5
  have HLN : Hid (n = (gs.dropLast ++ [(⟨1, r.l ++ ls, r.o, r.b, r.t⟩ : Rg)]).length) := by show _ = _; rw [List.length_append, List.length_dropLast]; simp; omega
  clear hown hst hq hs1 hs2 hc x0 x1 x2 x3 x4 hr hrK hgK hK hn hm hne hn1 hn2 hn3 hn4 holds hxl hrl hk hKl hcap
  go_enter Try.func48, Try.ntmps48
  go_upto_region 7 with fail
  obtain ⟨E, hE⟩ : ∃ E, E = w.heap.size := ⟨_, rfl⟩
  obtain ⟨w1, hw1⟩ : ∃ w1, w1 = w.alloc (.cells #[.int .i64 1, .slice p1 n1 c1, .slice p2 n2 c2, .slice p3 n3 c3, .slice p4 n4 c4] 43) := ⟨_, rfl⟩
  have hrE : w1.heap[E]? = some (.cells #[.int .i64 1, .slice p1 n1 c1, .slice p2 n2 c2, .slice p3 n3 c3, .slice p4 n4 c4] 43 (0, 0)) := by rw [hw1, hE]; exact heap_alloc_new _ _
  have hb1 : Below w.heap.size w w1 := by rw [hw1]; exact below_new (Below.refl _ _) _
  rw [← hw1, ← hE]
  have HE := Lib.hid hE
  have HRE := Lib.hid hrE
  have HB1 := Lib.hid hb1
  have y1 : w1.cell? ⟨E, 1, none⟩ = some (.slice p1 n1 c1) := cell_of_row w1 E 1 _ _ _ hrE
  have HNW : Hid ((w1.alloc (.cells #[] 9)).ownsRow w1.heap.size 9 1 (.slice (some ⟨w1.heap.size, 0, none⟩) 0 0) 0 []) := ⟨rfl, .inr ⟨_, 0, #[], rfl, Nat.le_refl _, heap_alloc_new _ _, Nat.le_refl _, Nat.zero_le _, rfl, rfl⟩⟩
  have HBA : Hid (Below w1.heap.size w1 (w1.alloc (.cells #[] 9))) := below_new (Below.refl _ _) _
  have yA : (w1.alloc (.cells #[] 9)).cell? ⟨E, 1, none⟩ = some (.slice p1 n1 c1) := cell_belT y1 HBA.out
  have hEn : E < w1.heap.size := row_lt hrE
  clear hE hw1 hrE hb1 d0 d1 d2 d3 d4
  go_upto_region 8 with (first
    | (at_builtin; refine app_srwT _ rfl _ _ 22 rfl HU.out w1.heap.size _ 0 [] rfl HNW.out p1 n1 c1 r.l rfl HN1.out (HS1.out _ (HB1.out.trans (HBA.out.mono HB1.out.size))) (by omega) (by simp) ?_; intro v6 w6 ho6 hg6; rw [Nat.zero_add, List.nil_append] at ho6; have HO6 := Lib.hid ho6; have HB6 := Lib.hid (HBA.out.grown hg6 (by simp) (fun b hb => by cases hb; exact Nat.le_refl _)); clear hg6 ho6)
    | (at_builtin; refine app_srwT _ rfl _ _ 22 rfl HU.out w1.heap.size _ n1 (strs r.l) rfl HO6.out q m d ls rfl HM.out (HQ.out _ (HB1.out.trans (HB6.out.mono HB1.out.size))) (by omega) HB6.out.size ?_; intro v7 w7 ho7 hg7; have ht7 := TOw.app HN1.out HM.out ho7; obtain ⟨p7, c7, rfl, _⟩ := ht7.shapeN (n := n1 + m) (by rw [List.length_append, ← HN1.out, ← HM.out]); have HT7 := Lib.hid ht7; have HB7 := Lib.hid (HB6.out.grown hg7 HB6.out.size (fun b hb => (World.ownsRow.lt HO6.out b hb).1)); have hr7 := (HB7.out.block E (row_lt HRE.out)).trans HRE.out; have y7 := cell_of_row w7 E 1 _ _ _ hr7; have f7 := frozen_of_row w7 E 1 _ _ hr7; have HR7 := Lib.hid hr7; clear hr7 hg7 ho7 ht7))
  obtain ⟨w8, hw8⟩ : ∃ w8, w8 = w7.setCell ⟨E, 1, none⟩ (.slice p7 (n1 + m) c7) := ⟨_, rfl⟩
  have hr8 : w8.heap[E]? = some (.cells #[.int .i64 1, .slice p7 (n1 + m) c7, .slice p2 n2 c2, .slice p3 n3 c3, .slice p4 n4 c4] 43 (0, 0)) := by
    have h := heap_setCell_same w7 E 1 _ 43 (.slice p7 (n1 + m) c7) HR7.out
    rw [hw8, h]
    rfl
  have ht8 : TOw w8 w1.heap.size (.slice p7 (n1 + m) c7) (r.l ++ ls) := by
    rw [hw8]
    exact own_setI HT7.out (fun h => by have h1 := (World.ownsRow.lt HT7.out E h).1; have := row_lt HRE.out; omega)
  have hb8 : Below w.heap.size w w8 := by rw [hw8]; exact (HB1.out.trans (HB7.out.mono HB1.out.size)).setCell (by have := HE.out; simp; omega) _
  rw [← hw8]
  have z0 := cell_of_row w8 E 0 _ _ _ hr8
  have z1 := cell_of_row w8 E 1 _ _ _ hr8
  have z2 := cell_of_row w8 E 2 _ _ _ hr8
  have z3 := cell_of_row w8 E 3 _ _ _ hr8
  have z4 := cell_of_row w8 E 4 _ _ _ hr8
  simp only [List.getElem?_toArray, List.getElem?_cons_zero, List.getElem?_cons_succ] at z0 z1 z2 z3 z4
  have hEs : E < w8.heap.size := row_lt hr8
  have HB8 := Lib.hid hb8
  have HT8 := Lib.hid ht8
  have HH : Hid (w.heap.size ≤ w1.heap.size) := HB1.out.size
  clear hw8 hr8 ht8 hb8 y7 f7 y1 HT7 HR7 HB7 HO6 HB6 HNW HBA
  go_region_held3 (fun w' => w'.cell? ⟨E, 0, none⟩ = some (.int .i64 1) ∧ w'.cell? ⟨E, 1, none⟩ = some (.slice p7 (n1 + m) c7) ∧ w'.cell? ⟨E, 2, none⟩ = some (.slice p2 n2 c2) ∧ w'.cell? ⟨E, 3, none⟩ = some (.slice p3 n3 c3) ∧ w'.cell? ⟨E, 4, none⟩ = some (.slice p4 n4 c4)) (first | go_keep | (go_split_ands; refine ⟨?_, ?_, ?_, ?_, ?_⟩ <;> (rw [hg9.cell_far _ (by simp; omega) (by simp)]; assumption)))
    ((refine step_append_growsT _ (by rfl) _ _ _ (by rfl) 43 i0 (.agg #[.int .i64 0, .slice none 0 0, .slice none 0 0, .slice none 0 0, .slice none 0 0]) 5 104 Try.underlying33 hi hz0 hz1 hz2 rfl (by omega) ⟨g, 0, none⟩ K K (xs.take (K * 5)) (by rfl) HTL.out (fun j u hj => by rw [Addr.add_lit, Nat.zero_add]; exact HOLD.out _ (below_new HB8.out _).drew j u hj) ⟨w8.heap.size, 0, none⟩ 1 1 [.int .i64 1, .slice p7 (n1 + m) c7, .slice p2 n2 c2, .slice p3 n3 c3, .slice p4 n4 c4] (by rfl) (by rfl) (World.news_of_block (heap_alloc_new w8 _)) (by omega) (by unfold maxLen; omega) (by omega) ?_; intro v9 w9 ho9 hg9))
  all_goals
    obtain ⟨g9, c9, hv9, _, _⟩ := World.ownsRow.form ho9 (by omega)
    subst hv9
    obtain ⟨q1, q2, q3⟩ := HEND.out _ w9 _ _ _ (below_new HB8.out _).drew (TOw.below (rows_low HT8.out HH.out) (below_new (Below.refl _ _) _).drew) (by rw [HNN.out]; exact ho9) hg9 (Nat.le_refl _)
    have Q1 := Lib.hid q1
    have Q2 := Lib.hid q2
    have Q3 := Lib.hid q3
    clear q1 q2 q3 ho9 hg9 z0 z1 z2 z3 z4
    go_wp2
    go_ret
    exact ⟨some ⟨g9, 0, none⟩, K + 1, c9, rfl, by rw [← HLN.out, HNN.out], Q1.out, Q2.out, .inr Q3.out⟩
end Go.Proofs.Ytidghjalfbklnaa
