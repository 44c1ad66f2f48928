/-
  Whether two lists of lines are the same: the reference's Same, and slices.Equal.
-/
import Derived.Test.YtidghjalfbklnaaThRegPk
import Derived.Laws.AppendOwn
namespace Go.Proofs.Ytidghjalfbklnaa
open Go.RowKit

theorem drop_eq_iff {X Y : List (List UInt8)} {k : Nat} (hx : k < X.length) (hy : k < Y.length) : decide (X.drop k = Y.drop k) = (decide (X[k] = Y[k]) && decide (X.drop (k + 1) = Y.drop (k + 1))) := by
  rw [List.drop_eq_getElem_cons hx, List.drop_eq_getElem_cons hy, Bool.eq_iff_iff]
  simp only [decide_eq_true_eq, Bool.and_eq_true, List.cons.injEq]
theorem str_neB {a b : List UInt8} (h : a ≠ b) : ((str a).toList == (str b).toList) = false := by
  rw [ByteArray.toList_eq, ByteArray.toList_eq, str_list, str_list]
  simpa using h

set_option maxHeartbeats 1000000 in
set_option maxRecDepth 4000 in
theorem rsame6_any (X Y : List (List UInt8)) (p q : Option Addr) (c d n m : Nat) (w : World) (hn : n = X.length) (hm : m = Y.length) (hp : SRw w p X) (hq : SRw w q Y) (hl : n ≤ 1099511627776) :
    Calls Try.prog 27 #[.slice p n c, .slice q m d] w fun e w' => e = .returned (.bool (decide (X = Y))) ∧ ∃ k, w' = w.drewN k := by
  obtain ⟨R, hR⟩ : ∃ R, R = decide (X = Y) := ⟨_, rfl⟩
  rw [← hR]
  by_cases hnm : n = m
  · subst hnm
    have HN : Hid (n = X.length) := hn
    have HM : Hid (n = Y.length) := hm
    have HB : Hid (R = decide (X.drop 0 = Y.drop 0)) := hR
    clear hn hm hR
    go_enter Try.func27, Try.ntmps27
    go_wp2
    go_loopw [5] (fun i wr => ∃ (k m : Nat), k ≤ n ∧ i = .int .i64 k ∧ Hid (R = decide (X.drop k = Y.drop k)) ∧ wr = w.drewN m) (fun i _ => n - (intOf i).toNat)
    case atStart => exact ⟨0, 0, by omega, rfl, HB.out, rfl⟩
    case round =>
      clear HB
      obtain ⟨k, m, hk, rfl, HB, rfl⟩ := hrel
      by_cases hlt : k < n
      · have hx : k < X.length := by rw [← HN.out]; exact hlt
        have hy : k < Y.length := by rw [← HM.out]; exact hlt
        obtain ⟨g, o, rfl, hg, a0⟩ := hp k hx
        obtain ⟨h, o2, rfl, hh, b0⟩ := hq k hy
        have hb := HB.out
        rw [drop_eq_iff hx hy] at hb
        by_cases he : X[k] = Y[k]
        · rw [decide_eq_true he, Bool.true_and] at hb
          have HR := Lib.hid hb
          obtain ⟨t, ht⟩ : ∃ t, t = str X[k] := ⟨_, rfl⟩
          rw [← he, ← ht] at b0
          rw [← ht] at a0
          clear ht hg hh he hb HB
          go_wp2
          go_quiet (fail)
          go_wp2
          go_roundw
          case rel => exact ⟨k + 1, _, by omega, by go_num, HR.out, rfl⟩
          case measure => simp [intOf]; omega
        · rw [decide_eq_false he, Bool.false_and] at hb
          have HR := Lib.hid hb
          have hne := str_neB he
          obtain ⟨t, ht⟩ : ∃ t, t = str X[k] := ⟨_, rfl⟩
          obtain ⟨u, hu⟩ : ∃ u, u = str Y[k] := ⟨_, rfl⟩
          rw [← hu] at b0 hne
          rw [← ht] at a0 hne
          clear ht hu hg hh he hb HB
          go_wp2
          go_quiet (fail)
          go_wp2
          go_ret
          exact ⟨by rw [HR.out]; rfl, _, World.drewN_drewN _ _ _⟩
      · obtain rfl : k = n := by omega
        have hb := HB.out
        rw [List.drop_of_length_le (by have := HN.out; omega), List.drop_of_length_le (by have := HM.out; omega)] at hb
        have HR : Hid (R = true) := by show _ = _; rw [hb]; simp
        clear hb HB
        go_wp2
        go_ret
        exact ⟨by rw [HR.out]; rfl, m, rfl⟩
  · have HR : Hid (R = false) := by
      show _ = _
      rw [hR]
      exact decide_eq_false fun e => hnm (by rw [hn, hm, e])
    have hnmi : ¬ (n : Int) = (m : Int) := by omega
    clear hR hn hm
    go_enter Try.func27, Try.ntmps27
    go_wp2
    go_ret
    exact ⟨by rw [HR.out]; rfl, 0, rfl⟩

theorem equal_any (X Y : List (List UInt8)) (p q : Option Addr) (c d n m : Nat) (w : World) (hn : n = X.length) (hm : m = Y.length) (hp : SRw w p X) (hq : SRw w q Y) (hl : n ≤ 1099511627776) :
    Calls Try.prog 76 #[.slice p n c, .slice q m d] w fun e w' => e = .returned (.bool (decide (X = Y))) ∧ ∃ k, w' = w.drewN k := by
  by_cases hnm : n = m
  · subst hnm
    by_cases h0 : n = 0
    · subst h0
      have hx : X = [] := List.eq_nil_of_length_eq_zero hn.symm
      have hy : Y = [] := List.eq_nil_of_length_eq_zero hm.symm
      subst hx hy
      exact (Try.slices_Equal_string_empty p q c 0 d w (by omega)).mono fun e w' ⟨h1, h2⟩ => ⟨h1.trans (by simp), 0, h2⟩
    · obtain ⟨g, o, rfl, _, _⟩ := hp 0 (by omega)
      obtain ⟨g2, o2, rfl, _, _⟩ := hq 0 (by omega)
      have h := Try.slices_Equal_string g o n c g2 o2 n d (X.map str) (Y.map str) w (by rw [List.length_map]; omega) (by rw [List.length_map]; omega) (by omega) (by omega)
        (fun j hj => by
          have hj' : j < X.length := by simpa using hj
          obtain ⟨ga, oa, he, _, ha⟩ := hp j hj'
          simp only [Option.some.injEq, Addr.mk.injEq] at he
          obtain ⟨rfl, rfl, _⟩ := he
          rw [ha, List.getD_eq_getElem?_getD, List.getElem?_map, List.getElem?_eq_getElem hj']
          rfl)
        (fun j hj => by
          have hj' : j < Y.length := by simpa using hj
          obtain ⟨ga, oa, he, _, ha⟩ := hq j hj'
          simp only [Option.some.injEq, Addr.mk.injEq] at he
          obtain ⟨rfl, rfl, _⟩ := he
          rw [ha, List.getD_eq_getElem?_getD, List.getElem?_map, List.getElem?_eq_getElem hj']
          rfl)
      refine h.mono fun e w' ⟨h1, h2⟩ => ⟨h1.trans ?_, h2⟩
      rw [List.take_of_length_le (by simp; omega), List.take_of_length_le (by simp; omega)]
      have hi : (X.map str = Y.map str) ↔ X = Y := ⟨fun h => by
        have := congrArg (List.map fun b : ByteArray => b.data.toList) h
        simpa [List.map_map, Function.comp_def, str_list] using this, fun h => by rw [h]⟩
      simp only [hi]
  · refine (Try.slices_Equal_string_lens p q n c m d w hnm).mono fun e w' ⟨h1, h2⟩ => ⟨h1.trans ?_, 0, h2⟩
    rw [decide_eq_false fun e => hnm (by rw [hn, hm, e])]
end Go.Proofs.Ytidghjalfbklnaa
/-
  The append of a row of strings, nil or not; what Lines gives.
-/
namespace Go.Proofs.Ytidghjalfbklnaa
open Go.RowKit

/-- Nothing is appended of a slice that is nil. -/
theorem app_noneT (w : World) (base : Nat) (t ty e : TypeId) (i : TypeInfo) (size : Nat) (ht : Try.prog.underlying t = some (.slice e)) (hi : Try.prog.info? e = some i) (v : Value) (n : Nat) (xs : List Value) (ho : w.ownsRow base e size v n xs) (c : Nat) :
    (Builtin.append_ #[t, t] ty #[v, .slice none 0 c]).run Try.prog w = .ok v w := by
  rcases ho.2 with ⟨rfl, rfl⟩ | ⟨g, cap, cur, rfl, _, _, hc, _⟩ <;> simp [Builtin.append_, run_underlying ht, sizeOf, typeInfo, hi, Builtin.lenOf, Builtin.firstCells, storeCells, *]
theorem app_srwT (w : World) {ops : Array Oper} {rest : List Oper} {o : Oper} {a : Act} {Q : Exit → Act → World → Prop} (hgd : o.guard = none) (s x : Operand) (t : TypeId)
    (ho : o.op = .call { callee := .builtin .append, args := #[s, x], argTypes := #[t, t] }) (ht : Try.prog.underlying t = some (.slice 9))
    (base : Nat) (v : Value) (n : Nat) (xs : List Value) (hs : a.eval s = v) (hown : w.ownsRow base 9 1 v n xs)
    (p : Option Addr) (m c : Nat) (news : List (List UInt8)) (hx : a.eval x = .slice p m c) (hm : m = news.length) (hr : SRw w p news)
    (hb : n + m ≤ 1048576) (hbase : base ≤ w.heap.size)
    (h : ∀ v' w', w'.ownsRow base 9 1 v' (n + m) (xs ++ strs news) → w.grownBy w' v.ownBlock → wpList Try.prog ops Q rest (a.put o.dst v') w') : wpList Try.prog ops Q (o :: rest) a w := by
  obtain ⟨i0, hi, hz0, hz1, hz2⟩ := info_parts Try.infoStr
  rcases p with _ | ad
  · have h0 : news = [] := by
      cases news with
      | nil => rfl
      | cons y l =>
        obtain ⟨g, o', h1, _⟩ := hr 0 (by simp)
        cases h1
    subst h0
    obtain rfl : m = 0 := hm
    refine wpList_plain hgd fun K hK => ?_
    have hrun := app_noneT w base t o.type 9 i0 1 ht hi v n xs hown c
    unfold Oper.wp
    simp [execOp, ho, resolve, invoke, builtin, hs, hx, hrun, Result.andThen]
    exact hK _ _ (h v w (by simpa [strs] using hown) ⟨rfl, rfl, rfl, Nat.le_refl _, fun _ _ _ => rfl⟩)
  · refine wpList_append_own w hgd s x t ho base 9 i0 (.string ⟨#[]⟩) 1 16 ht hi hz0 hz1 hz2 rfl (by decide) v n xs hs hown ad m c (strs news) hx (by rw [strs_len, Nat.mul_one, hm]) (fun j u hj => ?_) (strs_one _) (by unfold maxLen; omega) (by omega) hbase (fun v' w' h1 h2 _ => h v' w' h1 h2)
    have hj' : j < news.length := by
      have := (List.getElem?_eq_some_iff.mp hj).1
      rwa [strs_len] at this
    obtain ⟨g, o', h1, _, h2⟩ := hr j hj'
    simp only [Option.some.injEq] at h1
    subst h1
    rw [Addr.add_lit, h2]
    have h3 : (strs news)[j]? = some (Value.string (str news[j])) := by simp [strs, List.getElem?_map, List.getElem?_eq_getElem hj']
    rw [← h3, hj]

/-- A row of strings of the call's own. -/
def TOw (w : World) (base : Nat) (v : Value) (l : List (List UInt8)) : Prop := w.ownsRow base 9 1 v l.length (strs l)
theorem TOw.nil (w : World) (base : Nat) : TOw w base (.slice none 0 0) [] := World.ownsRow_nil w base 9 1
theorem TOw.below {w w' : World} {base : Nat} {v : Value} {l : List (List UInt8)} (h : TOw w base v l) (hb : Below w.heap.size w w') : TOw w' base v l := own_below h hb
theorem TOw.of {w : World} {base n : Nat} {v : Value} {l : List (List UInt8)} (h : TOw w base v l) (hn : n = l.length) : w.ownsRow base 9 1 v n (strs l) := by
  rw [hn]
  exact h
theorem TOw.app {w : World} {base n m : Nat} {v : Value} {l l2 : List (List UInt8)} (hn : n = l.length) (hm : m = l2.length) (h : w.ownsRow base 9 1 v (n + m) (strs l ++ strs l2)) : TOw w base v (l ++ l2) := by
  unfold TOw
  rw [strs_append, List.length_append, ← hn, ← hm]
  exact h
theorem TOw.shapeN {w : World} {base n : Nat} {v : Value} {l : List (List UInt8)} (h : TOw w base v l) (hn : n = l.length) : ∃ p cap, v = .slice p n cap ∧ SRw w p l := by
  rw [hn]
  exact srw_of h
/-- The lines of one side, or of both. -/
def sideL (d : Nat) (r : Rg) : List (List UInt8) := if r.k = 2 then (if d = 1 ∨ d = 3 then r.o else []) ++ (if d = 2 ∨ d = 3 then r.t else []) else r.l
def linesL (d : Nat) (gs : List Rg) : List (List UInt8) := gs.flatMap (sideL d)
theorem linesL_take (d : Nat) {gs : List Rg} {k : Nat} (h : k < gs.length) : linesL d (gs.take (k + 1)) = linesL d (gs.take k) ++ sideL d gs[k] := by
  unfold linesL
  rw [List.take_succ_eq_append_getElem h, List.flatMap_append]
  simp
theorem linesL_le (d : Nat) (gs : List Rg) (k : Nat) : (linesL d (gs.take k)).length ≤ (linesL d gs).length := by
  have h := congrArg (fun l => (linesL d l).length) (List.take_append_drop k gs)
  simp only [linesL, List.flatMap_append, List.length_append] at h
  simp only [linesL]
  omega
end Go.Proofs.Ytidghjalfbklnaa
