/-
  Rows of runs of the call's own; the walk of the reference's Runs.
-/
import Derived.Test.YtabadihainbbhabDfInv
namespace Go.Proofs.Ytabadihainbbhab
open Go.RowKit

theorem Try.infoRn : (Try.prog.info? 41).map (fun i => (i.zero, i.size, i.bytes)) = some (some (.agg #[.int .i64 0, .int .i64 0, .int .i64 0]), 3, 24) := by kernel_rfl
def Rn.cells (e : Rn) : List Value := [.int .i64 e.a, .int .i64 e.b, .int .i64 e.n]
def rcells (l : List Rn) : List Value := l.flatMap Rn.cells
theorem rcells_snoc (l : List Rn) (e : Rn) : rcells (l ++ [e]) = rcells l ++ Rn.cells e := by simp [rcells]
theorem rn_one (e : Rn) : ∀ u ∈ Rn.cells e, u.oneCell' = true := by
  intro u hu
  simp only [Rn.cells, List.mem_cons, List.not_mem_nil, or_false] at hu
  rcases hu with rfl | rfl | rfl <;> rfl
theorem rcells_len : ∀ l : List Rn, (rcells l).length = l.length * 3
  | [] => rfl
  | e :: l => by
    have h := rcells_len l
    have e1 : rcells (e :: l) = Rn.cells e ++ rcells l := by simp [rcells]
    rw [e1, List.length_append, h, List.length_cons]
    show 3 + l.length * 3 = _
    omega
theorem rcells_at : ∀ (l : List Rn) (k c : Nat) (h : k < l.length), c < 3 → (rcells l)[k * 3 + c]? = (Rn.cells l[k])[c]?
  | [], k, c, h, _ => absurd h (by simp)
  | e :: l, 0, c, h, hc => by
    rw [show rcells (e :: l) = Rn.cells e ++ rcells l by simp [rcells], List.getElem?_append_left (by show _ < 3; omega)]
    simp
  | e :: l, k + 1, c, h, hc => by
    rw [show rcells (e :: l) = Rn.cells e ++ rcells l by simp [rcells], List.getElem?_append_right (by show 3 ≤ _; omega)]
    show (rcells l)[(k + 1) * 3 + c - 3]? = _
    rw [show (k + 1) * 3 + c - 3 = k * 3 + c by omega, rcells_at l k c (by simpa using h) hc]
    simp
/-- A row of runs of the call's own. -/
def ROw (w : World) (base : Nat) (v : Value) (l : List Rn) : Prop := w.ownsRow base 41 3 v l.length (rcells l)
theorem ROw.nil (w : World) (base : Nat) : ROw w base (.slice none 0 0) [] := World.ownsRow_nil w base 41 3
theorem ROw.below {w w' : World} {base : Nat} {v : Value} {l : List Rn} (h : ROw w base v l) (hb : Below w.heap.size w w') : ROw w' base v l := own_below h hb
theorem ROw.of {w : World} {base n : Nat} {v : Value} {l : List Rn} (h : ROw w base v l) (hn : n = l.length) : w.ownsRow base 41 3 v n (rcells l) := by
  rw [hn]
  exact h
theorem ROw.push {w : World} {base n : Nat} {v : Value} {l : List Rn} {e : Rn} (hn : n = l.length) (h : w.ownsRow base 41 3 v (n + 1) (rcells l ++ Rn.cells e)) : ROw w base v (l ++ [e]) := by
  unfold ROw
  rw [rcells_snoc, List.length_append, List.length_singleton, ← hn]
  exact h
theorem ROw.shape {w : World} {base : Nat} {v : Value} {l : List Rn} (h : ROw w base v l) : ∃ p cap, v = .slice p l.length cap := by
  rcases h.2 with ⟨rfl, hx⟩ | ⟨g, cap, cur, rfl, _⟩
  · have : l = [] := by cases l with
      | nil => rfl
      | cons a l => simp [rcells, Rn.cells] at hx
    exact ⟨none, 0, by rw [this]; rfl⟩
  · exact ⟨_, _, rfl⟩
theorem ROw.shapeN {w : World} {base n : Nat} {v : Value} {l : List Rn} (h : ROw w base v l) (hn : n = l.length) : ∃ p cap, v = .slice p n cap := by
  rw [hn]
  exact h.shape
theorem ROw.rw {w : World} {base : Nat} {v : Value} {l : List Rn} (h : ROw w base v l) : ∃ p cap, v = .slice p l.length cap ∧ RRw w p l := by
  obtain ⟨p, cap, rfl⟩ := h.shape
  refine ⟨p, cap, rfl, fun k hk => ?_⟩
  obtain ⟨g, cap2, he, _, hg⟩ := World.ownsRow.form h (by omega)
  simp only [Value.slice.injEq] at he
  obtain ⟨rfl, _, rfl⟩ := he
  have at' (c : Nat) (hc : c < 3) : w.cell? ⟨g, 0 + k * 3 + c, none⟩ = (Rn.cells l[k])[c]? := by
    rw [Nat.zero_add, World.ownsRow.cellAt h (k * 3 + c) (by omega), rcells_at l k c hk hc]
  exact ⟨g, 0, rfl, hg, at' 0 (by decide), at' 1 (by decide), at' 2 (by decide)⟩
theorem new_rn (w : World) (e : Rn) (t : TypeId) (j : Nat) (u : Value) (hj : (Rn.cells e)[j]? = some u) :
    (w.alloc (.cells #[.int .i64 e.a, .int .i64 e.b, .int .i64 e.n] t)).cell? ((⟨w.heap.size, 0, none⟩ : Addr).add j) = some u := by
  rw [Addr.add_lit, Nat.zero_add]
  refine (World.cell?_alloc_mark w #[.int .i64 e.a, .int .i64 e.b, .int .i64 e.n] t (0, 0) j).trans ?_
  simpa [Rn.cells] using hj
/-- A run of a row, read later. -/
theorem RRw.now {w w' : World} {p : Option Addr} {es : List Rn} (h : RRw w p es) (hb : Below w.heap.size w w') (k : Nat) (hk : k < es.length) : ∃ g o, p = some ⟨g, o, none⟩ ∧ g < w.heap.size ∧
    w'.cell? ⟨g, o + k * 3, none⟩ = some (.int .i64 es[k].a) ∧ w'.cell? ⟨g, o + k * 3 + 1, none⟩ = some (.int .i64 es[k].b) ∧ w'.cell? ⟨g, o + k * 3 + 2, none⟩ = some (.int .i64 es[k].n) := by
  obtain ⟨g, o, rfl, hg, h0, h1, h2⟩ := h k hk
  exact ⟨g, o, rfl, hg, (hb.cell (p := ⟨g, _, none⟩) hg).trans h0, (hb.cell (p := ⟨g, _, none⟩) hg).trans h1, (hb.cell (p := ⟨g, _, none⟩) hg).trans h2⟩

set_option maxHeartbeats 1000000 in
set_option maxRecDepth 4000 in
theorem runs_any (la lb : List Rn) (p q : Option Addr) (c d n m : Nat) (B : Bool) (w : World) (hn : n = la.length) (hm : m = lb.length) (hp : RRw w p la) (hq : RRw w q lb) (hl : n ≤ 140737488355328) (hl2 : m ≤ 140737488355328) (hB : B = decide (la = lb)) :
    Calls Try.prog 23 #[.slice p n c, .slice q m d] w fun e w' => e = .returned (.bool B) ∧ ∃ k, w' = w.drewN k := by
  by_cases h1 : n = m
  · have HN := Lib.hid hn
    have HM := Lib.hid hm
    have HB := Lib.hid hB
    subst h1
    clear hn hm hB
    go_enter Try.func23, Try.ntmps23
    go_wp2
    go_loopw [13] (fun i wr => ∃ (k x : Nat), k ≤ n ∧ i = .int .i64 k ∧ wr = w.drewN x ∧ Hid (la.take k = lb.take k)) (fun i _ => n - (intOf i).toNat)
    case atStart => exact ⟨0, 0, by omega, rfl, rfl, rfl⟩
    case round =>
      obtain ⟨k, x, hk, rfl, rfl, HT⟩ := hrel
      by_cases hlt : k < n
      · have hka : k < la.length := by rw [← HN.out]; omega
        have hkb : k < lb.length := by rw [← HM.out]; omega
        obtain ⟨g, o, rfl, hg, a0, a1, a2⟩ := hp k hka
        obtain ⟨h, o2, rfl, hh, b0, b1, b2⟩ := hq k hkb
        by_cases he : la[k] = lb[k]
        · have HX : Hid (la.take (k + 1) = lb.take (k + 1)) := take_more hka hkb HT.out he
          rw [← he] at b0 b1 b2
          obtain ⟨s, hs⟩ : ∃ s, s = la[k] := ⟨_, rfl⟩
          rw [← hs] at a0 a1 a2 b0 b1 b2
          clear hs he hka hkb hg hh HT
          go_wp2
          go_quiet (fail)
          go_wp2
          go_roundw
          case rel => exact ⟨k + 1, _, by omega, by go_num, by first | rfl | exact World.drewN_drewN _ _ _, HX⟩
          case measure => simp [intOf]; omega
        · have HX : Hid (B = false) := by
            show _ = _
            rw [HB.out]
            refine decide_eq_false fun e => he ?_
            subst e
            rfl
          have hne : ¬ (la[k].a = lb[k].a ∧ la[k].b = lb[k].b ∧ la[k].n = lb[k].n) := fun h => he (by
            obtain ⟨h0, h1, h2⟩ := h
            cases hx : la[k]
            cases hy : lb[k]
            simp_all)
          obtain ⟨s, hs⟩ : ∃ s, s = la[k] := ⟨_, rfl⟩
          obtain ⟨t, ht⟩ : ∃ t, t = lb[k] := ⟨_, rfl⟩
          rw [← hs] at a0 a1 a2 hne
          rw [← ht] at b0 b1 b2 hne
          clear hs ht he hka hkb hg hh HT
          have hfour : ((s.a == t.a) = false ∧ ¬ s.a = t.a) ∨ (s.a = t.a ∧ (s.b == t.b) = false ∧ ¬ s.b = t.b) ∨ (s.a = t.a ∧ s.b = t.b ∧ (s.n == t.n) = false ∧ ¬ s.n = t.n) := by
            simp only [beq_eq_false_iff_ne]
            omega
          clear hne
          rcases hfour with ⟨k1, k2⟩ | ⟨k0, k1, k2⟩ | ⟨k0, k3, k1, k2⟩
          · go_wp2
            go_quiet (fail)
            go_wp2
            go_ret
            exact ⟨by rw [HX.out]; rfl, _, by first | rfl | exact World.drewN_drewN _ _ _⟩
          · rw [← k0] at b0
            clear k0
            go_wp2
            go_quiet (fail)
            go_wp2
            go_ret
            exact ⟨by rw [HX.out]; rfl, _, by first | rfl | exact World.drewN_drewN _ _ _⟩
          · rw [← k0] at b0
            rw [← k3] at b1
            clear k0 k3
            go_wp2
            go_quiet (fail)
            go_wp2
            go_ret
            exact ⟨by rw [HX.out]; rfl, _, by first | rfl | exact World.drewN_drewN _ _ _⟩
      · obtain rfl : k = n := by omega
        have HX : Hid (B = true) := by
          show _ = _
          rw [HB.out]
          refine decide_eq_true ?_
          have h := HT.out
          rwa [List.take_of_length_le (by rw [← HN.out]; omega), List.take_of_length_le (by rw [← HM.out]; omega)] at h
        go_wp2
        go_ret
        exact ⟨by rw [HX.out]; rfl, _, by first | rfl | exact World.drewN_drewN _ _ _⟩
  · have HB : Hid (B = false) := by
      show _ = _
      rw [hB]
      refine decide_eq_false fun e => h1 ?_
      rw [hn, hm, e]
    have hb : ((n : Int) == (m : Int)) = false := by rw [beq_eq_false_iff_ne]; omega
    clear hn hm hB h1
    go_enter Try.func23, Try.ntmps23
    go_wp2
    go_ret
    exact ⟨by rw [HB.out]; rfl, 0, rfl⟩
end Go.Proofs.Ytabadihainbbhab
