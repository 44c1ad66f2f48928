/-
  Rows of runs of the call's own; the walk of the reference's Runs.
-/
import Derived.Test.YtnmebnpldacngaaDfInvP
namespace Go.Proofs.Ytnmebnpldacngaa
open Go.RowKit

theorem Try.infoRn : (Try.prog.info? 30).map (fun i => (i.zero, i.size, i.bytes)) = some (some (.agg #[.int .i64 0, .int .i64 0, .int .i64 0]), 3, 24) := by kernel_rfl
def Rn.cells (e : Rn) : List Value := [.int .i64 e.a, .int .i64 e.b, .int .i64 e.n]
def rcells (l : List Rn) : List Value := l.flatMap Rn.cells
theorem rcells_snoc (l : List Rn) (e : Rn) : rcells (l ++ [e]) = rcells l ++ Rn.cells e := by simp [rcells]
theorem rn_one (e : Rn) : ∀ u ∈ Rn.cells e, u.oneCell' = true := by
  intro u hu
  simp only [Rn.cells, List.mem_cons, List.not_mem_nil, or_false] at hu
  rcases hu with rfl | rfl | rfl <;> rfl
theorem rcells_len : ∀ l : List Rn, (rcells l).length = l.length * 3
  | [] => rfl
  | e :: l => by
    have h := rcells_len l
    have e1 : rcells (e :: l) = Rn.cells e ++ rcells l := by simp [rcells]
    rw [e1, List.length_append, h, List.length_cons]
    show 3 + l.length * 3 = _
    omega
theorem rcells_at : ∀ (l : List Rn) (k c : Nat) (h : k < l.length), c < 3 → (rcells l)[k * 3 + c]? = (Rn.cells l[k])[c]?
  | [], k, c, h, _ => absurd h (by simp)
  | e :: l, 0, c, h, hc => by
    rw [show rcells (e :: l) = Rn.cells e ++ rcells l by simp [rcells], List.getElem?_append_left (by show _ < 3; omega)]
    simp
  | e :: l, k + 1, c, h, hc => by
    rw [show rcells (e :: l) = Rn.cells e ++ rcells l by simp [rcells], List.getElem?_append_right (by show 3 ≤ _; omega)]
    show (rcells l)[(k + 1) * 3 + c - 3]? = _
    rw [show (k + 1) * 3 + c - 3 = k * 3 + c by omega, rcells_at l k c (by simpa using h) hc]
    simp
/-- A row of runs of the call's own. -/
def ROw (w : World) (base : Nat) (v : Value) (l : List Rn) : Prop := w.ownsRow base 30 3 v l.length (rcells l)
theorem ROw.nil (w : World) (base : Nat) : ROw w base (.slice none 0 0) [] := World.ownsRow_nil w base 30 3
theorem ROw.below {w w' : World} {base : Nat} {v : Value} {l : List Rn} (h : ROw w base v l) (hb : Below w.heap.size w w') : ROw w' base v l := own_below h hb
theorem ROw.of {w : World} {base n : Nat} {v : Value} {l : List Rn} (h : ROw w base v l) (hn : n = l.length) : w.ownsRow base 30 3 v n (rcells l) := by
  rw [hn]
  exact h
theorem ROw.push {w : World} {base n : Nat} {v : Value} {l : List Rn} {e : Rn} (hn : n = l.length) (h : w.ownsRow base 30 3 v (n + 1) (rcells l ++ Rn.cells e)) : ROw w base v (l ++ [e]) := by
  unfold ROw
  rw [rcells_snoc, List.length_append, List.length_singleton, ← hn]
  exact h
theorem ROw.shape {w : World} {base : Nat} {v : Value} {l : List Rn} (h : ROw w base v l) : ∃ p cap, v = .slice p l.length cap := by
  rcases h.2 with ⟨rfl, hx⟩ | ⟨g, cap, cur, rfl, _⟩
  · have : l = [] := by cases l with
      | nil => rfl
      | cons a l => simp [rcells, Rn.cells] at hx
    exact ⟨none, 0, by rw [this]; rfl⟩
  · exact ⟨_, _, rfl⟩
theorem ROw.shapeN {w : World} {base n : Nat} {v : Value} {l : List Rn} (h : ROw w base v l) (hn : n = l.length) : ∃ p cap, v = .slice p n cap := by
  rw [hn]
  exact h.shape
theorem ROw.rw {w : World} {base : Nat} {v : Value} {l : List Rn} (h : ROw w base v l) : ∃ p cap, v = .slice p l.length cap ∧ RRw w p l := by
  obtain ⟨p, cap, rfl⟩ := h.shape
  refine ⟨p, cap, rfl, fun k hk => ?_⟩
  obtain ⟨g, cap2, he, _, hg⟩ := World.ownsRow.form h (by omega)
  simp only [Value.slice.injEq] at he
  obtain ⟨rfl, _, rfl⟩ := he
  have at' (c : Nat) (hc : c < 3) : w.cell? ⟨g, 0 + k * 3 + c, none⟩ = (Rn.cells l[k])[c]? := by
    rw [Nat.zero_add, World.ownsRow.cellAt h (k * 3 + c) (by omega), rcells_at l k c hk hc]
  exact ⟨g, 0, rfl, hg, at' 0 (by decide), at' 1 (by decide), at' 2 (by decide)⟩
theorem new_rn (w : World) (e : Rn) (t : TypeId) (j : Nat) (u : Value) (hj : (Rn.cells e)[j]? = some u) :
    (w.alloc (.cells #[.int .i64 e.a, .int .i64 e.b, .int .i64 e.n] t)).cell? ((⟨w.heap.size, 0, none⟩ : Addr).add j) = some u := by
  rw [Addr.add_lit, Nat.zero_add]
  refine (World.cell?_alloc_mark w #[.int .i64 e.a, .int .i64 e.b, .int .i64 e.n] t (0, 0) j).trans ?_
  simpa [Rn.cells] using hj
/-- A run of a row, read later. -/
theorem RRw.now {w w' : World} {p : Option Addr} {es : List Rn} (h : RRw w p es) (hb : Below w.heap.size w w') (k : Nat) (hk : k < es.length) : ∃ g o, p = some ⟨g, o, none⟩ ∧ g < w.heap.size ∧
    w'.cell? ⟨g, o + k * 3, none⟩ = some (.int .i64 es[k].a) ∧ w'.cell? ⟨g, o + k * 3 + 1, none⟩ = some (.int .i64 es[k].b) ∧ w'.cell? ⟨g, o + k * 3 + 2, none⟩ = some (.int .i64 es[k].n) := by
  obtain ⟨g, o, rfl, hg, h0, h1, h2⟩ := h k hk
  exact ⟨g, o, rfl, hg, (hb.cell (p := ⟨g, _, none⟩) hg).trans h0, (hb.cell (p := ⟨g, _, none⟩) hg).trans h1, (hb.cell (p := ⟨g, _, none⟩) hg).trans h2⟩
end Go.Proofs.Ytnmebnpldacngaa
