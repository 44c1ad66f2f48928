/-
  Rows of edits and of runs, as they are read; places in rows of strings.
-/
import Derived.Test.YtidghjalfbklnaaDfExt
import Derived.Test.YtidghjalfbklnaaDfMore
import Derived.Outline
import Derived.Deep.RegionHeld3
namespace Go.Proofs.Ytidghjalfbklnaa
open Go.RowKit

/-- A row of edits, as it is read. -/
def ERw (w : World) (p : Option Addr) (es : List Ed) : Prop := ∀ k (h : k < es.length), ∃ g o, p = some ⟨g, o, none⟩ ∧ g < w.heap.size ∧
  w.cell? ⟨g, o + k * 4, none⟩ = some (.int .i64 es[k].f) ∧ w.cell? ⟨g, o + k * 4 + 1, none⟩ = some (.int .i64 es[k].d) ∧ w.cell? ⟨g, o + k * 4 + 2, none⟩ = some (.int .i64 es[k].t) ∧ w.cell? ⟨g, o + k * 4 + 3, none⟩ = some (.int .i64 es[k].i)
/-- A row of runs, as it is read. -/
def RRw (w : World) (p : Option Addr) (rs : List Rn) : Prop := ∀ k (h : k < rs.length), ∃ g o, p = some ⟨g, o, none⟩ ∧ g < w.heap.size ∧
  w.cell? ⟨g, o + k * 3, none⟩ = some (.int .i64 rs[k].a) ∧ w.cell? ⟨g, o + k * 3 + 1, none⟩ = some (.int .i64 rs[k].b) ∧ w.cell? ⟨g, o + k * 3 + 2, none⟩ = some (.int .i64 rs[k].n)
theorem ERw.below {w w' : World} {p : Option Addr} {es : List Ed} (h : ERw w p es) (hb : Below w.heap.size w w') : ERw w' p es := fun k hk => by
  obtain ⟨g, o, rfl, hg, h0, h1, h2, h3⟩ := h k hk
  exact ⟨g, o, rfl, Nat.lt_of_lt_of_le hg hb.size, (hb.cell (p := ⟨g, _, none⟩) hg).trans h0, (hb.cell (p := ⟨g, _, none⟩) hg).trans h1, (hb.cell (p := ⟨g, _, none⟩) hg).trans h2, (hb.cell (p := ⟨g, _, none⟩) hg).trans h3⟩
theorem RRw.below {w w' : World} {p : Option Addr} {rs : List Rn} (h : RRw w p rs) (hb : Below w.heap.size w w') : RRw w' p rs := fun k hk => by
  obtain ⟨g, o, rfl, hg, h0, h1, h2⟩ := h k hk
  exact ⟨g, o, rfl, Nat.lt_of_lt_of_le hg hb.size, (hb.cell (p := ⟨g, _, none⟩) hg).trans h0, (hb.cell (p := ⟨g, _, none⟩) hg).trans h1, (hb.cell (p := ⟨g, _, none⟩) hg).trans h2⟩
theorem ecells_at : ∀ (l : List Ed) (k c : Nat) (h : k < l.length), c < 4 → (ecells l)[k * 4 + c]? = (Ed.cells l[k])[c]?
  | [], k, c, h, _ => absurd h (by simp)
  | e :: l, 0, c, h, hc => by
    rw [show ecells (e :: l) = Ed.cells e ++ ecells l by simp [ecells], List.getElem?_append_left (by show _ < 4; omega)]
    simp
  | e :: l, k + 1, c, h, hc => by
    rw [show ecells (e :: l) = Ed.cells e ++ ecells l by simp [ecells], List.getElem?_append_right (by show 4 ≤ _; omega)]
    show (ecells l)[(k + 1) * 4 + c - 4]? = _
    rw [show (k + 1) * 4 + c - 4 = k * 4 + c by omega, ecells_at l k c (by simpa using h) hc]
    simp
theorem EOw.shape {w : World} {base : Nat} {v : Value} {l : List Ed} (h : EOw w base v l) : ∃ p cap, v = .slice p l.length cap := by
  rcases h.2 with ⟨rfl, hx⟩ | ⟨g, cap, cur, rfl, _⟩
  · have : l = [] := by cases l with
      | nil => rfl
      | cons a l => simp [ecells, Ed.cells] at hx
    exact ⟨none, 0, by rw [this]; rfl⟩
  · exact ⟨_, _, rfl⟩
theorem EOw.rw {w : World} {base : Nat} {v : Value} {l : List Ed} (h : EOw w base v l) : ∃ p cap, v = .slice p l.length cap ∧ ERw w p l := by
  obtain ⟨p, cap, rfl⟩ := h.shape
  refine ⟨p, cap, rfl, fun k hk => ?_⟩
  obtain ⟨g, cap2, he, _, hg⟩ := h.form (by omega)
  simp only [Value.slice.injEq] at he
  obtain ⟨rfl, _, rfl⟩ := he
  have at' (c : Nat) (hc : c < 4) : w.cell? ⟨g, 0 + k * 4 + c, none⟩ = (Ed.cells l[k])[c]? := by
    rw [Nat.zero_add, World.ownsRow.cellAt h (k * 4 + c) (by omega), ecells_at l k c hk hc]
  exact ⟨g, 0, rfl, hg, at' 0 (by decide), at' 1 (by decide), at' 2 (by decide), at' 3 (by decide)⟩
/-- A part of a row of strings. -/
theorem SRw.part {w : World} {p : Option Addr} {ls : List (List UInt8)} (h : SRw w p ls) (i k : Nat) : SRw w (p.map (·.add i)) ((ls.drop i).take k) := fun c hc => by
  have hc' : i + c < ls.length := by
    simp only [List.length_take, List.length_drop] at hc
    omega
  obtain ⟨g, o, rfl, hg, h0⟩ := h (i + c) hc'
  refine ⟨g, o + i, by simp [Addr.add_lit], hg, ?_⟩
  rw [Nat.add_assoc, h0]
  simp
theorem SRw.left {w : World} {p : Option Addr} {ls : List (List UInt8)} (h : SRw w p ls) (i : Nat) : SRw w (p.map (·.add i)) (ls.drop i) := by
  have := h.part i ls.length
  rwa [List.take_of_length_le (by simp)] at this
end Go.Proofs.Ytidghjalfbklnaa
/-
  Slices that were handed in: what is known of them.
-/
namespace Go.Proofs.Ytidghjalfbklnaa
open Go.RowKit

/-- A slice of strings that was handed in. -/
structure SA (W : World) (ls : List (List UInt8)) (p : Option Addr) (n c : Nat) : Prop where
  len : n = ls.length
  cap : n ≤ c
  row : SRw W p ls
  few : n ≤ 8796093022208
  short : ∀ x ∈ ls, x.length ≤ 140737488355328
/-- A slice of edits, of runs, that was handed in. -/
structure EA (W : World) (es : List Ed) (p : Option Addr) (n : Nat) : Prop where
  len : n = es.length
  row : ERw W p es
  few : n ≤ 140737488355328
structure RA (W : World) (es : List Rn) (p : Option Addr) (n : Nat) : Prop where
  len : n = es.length
  row : RRw W p es
  few : n ≤ 140737488355328
end Go.Proofs.Ytidghjalfbklnaa
/-
  The walks of Invert and of the reference's Back.
-/
namespace Go.Proofs.Ytidghjalfbklnaa
open Go.RowKit

theorem EOw.push {w : World} {base n : Nat} {v : Value} {l : List Ed} {e : Ed} (hn : n = l.length) (h : w.ownsRow base 52 4 v (n + 1) (ecells l ++ Ed.cells e)) : EOw w base v (l ++ [e]) := by
  unfold EOw
  rw [ecells_snoc, List.length_append, List.length_singleton, ← hn]
  exact h
theorem EOw.of {w : World} {base n : Nat} {v : Value} {l : List Ed} (h : EOw w base v l) (hn : n = l.length) : w.ownsRow base 52 4 v n (ecells l) := by
  rw [hn]
  exact h
theorem EOw.shapeN {w : World} {base n : Nat} {v : Value} {l : List Ed} (h : EOw w base v l) (hn : n = l.length) : ∃ p cap, v = .slice p n cap := by
  rw [hn]
  exact h.shape

/-- An edit of a row, read later. -/
theorem ERw.now {w w' : World} {p : Option Addr} {es : List Ed} (h : ERw w p es) (hb : Below w.heap.size w w') (k : Nat) (hk : k < es.length) : ∃ g o, p = some ⟨g, o, none⟩ ∧ g < w.heap.size ∧
    w'.cell? ⟨g, o + k * 4, none⟩ = some (.int .i64 es[k].f) ∧ w'.cell? ⟨g, o + k * 4 + 1, none⟩ = some (.int .i64 es[k].d) ∧ w'.cell? ⟨g, o + k * 4 + 2, none⟩ = some (.int .i64 es[k].t) ∧ w'.cell? ⟨g, o + k * 4 + 3, none⟩ = some (.int .i64 es[k].i) := by
  obtain ⟨g, o, rfl, hg, h0, h1, h2, h3⟩ := h k hk
  exact ⟨g, o, rfl, hg, (hb.cell (p := ⟨g, _, none⟩) hg).trans h0, (hb.cell (p := ⟨g, _, none⟩) hg).trans h1, (hb.cell (p := ⟨g, _, none⟩) hg).trans h2, (hb.cell (p := ⟨g, _, none⟩) hg).trans h3⟩
end Go.Proofs.Ytidghjalfbklnaa
/-
  Rows of runs of the call's own; the walk of the reference's Runs.
-/
namespace Go.Proofs.Ytidghjalfbklnaa
open Go.RowKit

theorem Try.infoRn : (Try.prog.info? 48).map (fun i => (i.zero, i.size, i.bytes)) = some (some (.agg #[.int .i64 0, .int .i64 0, .int .i64 0]), 3, 24) := by kernel_rfl
def Rn.cells (e : Rn) : List Value := [.int .i64 e.a, .int .i64 e.b, .int .i64 e.n]
def rcells (l : List Rn) : List Value := l.flatMap Rn.cells
theorem rcells_snoc (l : List Rn) (e : Rn) : rcells (l ++ [e]) = rcells l ++ Rn.cells e := by simp [rcells]
theorem rn_one (e : Rn) : ∀ u ∈ Rn.cells e, u.oneCell' = true := by
  intro u hu
  simp only [Rn.cells, List.mem_cons, List.not_mem_nil, or_false] at hu
  rcases hu with rfl | rfl | rfl <;> rfl
theorem rcells_len : ∀ l : List Rn, (rcells l).length = l.length * 3
  | [] => rfl
  | e :: l => by
    have h := rcells_len l
    have e1 : rcells (e :: l) = Rn.cells e ++ rcells l := by simp [rcells]
    rw [e1, List.length_append, h, List.length_cons]
    show 3 + l.length * 3 = _
    omega
theorem rcells_at : ∀ (l : List Rn) (k c : Nat) (h : k < l.length), c < 3 → (rcells l)[k * 3 + c]? = (Rn.cells l[k])[c]?
  | [], k, c, h, _ => absurd h (by simp)
  | e :: l, 0, c, h, hc => by
    rw [show rcells (e :: l) = Rn.cells e ++ rcells l by simp [rcells], List.getElem?_append_left (by show _ < 3; omega)]
    simp
  | e :: l, k + 1, c, h, hc => by
    rw [show rcells (e :: l) = Rn.cells e ++ rcells l by simp [rcells], List.getElem?_append_right (by show 3 ≤ _; omega)]
    show (rcells l)[(k + 1) * 3 + c - 3]? = _
    rw [show (k + 1) * 3 + c - 3 = k * 3 + c by omega, rcells_at l k c (by simpa using h) hc]
    simp
/-- A row of runs of the call's own. -/
def ROw (w : World) (base : Nat) (v : Value) (l : List Rn) : Prop := w.ownsRow base 48 3 v l.length (rcells l)
theorem ROw.nil (w : World) (base : Nat) : ROw w base (.slice none 0 0) [] := World.ownsRow_nil w base 48 3
theorem ROw.below {w w' : World} {base : Nat} {v : Value} {l : List Rn} (h : ROw w base v l) (hb : Below w.heap.size w w') : ROw w' base v l := own_below h hb
theorem ROw.of {w : World} {base n : Nat} {v : Value} {l : List Rn} (h : ROw w base v l) (hn : n = l.length) : w.ownsRow base 48 3 v n (rcells l) := by
  rw [hn]
  exact h
theorem ROw.push {w : World} {base n : Nat} {v : Value} {l : List Rn} {e : Rn} (hn : n = l.length) (h : w.ownsRow base 48 3 v (n + 1) (rcells l ++ Rn.cells e)) : ROw w base v (l ++ [e]) := by
  unfold ROw
  rw [rcells_snoc, List.length_append, List.length_singleton, ← hn]
  exact h
theorem ROw.shape {w : World} {base : Nat} {v : Value} {l : List Rn} (h : ROw w base v l) : ∃ p cap, v = .slice p l.length cap := by
  rcases h.2 with ⟨rfl, hx⟩ | ⟨g, cap, cur, rfl, _⟩
  · have : l = [] := by cases l with
      | nil => rfl
      | cons a l => simp [rcells, Rn.cells] at hx
    exact ⟨none, 0, by rw [this]; rfl⟩
  · exact ⟨_, _, rfl⟩
theorem ROw.shapeN {w : World} {base n : Nat} {v : Value} {l : List Rn} (h : ROw w base v l) (hn : n = l.length) : ∃ p cap, v = .slice p n cap := by
  rw [hn]
  exact h.shape
theorem ROw.rw {w : World} {base : Nat} {v : Value} {l : List Rn} (h : ROw w base v l) : ∃ p cap, v = .slice p l.length cap ∧ RRw w p l := by
  obtain ⟨p, cap, rfl⟩ := h.shape
  refine ⟨p, cap, rfl, fun k hk => ?_⟩
  obtain ⟨g, cap2, he, _, hg⟩ := World.ownsRow.form h (by omega)
  simp only [Value.slice.injEq] at he
  obtain ⟨rfl, _, rfl⟩ := he
  have at' (c : Nat) (hc : c < 3) : w.cell? ⟨g, 0 + k * 3 + c, none⟩ = (Rn.cells l[k])[c]? := by
    rw [Nat.zero_add, World.ownsRow.cellAt h (k * 3 + c) (by omega), rcells_at l k c hk hc]
  exact ⟨g, 0, rfl, hg, at' 0 (by decide), at' 1 (by decide), at' 2 (by decide)⟩
theorem new_rn (w : World) (e : Rn) (t : TypeId) (j : Nat) (u : Value) (hj : (Rn.cells e)[j]? = some u) :
    (w.alloc (.cells #[.int .i64 e.a, .int .i64 e.b, .int .i64 e.n] t)).cell? ((⟨w.heap.size, 0, none⟩ : Addr).add j) = some u := by
  rw [Addr.add_lit, Nat.zero_add]
  refine (World.cell?_alloc_mark w #[.int .i64 e.a, .int .i64 e.b, .int .i64 e.n] t (0, 0) j).trans ?_
  simpa [Rn.cells] using hj
/-- A run of a row, read later. -/
theorem RRw.now {w w' : World} {p : Option Addr} {es : List Rn} (h : RRw w p es) (hb : Below w.heap.size w w') (k : Nat) (hk : k < es.length) : ∃ g o, p = some ⟨g, o, none⟩ ∧ g < w.heap.size ∧
    w'.cell? ⟨g, o + k * 3, none⟩ = some (.int .i64 es[k].a) ∧ w'.cell? ⟨g, o + k * 3 + 1, none⟩ = some (.int .i64 es[k].b) ∧ w'.cell? ⟨g, o + k * 3 + 2, none⟩ = some (.int .i64 es[k].n) := by
  obtain ⟨g, o, rfl, hg, h0, h1, h2⟩ := h k hk
  exact ⟨g, o, rfl, hg, (hb.cell (p := ⟨g, _, none⟩) hg).trans h0, (hb.cell (p := ⟨g, _, none⟩) hg).trans h1, (hb.cell (p := ⟨g, _, none⟩) hg).trans h2⟩
end Go.Proofs.Ytidghjalfbklnaa
