/-
  Rows of edits and of runs, as they are read; places in rows of strings.
-/
import Derived.Test.YtnmebnpldacngaaDfExt
import Derived.Test.YtnmebnpldacngaaDfMore
namespace Go.Proofs.Ytnmebnpldacngaa
open Go.RowKit

/-- A row of edits, as it is read. -/
def ERw (w : World) (p : Option Addr) (es : List Ed) : Prop := ∀ k (h : k < es.length), ∃ g o, p = some ⟨g, o, none⟩ ∧ g < w.heap.size ∧
  w.cell? ⟨g, o + k * 4, none⟩ = some (.int .i64 es[k].f) ∧ w.cell? ⟨g, o + k * 4 + 1, none⟩ = some (.int .i64 es[k].d) ∧ w.cell? ⟨g, o + k * 4 + 2, none⟩ = some (.int .i64 es[k].t) ∧ w.cell? ⟨g, o + k * 4 + 3, none⟩ = some (.int .i64 es[k].i)
/-- A row of runs, as it is read. -/
def RRw (w : World) (p : Option Addr) (rs : List Rn) : Prop := ∀ k (h : k < rs.length), ∃ g o, p = some ⟨g, o, none⟩ ∧ g < w.heap.size ∧
  w.cell? ⟨g, o + k * 3, none⟩ = some (.int .i64 rs[k].a) ∧ w.cell? ⟨g, o + k * 3 + 1, none⟩ = some (.int .i64 rs[k].b) ∧ w.cell? ⟨g, o + k * 3 + 2, none⟩ = some (.int .i64 rs[k].n)
theorem ERw.below {w w' : World} {p : Option Addr} {es : List Ed} (h : ERw w p es) (hb : Below w.heap.size w w') : ERw w' p es := fun k hk => by
  obtain ⟨g, o, rfl, hg, h0, h1, h2, h3⟩ := h k hk
  exact ⟨g, o, rfl, Nat.lt_of_lt_of_le hg hb.size, (hb.cell (p := ⟨g, _, none⟩) hg).trans h0, (hb.cell (p := ⟨g, _, none⟩) hg).trans h1, (hb.cell (p := ⟨g, _, none⟩) hg).trans h2, (hb.cell (p := ⟨g, _, none⟩) hg).trans h3⟩
theorem RRw.below {w w' : World} {p : Option Addr} {rs : List Rn} (h : RRw w p rs) (hb : Below w.heap.size w w') : RRw w' p rs := fun k hk => by
  obtain ⟨g, o, rfl, hg, h0, h1, h2⟩ := h k hk
  exact ⟨g, o, rfl, Nat.lt_of_lt_of_le hg hb.size, (hb.cell (p := ⟨g, _, none⟩) hg).trans h0, (hb.cell (p := ⟨g, _, none⟩) hg).trans h1, (hb.cell (p := ⟨g, _, none⟩) hg).trans h2⟩
theorem ecells_at : ∀ (l : List Ed) (k c : Nat) (h : k < l.length), c < 4 → (ecells l)[k * 4 + c]? = (Ed.cells l[k])[c]?
  | [], k, c, h, _ => absurd h (by simp)
  | e :: l, 0, c, h, hc => by
    rw [show ecells (e :: l) = Ed.cells e ++ ecells l by simp [ecells], List.getElem?_append_left (by show _ < 4; omega)]
    simp
  | e :: l, k + 1, c, h, hc => by
    rw [show ecells (e :: l) = Ed.cells e ++ ecells l by simp [ecells], List.getElem?_append_right (by show 4 ≤ _; omega)]
    show (ecells l)[(k + 1) * 4 + c - 4]? = _
    rw [show (k + 1) * 4 + c - 4 = k * 4 + c by omega, ecells_at l k c (by simpa using h) hc]
    simp
theorem EOw.shape {w : World} {base : Nat} {v : Value} {l : List Ed} (h : EOw w base v l) : ∃ p cap, v = .slice p l.length cap := by
  rcases h.2 with ⟨rfl, hx⟩ | ⟨g, cap, cur, rfl, _⟩
  · have : l = [] := by cases l with
      | nil => rfl
      | cons a l => simp [ecells, Ed.cells] at hx
    exact ⟨none, 0, by rw [this]; rfl⟩
  · exact ⟨_, _, rfl⟩
theorem EOw.rw {w : World} {base : Nat} {v : Value} {l : List Ed} (h : EOw w base v l) : ∃ p cap, v = .slice p l.length cap ∧ ERw w p l := by
  obtain ⟨p, cap, rfl⟩ := h.shape
  refine ⟨p, cap, rfl, fun k hk => ?_⟩
  obtain ⟨g, cap2, he, _, hg⟩ := h.form (by omega)
  simp only [Value.slice.injEq] at he
  obtain ⟨rfl, _, rfl⟩ := he
  have at' (c : Nat) (hc : c < 4) : w.cell? ⟨g, 0 + k * 4 + c, none⟩ = (Ed.cells l[k])[c]? := by
    rw [Nat.zero_add, World.ownsRow.cellAt h (k * 4 + c) (by omega), ecells_at l k c hk hc]
  exact ⟨g, 0, rfl, hg, at' 0 (by decide), at' 1 (by decide), at' 2 (by decide), at' 3 (by decide)⟩
/-- A part of a row of strings. -/
theorem SRw.part {w : World} {p : Option Addr} {ls : List (List UInt8)} (h : SRw w p ls) (i k : Nat) : SRw w (p.map (·.add i)) ((ls.drop i).take k) := fun c hc => by
  have hc' : i + c < ls.length := by
    simp only [List.length_take, List.length_drop] at hc
    omega
  obtain ⟨g, o, rfl, hg, h0⟩ := h (i + c) hc'
  refine ⟨g, o + i, by simp [Addr.add_lit], hg, ?_⟩
  rw [Nat.add_assoc, h0]
  simp
theorem SRw.left {w : World} {p : Option Addr} {ls : List (List UInt8)} (h : SRw w p ls) (i : Nat) : SRw w (p.map (·.add i)) (ls.drop i) := by
  have := h.part i ls.length
  rwa [List.take_of_length_le (by simp)] at this
end Go.Proofs.Ytnmebnpldacngaa
