/-
  Rows of entries of the call's own.
-/
import Derived.Test.YtjholoajgnpodaaDoorTrCheck
import Derived.Test.YtjholoajgnpodaaDoorOwBPk
namespace Go.Proofs.YtjholoajgnpodaaDoor
open Go.RowKit

theorem Tryd.infoEn : (Tryd.prog.info? 34).map (fun i => (i.zero, i.size, i.bytes)) = some (some (.agg #[.int .i64 0, .string ⟨#[]⟩, .string ⟨#[]⟩]), 3, 40) := by kernel_rfl
def ncells (l : List En) : List Value := l.flatMap En.cells
theorem ncells_len : ∀ l : List En, (ncells l).length = l.length * 3
  | [] => rfl
  | e :: l => by
    have := ncells_len l
    simp only [ncells, List.flatMap_cons, List.length_append, List.length_cons, En.cells, List.length_nil] at this ⊢
    omega
theorem ncells_append (a b : List En) : ncells (a ++ b) = ncells a ++ ncells b := by simp [ncells]
theorem ncells_one (l : List En) : ∀ u ∈ ncells l, u.oneCell' = true := by
  intro u hu
  simp only [ncells, List.mem_flatMap, En.cells, List.mem_cons, List.not_mem_nil, or_false] at hu
  obtain ⟨e, _, rfl | rfl | rfl⟩ := hu <;> rfl
theorem ncells_at : ∀ (l : List En) (k c : Nat) (hk : k < l.length), c < 3 → (ncells l)[k * 3 + c]? = (En.cells l[k])[c]?
  | e :: l, 0, c, _, hc => by
    simp only [ncells, List.flatMap_cons, Nat.zero_mul, Nat.zero_add, List.getElem_cons_zero]
    rw [List.getElem?_append_left (by simp [En.cells]; omega)]
  | e :: l, k + 1, c, hk, hc => by
    have ih := ncells_at l k c (by simpa using hk) hc
    simp only [ncells, List.flatMap_cons, List.getElem_cons_succ] at ih ⊢
    rw [List.getElem?_append_right (by simp [En.cells]; omega), ← ih]
    congr 1
    simp [En.cells]
    omega
/-- A row of entries of the call's own. -/
def NOw (w : World) (base : Nat) (v : Value) (l : List En) : Prop := w.ownsRow base 34 3 v l.length (ncells l)
theorem NOw.nil (w : World) (base : Nat) : NOw w base (.slice none 0 0) [] := World.ownsRow_nil w base 34 3
theorem NOw.below {w w' : World} {base : Nat} {v : Value} {l : List En} (h : NOw w base v l) (hb : Below w.heap.size w w') : NOw w' base v l := own_below h hb
theorem NOw.rw {w : World} {base : Nat} {v : Value} {l : List En} (h : NOw w base v l) : ∃ p cap, v = .slice p l.length cap ∧ l.length ≤ cap ∧ NRw w p l := by
  have h' : w.ownsRow base 34 3 v l.length (ncells l) := h
  rcases h'.2 with ⟨rfl, hx⟩ | ⟨g, cap, cur, rfl, _, hg, hc, _⟩
  · have h0 : l = [] := by
      cases l with
      | nil => rfl
      | cons a r => simp [ncells, En.cells] at hx
    subst h0
    exact ⟨none, 0, rfl, Nat.le_refl _, NRw.nil _ _⟩
  · refine ⟨_, cap, rfl, hc, fun k hk => ?_⟩
    have at' (c : Nat) (hc : c < 3) : w.cell? ⟨g, 0 + k * 3 + c, none⟩ = (En.cells l[k])[c]? := by
      rw [Nat.zero_add, World.ownsRow.cellAt h' (k * 3 + c) (by omega), ncells_at l k c hk hc]
    exact ⟨g, 0, rfl, (Array.getElem?_eq_some_iff.mp hg).1, at' 0 (by decide), at' 1 (by decide), at' 2 (by decide)⟩
theorem new_en (w : World) (e : En) (j : Nat) (u : Value) (hj : (En.cells e)[j]? = some u) : (w.alloc (.cells #[.int .i64 e.m, .string e.n, .string e.i] 34)).cell? ((⟨w.heap.size, 0, none⟩ : Addr).add j) = some u := by
  rw [Addr.add_lit, Nat.zero_add]
  refine (World.cell?_alloc_mark w #[.int .i64 e.m, .string e.n, .string e.i] 34 (0, 0) j).trans ?_
  rw [← hj]
  simp [En.cells]
/-- 'append(l, e)', l of the call's own, e an entry. -/
theorem wp_no_one {ops : Array Oper} {rest : List Oper} {o : Oper} {a : Act} {Q : Exit → Act → World → Prop} {w : World} (hgd : o.guard = none) (sl x : Operand)
    (ho : o.op = .call { callee := .builtin .append, args := #[sl, x], argTypes := #[22, 22] })
    {base : Nat} {v : Value} {l : List En} (hs : a.eval sl = v) (hown : NOw w base v l) (e : En) (m : Int) (nm id : ByteArray) (he : e = ⟨m, nm, id⟩) (hx : a.eval x = .slice (some ⟨w.heap.size, 0, none⟩) 1 1) (hb : l.length + 1 ≤ 1048576) (hbase : base ≤ w.heap.size)
    (h : ∀ v' w', NOw w' base v' (l ++ [e]) → (w.alloc (.cells #[.int .i64 m, .string nm, .string id] 34)).grownBy w' v.ownBlock → wpList Tryd.prog ops Q rest (a.put o.dst v') w') : wpList Tryd.prog ops Q (o :: rest) a (w.alloc (.cells #[.int .i64 m, .string nm, .string id] 34)) := by
  obtain ⟨i0, hi, hz0, hz1, hz2⟩ := info_parts Tryd.infoEn
  subst he
  have hown2 : w.ownsRow base 34 3 v l.length (ncells l) := hown
  exact wpList_append_own _ hgd sl x 22 ho base 34 i0 (.agg #[.int .i64 0, .string ⟨#[]⟩, .string ⟨#[]⟩]) 3 40 Tryd.underlying22 hi hz0 hz1 hz2 rfl (by decide) v l.length (ncells l) hs (hown2.alloc _) ⟨w.heap.size, 0, none⟩ 1 1 (En.cells ⟨m, nm, id⟩) hx rfl (fun j u hj => new_en w ⟨m, nm, id⟩ j u hj) (fun u hu => ncells_one [⟨m, nm, id⟩] u (by simpa [ncells] using hu)) (by unfold maxLen; omega) (by omega) (by simp; omega)
    (fun v' w' h1 h2 _ => h v' w' (by
      unfold NOw
      rw [ncells_append, List.length_append]
      simpa [ncells] using h1) h2)
/-- A row of another type is kept. -/
theorem NOw.keep1 {w w' : World} {base P : Nat} {v : Value} {l : List En} {t : TypeId} {c : Array Value} {m : Nat × Nat} {o : Obj} (h : NOw w base v l) (hr : w.heap[P]? = some (.cells c t m)) (hne : v.ownBlock ≠ some P) (hg : (w.alloc o).grownBy w' v.ownBlock) : w'.heap[P]? = some (.cells c t m) :=
  (hg.block P (by have := row_lt hr; simp; omega) (fun e => hne e.symm)).trans (row_alloc hr (row_lt hr))
theorem NOw.bel1 {B base : Nat} {w0 w w' : World} {v : Value} {l : List En} {o : Obj} (h : NOw w base v l) (hb : Below B w0 w) (hB : B ≤ base) (hs : B ≤ w.heap.size) (hg : (w.alloc o).grownBy w' v.ownBlock) : Below B w0 w' :=
  app_step hb h hg hB hs
end Go.Proofs.YtjholoajgnpodaaDoor
