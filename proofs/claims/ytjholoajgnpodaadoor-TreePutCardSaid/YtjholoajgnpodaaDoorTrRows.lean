/-
  The tables of tree's laws out of their rows' lists; entries that are handed in; a world for the witnesses.
-/
import Derived.Test.YtjholoajgnpodaaDoorLaidStrsPk
import Derived.Test.YtjholoajgnpodaaDoorTrLawC
import Derived.Deep.Slices
namespace Go.Proofs.YtjholoajgnpodaaDoor
open Go.ChangeShapes Go.WideShapes Go.ChangeAt Go.RowKit
open Go.WideMaps Go.WideElems

theorem weights_allE {H : Type} {P : Program} {e : TypeId} {d : DataW H} : ∀ {ds : List (DataW H)}, d ∈ ds → ∀ n ∈ d.weights P e, n ∈ DataW.weightsAll P e ds
  | [], h, _, _ => absurd h (by simp)
  | a :: r, h, n, hn => by
    rw [DataW.weightsAll, List.mem_append]
    rcases List.mem_cons.1 h with rfl | h
    · exact .inl hn
    · exact .inr (weights_allE h n hn)
theorem choose_allE {α : Type} {P : Nat → α → Prop} {n : Nat} (a : α) (h : ∀ i, i < n → ∃ x, P i x) : ∃ f : Nat → α, ∀ i, i < n → P i (f i) := by
  classical
  refine ⟨fun i => if hi : i < n then (h i hi).choose else a, fun i hi => ?_⟩
  simp only [dif_pos hi]
  exact (h i hi).choose_spec
theorem Tryd.cellsEn : Tryd.prog.cellsOf 34 = 3 := by kernel_rfl
theorem Tryd.cellsIntE : Tryd.prog.cellsOf 3 = 1 := by kernel_rfl
theorem Tryd.cellsStrE : Tryd.prog.cellsOf 9 = 1 := by kernel_rfl
theorem Tryd.bytesEn : Tryd.prog.bytesOf 34 = 40 := by kernel_rfl
/-- What an entry reads as. -/
def En.data {H : Type} (e : En) : DataW H := .agg [.lit (.int .i64 e.m), .lit (.string e.n.data.toList), .lit (.string e.i.data.toList)]
section
variable {H : Type} {enc : TypeId × Value → H} {W : World} {b : Nat} {sp : Nat → Bool} {held : Bool}
theorem en_of {fuel : Nat} {cs : List Value} {x : DataW H × List MemPlace} (h : DataW.trod enc Tryd.prog W b sp held fuel 34 cs = some x) : ∃ e : En, cs = En.cells e ∧ x.1 = e.data := by
  obtain ⟨xs, n, _, hx, hcs, hlen, hf⟩ := DataW.trod_struct Tryd.underlying34 h
  rw [Tryd.cellsEn] at hcs
  have hl : xs.length = 3 := hlen
  match cs, hcs, xs, hl with
  | [c0, c1, c2], _, [x0, x1, x2], _ =>
    have h0 : DataW.trod enc Tryd.prog W b sp held n 3 (List.take (Tryd.prog.cellsOf 3) (List.drop 0 [c0, c1, c2])) = some x0 := hf 0 _ rfl
    have h1 : DataW.trod enc Tryd.prog W b sp held n 9 (List.take (Tryd.prog.cellsOf 9) (List.drop 1 [c0, c1, c2])) = some x1 := hf 1 _ rfl
    have h2 : DataW.trod enc Tryd.prog W b sp held n 9 (List.take (Tryd.prog.cellsOf 9) (List.drop 2 [c0, c1, c2])) = some x2 := hf 2 _ rfl
    rw [Tryd.cellsIntE] at h0
    rw [Tryd.cellsStrE] at h1 h2
    obtain ⟨m, e0, rfl, _⟩ := DataW.trod_int Tryd.underlying3 h0
    obtain ⟨z1, e1, rfl, _⟩ := DataW.trod_string Tryd.underlying9 h1
    obtain ⟨z2, e2, rfl, _⟩ := DataW.trod_string Tryd.underlying9 h2
    simp at e0 e1 e2
    refine ⟨⟨m, z1, z2⟩, by simp [En.cells, e0, e1, e2], ?_⟩
    rw [hx]
    rfl
end
theorem en_weights {H : Type} (e : En) : e.n.size ∈ (e.data : DataW H).weights Tryd.prog 34 ∧ e.i.size ∈ (e.data : DataW H).weights Tryd.prog 34 := by
  simp [En.data, DataW.weights, DataW.weightsEach, Tryd.underlying34]
theorem entries_arg {H : Type} {enc : TypeId × Value → H} {W : World} {base : Nat} {v : Value} {d : DataW H} {q : List MemPlace} (hok : Value.okWide Tryd.prog W .any base 22 v)
    (h : DataW.Trod enc Tryd.prog W 0 (fun _ => true) true 22 v d q) (hlt : ∀ x ∈ q, x.block < W.heap.size) (hw : ∀ n ∈ d.weights Tryd.prog 22, n ≤ reachBytes) :
    ∃ (a : Option Addr) (cap : Nat) (es : List En), v = .slice a es.length cap ∧ es.length ≤ cap ∧ EA W es a es.length := by
  obtain ⟨a0, len, cap, rfl⟩ := okWide_slice Tryd.underlying22 hok
  obtain ⟨fuel, hf⟩ := h
  rcases Go.Deep.open_slice Tryd.underlying22 hf with ⟨hcs, hx⟩ | ⟨a, len', cap', m, n', D, Pl, hcs, _, hl, hm, hmm, hx, hi⟩
  · simp [Value.cells] at hcs
    obtain ⟨rfl, rfl, rfl⟩ := hcs
    exact ⟨none, 0, [], rfl, Nat.le_refl _, rfl, NRw.nil _ _, by simp, fun e he => by simp at he⟩
  · simp [Value.cells] at hcs
    obtain ⟨rfl, rfl, rfl⟩ := hcs
    simp only [if_true] at hmm
    subst hmm
    rw [Tryd.cellsEn] at hx hi
    simp only [Prod.mk.injEq] at hx
    obtain ⟨rfl, rfl⟩ := hx
    obtain ⟨f, hfe⟩ := choose_allE (P := fun i (e : En) => W.cells? 0 (a.add (i * 3)) 3 = some (En.cells e) ∧ D i = e.data) (n := len) En.zero (fun i hil => by
      obtain ⟨cs', h1, h2⟩ := hi i (by omega)
      obtain ⟨e, rfl, hd⟩ := en_of h2
      exact ⟨e, h1, hd⟩)
    have hlen : ((List.range len).map f).length = len := by simp
    refine ⟨some a, m, (List.range len).map f, by rw [hlen], by rw [hlen]; exact hl, rfl, ?_, ?_, ?_⟩
    · intro k hk
      rw [hlen] at hk
      obtain ⟨_, _, hc⟩ := World.cells?_some (hfe k hk).1
      obtain ⟨g, o, spot⟩ := a
      have hspot : spot = none := by
        obtain ⟨_, _, hc0⟩ := World.cells?_some (hfe 0 (by omega)).1
        have := World.cell?_spot (hc0 0 (by decide))
        simpa [Addr.add] using this
      subst hspot
      have hat (j : Nat) (hj : j < 3) : W.cell? ⟨g, o + k * 3 + j, none⟩ = (En.cells (f k))[j]? := by
        have := hc j hj
        rwa [Addr.add_lit, Addr.add_lit] at this
      refine ⟨g, o, rfl, hlt (.cell g o) (List.mem_append.2 (.inl (MemPlace.mem_row.2 ⟨0, by omega, by simp⟩))), ?_⟩
      simp only [List.getElem_map, List.getElem_range]
      exact ⟨hat 0 (by decide), hat 1 (by decide), hat 2 (by decide)⟩
    · rw [hlen]
      have := hw ((((List.range len).map D).length + ((List.range (m - len)).map fun j => D (len + j)).length) * Tryd.prog.bytesOf 34) (by rw [DataW.weights, Tryd.underlying22]; simp)
      rw [Tryd.bytesEn] at this
      simp only [List.length_map, List.length_range, reachBytes] at this
      omega
    · intro e he
      simp only [List.mem_map, List.mem_range] at he
      obtain ⟨i, hil, rfl⟩ := he
      have hin : ∀ n ∈ (D i).weights Tryd.prog 34, n ≤ reachBytes := fun n hn => hw n (by
        rw [DataW.weights, Tryd.underlying22]
        exact List.mem_cons_of_mem _ (List.mem_append.2 (.inl (weights_allE (List.mem_map.2 ⟨i, List.mem_range.2 hil, rfl⟩) n hn))))
      rw [(hfe i hil).2] at hin
      have h1 := hin _ (en_weights (H := H) (f i)).1
      have h2 := hin _ (en_weights (H := H) (f i)).2
      unfold reachBytes at h1 h2
      omega

theorem Tryd.gModes : Tryd.prog.globalNamed "graftage/tree.modeWords" = some 0 := by kernel_rfl
theorem Tryd.gModesType : (Tryd.prog.globals[0]?).map (·.type) = some 47 := by kernel_rfl
theorem Tryd.cellsModes : Tryd.prog.cellsOf 47 = 5 := by kernel_rfl
theorem modes_of {W : World} {r : List (String × DataW Unit)} (h : laidMet Tryd.prog (("graftage/tree.modeWords", Rows.laid_graftage_tree_modeWords) :: r) W) : ∀ q : Nat, q < 5 → W.cell? ⟨0, q, none⟩ = some (.string (str (wordM q))) := by
  obtain ⟨ps, ⟨g', t', cs, fuel, p, q, hg', ht', hvar, hd, _, _⟩, _⟩ := h
  obtain rfl := Option.some.inj (Tryd.gModes.symm.trans hg')
  obtain rfl := Option.some.inj (Tryd.gModesType.symm.trans ht')
  have hc := cells_of_strs (zs := [[], wordM 1, wordM 2, wordM 3, wordM 4]) Tryd.underlying47 Tryd.underlying9 Tryd.cellsStrE Tryd.cellsModes hd
  have hcell : ∀ i, W.cell? ⟨0, i, none⟩ = cs.toList[i]? := fun i => by
    have := World.var?_cell Tryd.gModes hvar i
    rw [this]
    simp
  intro q hq
  rw [hcell, hc]
  have : q = 0 ∨ q = 1 ∨ q = 2 ∨ q = 3 ∨ q = 4 := by omega
  rcases this with rfl | rfl | rfl | rfl | rfl <;> rfl
theorem trtab_of {W : World} (h : laidMetH Tryd.prog Rows.treeChecksRow.laid W) (hsh : W.ShapedOpen Tryd.prog) : TrTab W := by
  have h0 : laidMet Tryd.prog [("unicode/utf8.acceptRanges", Rows.laid_unicode_utf8_acceptRanges), ("graftage/tree.modeWords", Rows.laid_graftage_tree_modeWords), ("unicode/utf8.first", Rows.laid_unicode_utf8_first)] W := h
  have hm := modes_of h0.tail
  exact ⟨Tryd.laysM138.s1_3 W hsh, hm 1 (by decide), hm 2 (by decide), hm 3 (by decide), hm 4 (by decide)⟩
/-- A row's cells laid anew. -/
def setRowT (cs : Array Value) : Obj → Obj
  | .cells _ t frozen => .cells cs t frozen
  | o => o
/-- A world for the witness: the settled one, the variables holding what their initialisers lay. -/
noncomputable def trWorld (os : Os) : World :=
  { World.holding Tryd.prog os ⟨#[], #[], []⟩ with heap := (((World.holding Tryd.prog os ⟨#[], #[], []⟩).heap.modify 3 (setRowT #[.int .u8 128, .int .u8 191, .int .u8 160, .int .u8 191, .int .u8 128, .int .u8 159, .int .u8 144, .int .u8 191, .int .u8 128, .int .u8 143, .int .u8 0, .int .u8 0, .int .u8 0, .int .u8 0, .int .u8 0, .int .u8 0, .int .u8 0, .int .u8 0, .int .u8 0, .int .u8 0, .int .u8 0, .int .u8 0, .int .u8 0, .int .u8 0, .int .u8 0, .int .u8 0, .int .u8 0, .int .u8 0, .int .u8 0, .int .u8 0, .int .u8 0, .int .u8 0])).modify 2 (setRowT (Go.Pinned.utf8FirstZ.map fun (n : Nat) => Value.int .u8 (n : Int)).toArray)).modify 0 (setRowT #[.string ⟨#[]⟩, .string ⟨#[49, 48, 48, 54, 52, 52, 32]⟩, .string ⟨#[49, 48, 48, 55, 53, 53, 32]⟩, .string ⟨#[49, 50, 48, 48, 48, 48, 32]⟩, .string ⟨#[52, 48, 48, 48, 48, 32]⟩]) }
end Go.Proofs.YtjholoajgnpodaaDoor
