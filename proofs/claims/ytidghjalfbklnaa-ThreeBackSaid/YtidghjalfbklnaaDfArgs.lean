/-
  Slices that are handed in: of strings, of edits, of runs.
-/
import Derived.Test.YtidghjalfbklnaaRowPk
import Derived.Test.YtidghjalfbklnaaDfRowsPk
import Derived.Deep.Slices
namespace Go.Proofs.Ytidghjalfbklnaa
open Go.ChangeShapes Go.WideShapes Go.ChangeAt Go.RowKit
open Go.WideMaps Go.WideElems

set_option maxRecDepth 100000 in
theorem Try.cellsEd : Try.prog.cellsOf 52 = 4 := by kernel_rfl
set_option maxRecDepth 100000 in
theorem Try.cellsRn : Try.prog.cellsOf 48 = 3 := by kernel_rfl
set_option maxRecDepth 100000 in
theorem Try.cellsInt : Try.prog.cellsOf 3 = 1 := by kernel_rfl
set_option maxRecDepth 100000 in
theorem Try.bytesEd : Try.prog.bytesOf 52 = 32 := by kernel_rfl
set_option maxRecDepth 100000 in
theorem Try.bytesRn : Try.prog.bytesOf 48 = 24 := by kernel_rfl

set_option maxRecDepth 100000 in
theorem i64_le {n : Int} (h : (Lit.int .i64 n).wf = true) : n ≤ 9223372036854775807 := by
  simp [Lit.wf, IntKind.min, IntKind.max, IntKind.signed, IntKind.bits] at h
  omega
set_option maxRecDepth 100000 in
theorem strings_cap {H : Type} {enc : TypeId × Value → H} {W : World} {base : Nat} {v : Value} {d : DataW H} {q : List MemPlace} (hok : Value.okWide Try.prog W .any base 22 v)
    (h : DataW.Trod enc Try.prog W 0 (fun _ => true) true 22 v d q) (hlt : ∀ x ∈ q, x.block < W.heap.size) (hw : ∀ n ∈ d.weights Try.prog 22, n ≤ reachBytes) :
    ∃ (a : Option Addr) (cap : Nat) (ls : List (List UInt8)), v = .slice a ls.length cap ∧ SA W ls a ls.length cap := by
  obtain ⟨a, cap, ls, rfl, hr, hf, hs⟩ := strings_arg hok h hlt hw
  have hcap : ls.length ≤ cap := by
    obtain ⟨fuel, hf⟩ := h
    rcases open_strings Try.underlying22 Try.underlying9 Try.cellsStr hf with ⟨hcs, hx⟩ | ⟨a', len', cap', ss, hcs, _, hl, hm, hz, hx, hcell, hws⟩
    · simp [Value.cells] at hcs
      obtain ⟨_, h2, _⟩ := hcs
      subst h2
      exact Nat.zero_le _
    · simp [Value.cells] at hcs
      omega
  have hsh : ∀ x ∈ ls, x.length ≤ 140737488355328 := by
    obtain ⟨fuel, hf⟩ := h
    rcases open_strings Try.underlying22 Try.underlying9 Try.cellsStr hf with ⟨hcs, hx⟩ | ⟨a', len', cap', ss, hcs, _, hl, hm, hz, hx, hcell, hws⟩
    · simp [Value.cells] at hcs
      obtain ⟨_, h2, _⟩ := hcs
      subst h2
      exact fun x hx => absurd hx (by simp)
    · simp [Value.cells] at hcs
      obtain ⟨rfl, h2, rfl⟩ := hcs
      simp only [Prod.mk.injEq] at hx
      obtain ⟨rfl, rfl⟩ := hx
      simp only [if_true] at hz
      intro x hxm
      obtain ⟨k, hk, rfl⟩ := List.mem_iff_getElem.mp hxm
      obtain ⟨g, o, hg, _, hc⟩ := hr k hk
      simp only [Option.some.injEq] at hg
      subst hg
      have hc2 := hcell k (by omega)
      rw [Addr.add_lit, hc] at hc2
      simp only [Option.some.injEq, Value.string.injEq] at hc2
      have hkl : k < (ss.take len').length := by rw [List.length_take]; omega
      have h3 : (ss.take len')[k] = str ls[k] := by
        rw [hc2, List.getElem_take, List.getD_eq_getElem?_getD, List.getElem?_eq_getElem (by omega)]
        rfl
      have := hw ls[k].length (by
        rw [DataW.weights, Try.underlying22]
        refine List.mem_cons_of_mem _ (List.mem_append.2 (.inl (weights_all (d := .lit (.string ls[k])) ?_ _ (by simp [DataW.weights]))))
        refine List.mem_map.2 ⟨(ss.take len')[k], List.getElem_mem hkl, ?_⟩
        rw [h3, str_list])
      unfold reachBytes at this
      omega
  exact ⟨a, cap, ls, rfl, ⟨rfl, hcap, hr, hf, hsh⟩⟩

section
variable {H : Type} {enc : TypeId × Value → H} {W : World} {b : Nat} {sp : Nat → Bool} {held : Bool}
set_option maxRecDepth 100000 in
theorem ed_of {fuel : Nat} {cs : List Value} {x : DataW H × List MemPlace} (h : DataW.trod enc Try.prog W b sp held fuel 52 cs = some x) : ∃ e : Ed, cs = Ed.cells e := by
  obtain ⟨xs, n, _, _, hcs, hlen, hf⟩ := DataW.trod_struct Try.underlying52 h
  rw [Try.cellsEd] at hcs
  have hl : xs.length = 4 := hlen
  match cs, hcs with
  | [c0, c1, c2, c3], _ =>
    have h0 : DataW.trod enc Try.prog W b sp held n 3 (List.take (Try.prog.cellsOf 3) (List.drop 0 [c0, c1, c2, c3])) = xs[0]? := hf 0 _ rfl
    have h1 : DataW.trod enc Try.prog W b sp held n 3 (List.take (Try.prog.cellsOf 3) (List.drop 1 [c0, c1, c2, c3])) = xs[1]? := hf 1 _ rfl
    have h2 : DataW.trod enc Try.prog W b sp held n 3 (List.take (Try.prog.cellsOf 3) (List.drop 2 [c0, c1, c2, c3])) = xs[2]? := hf 2 _ rfl
    have h3 : DataW.trod enc Try.prog W b sp held n 3 (List.take (Try.prog.cellsOf 3) (List.drop 3 [c0, c1, c2, c3])) = xs[3]? := hf 3 _ rfl
    simp only [Try.cellsInt, List.getElem?_eq_getElem (show 0 < xs.length by omega), List.getElem?_eq_getElem (show 1 < xs.length by omega), List.getElem?_eq_getElem (show 2 < xs.length by omega), List.getElem?_eq_getElem (show 3 < xs.length by omega)] at h0 h1 h2 h3
    obtain ⟨n0, e0, _⟩ := DataW.trod_int Try.underlying3 h0
    obtain ⟨n1, e1, _⟩ := DataW.trod_int Try.underlying3 h1
    obtain ⟨n2, e2, _⟩ := DataW.trod_int Try.underlying3 h2
    obtain ⟨n3, e3, _⟩ := DataW.trod_int Try.underlying3 h3
    simp at e0 e1 e2 e3
    exact ⟨⟨n0, n1, n2, n3⟩, by simp [Ed.cells, e0, e1, e2, e3]⟩
set_option maxRecDepth 100000 in
theorem rn_of {fuel : Nat} {cs : List Value} {x : DataW H × List MemPlace} (h : DataW.trod enc Try.prog W b sp held fuel 48 cs = some x) : ∃ e : Rn, cs = Rn.cells e := by
  obtain ⟨xs, n, _, _, hcs, hlen, hf⟩ := DataW.trod_struct Try.underlying48 h
  rw [Try.cellsRn] at hcs
  have hl : xs.length = 3 := hlen
  match cs, hcs with
  | [c0, c1, c2], _ =>
    have h0 : DataW.trod enc Try.prog W b sp held n 3 (List.take (Try.prog.cellsOf 3) (List.drop 0 [c0, c1, c2])) = xs[0]? := hf 0 _ rfl
    have h1 : DataW.trod enc Try.prog W b sp held n 3 (List.take (Try.prog.cellsOf 3) (List.drop 1 [c0, c1, c2])) = xs[1]? := hf 1 _ rfl
    have h2 : DataW.trod enc Try.prog W b sp held n 3 (List.take (Try.prog.cellsOf 3) (List.drop 2 [c0, c1, c2])) = xs[2]? := hf 2 _ rfl
    simp only [Try.cellsInt, List.getElem?_eq_getElem (show 0 < xs.length by omega), List.getElem?_eq_getElem (show 1 < xs.length by omega), List.getElem?_eq_getElem (show 2 < xs.length by omega)] at h0 h1 h2
    obtain ⟨n0, e0, _⟩ := DataW.trod_int Try.underlying3 h0
    obtain ⟨n1, e1, _⟩ := DataW.trod_int Try.underlying3 h1
    obtain ⟨n2, e2, _⟩ := DataW.trod_int Try.underlying3 h2
    simp at e0 e1 e2
    exact ⟨⟨n0, n1, n2⟩, by simp [Rn.cells, e0, e1, e2]⟩
end
set_option maxRecDepth 100000 in
theorem choose_all {α : Type} {P : Nat → α → Prop} {n : Nat} (a : α) (h : ∀ i, i < n → ∃ x, P i x) : ∃ f : Nat → α, ∀ i, i < n → P i (f i) := by
  classical
  refine ⟨fun i => if hi : i < n then (h i hi).choose else a, fun i hi => ?_⟩
  simp only [dif_pos hi]
  exact (h i hi).choose_spec

set_option maxRecDepth 100000 in
theorem edits_arg {H : Type} {enc : TypeId × Value → H} {W : World} {base : Nat} {v : Value} {d : DataW H} {q : List MemPlace} (hok : Value.okWide Try.prog W .any base 26 v)
    (h : DataW.Trod enc Try.prog W 0 (fun _ => true) true 26 v d q) (hlt : ∀ x ∈ q, x.block < W.heap.size) (hw : ∀ n ∈ d.weights Try.prog 26, n ≤ reachBytes) :
    ∃ (a : Option Addr) (cap : Nat) (es : List Ed), v = .slice a es.length cap ∧ EA W es a es.length := by
  obtain ⟨a0, len, cap, rfl⟩ := okWide_slice Try.underlying26 hok
  obtain ⟨fuel, hf⟩ := h
  rcases Go.Deep.open_slice Try.underlying26 hf with ⟨hcs, hx⟩ | ⟨a, len', cap', m, n', D, Pl, hcs, _, hl, hm, hmm, hx, hi⟩
  · simp [Value.cells] at hcs
    obtain ⟨rfl, rfl, rfl⟩ := hcs
    exact ⟨none, 0, [], rfl, rfl, fun k hk => absurd hk (by simp), by simp⟩
  · simp [Value.cells] at hcs
    obtain ⟨rfl, rfl, rfl⟩ := hcs
    simp only [if_true] at hmm
    subst hmm
    rw [Try.cellsEd] at hx hi
    simp only [Prod.mk.injEq] at hx
    obtain ⟨rfl, rfl⟩ := hx
    obtain ⟨f, hfe⟩ := choose_all (P := fun i (e : Ed) => W.cells? 0 (a.add (i * 4)) 4 = some (Ed.cells e)) (n := len) ⟨0, 0, 0, 0⟩ (fun i hil => by
      obtain ⟨cs', h1, h2⟩ := hi i (by omega)
      obtain ⟨e, rfl⟩ := ed_of h2
      exact ⟨e, h1⟩)
    have hlen : ((List.range len).map f).length = len := by simp
    refine ⟨some a, m, (List.range len).map f, by rw [hlen], rfl, ?_, ?_⟩
    · intro k hk
      rw [hlen] at hk
      obtain ⟨_, _, hc⟩ := World.cells?_some (hfe k hk)
      obtain ⟨g, o, spot⟩ := a
      have hspot : spot = none := by
        obtain ⟨_, _, hc0⟩ := World.cells?_some (hfe 0 (by omega))
        have := World.cell?_spot (hc0 0 (by decide))
        simpa [Addr.add] using this
      subst hspot
      have hat (j : Nat) (hj : j < 4) : W.cell? ⟨g, o + k * 4 + j, none⟩ = (Ed.cells (f k))[j]? := by
        have := hc j hj
        rwa [Addr.add_lit, Addr.add_lit] at this
      refine ⟨g, o, rfl, hlt (.cell g o) (List.mem_append.2 (.inl (MemPlace.mem_row.2 ⟨0, by omega, by simp⟩))), ?_⟩
      simp only [List.getElem_map, List.getElem_range]
      exact ⟨hat 0 (by decide), hat 1 (by decide), hat 2 (by decide), hat 3 (by decide)⟩
    · rw [hlen]
      have := hw ((((List.range len).map D).length + ((List.range (m - len)).map fun j => D (len + j)).length) * Try.prog.bytesOf 52) (by rw [DataW.weights, Try.underlying26]; simp)
      rw [Try.bytesEd] at this
      simp only [List.length_map, List.length_range, reachBytes] at this
      omega
set_option maxRecDepth 100000 in
theorem runs_arg {H : Type} {enc : TypeId × Value → H} {W : World} {base : Nat} {v : Value} {d : DataW H} {q : List MemPlace} (hok : Value.okWide Try.prog W .any base 54 v)
    (h : DataW.Trod enc Try.prog W 0 (fun _ => true) true 54 v d q) (hlt : ∀ x ∈ q, x.block < W.heap.size) (hw : ∀ n ∈ d.weights Try.prog 54, n ≤ reachBytes) :
    ∃ (a : Option Addr) (cap : Nat) (es : List Rn), v = .slice a es.length cap ∧ RA W es a es.length := by
  obtain ⟨a0, len, cap, rfl⟩ := okWide_slice Try.underlying54 hok
  obtain ⟨fuel, hf⟩ := h
  rcases Go.Deep.open_slice Try.underlying54 hf with ⟨hcs, hx⟩ | ⟨a, len', cap', m, n', D, Pl, hcs, _, hl, hm, hmm, hx, hi⟩
  · simp [Value.cells] at hcs
    obtain ⟨rfl, rfl, rfl⟩ := hcs
    exact ⟨none, 0, [], rfl, rfl, fun k hk => absurd hk (by simp), by simp⟩
  · simp [Value.cells] at hcs
    obtain ⟨rfl, rfl, rfl⟩ := hcs
    simp only [if_true] at hmm
    subst hmm
    rw [Try.cellsRn] at hx hi
    simp only [Prod.mk.injEq] at hx
    obtain ⟨rfl, rfl⟩ := hx
    obtain ⟨f, hfe⟩ := choose_all (P := fun i (e : Rn) => W.cells? 0 (a.add (i * 3)) 3 = some (Rn.cells e)) (n := len) ⟨0, 0, 0⟩ (fun i hil => by
      obtain ⟨cs', h1, h2⟩ := hi i (by omega)
      obtain ⟨e, rfl⟩ := rn_of h2
      exact ⟨e, h1⟩)
    have hlen : ((List.range len).map f).length = len := by simp
    refine ⟨some a, m, (List.range len).map f, by rw [hlen], rfl, ?_, ?_⟩
    · intro k hk
      rw [hlen] at hk
      obtain ⟨_, _, hc⟩ := World.cells?_some (hfe k hk)
      obtain ⟨g, o, spot⟩ := a
      have hspot : spot = none := by
        obtain ⟨_, _, hc0⟩ := World.cells?_some (hfe 0 (by omega))
        have := World.cell?_spot (hc0 0 (by decide))
        simpa [Addr.add] using this
      subst hspot
      have hat (j : Nat) (hj : j < 3) : W.cell? ⟨g, o + k * 3 + j, none⟩ = (Rn.cells (f k))[j]? := by
        have := hc j hj
        rwa [Addr.add_lit, Addr.add_lit] at this
      refine ⟨g, o, rfl, hlt (.cell g o) (List.mem_append.2 (.inl (MemPlace.mem_row.2 ⟨0, by omega, by simp⟩))), ?_⟩
      simp only [List.getElem_map, List.getElem_range]
      exact ⟨hat 0 (by decide), hat 1 (by decide), hat 2 (by decide)⟩
    · rw [hlen]
      have := hw ((((List.range len).map D).length + ((List.range (m - len)).map fun j => D (len + j)).length) * Try.prog.bytesOf 48) (by rw [DataW.weights, Try.underlying54]; simp)
      rw [Try.bytesRn] at this
      simp only [List.length_map, List.length_range, reachBytes] at this
      omega
end Go.Proofs.Ytidghjalfbklnaa
