/-
  Commits, tags and persons that are handed in.
-/
import Derived.Test.YtddmnibioacelaaGreatDoorCmRows
set_option maxRecDepth 100000
namespace Go.Proofs.YtddmnibioacelaaGreatDoor
open Go.ChangeShapes Go.WideShapes Go.ChangeAt Go.RowKit
open Go.WideMaps Go.WideElems

theorem weights_allC {H : Type} {P : Program} {e : TypeId} {d : DataW H} : ∀ {ds : List (DataW H)}, d ∈ ds → ∀ n ∈ d.weights P e, n ∈ DataW.weightsAll P e ds
  | [], h, _, _ => absurd h (by simp)
  | a :: r, h, n, hn => by
    rw [DataW.weightsAll, List.mem_append]
    rcases List.mem_cons.1 h with rfl | h
    · exact .inl hn
    · exact .inr (weights_allC h n hn)
theorem choose_allC {α : Type} {P : Nat → α → Prop} {n : Nat} (a : α) (h : ∀ i, i < n → ∃ x, P i x) : ∃ f : Nat → α, ∀ i, i < n → P i (f i) := by
  classical
  refine ⟨fun i => if hi : i < n then (h i hi).choose else a, fun i hi => ?_⟩
  simp only [dif_pos hi]
  exact (h i hi).choose_spec
theorem Tryz.cellsPn : Tryz.prog.cellsOf 24 = 4 := by kernel_rfl
theorem Tryz.cellsCm : Tryz.prog.cellsOf 26 = 11 := by kernel_rfl
theorem Tryz.cellsTg : Tryz.prog.cellsOf 37 = 8 := by kernel_rfl
theorem Tryz.cellsSl : Tryz.prog.cellsOf 22 = 1 := by kernel_rfl
theorem Tryz.cellsI : Tryz.prog.cellsOf 3 = 1 := by kernel_rfl
theorem Tryz.bytesStr : Tryz.prog.bytesOf 9 = 16 := by kernel_rfl
/-- What a person reads as. -/
def Pn.data {H : Type} (p : Pn) : DataW H := .agg [.lit (.string p.n.data.toList), .lit (.string p.m.data.toList), .lit (.int .i64 p.t), .lit (.int .i64 p.z)]
section
variable {H : Type} {enc : TypeId × Value → H} {W : World} {b : Nat} {sp : Nat → Bool} {held : Bool}
theorem pn_of {fuel : Nat} {cs : List Value} {x : DataW H × List MemPlace} (h : DataW.trod enc Tryz.prog W b sp held fuel 24 cs = some x) : ∃ p : Pn, cs = [.string p.n, .string p.m, .int .i64 p.t, .int .i64 p.z] ∧ x.1 = p.data := by
  obtain ⟨xs, n, _, hx, hcs, hlen, hf⟩ := DataW.trod_struct Tryz.underlying24 h
  rw [Tryz.cellsPn] at hcs
  have hl : xs.length = 4 := hlen
  match cs, hcs, xs, hl with
  | [c0, c1, c2, c3], _, [x0, x1, x2, x3], _ =>
    have h0 : DataW.trod enc Tryz.prog W b sp held n 9 (List.take (Tryz.prog.cellsOf 9) (List.drop 0 [c0, c1, c2, c3])) = some x0 := hf 0 _ rfl
    have h1 : DataW.trod enc Tryz.prog W b sp held n 9 (List.take (Tryz.prog.cellsOf 9) (List.drop 1 [c0, c1, c2, c3])) = some x1 := hf 1 _ rfl
    have h2 : DataW.trod enc Tryz.prog W b sp held n 3 (List.take (Tryz.prog.cellsOf 3) (List.drop 2 [c0, c1, c2, c3])) = some x2 := hf 2 _ rfl
    have h3 : DataW.trod enc Tryz.prog W b sp held n 3 (List.take (Tryz.prog.cellsOf 3) (List.drop 3 [c0, c1, c2, c3])) = some x3 := hf 3 _ rfl
    rw [Tryz.cellsStr] at h0 h1
    rw [Tryz.cellsI] at h2 h3
    obtain ⟨z0, e0, rfl, _⟩ := DataW.trod_string Tryz.underlying9 h0
    obtain ⟨z1, e1, rfl, _⟩ := DataW.trod_string Tryz.underlying9 h1
    obtain ⟨z2, e2, rfl, _⟩ := DataW.trod_int Tryz.underlying3 h2
    obtain ⟨z3, e3, rfl, _⟩ := DataW.trod_int Tryz.underlying3 h3
    simp at e0 e1 e2 e3
    refine ⟨⟨z0, z1, z2, z3⟩, by simp [e0, e1, e2, e3], ?_⟩
    rw [hx]
    rfl
/-- A row of strings that is handed in. -/
theorem strs_of {fuel : Nat} {c : Value} {x : DataW H × List MemPlace} (h : DataW.trod enc Tryz.prog W 0 (fun _ => true) true fuel 22 [c] = some x) (hlt : ∀ y ∈ x.2, y.block < W.heap.size) (hw : ∀ n ∈ x.1.weights Tryz.prog 22, n ≤ reachBytes) :
    ∃ (a : Option Addr) (cap : Nat) (ls : List (List UInt8)), c = .slice a ls.length cap ∧ SRw W a ls ∧ (∀ y ∈ ls, y.length ≤ 140737488355328) ∧ ls.length ≤ 140737488355328 := by
  obtain ⟨D0, Q0⟩ := x
  rcases Go.Deep.open_slice Tryz.underlying22 h with ⟨hcs, hx⟩ | ⟨a, len, cap', m, n', D, Pl, hcs, _, hl, hm, hmm, hx, hi⟩
  · simp at hcs
    exact ⟨none, 0, [], hcs, SRw.none _ _, by simp, by simp⟩
  · simp at hcs
    subst hcs
    simp only [if_true] at hmm
    subst hmm
    rw [Tryz.cellsStr] at hx hi
    simp only [Prod.mk.injEq] at hx
    obtain ⟨rfl, rfl⟩ := hx
    obtain ⟨f, hfe⟩ := choose_allC (P := fun i (e : ByteArray) => W.cells? 0 (a.add (i * 1)) 1 = some [.string e] ∧ D i = .lit (.string e.data.toList)) (n := len) ⟨#[]⟩ (fun i hil => by
      obtain ⟨cs', h1, h2⟩ := hi i (by omega)
      obtain ⟨e, he, hd, _⟩ := DataW.trod_string Tryz.underlying9 h2
      refine ⟨e, by rw [h1, he], ?_⟩
      have := congrArg Prod.fst hd
      exact this)
    have hlen : ((List.range len).map fun i => (f i).data.toList).length = len := by simp
    refine ⟨some a, m, (List.range len).map fun i => (f i).data.toList, by rw [hlen], ?_, ?_, ?_⟩
    · intro k hk
      rw [hlen] at hk
      obtain ⟨g, o, spot⟩ := a
      have hspot : spot = none := by
        obtain ⟨_, _, hc0⟩ := World.cells?_some (hfe 0 (by omega)).1
        have := World.cell?_spot (hc0 0 (by decide))
        simpa [Addr.add] using this
      subst hspot
      obtain ⟨_, _, hc⟩ := World.cells?_some (hfe k hk).1
      have h0 := hc 0 (by decide)
      rw [Addr.add_lit, Addr.add_lit] at h0
      refine ⟨g, o, rfl, hlt (.cell g o) (List.mem_append.2 (.inl (MemPlace.mem_row.2 ⟨0, by omega, by simp⟩))), ?_⟩
      simp only [List.getElem_map, List.getElem_range]
      rw [Nat.mul_one, Nat.add_zero] at h0
      exact h0
    · intro y hy
      simp only [List.mem_map, List.mem_range] at hy
      obtain ⟨i, hil, rfl⟩ := hy
      have hin : (f i).size ≤ reachBytes := hw _ (by
        rw [DataW.weights, Tryz.underlying22]
        refine List.mem_cons_of_mem _ (List.mem_append.2 (.inl (weights_allC (List.mem_map.2 ⟨i, List.mem_range.2 hil, rfl⟩) _ ?_)))
        rw [(hfe i hil).2]
        simp [DataW.weights])
      rw [list_len]
      unfold reachBytes at hin
      omega
    · rw [hlen]
      have := hw ((((List.range len).map D).length + ((List.range (m - len)).map fun j => D (len + j)).length) * Tryz.prog.bytesOf 9) (by rw [DataW.weights, Tryz.underlying22]; simp)
      rw [Tryz.bytesStr] at this
      simp only [List.length_map, List.length_range, reachBytes] at this
      omega
end
theorem pn_weights {H : Type} (p : Pn) : p.n.size ∈ (p.data : DataW H).weights Tryz.prog 24 ∧ p.m.size ∈ (p.data : DataW H).weights Tryz.prog 24 := by
  simp [Pn.data, DataW.weights, DataW.weightsEach, Tryz.underlying24]
theorem cm_arg {H : Type} {enc : TypeId × Value → H} {W : World} {base : Nat} {v : Value} {d : DataW H} {q : List MemPlace} (hok : Value.okWide Tryz.prog W .any base 26 v)
    (h : DataW.Trod enc Tryz.prog W 0 (fun _ => true) true 26 v d q) (hlt : ∀ x ∈ q, x.block < W.heap.size) (hw : ∀ n ∈ d.weights Tryz.prog 26, n ≤ reachBytes) :
    ∃ (a : Option Addr) (cap N : Nat) (c : Cm), v = .agg #[.string c.t, .slice a N cap, .string c.a.n, .string c.a.m, .int .i64 c.a.t, .int .i64 c.a.z, .string c.c.n, .string c.c.m, .int .i64 c.c.t, .int .i64 c.c.z, .string c.x] ∧ N = c.ps.length ∧ SRw W a c.ps ∧ (∀ y ∈ c.ps, y.length ≤ 140737488355328) ∧ N ≤ 140737488355328 ∧
      (c.t.size ≤ 140737488355328 ∧ c.a.n.size ≤ 140737488355328 ∧ c.a.m.size ≤ 140737488355328 ∧ c.c.n.size ≤ 140737488355328 ∧ c.c.m.size ≤ 140737488355328) ∧ c.x.size ≤ 140737488355328 := by
  obtain ⟨cs, rfl, hsz⟩ := okWide_struct Tryz.underlying26 hok
  rw [Tryz.cellsCm] at hsz
  obtain ⟨fuel, hf⟩ := h
  obtain ⟨xs, n, _, hx, hcs, hlen, hf⟩ := DataW.trod_struct Tryz.underlying26 hf
  have hl : xs.length = 5 := hlen
  obtain ⟨l, hL⟩ : ∃ l, l = cs.toList := ⟨_, rfl⟩
  have hll : l.length = 11 := by rw [hL]; simpa using hsz
  have hcl : cs = l.toArray := by rw [hL]
  have hce : (Value.agg cs).cells.toList = l := by rw [hL]; rfl
  rw [hce] at hf
  clear hce hL hcs
  match l, hll, xs, hl with
  | [c0, c1, c2, c3, c4, c5, c6, c7, c8, c9, c10], _, [x0, x1, x2, x3, x4], _ =>
    have h0 : DataW.trod enc Tryz.prog W 0 (fun _ => true) true n 9 (List.take (Tryz.prog.cellsOf 9) (List.drop 0 [c0, c1, c2, c3, c4, c5, c6, c7, c8, c9, c10])) = some x0 := hf 0 _ rfl
    have h1 : DataW.trod enc Tryz.prog W 0 (fun _ => true) true n 22 (List.take (Tryz.prog.cellsOf 22) (List.drop 1 [c0, c1, c2, c3, c4, c5, c6, c7, c8, c9, c10])) = some x1 := hf 1 _ rfl
    have h2 : DataW.trod enc Tryz.prog W 0 (fun _ => true) true n 24 (List.take (Tryz.prog.cellsOf 24) (List.drop 2 [c0, c1, c2, c3, c4, c5, c6, c7, c8, c9, c10])) = some x2 := hf 2 _ rfl
    have h3 : DataW.trod enc Tryz.prog W 0 (fun _ => true) true n 24 (List.take (Tryz.prog.cellsOf 24) (List.drop 6 [c0, c1, c2, c3, c4, c5, c6, c7, c8, c9, c10])) = some x3 := hf 3 _ rfl
    have h4 : DataW.trod enc Tryz.prog W 0 (fun _ => true) true n 9 (List.take (Tryz.prog.cellsOf 9) (List.drop 10 [c0, c1, c2, c3, c4, c5, c6, c7, c8, c9, c10])) = some x4 := hf 4 _ rfl
    rw [Tryz.cellsStr] at h0 h4
    rw [Tryz.cellsSl] at h1
    rw [Tryz.cellsPn] at h2 h3
    simp only [Prod.mk.injEq] at hx
    obtain ⟨rfl, rfl⟩ := hx
    obtain ⟨z0, e0, rfl, _⟩ := DataW.trod_string Tryz.underlying9 h0
    obtain ⟨z4, e4, rfl, _⟩ := DataW.trod_string Tryz.underlying9 h4
    obtain ⟨p2, e2, g2⟩ := pn_of h2
    obtain ⟨p3, e3, g3⟩ := pn_of h3
    have hwa : ∀ n ∈ x1.1.weights Tryz.prog 22, n ≤ reachBytes := fun n hn => hw n (by simp [DataW.weights, DataW.weightsEach, Tryz.underlying26, hn])
    obtain ⟨a, cap, ls, e1, r1, r2, r3⟩ := strs_of (c := c1) (by simpa using h1) (fun y hy => hlt y (by simp [hy])) hwa
    have w0 := hw z0.size (by simp [DataW.weights, DataW.weightsEach, Tryz.underlying26])
    have w4 := hw z4.size (by simp [DataW.weights, DataW.weightsEach, Tryz.underlying26])
    have q2 := pn_weights (H := H) p2
    have q3 := pn_weights (H := H) p3
    rw [← g2] at q2
    rw [← g3] at q3
    have w2 := hw p2.n.size (by simp [DataW.weights, DataW.weightsEach, Tryz.underlying26, q2.1])
    have w2' := hw p2.m.size (by simp [DataW.weights, DataW.weightsEach, Tryz.underlying26, q2.2])
    have w3 := hw p3.n.size (by simp [DataW.weights, DataW.weightsEach, Tryz.underlying26, q3.1])
    have w3' := hw p3.m.size (by simp [DataW.weights, DataW.weightsEach, Tryz.underlying26, q3.2])
    unfold reachBytes at w0 w4 w2 w2' w3 w3'
    simp at e0 e4 e2 e3
    obtain ⟨rfl, rfl, rfl, rfl⟩ := e2
    obtain ⟨rfl, rfl, rfl, rfl⟩ := e3
    subst e0 e4 e1
    exact ⟨a, cap, ls.length, ⟨z0, ls, p2, p3, z4⟩, hcl ▸ rfl, rfl, r1, r2, r3, ⟨by simp only; omega, by simp only; omega, by simp only; omega, by simp only; omega, by simp only; omega⟩, by simp only; omega⟩
theorem tg_arg {H : Type} {enc : TypeId × Value → H} {W : World} {base : Nat} {v : Value} {d : DataW H} {q : List MemPlace} (hok : Value.okWide Tryz.prog W .any base 37 v)
    (h : DataW.Trod enc Tryz.prog W 0 (fun _ => true) true 37 v d q) (hw : ∀ n ∈ d.weights Tryz.prog 37, n ≤ reachBytes) :
    ∃ (g : Tg), v = .agg #[.string g.o, .int .i64 g.k, .string g.n, .string g.g.n, .string g.g.m, .int .i64 g.g.t, .int .i64 g.g.z, .string g.x] ∧
      (g.o.size ≤ 140737488355328 ∧ g.n.size ≤ 140737488355328 ∧ g.g.n.size ≤ 140737488355328 ∧ g.g.m.size ≤ 140737488355328) ∧ g.x.size ≤ 140737488355328 := by
  obtain ⟨cs, rfl, hsz⟩ := okWide_struct Tryz.underlying37 hok
  rw [Tryz.cellsTg] at hsz
  obtain ⟨fuel, hf⟩ := h
  obtain ⟨xs, n, _, hx, hcs, hlen, hf⟩ := DataW.trod_struct Tryz.underlying37 hf
  have hl : xs.length = 5 := hlen
  obtain ⟨l, hL⟩ : ∃ l, l = cs.toList := ⟨_, rfl⟩
  have hll : l.length = 8 := by rw [hL]; simpa using hsz
  have hcl : cs = l.toArray := by rw [hL]
  have hce : (Value.agg cs).cells.toList = l := by rw [hL]; rfl
  rw [hce] at hf
  clear hce hL hcs
  match l, hll, xs, hl with
  | [c0, c1, c2, c3, c4, c5, c6, c7], _, [x0, x1, x2, x3, x4], _ =>
    have h0 : DataW.trod enc Tryz.prog W 0 (fun _ => true) true n 9 (List.take (Tryz.prog.cellsOf 9) (List.drop 0 [c0, c1, c2, c3, c4, c5, c6, c7])) = some x0 := hf 0 _ rfl
    have h1 : DataW.trod enc Tryz.prog W 0 (fun _ => true) true n 3 (List.take (Tryz.prog.cellsOf 3) (List.drop 1 [c0, c1, c2, c3, c4, c5, c6, c7])) = some x1 := hf 1 _ rfl
    have h2 : DataW.trod enc Tryz.prog W 0 (fun _ => true) true n 9 (List.take (Tryz.prog.cellsOf 9) (List.drop 2 [c0, c1, c2, c3, c4, c5, c6, c7])) = some x2 := hf 2 _ rfl
    have h3 : DataW.trod enc Tryz.prog W 0 (fun _ => true) true n 24 (List.take (Tryz.prog.cellsOf 24) (List.drop 3 [c0, c1, c2, c3, c4, c5, c6, c7])) = some x3 := hf 3 _ rfl
    have h4 : DataW.trod enc Tryz.prog W 0 (fun _ => true) true n 9 (List.take (Tryz.prog.cellsOf 9) (List.drop 7 [c0, c1, c2, c3, c4, c5, c6, c7])) = some x4 := hf 4 _ rfl
    rw [Tryz.cellsStr] at h0 h2 h4
    rw [Tryz.cellsI] at h1
    rw [Tryz.cellsPn] at h3
    simp only [Prod.mk.injEq] at hx
    obtain ⟨rfl, rfl⟩ := hx
    obtain ⟨z0, e0, rfl, _⟩ := DataW.trod_string Tryz.underlying9 h0
    obtain ⟨z1, e1, rfl, _⟩ := DataW.trod_int Tryz.underlying3 h1
    obtain ⟨z2, e2, rfl, _⟩ := DataW.trod_string Tryz.underlying9 h2
    obtain ⟨z4, e4, rfl, _⟩ := DataW.trod_string Tryz.underlying9 h4
    obtain ⟨p3, e3, g3⟩ := pn_of h3
    have w0 := hw z0.size (by simp [DataW.weights, DataW.weightsEach, Tryz.underlying37])
    have w2 := hw z2.size (by simp [DataW.weights, DataW.weightsEach, Tryz.underlying37])
    have w4 := hw z4.size (by simp [DataW.weights, DataW.weightsEach, Tryz.underlying37])
    have q3 := pn_weights (H := H) p3
    rw [← g3] at q3
    have w3 := hw p3.n.size (by simp [DataW.weights, DataW.weightsEach, Tryz.underlying37, q3.1])
    have w3' := hw p3.m.size (by simp [DataW.weights, DataW.weightsEach, Tryz.underlying37, q3.2])
    unfold reachBytes at w0 w2 w4 w3 w3'
    simp at e0 e1 e2 e4 e3
    obtain ⟨rfl, rfl, rfl, rfl⟩ := e3
    subst e0 e1 e2 e4
    exact ⟨⟨z0, z1, z2, p3, z4⟩, hcl ▸ rfl, ⟨by simp only; omega, by simp only; omega, by simp only; omega, by simp only; omega⟩, by simp only; omega⟩
theorem pn_arg {H : Type} {enc : TypeId × Value → H} {W : World} {base : Nat} {v : Value} {d : DataW H} {q : List MemPlace} (hok : Value.okWide Tryz.prog W .any base 24 v)
    (h : DataW.Trod enc Tryz.prog W 0 (fun _ => true) true 24 v d q) (hw : ∀ n ∈ d.weights Tryz.prog 24, n ≤ reachBytes) :
    ∃ (p : Pn), v = .agg #[.string p.n, .string p.m, .int .i64 p.t, .int .i64 p.z] ∧ p.n.size ≤ 140737488355328 ∧ p.m.size ≤ 140737488355328 := by
  obtain ⟨cs, rfl, hsz⟩ := okWide_struct Tryz.underlying24 hok
  obtain ⟨fuel, hf⟩ := h
  obtain ⟨p, e, g⟩ := pn_of hf
  have q3 := pn_weights (H := H) p
  simp only at g
  rw [← g] at q3
  have w3 := hw _ q3.1
  have w3' := hw _ q3.2
  unfold reachBytes at w3 w3'
  have hc : cs = #[.string p.n, .string p.m, .int .i64 p.t, .int .i64 p.z] := by
    have h2 : cs.toList = [.string p.n, .string p.m, .int .i64 p.t, .int .i64 p.z] := e
    rw [← Array.toList_inj, h2]
  exact ⟨p, by rw [hc], by omega, by omega⟩
end Go.Proofs.YtddmnibioacelaaGreatDoor
