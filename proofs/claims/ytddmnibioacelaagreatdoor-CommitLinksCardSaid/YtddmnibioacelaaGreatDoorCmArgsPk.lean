/-
  Commits, tags and persons that are handed in.
-/
import Derived.Test.YtddmnibioacelaaGreatDoorCmLnk2Pk
set_option maxRecDepth 100000
namespace Go.Proofs.YtddmnibioacelaaGreatDoor
open Go.ChangeShapes Go.WideShapes Go.ChangeAt Go.RowKit
open Go.WideMaps Go.WideElems

theorem weights_allC {H : Type} {P : Program} {e : TypeId} {d : DataW H} : ∀ {ds : List (DataW H)}, d ∈ ds → ∀ n ∈ d.weights P e, n ∈ DataW.weightsAll P e ds
  | [], h, _, _ => absurd h (by simp)
  | a :: r, h, n, hn => by
    rw [DataW.weightsAll, List.mem_append]
    rcases List.mem_cons.1 h with rfl | h
    · exact .inl hn
    · exact .inr (weights_allC h n hn)
theorem choose_allC {α : Type} {P : Nat → α → Prop} {n : Nat} (a : α) (h : ∀ i, i < n → ∃ x, P i x) : ∃ f : Nat → α, ∀ i, i < n → P i (f i) := by
  classical
  refine ⟨fun i => if hi : i < n then (h i hi).choose else a, fun i hi => ?_⟩
  simp only [dif_pos hi]
  exact (h i hi).choose_spec
theorem Tryz.cellsPn : Tryz.prog.cellsOf 24 = 4 := by kernel_rfl
theorem Tryz.cellsCm : Tryz.prog.cellsOf 26 = 11 := by kernel_rfl
theorem Tryz.cellsTg : Tryz.prog.cellsOf 37 = 8 := by kernel_rfl
theorem Tryz.cellsSl : Tryz.prog.cellsOf 22 = 1 := by kernel_rfl
theorem Tryz.cellsI : Tryz.prog.cellsOf 3 = 1 := by kernel_rfl
theorem Tryz.bytesStr : Tryz.prog.bytesOf 9 = 16 := by kernel_rfl
/-- What a person reads as. -/
def Pn.data {H : Type} (p : Pn) : DataW H := .agg [.lit (.string p.n.data.toList), .lit (.string p.m.data.toList), .lit (.int .i64 p.t), .lit (.int .i64 p.z)]
section
variable {H : Type} {enc : TypeId × Value → H} {W : World} {b : Nat} {sp : Nat → Bool} {held : Bool}
theorem pn_of {fuel : Nat} {cs : List Value} {x : DataW H × List MemPlace} (h : DataW.trod enc Tryz.prog W b sp held fuel 24 cs = some x) : ∃ p : Pn, cs = [.string p.n, .string p.m, .int .i64 p.t, .int .i64 p.z] ∧ x.1 = p.data := by
  obtain ⟨xs, n, _, hx, hcs, hlen, hf⟩ := DataW.trod_struct Tryz.underlying24 h
  rw [Tryz.cellsPn] at hcs
  have hl : xs.length = 4 := hlen
  match cs, hcs, xs, hl with
  | [c0, c1, c2, c3], _, [x0, x1, x2, x3], _ =>
    have h0 : DataW.trod enc Tryz.prog W b sp held n 9 (List.take (Tryz.prog.cellsOf 9) (List.drop 0 [c0, c1, c2, c3])) = some x0 := hf 0 _ rfl
    have h1 : DataW.trod enc Tryz.prog W b sp held n 9 (List.take (Tryz.prog.cellsOf 9) (List.drop 1 [c0, c1, c2, c3])) = some x1 := hf 1 _ rfl
    have h2 : DataW.trod enc Tryz.prog W b sp held n 3 (List.take (Tryz.prog.cellsOf 3) (List.drop 2 [c0, c1, c2, c3])) = some x2 := hf 2 _ rfl
    have h3 : DataW.trod enc Tryz.prog W b sp held n 3 (List.take (Tryz.prog.cellsOf 3) (List.drop 3 [c0, c1, c2, c3])) = some x3 := hf 3 _ rfl
    rw [Tryz.cellsStr] at h0 h1
    rw [Tryz.cellsI] at h2 h3
    obtain ⟨z0, e0, rfl, _⟩ := DataW.trod_string Tryz.underlying9 h0
    obtain ⟨z1, e1, rfl, _⟩ := DataW.trod_string Tryz.underlying9 h1
    obtain ⟨z2, e2, rfl, _⟩ := DataW.trod_int Tryz.underlying3 h2
    obtain ⟨z3, e3, rfl, _⟩ := DataW.trod_int Tryz.underlying3 h3
    simp at e0 e1 e2 e3
    refine ⟨⟨z0, z1, z2, z3⟩, by simp [e0, e1, e2, e3], ?_⟩
    rw [hx]
    rfl
/-- A row of strings that is handed in. -/
theorem strs_of {fuel : Nat} {c : Value} {x : DataW H × List MemPlace} (h : DataW.trod enc Tryz.prog W 0 (fun _ => true) true fuel 22 [c] = some x) (hlt : ∀ y ∈ x.2, y.block < W.heap.size) (hw : ∀ n ∈ x.1.weights Tryz.prog 22, n ≤ reachBytes) :
    ∃ (a : Option Addr) (cap : Nat) (ls : List (List UInt8)), c = .slice a ls.length cap ∧ SRw W a ls ∧ (∀ y ∈ ls, y.length ≤ 140737488355328) ∧ ls.length ≤ 140737488355328 := by
  obtain ⟨D0, Q0⟩ := x
  rcases Go.Deep.open_slice Tryz.underlying22 h with ⟨hcs, hx⟩ | ⟨a, len, cap', m, n', D, Pl, hcs, _, hl, hm, hmm, hx, hi⟩
  · simp at hcs
    exact ⟨none, 0, [], hcs, SRw.none _ _, by simp, by simp⟩
  · simp at hcs
    subst hcs
    simp only [if_true] at hmm
    subst hmm
    rw [Tryz.cellsStr] at hx hi
    simp only [Prod.mk.injEq] at hx
    obtain ⟨rfl, rfl⟩ := hx
    obtain ⟨f, hfe⟩ := choose_allC (P := fun i (e : ByteArray) => W.cells? 0 (a.add (i * 1)) 1 = some [.string e] ∧ D i = .lit (.string e.data.toList)) (n := len) ⟨#[]⟩ (fun i hil => by
      obtain ⟨cs', h1, h2⟩ := hi i (by omega)
      obtain ⟨e, he, hd, _⟩ := DataW.trod_string Tryz.underlying9 h2
      refine ⟨e, by rw [h1, he], ?_⟩
      have := congrArg Prod.fst hd
      exact this)
    have hlen : ((List.range len).map fun i => (f i).data.toList).length = len := by simp
    refine ⟨some a, m, (List.range len).map fun i => (f i).data.toList, by rw [hlen], ?_, ?_, ?_⟩
    · intro k hk
      rw [hlen] at hk
      obtain ⟨g, o, spot⟩ := a
      have hspot : spot = none := by
        obtain ⟨_, _, hc0⟩ := World.cells?_some (hfe 0 (by omega)).1
        have := World.cell?_spot (hc0 0 (by decide))
        simpa [Addr.add] using this
      subst hspot
      obtain ⟨_, _, hc⟩ := World.cells?_some (hfe k hk).1
      have h0 := hc 0 (by decide)
      rw [Addr.add_lit, Addr.add_lit] at h0
      refine ⟨g, o, rfl, hlt (.cell g o) (List.mem_append.2 (.inl (MemPlace.mem_row.2 ⟨0, by omega, by simp⟩))), ?_⟩
      simp only [List.getElem_map, List.getElem_range]
      rw [Nat.mul_one, Nat.add_zero] at h0
      exact h0
    · intro y hy
      simp only [List.mem_map, List.mem_range] at hy
      obtain ⟨i, hil, rfl⟩ := hy
      have hin : (f i).size ≤ reachBytes := hw _ (by
        rw [DataW.weights, Tryz.underlying22]
        refine List.mem_cons_of_mem _ (List.mem_append.2 (.inl (weights_allC (List.mem_map.2 ⟨i, List.mem_range.2 hil, rfl⟩) _ ?_)))
        rw [(hfe i hil).2]
        simp [DataW.weights])
      rw [list_len]
      unfold reachBytes at hin
      omega
    · rw [hlen]
      have := hw ((((List.range len).map D).length + ((List.range (m - len)).map fun j => D (len + j)).length) * Tryz.prog.bytesOf 9) (by rw [DataW.weights, Tryz.underlying22]; simp)
      rw [Tryz.bytesStr] at this
      simp only [List.length_map, List.length_range, reachBytes] at this
      omega
end
theorem pn_weights {H : Type} (p : Pn) : p.n.size ∈ (p.data : DataW H).weights Tryz.prog 24 ∧ p.m.size ∈ (p.data : DataW H).weights Tryz.prog 24 := by
  simp [Pn.data, DataW.weights, DataW.weightsEach, Tryz.underlying24]
theorem cm_arg {H : Type} {enc : TypeId × Value → H} {W : World} {base : Nat} {v : Value} {d : DataW H} {q : List MemPlace} (hok : Value.okWide Tryz.prog W .any base 26 v)
    (h : DataW.Trod enc Tryz.prog W 0 (fun _ => true) true 26 v d q) (hlt : ∀ x ∈ q, x.block < W.heap.size) (hw : ∀ n ∈ d.weights Tryz.prog 26, n ≤ reachBytes) :
    ∃ (a : Option Addr) (cap N : Nat) (c : Cm), v = .agg #[.string c.t, .slice a N cap, .string c.a.n, .string c.a.m, .int .i64 c.a.t, .int .i64 c.a.z, .string c.c.n, .string c.c.m, .int .i64 c.c.t, .int .i64 c.c.z, .string c.x] ∧ N = c.ps.length ∧ SRw W a c.ps ∧ (∀ y ∈ c.ps, y.length ≤ 140737488355328) ∧ N ≤ 140737488355328 ∧
      (c.t.size ≤ 140737488355328 ∧ c.a.n.size ≤ 140737488355328 ∧ c.a.m.size ≤ 140737488355328 ∧ c.c.n.size ≤ 140737488355328 ∧ c.c.m.size ≤ 140737488355328) ∧ c.x.size ≤ 140737488355328 := by
  obtain ⟨cs, rfl, hsz⟩ := okWide_struct Tryz.underlying26 hok
  rw [Tryz.cellsCm] at hsz
  obtain ⟨fuel, hf⟩ := h
  obtain ⟨xs, n, _, hx, hcs, hlen, hf⟩ := DataW.trod_struct Tryz.underlying26 hf
  have hl : xs.length = 5 := hlen
  obtain ⟨l, hL⟩ : ∃ l, l = cs.toList := ⟨_, rfl⟩
  have hll : l.length = 11 := by rw [hL]; simpa using hsz
  have hcl : cs = l.toArray := by rw [hL]
  have hce : (Value.agg cs).cells.toList = l := by rw [hL]; rfl
  rw [hce] at hf
  clear hce hL hcs
  match l, hll, xs, hl with
  | [c0, c1, c2, c3, c4, c5, c6, c7, c8, c9, c10], _, [x0, x1, x2, x3, x4], _ =>
    have h0 : DataW.trod enc Tryz.prog W 0 (fun _ => true) true n 9 (List.take (Tryz.prog.cellsOf 9) (List.drop 0 [c0, c1, c2, c3, c4, c5, c6, c7, c8, c9, c10])) = some x0 := hf 0 _ rfl
    have h1 : DataW.trod enc Tryz.prog W 0 (fun _ => true) true n 22 (List.take (Tryz.prog.cellsOf 22) (List.drop 1 [c0, c1, c2, c3, c4, c5, c6, c7, c8, c9, c10])) = some x1 := hf 1 _ rfl
    have h2 : DataW.trod enc Tryz.prog W 0 (fun _ => true) true n 24 (List.take (Tryz.prog.cellsOf 24) (List.drop 2 [c0, c1, c2, c3, c4, c5, c6, c7, c8, c9, c10])) = some x2 := hf 2 _ rfl
    have h3 : DataW.trod enc Tryz.prog W 0 (fun _ => true) true n 24 (List.take (Tryz.prog.cellsOf 24) (List.drop 6 [c0, c1, c2, c3, c4, c5, c6, c7, c8, c9, c10])) = some x3 := hf 3 _ rfl
    have h4 : DataW.trod enc Tryz.prog W 0 (fun _ => true) true n 9 (List.take (Tryz.prog.cellsOf 9) (List.drop 10 [c0, c1, c2, c3, c4, c5, c6, c7, c8, c9, c10])) = some x4 := hf 4 _ rfl
    rw [Tryz.cellsStr] at h0 h4
    rw [Tryz.cellsSl] at h1
    rw [Tryz.cellsPn] at h2 h3
    simp only [Prod.mk.injEq] at hx
    obtain ⟨rfl, rfl⟩ := hx
    obtain ⟨z0, e0, rfl, _⟩ := DataW.trod_string Tryz.underlying9 h0
    obtain ⟨z4, e4, rfl, _⟩ := DataW.trod_string Tryz.underlying9 h4
    obtain ⟨p2, e2, g2⟩ := pn_of h2
    obtain ⟨p3, e3, g3⟩ := pn_of h3
    have hwa : ∀ n ∈ x1.1.weights Tryz.prog 22, n ≤ reachBytes := fun n hn => hw n (by simp [DataW.weights, DataW.weightsEach, Tryz.underlying26, hn])
    obtain ⟨a, cap, ls, e1, r1, r2, r3⟩ := strs_of (c := c1) (by simpa using h1) (fun y hy => hlt y (by simp [hy])) hwa
    have w0 := hw z0.size (by simp [DataW.weights, DataW.weightsEach, Tryz.underlying26])
    have w4 := hw z4.size (by simp [DataW.weights, DataW.weightsEach, Tryz.underlying26])
    have q2 := pn_weights (H := H) p2
    have q3 := pn_weights (H := H) p3
    rw [← g2] at q2
    rw [← g3] at q3
    have w2 := hw p2.n.size (by simp [DataW.weights, DataW.weightsEach, Tryz.underlying26, q2.1])
    have w2' := hw p2.m.size (by simp [DataW.weights, DataW.weightsEach, Tryz.underlying26, q2.2])
    have w3 := hw p3.n.size (by simp [DataW.weights, DataW.weightsEach, Tryz.underlying26, q3.1])
    have w3' := hw p3.m.size (by simp [DataW.weights, DataW.weightsEach, Tryz.underlying26, q3.2])
    unfold reachBytes at w0 w4 w2 w2' w3 w3'
    simp at e0 e4 e2 e3
    obtain ⟨rfl, rfl, rfl, rfl⟩ := e2
    obtain ⟨rfl, rfl, rfl, rfl⟩ := e3
    subst e0 e4 e1
    exact ⟨a, cap, ls.length, ⟨z0, ls, p2, p3, z4⟩, hcl ▸ rfl, rfl, r1, r2, r3, ⟨by simp only; omega, by simp only; omega, by simp only; omega, by simp only; omega, by simp only; omega⟩, by simp only; omega⟩
theorem tg_arg {H : Type} {enc : TypeId × Value → H} {W : World} {base : Nat} {v : Value} {d : DataW H} {q : List MemPlace} (hok : Value.okWide Tryz.prog W .any base 37 v)
    (h : DataW.Trod enc Tryz.prog W 0 (fun _ => true) true 37 v d q) (hw : ∀ n ∈ d.weights Tryz.prog 37, n ≤ reachBytes) :
    ∃ (g : Tg), v = .agg #[.string g.o, .int .i64 g.k, .string g.n, .string g.g.n, .string g.g.m, .int .i64 g.g.t, .int .i64 g.g.z, .string g.x] ∧
      (g.o.size ≤ 140737488355328 ∧ g.n.size ≤ 140737488355328 ∧ g.g.n.size ≤ 140737488355328 ∧ g.g.m.size ≤ 140737488355328) ∧ g.x.size ≤ 140737488355328 := by
  obtain ⟨cs, rfl, hsz⟩ := okWide_struct Tryz.underlying37 hok
  rw [Tryz.cellsTg] at hsz
  obtain ⟨fuel, hf⟩ := h
  obtain ⟨xs, n, _, hx, hcs, hlen, hf⟩ := DataW.trod_struct Tryz.underlying37 hf
  have hl : xs.length = 5 := hlen
  obtain ⟨l, hL⟩ : ∃ l, l = cs.toList := ⟨_, rfl⟩
  have hll : l.length = 8 := by rw [hL]; simpa using hsz
  have hcl : cs = l.toArray := by rw [hL]
  have hce : (Value.agg cs).cells.toList = l := by rw [hL]; rfl
  rw [hce] at hf
  clear hce hL hcs
  match l, hll, xs, hl with
  | [c0, c1, c2, c3, c4, c5, c6, c7], _, [x0, x1, x2, x3, x4], _ =>
    have h0 : DataW.trod enc Tryz.prog W 0 (fun _ => true) true n 9 (List.take (Tryz.prog.cellsOf 9) (List.drop 0 [c0, c1, c2, c3, c4, c5, c6, c7])) = some x0 := hf 0 _ rfl
    have h1 : DataW.trod enc Tryz.prog W 0 (fun _ => true) true n 3 (List.take (Tryz.prog.cellsOf 3) (List.drop 1 [c0, c1, c2, c3, c4, c5, c6, c7])) = some x1 := hf 1 _ rfl
    have h2 : DataW.trod enc Tryz.prog W 0 (fun _ => true) true n 9 (List.take (Tryz.prog.cellsOf 9) (List.drop 2 [c0, c1, c2, c3, c4, c5, c6, c7])) = some x2 := hf 2 _ rfl
    have h3 : DataW.trod enc Tryz.prog W 0 (fun _ => true) true n 24 (List.take (Tryz.prog.cellsOf 24) (List.drop 3 [c0, c1, c2, c3, c4, c5, c6, c7])) = some x3 := hf 3 _ rfl
    have h4 : DataW.trod enc Tryz.prog W 0 (fun _ => true) true n 9 (List.take (Tryz.prog.cellsOf 9) (List.drop 7 [c0, c1, c2, c3, c4, c5, c6, c7])) = some x4 := hf 4 _ rfl
    rw [Tryz.cellsStr] at h0 h2 h4
    rw [Tryz.cellsI] at h1
    rw [Tryz.cellsPn] at h3
    simp only [Prod.mk.injEq] at hx
    obtain ⟨rfl, rfl⟩ := hx
    obtain ⟨z0, e0, rfl, _⟩ := DataW.trod_string Tryz.underlying9 h0
    obtain ⟨z1, e1, rfl, _⟩ := DataW.trod_int Tryz.underlying3 h1
    obtain ⟨z2, e2, rfl, _⟩ := DataW.trod_string Tryz.underlying9 h2
    obtain ⟨z4, e4, rfl, _⟩ := DataW.trod_string Tryz.underlying9 h4
    obtain ⟨p3, e3, g3⟩ := pn_of h3
    have w0 := hw z0.size (by simp [DataW.weights, DataW.weightsEach, Tryz.underlying37])
    have w2 := hw z2.size (by simp [DataW.weights, DataW.weightsEach, Tryz.underlying37])
    have w4 := hw z4.size (by simp [DataW.weights, DataW.weightsEach, Tryz.underlying37])
    have q3 := pn_weights (H := H) p3
    rw [← g3] at q3
    have w3 := hw p3.n.size (by simp [DataW.weights, DataW.weightsEach, Tryz.underlying37, q3.1])
    have w3' := hw p3.m.size (by simp [DataW.weights, DataW.weightsEach, Tryz.underlying37, q3.2])
    unfold reachBytes at w0 w2 w4 w3 w3'
    simp at e0 e1 e2 e4 e3
    obtain ⟨rfl, rfl, rfl, rfl⟩ := e3
    subst e0 e1 e2 e4
    exact ⟨⟨z0, z1, z2, p3, z4⟩, hcl ▸ rfl, ⟨by simp only; omega, by simp only; omega, by simp only; omega, by simp only; omega⟩, by simp only; omega⟩
theorem pn_arg {H : Type} {enc : TypeId × Value → H} {W : World} {base : Nat} {v : Value} {d : DataW H} {q : List MemPlace} (hok : Value.okWide Tryz.prog W .any base 24 v)
    (h : DataW.Trod enc Tryz.prog W 0 (fun _ => true) true 24 v d q) (hw : ∀ n ∈ d.weights Tryz.prog 24, n ≤ reachBytes) :
    ∃ (p : Pn), v = .agg #[.string p.n, .string p.m, .int .i64 p.t, .int .i64 p.z] ∧ p.n.size ≤ 140737488355328 ∧ p.m.size ≤ 140737488355328 := by
  obtain ⟨cs, rfl, hsz⟩ := okWide_struct Tryz.underlying24 hok
  obtain ⟨fuel, hf⟩ := h
  obtain ⟨p, e, g⟩ := pn_of hf
  have q3 := pn_weights (H := H) p
  simp only at g
  rw [← g] at q3
  have w3 := hw _ q3.1
  have w3' := hw _ q3.2
  unfold reachBytes at w3 w3'
  have hc : cs = #[.string p.n, .string p.m, .int .i64 p.t, .int .i64 p.z] := by
    have h2 : cs.toList = [.string p.n, .string p.m, .int .i64 p.t, .int .i64 p.z] := e
    rw [← Array.toList_inj, h2]
  exact ⟨p, by rw [hc], by omega, by omega⟩
end Go.Proofs.YtddmnibioacelaaGreatDoor
/-
  The laws' own check of a few fixed examples.
-/
namespace Go.Proofs.YtddmnibioacelaaGreatDoor
open Go Go.RowKit Go.Maps Go.WideMaps

theorem bytesE_small {k : Int} {l : List UInt8} (h1 : 1 ≤ k) (h4 : k ≤ 4) (hl : l.length ≤ 1048576) : bytesE k l = 0 := by
  refine bytesE_ok (fun e => ?_) (by omega)
  rw [wordL_nil] at e
  exact e ⟨h1, h4⟩
theorem lnk_enc {c : Cm} (h : chkC c = 0) (hl : (encC c).length ≤ 1048576) : lnkL 3 (encC c) = (0, disL (c.t.data.toList :: c.ps)) := by
  rw [lnkL_3 (bytesE_small (by decide) (by decide) hl), cmL, parC_enc h]
  rfl
theorem lnk_tag {g : Tg} (h : chkG g = 0) (hl : (encG g).length ≤ 1048576) : lnkL 4 (encG g) = (0, [g.o.data.toList]) := by
  rw [lnkL_4 (bytesE_small (by decide) (by decide) hl), tgL, parG_enc h]
  rfl
/-- The examples. -/
def cmX : Cm := ⟨⟨#[48, 49, 50, 51, 52, 53, 54, 55, 56, 57, 97, 98, 99, 100, 101, 102, 48, 49, 50, 51, 52, 53, 54, 55, 56, 57, 97, 98, 99, 100, 101, 102, 48, 49, 50, 51, 52, 53, 54, 55]⟩, [], ⟨⟨#[97]⟩, ⟨#[97, 64, 98]⟩, 5, 60⟩, ⟨⟨#[97]⟩, ⟨#[97, 64, 98]⟩, 5, 60⟩, ⟨#[120, 10]⟩⟩
def tgX : Tg := ⟨⟨#[48, 49, 50, 51, 52, 53, 54, 55, 56, 57, 97, 98, 99, 100, 101, 102, 48, 49, 50, 51, 52, 53, 54, 55, 56, 57, 97, 98, 99, 100, 101, 102, 48, 49, 50, 51, 52, 53, 54, 55]⟩, 5, ⟨#[118]⟩, ⟨⟨#[97]⟩, ⟨#[97, 64, 98]⟩, 5, 60⟩, ⟨#[]⟩⟩
theorem lv1 : (whoR [97, 32, 60, 97, 64, 98, 62, 32, 53, 32, 45, 48, 49, 51, 48]).1 = 0 ∧ (whoR [97, 32, 60, 97, 64, 98, 62, 32, 53, 32, 45, 48, 49, 51, 48]).2.z = -90 := by decide +kernel
theorem lv2 : (whoR [97, 32, 60, 98, 62, 32, 48, 53, 32, 43, 48, 48, 48, 48]).1 = 2 := by decide +kernel
theorem lv3 : chkC cmX = 0 := by decide +kernel
theorem lv4 : encC cmX = [116, 114, 101, 101, 32, 48, 49, 50, 51, 52, 53, 54, 55, 56, 57, 97, 98, 99, 100, 101, 102, 48, 49, 50, 51, 52, 53, 54, 55, 56, 57, 97, 98, 99, 100, 101, 102, 48, 49, 50, 51, 52, 53, 54, 55, 10, 97, 117, 116, 104, 111, 114, 32, 97, 32, 60, 97, 64, 98, 62, 32, 53, 32, 43, 48, 49, 48, 48, 10, 99, 111, 109, 109, 105, 116, 116, 101, 114, 32, 97, 32, 60, 97, 64, 98, 62, 32, 53, 32, 43, 48, 49, 48, 48, 10, 10, 120, 10] := by decide +kernel
theorem lv5 : chkG tgX = 1 := by decide +kernel
theorem lv6 : (whoL ⟨⟨#[97]⟩, ⟨#[97, 64, 98]⟩, 5, 60⟩).data.toList = [97, 32, 60, 97, 64, 98, 62, 32, 53, 32, 43, 48, 49, 48, 48] := by decide +kernel
theorem lv7 : (lnkL 3 [120]).1 = 2 := by decide +kernel

set_option maxHeartbeats 1000000 in
theorem lwho_any (w : World) : Calls Tryz.prog 33 #[] w fun e w' => e = .returned (.agg #[.string ⟨#[97]⟩, .string ⟨#[97, 64, 98]⟩, .int .i64 5, .int .i64 60]) ∧ Below w.heap.size w w' := by
  obtain ⟨w1, hw1⟩ : ∃ w1, w1 = w.alloc (.cells #[.string ⟨#[]⟩, .string ⟨#[]⟩, .int .i64 0, .int .i64 0] 24) := ⟨_, rfl⟩
  have hx := heap_alloc_new w (.cells #[.string ⟨#[]⟩, .string ⟨#[]⟩, .int .i64 0, .int .i64 0] 24)
  rw [← hw1] at hx
  have hbx : Below w.heap.size w w1 := by rw [hw1]; exact below_new (Below.refl _ _) _
  have HW1 := Lib.hid hw1
  have HX := Lib.hid hx
  have HBX := Lib.hid hbx
  obtain ⟨y0, y1, y2, y3, z0, z1, z2, z3⟩ := pn_end hx
  clear hw1 hx hbx
  go_enter Tryz.func33, Tryz.ntmps33
  go_upto_region 1 with fail
  rw [← HW1.out]
  go_wp2
  obtain ⟨d0, d1, d2, d3, _⟩ := pn_end (pn_row (v0 := .string ⟨#[97]⟩) (v1 := .string ⟨#[97, 64, 98]⟩) (v2 := .int .i64 5) (v3 := .int .i64 60) HX.out)
  refine bodyPost_ret (v := .agg #[.string ⟨#[97]⟩, .string ⟨#[97, 64, 98]⟩, .int .i64 5, .int .i64 60]) (by simp [results, Tryz.results33, go_sem, d0, d1, d2, d3]) rfl ⟨rfl, set4_below HBX.out (Nat.le_refl _)⟩

set_option maxHeartbeats 8000000 in
set_option maxRecDepth 8000 in
theorem clives_any (w : World) (hT : StrTab w) (hO : WoTab w) (hR : TrTab w) : Calls Tryz.prog 9 #[] w fun e w' => e = .returned (.bool true) ∧ Below w.heap.size w w' := by
  obtain ⟨⟨c1, ⟨n1, m1, t1, z1⟩⟩, hq1⟩ : ∃ q, q = whoR [97, 32, 60, 97, 64, 98, 62, 32, 53, 32, 45, 48, 49, 51, 48] := ⟨_, rfl⟩
  obtain ⟨⟨c2, ⟨n2, m2, t2, z2⟩⟩, hq2⟩ : ∃ q, q = whoR [97, 32, 60, 98, 62, 32, 48, 53, 32, 43, 48, 48, 48, 48] := ⟨_, rfl⟩
  have e1 := lv1
  have e2 := lv2
  rw [← hq1] at e1
  rw [← hq2] at e2
  simp only at e1 e2
  obtain ⟨rfl, rfl⟩ := e1
  subst e2
  have P1 : Hid (Calls Tryz.prog 23 #[.string ⟨#[97, 32, 60, 97, 64, 98, 62, 32, 53, 32, 45, 48, 49, 51, 48]⟩] w fun e w'' => e = .returned (.tuple #[.agg #[.string n1, .string m1, .int .i64 t1, .int .i64 (-90)], .int .i64 0]) ∧ Below w.heap.size w w'') :=
    (who_any _ w hT (by decide)).mono fun e w'' ⟨he, hw⟩ => ⟨by rw [he, show (⟨#[97, 32, 60, 97, 64, 98, 62, 32, 53, 32, 45, 48, 49, 51, 48]⟩ : ByteArray).data.toList = [97, 32, 60, 97, 64, 98, 62, 32, 53, 32, 45, 48, 49, 51, 48] from rfl, ← hq1]; rfl, hw⟩
  have P2 : Hid (∀ w', Below w.heap.size w w' → Calls Tryz.prog 23 #[.string ⟨#[97, 32, 60, 98, 62, 32, 48, 53, 32, 43, 48, 48, 48, 48]⟩] w' fun e w'' => e = .returned (.tuple #[.agg #[.string n2, .string m2, .int .i64 t2, .int .i64 z2], .int .i64 2]) ∧ Below w.heap.size w w'' ∧ Below w'.heap.size w' w'') := fun w' hb =>
    (who_any _ w' (hT.below hb) (by decide)).mono fun e w'' ⟨he, hw⟩ => ⟨by rw [he, show (⟨#[97, 32, 60, 98, 62, 32, 48, 53, 32, 43, 48, 48, 48, 48]⟩ : ByteArray).data.toList = [97, 32, 60, 98, 62, 32, 48, 53, 32, 43, 48, 48, 48, 48] from rfl, ← hq2]; rfl, hb.trans (hw.mono hb.size), hw⟩
  obtain ⟨BD, hBD⟩ : ∃ BD, BD = str (encC cmX) := ⟨_, rfl⟩
  have hBD2 : BD = ⟨#[116, 114, 101, 101, 32, 48, 49, 50, 51, 52, 53, 54, 55, 56, 57, 97, 98, 99, 100, 101, 102, 48, 49, 50, 51, 52, 53, 54, 55, 56, 57, 97, 98, 99, 100, 101, 102, 48, 49, 50, 51, 52, 53, 54, 55, 10, 97, 117, 116, 104, 111, 114, 32, 97, 32, 60, 97, 64, 98, 62, 32, 53, 32, 43, 48, 49, 48, 48, 10, 99, 111, 109, 109, 105, 116, 116, 101, 114, 32, 97, 32, 60, 97, 64, 98, 62, 32, 53, 32, 43, 48, 49, 48, 48, 10, 10, 120, 10]⟩ := by rw [hBD, lv4]; rfl
  have P3 : Hid (∀ w', Below w.heap.size w w' → Calls Tryz.prog 33 #[] w' fun e w'' => e = .returned (.agg #[.string ⟨#[97]⟩, .string ⟨#[97, 64, 98]⟩, .int .i64 5, .int .i64 60]) ∧ Below w.heap.size w w'' ∧ Below w'.heap.size w' w'') := fun w' hb =>
    (lwho_any w').mono fun e w'' ⟨he, hw⟩ => ⟨he, hb.trans (hw.mono hb.size), hw⟩
  have P4 : Hid (∀ w', Below w.heap.size w w' → Calls Tryz.prog 10 #[.agg #[.string ⟨#[48, 49, 50, 51, 52, 53, 54, 55, 56, 57, 97, 98, 99, 100, 101, 102, 48, 49, 50, 51, 52, 53, 54, 55, 56, 57, 97, 98, 99, 100, 101, 102, 48, 49, 50, 51, 52, 53, 54, 55]⟩, .slice none 0 0, .string ⟨#[97]⟩, .string ⟨#[97, 64, 98]⟩, .int .i64 5, .int .i64 60, .string ⟨#[97]⟩, .string ⟨#[97, 64, 98]⟩, .int .i64 5, .int .i64 60, .string ⟨#[120, 10]⟩]] w' fun e w'' => e = .returned (.tuple #[.string BD, .int .i64 0]) ∧ Below w.heap.size w w'' ∧ Below w'.heap.size w' w'') := fun w' hb =>
    (cbody_any cmX none 0 0 w' (hT.below hb) rfl (SRw.none _ _) (fun y hy => absurd hy (by simp [cmX])) (by decide) (by decide)).mono fun e w'' ⟨he, hw⟩ => ⟨by rw [he, bodyC, if_pos lv3, lv3, hBD]; rfl, hb.trans (hw.mono hb.size), hw⟩
  have hBl : (encC cmX).length ≤ 1000000 := by rw [lv4]; decide
  have P5 : Hid (∀ w', Below w.heap.size w w' → Calls Tryz.prog 28 #[.agg #[.int .i64 3, .string BD]] w' fun e w'' => (∃ p c, e = .returned (.tuple #[.slice p 1 c, .int .i64 0]) ∧ SRw w'' p [[48, 49, 50, 51, 52, 53, 54, 55, 56, 57, 97, 98, 99, 100, 101, 102, 48, 49, 50, 51, 52, 53, 54, 55, 56, 57, 97, 98, 99, 100, 101, 102, 48, 49, 50, 51, 52, 53, 54, 55]]) ∧ Below w.heap.size w w'' ∧ Below w'.heap.size w' w'') := fun w' hb =>
    (links_any 3 BD w' (hT.below hb) (hO.below hb) (hR.below hb) (by rw [hBD, str_size]; omega) (fun _ => by rw [hBD, str_size]; exact hBl)).mono fun e w'' ⟨⟨v, he, hv⟩, hw⟩ => by
      rw [hBD, str_list, lnk_enc lv3 (by omega)] at he hv
      obtain ⟨p, c, rfl, hr⟩ := hv.rw
      exact ⟨⟨p, c, by rw [he]; rfl, hr⟩, hb.trans (hw.mono hb.size), hw⟩
  have P6 : Hid (∀ w', Below w.heap.size w w' → Calls Tryz.prog 19 #[.agg #[.string ⟨#[48, 49, 50, 51, 52, 53, 54, 55, 56, 57, 97, 98, 99, 100, 101, 102, 48, 49, 50, 51, 52, 53, 54, 55, 56, 57, 97, 98, 99, 100, 101, 102, 48, 49, 50, 51, 52, 53, 54, 55]⟩, .int .i64 5, .string ⟨#[118]⟩, .string ⟨#[97]⟩, .string ⟨#[97, 64, 98]⟩, .int .i64 5, .int .i64 60, .string ⟨#[]⟩]] w' fun e w'' => e = .returned (.tuple #[.string ⟨#[]⟩, .int .i64 1]) ∧ Below w.heap.size w w'' ∧ Below w'.heap.size w' w'') := fun w' hb =>
    (gbody_any tgX w' (hT.below hb) (hO.below hb) (by decide)).mono fun e w'' ⟨he, hw⟩ => ⟨by rw [he, bodyG, if_neg (by rw [lv5]; decide), lv5]; rfl, hb.trans (hw.mono hb.size), hw⟩
  have P7 : Hid (∀ w', Below w.heap.size w w' → Calls Tryz.prog 25 #[.agg #[.string ⟨#[97]⟩, .string ⟨#[97, 64, 98]⟩, .int .i64 5, .int .i64 60]] w' fun e w'' => e = .returned (.string ⟨#[97, 32, 60, 97, 64, 98, 62, 32, 53, 32, 43, 48, 49, 48, 48]⟩) ∧ Below w.heap.size w w'' ∧ Below w'.heap.size w' w'') := fun w' hb =>
    (fmt_any ⟨⟨#[97]⟩, ⟨#[97, 64, 98]⟩, 5, 60⟩ w' (hT.below hb) (by decide) (by decide) (by decide) (by decide) (by decide)).mono fun e w'' ⟨he, hw⟩ => ⟨by rw [he, show whoL ⟨⟨#[97]⟩, ⟨#[97, 64, 98]⟩, 5, 60⟩ = ⟨#[97, 32, 60, 97, 64, 98, 62, 32, 53, 32, 43, 48, 49, 48, 48]⟩ from ba_ext lv6], hb.trans (hw.mono hb.size), hw⟩
  have P8 : Hid (∀ w', Below w.heap.size w w' → Calls Tryz.prog 30 #[.agg #[.int .i64 3, .string ⟨#[120]⟩]] w' fun e w'' => e = .returned (.int .i64 2) ∧ Below w.heap.size w w'' ∧ Below w'.heap.size w' w'') := fun w' hb =>
    (whole_any 3 ⟨#[120]⟩ w' (hT.below hb) (hO.below hb) (hR.below hb) (by decide) (fun _ => by decide)).mono fun e w'' ⟨he, hw⟩ => ⟨by rw [he, show (⟨#[120]⟩ : ByteArray).data.toList = [120] from rfl, lv7]; rfl, hb.trans (hw.mono hb.size), hw⟩
  have HBD := Lib.hid hBD2
  have hself : BD.toList = [116, 114, 101, 101, 32, 48, 49, 50, 51, 52, 53, 54, 55, 56, 57, 97, 98, 99, 100, 101, 102, 48, 49, 50, 51, 52, 53, 54, 55, 56, 57, 97, 98, 99, 100, 101, 102, 48, 49, 50, 51, 52, 53, 54, 55, 10, 97, 117, 116, 104, 111, 114, 32, 97, 32, 60, 97, 64, 98, 62, 32, 53, 32, 43, 48, 49, 48, 48, 10, 99, 111, 109, 109, 105, 116, 116, 101, 114, 32, 97, 32, 60, 97, 64, 98, 62, 32, 53, 32, 43, 48, 49, 48, 48, 10, 10, 120, 10] := by rw [hBD2, ByteArray.toList_eq]
  clear hq1 hq2 hBD hBD2 hBl hT hO hR
  go_enter Tryz.func9, Tryz.ntmps9
  go_upto_region 2 with (go_at_call 23; ((with_reducible refine (P1.out).mono ?_); rintro e wa ⟨rfl, hba⟩))
  obtain ⟨E, hE⟩ : ∃ E, E = wa.heap.size := ⟨_, rfl⟩
  obtain ⟨w1, hw1⟩ : ∃ w1, w1 = wa.alloc (.cells #[.string n1, .string m1, .int .i64 t1, .int .i64 (-90)] 24) := ⟨_, rfl⟩
  have hr1 : w1.heap[E]? = some (.cells #[.string n1, .string m1, .int .i64 t1, .int .i64 (-90)] 24 (0, 0)) := by rw [hw1, hE]; exact heap_alloc_new _ _
  have hb1 : Below w.heap.size w w1 := hba.trans (by rw [hw1]; exact (below_new (Below.refl _ _) _).mono hba.size)
  rw [← hw1, ← hE]
  have HR1 := Lib.hid hr1
  clear hE hw1 hr1 hba P1
  go_upto_region 3 with (go_at_call 23; ((with_reducible refine (P2.out _ hb1).mono ?_); rintro e wa ⟨rfl, hba, hca⟩))
  obtain ⟨w2, hw2⟩ : ∃ w2, w2 = wa.alloc (.cells #[.string n2, .string m2, .int .i64 t2, .int .i64 z2] 24) := ⟨_, rfl⟩
  have hb2 : Below w.heap.size w w2 := hba.trans (by rw [hw2]; exact (below_new (Below.refl _ _) _).mono hba.size)
  have hb12 : Below w1.heap.size w1 w2 := hca.trans (by rw [hw2]; exact (below_new (Below.refl _ _) _).mono hca.size)
  rw [← hw2]
  have hr2 := (hb12.block _ (row_lt HR1.out)).trans HR1.out
  have HR2 := Lib.hid hr2
  clear hw2 hba hca P2 hr2 hb12 HR1
  go_upto_region 4 with (first
    | (go_at_call 33; first
      | ((with_reducible refine (P3.out _ hb2).mono ?_); rintro e w3 ⟨rfl, hb3, hc3⟩)
      | ((with_reducible refine (P3.out _ hb3).mono ?_); rintro e w4 ⟨rfl, hb4, hc4⟩))
    | (go_at_call 10; ((with_reducible refine (P4.out _ hb4).mono ?_); rintro e w5 ⟨rfl, hb5, hc5⟩)))
  have hr5 : w5.heap[E]? = some (.cells #[.string n1, .string m1, .int .i64 t1, .int .i64 (-90)] 24 (0, 0)) := (hc5.block _ (Nat.lt_of_lt_of_le (row_lt HR2.out) (Nat.le_trans hc3.size hc4.size))).trans ((hc4.block _ (Nat.lt_of_lt_of_le (row_lt HR2.out) hc3.size)).trans ((hc3.block _ (row_lt HR2.out)).trans HR2.out))
  have HR5 := Lib.hid hr5
  clear P4 hr5 HR2 hb2 hb3 hb4 hc3 hc4 hc5
  go_upto_region 5 with (go_at_call 28; ((with_reducible refine (P5.out _ hb5).mono ?_); rintro e w6 ⟨⟨p, c, rfl, hr6⟩, hb6, hc6⟩))
  obtain ⟨g, o, rfl, hg6, x6⟩ := hr6 0 (by decide)
  have hr7 : w6.heap[E]? = some (.cells #[.string n1, .string m1, .int .i64 t1, .int .i64 (-90)] 24 (0, 0)) := (hc6.block _ (row_lt HR5.out)).trans HR5.out
  have y6 : w6.cell? ⟨E, 3, none⟩ = some (.int .i64 (-90)) := cell_of_row _ _ 3 _ _ _ hr7
  have x6 : w6.cell? ⟨g, o, none⟩ = some (.string ⟨#[48, 49, 50, 51, 52, 53, 54, 55, 56, 57, 97, 98, 99, 100, 101, 102, 48, 49, 50, 51, 52, 53, 54, 55, 56, 57, 97, 98, 99, 100, 101, 102, 48, 49, 50, 51, 52, 53, 54, 55]⟩) := x6
  clear hr6 hr7 hc6 HR5 P5
  go_upto_region 6 with (first
    | (go_at_call 33; ((with_reducible refine (P3.out _ hb6).mono ?_); rintro e w7 ⟨rfl, hb7, hc7⟩; have y7 := cell_bel y6 hc7; have x7 := cell_bel x6 hc7))
    | (go_at_call 19; ((with_reducible refine (P6.out _ hb7).mono ?_); rintro e w8 ⟨rfl, hb8, hc8⟩; have y8 := cell_bel y7 hc8; have x8 := cell_bel x7 hc8)))
  clear y6 x6 y7 x7 hc7 hc8 hb5 hb6 hb7 hb1
  go_wp2_with (first
    | (go_at_call 33; ((with_reducible refine (P3.out _ hb8).mono ?_); rintro e w9 ⟨rfl, hb9, hc9⟩; have y9 := cell_bel y8 hc9; have x9 := cell_bel x8 hc9))
    | (go_at_call 25; ((with_reducible refine (P7.out _ hb9).mono ?_); rintro e wc ⟨rfl, hbc, hcc⟩; have yc := cell_bel y9 hcc; have xc := cell_bel x9 hcc))
    | (go_at_call 30; ((with_reducible refine (P8.out _ hbc).mono ?_); rintro e wd ⟨rfl, hbd, hcd⟩)))
  go_ret
  exact ⟨rfl, hbd⟩
end Go.Proofs.YtddmnibioacelaaGreatDoor
