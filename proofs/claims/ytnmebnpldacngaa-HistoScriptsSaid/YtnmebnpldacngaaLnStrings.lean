/-
  A slice of strings that is handed in: its strings as they are read, and how many and how long they may be.
-/
import Derived.Test.YtnmebnpldacngaaLawPost
import Derived.Test.YtnmebnpldacngaaRow
import Derived.SliceStrings
namespace Go.Proofs.Ytnmebnpldacngaa
open Go.ChangeShapes Go.WideShapes Go.ChangeAt Go.RowKit
open Go.WideMaps Go.WideElems

theorem Try.cellsStr : Try.prog.cellsOf 9 = 1 := by kernel_rfl
theorem Try.bytesStr : Try.prog.bytesOf 9 = 16 := by kernel_rfl
theorem weights_all {H : Type} {P : Program} {e : TypeId} {d : DataW H} : ∀ {ds : List (DataW H)}, d ∈ ds → ∀ n ∈ d.weights P e, n ∈ DataW.weightsAll P e ds
  | [], h, _, _ => absurd h (by simp)
  | a :: r, h, n, hn => by
    rw [DataW.weightsAll, List.mem_append]
    rcases List.mem_cons.1 h with rfl | h
    · exact .inl hn
    · exact .inr (weights_all h n hn)
set_option maxRecDepth 20000 in
theorem strings_arg {H : Type} {enc : TypeId × Value → H} {W : World} {base : Nat} {v : Value} {d : DataW H} {q : List MemPlace} (hok : Value.okWide Try.prog W .any base 22 v)
    (h : DataW.Trod enc Try.prog W 0 (fun _ => true) true 22 v d q) (hlt : ∀ x ∈ q, x.block < W.heap.size) (hw : ∀ n ∈ d.weights Try.prog 22, n ≤ reachBytes) :
    ∃ (a : Option Addr) (cap : Nat) (ls : List (List UInt8)), v = .slice a ls.length cap ∧ SRw W a ls ∧ ls.length ≤ 8796093022208 ∧ ∀ x ∈ ls, x.length ≤ 281474976710656 := by
  obtain ⟨a0, len, cap, rfl⟩ := okWide_slice Try.underlying22 hok
  obtain ⟨fuel, hf⟩ := h
  rcases open_strings Try.underlying22 Try.underlying9 Try.cellsStr hf with ⟨hcs, hx⟩ | ⟨a, len', cap', ss, hcs, _, hl, hm, hz, hx, hcell, hws⟩
  · simp [Value.cells] at hcs
    obtain ⟨rfl, rfl, rfl⟩ := hcs
    exact ⟨none, 0, [], rfl, SRw.none _ _, by simp, fun x hx => absurd hx (by simp)⟩
  · simp [Value.cells] at hcs
    obtain ⟨rfl, rfl, rfl⟩ := hcs
    simp only [Prod.mk.injEq] at hx
    obtain ⟨rfl, rfl⟩ := hx
    simp only [if_true] at hz
    have hlen : ((ss.take len).map (fun s : ByteArray => s.data.toList)).length = len := by simp; omega
    refine ⟨some a, cap, (ss.take len).map (fun s => s.data.toList), by rw [hlen], ?_, ?_, ?_⟩
    · intro k hk
      rw [hlen] at hk
      obtain ⟨b, off, spot⟩ := a
      have hspot : spot = none := by simpa [Addr.add] using World.cell?_spot (hcell 0 (by omega))
      subst hspot
      refine ⟨b, off, rfl, hlt (.cell b off) (MemPlace.mem_row.2 ⟨0, by omega, by simp⟩), ?_⟩
      have hc := hcell k (by omega)
      rw [Addr.add_lit] at hc
      rw [hc]
      congr 2
      simp only [List.getElem_map, List.getElem_take]
      rw [List.getD_eq_getElem?_getD, List.getElem?_eq_getElem (by omega)]
      rfl
    · rw [hlen]
      have := hw ((((Go.ChangeShapes.strs (ss.take len)) : List (DataW H)).length + ((Go.ChangeShapes.strs (ss.drop len)) : List (DataW H)).length) * Try.prog.bytesOf 9) (by rw [DataW.weights, Try.underlying22]; simp)
      rw [Try.bytesStr] at this
      simp only [Go.ChangeShapes.strs, List.length_map, List.length_take, List.length_drop, reachBytes] at this
      omega
    · intro x hx
      simp only [List.mem_map] at hx
      obtain ⟨s, hs, rfl⟩ := hx
      have := hw s.data.toList.length (by
        rw [DataW.weights, Try.underlying22]
        refine List.mem_cons_of_mem _ (List.mem_append.2 (.inl (weights_all (d := .lit (.string s.data.toList)) ?_ _ (by simp [DataW.weights]))))
        exact List.mem_map.2 ⟨s, hs, rfl⟩)
      unfold reachBytes at this
      omega
end Go.Proofs.Ytnmebnpldacngaa
