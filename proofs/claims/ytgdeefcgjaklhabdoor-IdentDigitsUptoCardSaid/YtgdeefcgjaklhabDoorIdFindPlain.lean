/-
  Plain mathematics of Find and Short.
-/
import Derived.Test.YtgdeefcgjaklhabDoorIdIs
import Derived.Lib.Strings
namespace Go.Proofs.YtgdeefcgjaklhabDoor
open Go.RowKit

/-- Cells that hold strings. -/
def SCells (w : World) (a : Addr) (L : List ByteArray) : Prop := ∀ k, k < L.length → w.cell? (a.add k) = some (.string (L.getD k ⟨#[]⟩))
theorem SCells.below {w w' : World} {a : Addr} {L : List ByteArray} {B : Nat} (h : SCells w a L) (hb : Below B w w') (ha : a.block < B) : SCells w' a L := fun k hk => by
  have e : (a.add k).block = a.block := by unfold Addr.add; split <;> rfl
  exact (hb.cell (p := a.add k) (by rw [e]; exact ha)).trans (h k hk)

def good (h s : ByteArray) : Bool := isId s && Lib.hasPrefix s.data.toList h.data.toList
/-- What the rest of a list leaves of a search, f being what has been found. -/
def findL (h : ByteArray) : List ByteArray → ByteArray → ByteArray × Nat
  | [], f => if f.toList.isEmpty = true then (⟨#[]⟩, 5) else (f, 0)
  | s :: l, f => if good h s = true ∧ s ≠ f then (if f.toList.isEmpty = true then findL h l s else (⟨#[]⟩, 401)) else findL h l f
def findS (h : ByteArray) (L : List ByteArray) : ByteArray × Nat := if h.size < 4 ∨ 40 < h.size ∨ allDig h.data.toList = false then (⟨#[]⟩, 2) else findL h L ⟨#[]⟩

theorem findL_skip {h s f : ByteArray} {l : List ByteArray} (hs : good h s = false ∨ s = f) : findL h (s :: l) f = findL h l f := by
  rw [findL, if_neg]
  rintro ⟨h1, h2⟩
  rcases hs with hs | hs
  · rw [hs] at h1; cases h1
  · exact h2 hs
theorem findL_two {h s f : ByteArray} {l : List ByteArray} (h1 : good h s = true) (h2 : s ≠ f) (h3 : f.toList.isEmpty = false) : findL h (s :: l) f = (⟨#[]⟩, 401) := by
  rw [findL, if_pos ⟨h1, h2⟩, if_neg (by rw [h3]; decide)]
theorem findL_one {h s f : ByteArray} {l : List ByteArray} (h1 : good h s = true) (h2 : s ≠ f) (h3 : f.toList.isEmpty = true) : findL h (s :: l) f = findL h l s := by
  rw [findL, if_pos ⟨h1, h2⟩, if_pos h3]
theorem findL_none {h f : ByteArray} (h3 : f.toList.isEmpty = true) : findL h [] f = (⟨#[]⟩, 5) := by rw [findL, if_pos h3]
theorem findL_end {h f : ByteArray} (h3 : f.toList.isEmpty = false) : findL h [] f = (f, 0) := by rw [findL, if_neg (by rw [h3]; decide)]
theorem findS_bad {h : ByteArray} {L : List ByteArray} (hh : h.size < 4 ∨ 40 < h.size ∨ allDig h.data.toList = false) : findS h L = (⟨#[]⟩, 2) := if_pos hh
theorem findS_ok {h : ByteArray} {L : List ByteArray} (hh : ¬ (h.size < 4 ∨ 40 < h.size ∨ allDig h.data.toList = false)) : findS h L = findL h L ⟨#[]⟩ := if_neg hh
theorem drop_at (L : List ByteArray) (k : Nat) (h : k < L.length) : L.drop k = L.getD k ⟨#[]⟩ :: L.drop (k + 1) := by
  rw [List.drop_eq_getElem_cons h, List.getD_eq_getElem?_getD, List.getElem?_eq_getElem h]; rfl
theorem ret_si {a b : ByteArray} {k : IntKind} {x y : Int} (h1 : a = b) (h2 : x = y) : Ending.returned (.tuple #[.string a, .int k x]) = .returned (.tuple #[.string b, .int k y]) := by rw [h1, h2]
theorem ba_eq (a : ByteArray) : (a.toList == a.toList) = true := by simp
theorem empty_ba {f : ByteArray} (h : f.toList.isEmpty = true) : f = ⟨#[]⟩ := by
  rw [ByteArray.toList_eq] at h
  apply ba_ext
  simpa using h
end Go.Proofs.YtgdeefcgjaklhabDoor
