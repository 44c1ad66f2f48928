/-
  A row of bytes that may be written.
-/
import Derived.Test.YtgdeefcgjaklhabDoorAid
import Derived.IntWalk
namespace Go.Proofs.YtgdeefcgjaklhabDoor
open Go.RowKit

/-- Block B holds the bytes l, and they may be written. -/
def Row (w : World) (B : Nat) (l : List UInt8) : Prop := ∀ i c, l[i]? = some c → w.cell? ⟨B, i, none⟩ = some (.int .u8 (c.toNat : Int)) ∧ w.frozen? ⟨B, i, none⟩ = false

theorem Row.set {w : World} {B : Nat} {l : List UInt8} (h : Row w B l) {i : Nat} (hi : i < l.length) (c : UInt8) : Row (w.setCell ⟨B, i, none⟩ (.int .u8 (c.toNat : Int))) B (l.set i c) := by
  intro j d hj
  rw [World.frozen?_setCell]
  by_cases e : i = j
  · subst e
    rw [List.getElem?_set_self hi] at hj
    obtain rfl := Option.some.inj hj
    have h0 := h i l[i] (List.getElem?_eq_getElem hi)
    exact ⟨World.cell?_setCell_same _ _ _ h0.1, h0.2⟩
  · rw [List.getElem?_set_ne e] at hj
    have h0 := h j d hj
    exact ⟨(World.cell?_setCell_other _ _ _ _ (by simp)).trans h0.1, h0.2⟩
theorem Row.drew {w : World} {B : Nat} {l : List UInt8} (h : Row w B l) : Row w.drew B l := h

theorem Row.conv {P : Program} {w : World} {B : Nat} {l : List UInt8} (h : Row w B l) (n cap : Nat) (hn : n = l.length) (src dst e : TypeId) (hs : P.underlying src = some (.slice e)) (he : P.underlying e = some (.int .u8)) (hd : P.underlying dst = some .string) :
    (convert src dst (.slice (some ⟨B, 0, none⟩) n cap)).run P w = .ok (.string (str l)) w := by
  subst hn
  refine run_convert_bytes_back (P := P) w src dst e ⟨B, 0, none⟩ cap l hs he hd fun j hj => ?_
  rw [Addr.add_lit, Nat.zero_add]
  exact (h j l[j] (List.getElem?_eq_getElem hj)).1

theorem Row.new (w : World) (s : ByteArray) (cap : Nat) (e : TypeId) : Row (w.drew.alloc (.cells (bytesRow s cap) e ((bytesRow s cap).size, (bytesRow s cap).size + 1))) w.heap.size s.data.toList := by
  intro i c hc
  have hi : i < s.data.size := by
    have := (List.getElem?_eq_some_iff.1 hc).1
    simpa using this
  constructor
  · have h := World.cell?_alloc_mark w.drew (bytesRow s cap) e ((bytesRow s cap).size, (bytesRow s cap).size + 1) i
    refine h.trans ?_
    have hc' : s.data[i]? = some c := by simpa using hc
    have hi' : i < s.size := hi
    have hc2 : s.data[i] = c := by
      have := Array.getElem?_eq_getElem hi
      rw [this] at hc'
      exact Option.some.inj hc'
    simp [bytesRow, Array.getElem?_append, hi', hc2]
  · have hb : (w.drew.alloc (.cells (bytesRow s cap) e ((bytesRow s cap).size, (bytesRow s cap).size + 1))).heap[w.heap.size]? = some (.cells (bytesRow s cap) e ((bytesRow s cap).size, (bytesRow s cap).size + 1)) := by
      show (w.heap.push _)[w.heap.size]? = _
      simp
    have hsz : i < (bytesRow s cap).size := by simp [bytesRow]; exact Nat.lt_of_lt_of_le hi (Nat.le_add_right s.size _)
    simp only [World.frozen?, hb]
    simp
    omega

end Go.Proofs.YtgdeefcgjaklhabDoor
