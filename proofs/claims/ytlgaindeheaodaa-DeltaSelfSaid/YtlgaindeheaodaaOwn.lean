/-
  A row of bytes of the call's own, carried over calls.
-/
import Derived.Test.YtlgaindeheaodaaOctPut
import Derived.Lib.AppendStr
namespace Go.Proofs.Ytlgaindeheaodaa
open Go.RowKit

theorem grown_of_below {w w' : World} (h : Below w.heap.size w w') : w.grownBy w' none := ⟨h.os, h.tape, h.output, h.size, fun k hk _ => h.block k hk⟩
theorem own_below {w w' : World} {base size n : Nat} {e : TypeId} {v : Value} {xs : List Value} (ho : w.ownsRow base e size v n xs) (h : Below w.heap.size w w') : w'.ownsRow base e size v n xs :=
  ho.kept (grown_of_below h) (by cases hv : v.ownBlock with
    | none => exact .inl rfl
    | some g => exact .inr (by simp))
/-- Below a number of its own. -/
theorem below_le {B : Nat} {w w' : World} (h : Below w.heap.size w w') (hB : B ≤ w.heap.size) : Below B w w' := h.mono hB

/-- A row of bytes of the call's own. -/
def Ow (w : World) (base : Nat) (v : Value) (l : List UInt8) : Prop := w.ownsRow base 5 1 v l.length (bcells l)
theorem Ow.nil (w : World) (base : Nat) : Ow w base (.slice none 0 0) [] := World.ownsRow_nil w base 5 1
theorem Ow.below {w w' : World} {base : Nat} {v : Value} {l : List UInt8} (h : Ow w base v l) (hb : Below w.heap.size w w') : Ow w' base v l := own_below h hb
theorem strCells_eq (s : ByteArray) : Lib.strCells s = bcells s.data.toList := rfl
theorem Ow.add {w : World} {base n : Nat} {v : Value} {l : List UInt8} {s : ByteArray} (hn : n = l.length + s.size) (h : w.ownsRow base 5 1 v n (bcells l ++ Lib.strCells s)) : Ow w base v (l ++ s.data.toList) := by
  subst hn
  unfold Ow
  rw [bcells_append, List.length_append, list_len, ← strCells_eq]
  exact h
theorem getD_at (s : ByteArray) (i : Nat) (h : i < s.size) : s.data.toList.getD i 0 = s[i] := by
  rw [List.getD_eq_getElem?_getD, List.getElem?_eq_getElem (by rw [list_len]; exact h)]
  rfl
theorem ext_bytes (s : ByteArray) (a b : Nat) : (s.extract a b).data.toList = (s.data.toList.drop a).take (b - a) := Lib.extract_data s a b
theorem put_nil (n : Nat) (w : World) (hn : n < 18446744073709551616) (p : ByteArray) (hp : p = str (digs n)) :
    Calls Try.prog 25 #[.string { data := #[] }, .int .u64 n] w fun e w' => e = .returned (.string p) ∧ Below w.heap.size w w' := by
  have h := put_any ⟨#[]⟩ n w hn (by decide)
  rw [show (⟨#[]⟩ : ByteArray) ++ str (digs n) = p by rw [hp]; apply ba_ext; rw [app_list]; rfl] at h
  exact h
end Go.Proofs.Ytlgaindeheaodaa
