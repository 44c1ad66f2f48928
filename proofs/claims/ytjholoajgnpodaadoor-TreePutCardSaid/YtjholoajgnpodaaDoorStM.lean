/-
  A map from strings to bools that tells which strings are in a list.
-/
import Derived.Test.YtjholoajgnpodaaDoorLaidStrsPk
import Derived.Maps.OwnSet
import Derived.Maps.OwnOps
import Derived.Maps.Views
import Derived.StringKeys
import Derived.Lib.Hide
namespace Go.Proofs.YtjholoajgnpodaaDoor
open Go.RowKit Go.Maps Go.WideMaps

theorem str_keyedS : Keyed Tryd.prog 9 := string_keyed Tryd.underlying9
theorem zero_boolS (w : World) : (zeroValue 4).run Tryd.prog w = .ok (.bool false) w := by kernel_rfl
theorem make_sb (n : Int) (w : World) : (Instr.makeMap 49 (some (.int .i64 n))).run Tryd.prog w = .ok (.map (some w.heap.size)) (w.alloc (.map #[] 0)) := by kernel_rfl
abbrev Msb (w : World) (b n : Nat) (D : DataW Unit) : Prop := w.ownsMap Tryd.prog 9 (plainElem (H := Unit) Tryd.prog 4) b n D
theorem msb_new (w : World) : Msb (w.alloc (.map #[] 0)) w.heap.size 0 (.map []) := World.ownsMap_made (H := Unit) w Tryd.prog 9 (plainElem Tryd.prog 4)
theorem Msb.below {w w' : World} {M n : Nat} {D : DataW Unit} (h : Msb w M n D) (hb : Below w.heap.size w w') : Msb w' M n D := h.kept (grown_of_below hb) (by simp)
theorem msb_ne {w : World} {M n g j : Nat} {D : DataW Unit} {v : Value} (hM : Msb w M n D) (hc : w.cell? ⟨g, j, none⟩ = some v) : g ≠ M := by
  rintro rfl
  obtain ⟨es, clock, hb, _⟩ := hM
  simp [World.cell?, hb] at hc
theorem sb_grown {w w' w'' : World} {M : Nat} (h : w.grownBy w' (some M)) (h' : w'.grownBy w'' (some M)) : w.grownBy w'' (some M) :=
  ⟨h'.os.trans h.os, h'.tape.trans h.tape, h'.output.trans h.output, Nat.le_trans h.size h'.size, fun j hj hjM => (h'.block j (Nat.lt_of_lt_of_le hj h.size) hjM).trans (h.block j hj hjM)⟩
theorem skeyS {t : ByteArray} (hs : t.size ≤ 140737488355328) : keyOf Tryd.prog 9 (.string t) = some (Lit.string t.data.toList) := keyOf_string_mk Tryd.underlying9 (by unfold maxLen; omega)
theorem plainElem_boolS {H : Type} {P : Program} {e : TypeId} (he : P.underlying e = some .bool) {v : Value} {z : DataW H × List MemPlace} (h : plainElem P e v = some z) : ∃ b, v = .bool b ∧ z = (.lit (.bool b), []) := by
  unfold plainElem at h
  rw [he] at h
  cases v <;> simp at h
  exact ⟨_, rfl, h.symm⟩
theorem msb_look {w : World} {b n : Nat} {D : DataW Unit} (h : Msb w b n D) {t : ByteArray} (hs : t.size ≤ 140737488355328) {B : Bool} (hat : D.atKey (.string t.data.toList) (.lit (.bool false)) = .lit (.bool B)) :
    (Instr.lookup 49 (.map (some b)) (.string t) false).run Tryd.prog w = .ok (.bool B) w := by
  obtain ⟨v, ps, h1, h2⟩ := h.lookup str_keyedS Tryd.underlying49 (zero_boolS w) (plainElem_bool Tryd.underlying4 false) (skeyS hs)
  rw [hat] at h2
  obtain ⟨c, rfl, hc⟩ := plainElem_boolS Tryd.underlying4 h2
  simp only [Prod.mk.injEq, DataW.lit.injEq, Lit.bool.injEq] at hc
  rw [hc.1]
  exact h1
/-- A map that tells which strings are in a list. -/
structure IsSt (D : DataW Unit) (x : List (List UInt8)) : Prop where
  tidy : Tidy D
  look : ∀ q, D.atKey (.string q) (.lit (.bool false)) = .lit (.bool (decide (q ∈ x)))
theorem isSt_nil : IsSt (.map []) [] := ⟨tidy_empty, fun q => by rw [atKey_of_not_has (h := rfl)]; rfl⟩
theorem IsSt.put {D : DataW Unit} {x : List (List UInt8)} (h : IsSt D x) (q : List UInt8) : IsSt (D.put (.string q) (.lit (.bool true))) (x ++ [q]) := by
  have hkey : WideAt.IsKeyLit (Lit.string q) := trivial
  have hne : ∀ z, z ≠ q → Lit.string z ≠ Lit.string q := fun z hz e => hz (Lit.string.inj e)
  refine ⟨h.tidy.put hkey _, fun z => ?_⟩
  by_cases e : z = q
  · subst e
    rw [atKey_put_same h.tidy.isMap hkey]
    simp
  · rw [atKey_put_other (hne z e), h.look z]
    simp [e]
end Go.Proofs.YtjholoajgnpodaaDoor
