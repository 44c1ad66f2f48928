/-
  A map that counts lines: what it tells, how it is written.
-/
import Derived.Test.YtddcogcjmmjpkaaSpSplit
import Derived.Maps.OwnSet
import Derived.Maps.OwnOps
import Derived.Maps.Views
import Derived.StringKeys
import Derived.Lib.Hide
import Derived.Deep.CutRange
import Derived.Deep.DeepCutAuto
import Derived.Deep.RegionWith
import Derived.Deep.RegionHeld3
import Derived.StillTailTactics
import Derived.RegionTactic
import Derived.BigRegion
import Derived.Deep.QuietTactic
import Derived.BigQuiet
namespace Go.Proofs.Ytddcogcjmmjpkaa
open Go.RowKit Go.Maps Go.WideMaps

theorem str_keyed : Keyed Try.prog 9 := string_keyed Try.underlying9
theorem zero_int (w : World) : (zeroValue 3).run Try.prog w = .ok (.int .i64 0) w := by kernel_rfl
theorem make_map0 (w : World) : (Instr.makeMap 94 none).run Try.prog w = .ok (.map (some w.heap.size)) (w.alloc (.map #[] 0)) := by kernel_rfl
abbrev Mi (w : World) (b n : Nat) (D : DataW Unit) : Prop := w.ownsMap Try.prog 9 (plainElem (H := Unit) Try.prog 3) b n D
theorem map_ne {w : World} {M n g j : Nat} {D : DataW Unit} {v : Value} (hM : Mi w M n D) (hc : w.cell? ⟨g, j, none⟩ = some v) : g ≠ M := by
  rintro rfl
  obtain ⟨es, clock, hb, _⟩ := hM
  simp [World.cell?, hb] at hc
theorem map_ne_row {w : World} {M n B : Nat} {D : DataW Unit} {c : Array Value} {t : TypeId} {m : Nat × Nat} (hM : Mi w M n D) (hb : w.heap[B]? = some (.cells c t m)) : M ≠ B := fun e => by
  obtain ⟨es, clock, h, _⟩ := hM
  rw [e, hb] at h
  cases h
theorem num_grown {w w' w'' : World} {M : Nat} (h : w.grownBy w' (some M)) (h' : w'.grownBy w'' (some M)) : w.grownBy w'' (some M) :=
  ⟨h'.os.trans h.os, h'.tape.trans h.tape, h'.output.trans h.output, Nat.le_trans h.size h'.size, fun j hj hjM => (h'.block j (Nat.lt_of_lt_of_le hj h.size) hjM).trans (h.block j hj hjM)⟩
theorem SRw.grown {w w' : World} {p : Option Addr} {ls : List (List UInt8)} {M n : Nat} {D : DataW Unit} (h : SRw w p ls) (hM : Mi w M n D) (hg : w.grownBy w' (some M)) : SRw w' p ls := fun k hk => by
  obtain ⟨g, o, rfl, hgs, h0⟩ := h k hk
  have hne := map_ne hM h0
  exact ⟨g, o, rfl, Nat.lt_of_lt_of_le hgs hg.size, (World.cell?_of_block (hg.block g hgs (by simpa using hne))).trans h0⟩
theorem map_new {w : World} : Mi (w.alloc (.map #[] 0)) w.heap.size 0 (.map []) := World.ownsMap_made (H := Unit) w Try.prog 9 (plainElem Try.prog 3)
theorem Mi.below {w w' : World} {M n : Nat} {D : DataW Unit} (h : Mi w M n D) (hb : Below w.heap.size w w') : Mi w' M n D := h.kept (grown_of_below hb) (by simp)
theorem skey {t : ByteArray} {x : List UInt8} (ht : t = str x) (hs : t.size ≤ 140737488355328) : keyOf Try.prog 9 (.string t) = some (Lit.string x) := by
  rw [keyOf_string_mk Try.underlying9 (by unfold maxLen; omega), ht, str_list]

/-- A map that tells how often each line of a list comes in it. -/
structure IsCt (D : DataW Unit) (x : List (List UInt8)) : Prop where
  tidy : Tidy D
  yes : ∀ q, 0 < x.count q → Maps.has D (.string q) = true ∧ ∀ z, D.atKey (.string q) z = .lit (.int .i64 (x.count q : Nat))
  no : ∀ q, x.count q = 0 → Maps.has D (.string q) = false
theorem isCt_nil : IsCt (.map []) [] := ⟨tidy_empty, fun _ h => by simp at h, fun _ _ => rfl⟩
theorem IsCt.look {D : DataW Unit} {x : List (List UInt8)} (h : IsCt D x) (q : List UInt8) : D.atKey (.string q) (.lit (.int .i64 0)) = .lit (.int .i64 (x.count q : Nat)) := by
  rcases Nat.eq_zero_or_pos (x.count q) with h0 | h0
  · rw [atKey_of_not_has (h.no q h0), h0]
    rfl
  · exact (h.yes q h0).2 _
theorem IsCt.put {D : DataW Unit} {x : List (List UInt8)} (h : IsCt D x) (q : List UInt8) : IsCt (D.put (.string q) (.lit (.int .i64 ((x.count q + 1 : Nat) : Int)))) (x ++ [q]) := by
  have hkey : WideAt.IsKeyLit (Lit.string q) := trivial
  have hne : ∀ z, z ≠ q → Lit.string z ≠ Lit.string q := fun z hz e => hz (Lit.string.inj e)
  have hc : ∀ z, (x ++ [q]).count z = x.count z + if z = q then 1 else 0 := fun z => by
    rw [List.count_append, List.count_singleton]
    congr 1
    by_cases e : z = q
    · simp [e]
    · rw [if_neg e, if_neg (by simpa using Ne.symm e)]
  refine ⟨h.tidy.put hkey _, fun z hz => ?_, fun z hz => ?_⟩
  · rw [hc] at hz ⊢
    by_cases e : z = q
    · subst e
      rw [if_pos rfl]
      exact ⟨has_put_same h.tidy.isMap hkey _, fun z => by rw [atKey_put_same h.tidy.isMap hkey]⟩
    · rw [if_neg e, Nat.add_zero] at hz
      rw [if_neg e, Nat.add_zero]
      obtain ⟨y1, y2⟩ := h.yes z hz
      exact ⟨by rw [has_put_other (hne z e)]; exact y1, fun u => by rw [atKey_put_other (hne z e), y2 u]; rfl⟩
  · rw [hc] at hz
    have e : z ≠ q := fun e => by rw [if_pos e] at hz; omega
    rw [has_put_other (hne z e)]
    exact h.no z (by omega)
end Go.Proofs.Ytddcogcjmmjpkaa
