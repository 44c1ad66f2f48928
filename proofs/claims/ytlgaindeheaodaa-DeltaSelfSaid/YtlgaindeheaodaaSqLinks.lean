/-
  The walk of links.
-/
import Derived.Test.YtlgaindeheaodaaSqMatch
import Derived.Maps.OwnSet
import Derived.Maps.Views
import Derived.StringKeys
import Derived.Deep.AppendLies
namespace Go.Proofs.Ytlgaindeheaodaa
open Go.RowKit Go.Maps Go.WideMaps

theorem Try.infoInt : (Try.prog.info? 3).map (fun i => (i.zero, i.size, i.bytes)) = some (some (.int .i64 0), 1, 8) := by kernel_rfl
theorem str_keyed : Keyed Try.prog 9 := string_keyed Try.underlying9
theorem zero_int (w : World) : (zeroValue 3).run Try.prog w = .ok (.int .i64 0) w := by kernel_rfl
theorem make_map (n : Int) (w : World) : (Instr.makeMap 58 (some (.int .i64 n))).run Try.prog w = .ok (.map (some w.heap.size)) (w.alloc (.map #[] 0)) := by kernel_rfl

/-- The key of an offset: its four bytes. -/
def kl (l : List UInt8) (i : Nat) : Lit := .string ((l.drop i).take 4)
/-- The map behind k offsets: the last of them for each key. -/
def Cm (l : List UInt8) : Nat → DataW Unit
  | 0 => .map []
  | k + 1 => (Cm l k).put (kl l k) (.lit (.int .i64 (k : Int)))
theorem Cm_isMap (l : List UInt8) : ∀ k, IsMap (Cm l k)
  | 0 => isMap_empty
  | k + 1 => (Cm_isMap l k).put _ _
theorem kl_same {l : List UInt8} {j i : Nat} (h : same4 l j i = true) : kl l j = kl l i := by
  unfold same4 at h
  rw [decide_eq_true_eq] at h
  rw [kl, kl, h]
theorem kl_ne {l : List UInt8} {j i : Nat} (h : same4 l j i = false) : kl l i ≠ kl l j := by
  unfold same4 at h
  rw [decide_eq_false_iff_not] at h
  intro e
  rw [kl, kl, Lit.string.injEq] at e
  exact h e.symm
theorem key_lit (l : List UInt8) (i : Nat) : WideAt.IsKeyLit (kl l i) := trivial
theorem Cm_look (l : List UInt8) (i : Nat) : ∀ k, (down (fun j => same4 l j i) k = -1 ∧ Maps.has (Cm l k) (kl l i) = false) ∨ ∃ f : Nat, down (fun j => same4 l j i) k = (f : Int) ∧ Maps.has (Cm l k) (kl l i) = true ∧ ∀ z, (Cm l k).atKey (kl l i) z = .lit (.int .i64 (f : Int))
  | 0 => .inl ⟨rfl, rfl⟩
  | k + 1 => by
    rw [down, Cm]
    cases hs : same4 l k i with
    | true =>
      rw [if_pos rfl, kl_same hs]
      exact .inr ⟨k, rfl, has_put_same (Cm_isMap l k) (key_lit l i) _, fun z => atKey_put_same (Cm_isMap l k) (key_lit l i) _ z⟩
    | false =>
      rw [if_neg (by decide)]
      rcases Cm_look l i k with ⟨h1, h2⟩ | ⟨f, h1, h2, h3⟩
      · exact .inl ⟨h1, by rw [has_put_other (kl_ne hs)]; exact h2⟩
      · exact .inr ⟨f, h1, by rw [has_put_other (kl_ne hs)]; exact h2, fun z => by rw [atKey_put_other (kl_ne hs)]; exact h3 z⟩

/-- The chain's row behind k offsets. -/
def lks (l : List UInt8) (k : Nat) : List Value := (List.range k).map fun i => Value.int .i64 (lk l i)
theorem lks_len (l : List UInt8) (k : Nat) : (lks l k).length = k := by simp [lks]
theorem lks_next (l : List UInt8) (k : Nat) : lks l (k + 1) = lks l k ++ [Value.int .i64 (lk l k)] := by simp [lks, List.range_succ]
theorem lrow_of {w : World} {base B n cap : Nat} {e : TypeId} {l : List UInt8} (hn : n = l.length - 3) (h : w.ownsRow base e 1 (.slice (some ⟨B, 0, none⟩) n cap) n (lks l n)) : LRow w B l := fun i hi => by
  have h1 := h.cells (g := B) rfl i (.int .i64 (lk l i)) (by rw [lks, List.getElem?_map, List.getElem?_range (by omega)]; rfl)
  rw [Addr.add_lit, Nat.zero_add] at h1
  exact h1

theorem own_ne {w : World} {base size n B : Nat} {e : TypeId} {v : Value} {xs : List Value} (h : w.ownsRow base e size v n xs) (hB : B < base) : v.ownBlock ≠ some B := fun hr => by
  have := (h.lt B hr).1
  omega
theorem int_one (c : Int) : ∀ u ∈ [Value.int .i64 c], u.oneCell' = true := by intro u hu; simp at hu; subst hu; rfl

end Go.Proofs.Ytlgaindeheaodaa
