/-
  The histogram's map, whose elements are structs: how it reads, its laws at the operations.
-/
import Derived.Test.YtnmebnpldacngaaHsInts
import Derived.Test.YtnmebnpldacngaaHsAncP
import Derived.Maps.OwnOps
namespace Go.Proofs.Ytnmebnpldacngaa
open Go.RowKit Go.Maps Go.WideMaps

theorem int_key : Keyed Try.prog 3 := int_keyed Try.underlying3
theorem zero_ent (w : World) : (zeroValue 80).run Try.prog w = .ok (.agg #[.int .i64 0, .int .i64 0]) w := by kernel_rfl
theorem make_hmap (n : Int) (w : World) : (Instr.makeMap 74 (some (.int .i64 n))).run Try.prog w = .ok (.map (some w.heap.size)) (w.alloc (.map #[] 0)) := by kernel_rfl
def en (c l : Int) : DataW Unit := .agg [.lit (.int .i64 c), .lit (.int .i64 l)]
def entR : Value → Option (DataW Unit × List MemPlace)
  | .agg vs => match vs.toList with
    | [.int .i64 c, .int .i64 l] => some (en c l, [])
    | _ => none
  | _ => none
theorem entR_mk (c l : Int) : entR (.agg #[.int .i64 c, .int .i64 l]) = some (en c l, []) := rfl
theorem entR_inv {v : Value} {z : DataW Unit × List MemPlace} (h : entR v = some z) : ∃ c l, v = .agg #[.int .i64 c, .int .i64 l] ∧ z = (en c l, []) := by
  unfold entR at h
  split at h
  · rename_i vs
    split at h
    · rename_i c l hv
      refine ⟨c, l, ?_, (Option.some.inj h).symm⟩
      congr 1
      exact Array.toList_inj.mp hv
    · cases h
  · cases h
theorem en_inj {c l c' l' : Int} (h : en c l = en c' l') : c = c' ∧ l = l' := by
  simp only [en, DataW.agg.injEq, List.cons.injEq, DataW.lit.injEq, Lit.int.injEq, true_and, and_true] at h
  exact h
abbrev Mh (w : World) (b n : Nat) (D : DataW Unit) : Prop := w.ownsMap Try.prog 3 entR b n D
def nk (x : Nat) : Lit := .int .i64 (x : Int)
theorem nk_ne {x y : Nat} (h : x ≠ y) : nk x ≠ nk y := fun e => h (by simp only [nk, Lit.int.injEq, true_and] at e; omega)
theorem nk_key {x : Nat} (h : x < 9223372036854775808) : keyOf Try.prog 3 (.int .i64 (x : Int)) = some (nk x) := keyOf_int_mk Try.underlying3 (WalkArith.wf_i64 (by omega))
theorem nk_lit (x : Nat) : WideAt.IsKeyLit (nk x) := trivial
/-- What the map tells of the first k lines of a list. -/
structure IsH (D : DataW Unit) (a : List Nat) (k : Nat) : Prop where
  tidy : Tidy D
  yes : ∀ x, 0 < (a.take k).count x → Maps.has D (nk x) = true ∧ ∀ z, D.atKey (nk x) z = en ((a.take k).count x : Nat) (lastP a x k)
  no : ∀ x, (a.take k).count x = 0 → Maps.has D (nk x) = false
theorem isH_nil (a : List Nat) : IsH (.map []) a 0 := ⟨tidy_empty, fun x h => by simp at h, fun _ _ => rfl⟩
theorem count_next {a : List Nat} {k : Nat} (hk : k < a.length) (x : Nat) : (a.take (k + 1)).count x = (a.take k).count x + if a[k] = x then 1 else 0 := by
  rw [List.take_succ_eq_append_getElem hk, List.count_append, List.count_singleton]
  congr 1
  simp
theorem lastP_next {a : List Nat} {k : Nat} (hk : k < a.length) (x : Nat) : lastP a x (k + 1) = if a[k] = x then (k : Int) else lastP a x k := by
  unfold lastP
  rw [od, List.getElem?_eq_getElem hk]
  by_cases h : a[k] = x
  · rw [if_pos h, if_pos (by rw [h])]
  · rw [if_neg h, if_neg (by simpa using h)]
theorem IsH.put {D : DataW Unit} {a : List Nat} {k : Nat} (h : IsH D a k) (hk : k < a.length) : IsH (D.put (nk a[k]) (en (((a.take k).count a[k] : Nat) + 1) k)) a (k + 1) := by
  refine ⟨h.tidy.put (nk_lit _) _, fun x hx => ?_, fun x hx => ?_⟩
  · rw [count_next hk] at hx ⊢
    rw [lastP_next hk]
    by_cases e : a[k] = x
    · subst e
      rw [if_pos rfl, if_pos rfl]
      exact ⟨has_put_same h.tidy.isMap (nk_lit _) _, fun z => by rw [atKey_put_same h.tidy.isMap (nk_lit _)]; rfl⟩
    · rw [if_neg e, Nat.add_zero] at hx
      rw [if_neg e, if_neg e, Nat.add_zero]
      obtain ⟨y1, y2⟩ := h.yes x hx
      exact ⟨by rw [has_put_other (nk_ne (Ne.symm e))]; exact y1, fun z => by rw [atKey_put_other (nk_ne (Ne.symm e)), y2 z]⟩
  · rw [count_next hk] at hx
    have e : a[k] ≠ x := fun e => by rw [if_pos e] at hx; omega
    rw [has_put_other (nk_ne (Ne.symm e))]
    exact h.no x (by omega)
theorem IsH.look {D : DataW Unit} {a : List Nat} {k : Nat} (h : IsH D a k) (x : Nat) :
    (0 < (a.take k).count x ∧ Maps.has D (nk x) = true ∧ ∀ z, D.atKey (nk x) z = en ((a.take k).count x : Nat) (lastP a x k)) ∨ ((a.take k).count x = 0 ∧ lastP a x k = -1 ∧ Maps.has D (nk x) = false ∧ ∀ z, D.atKey (nk x) z = z) := by
  rcases Nat.eq_zero_or_pos ((a.take k).count x) with h0 | h0
  · right
    refine ⟨h0, ?_, h.no x h0, atKey_of_not_has (h.no x h0)⟩
    unfold lastP
    cases ho : od a x k with
    | nil => rfl
    | cons i t =>
      obtain ⟨h1, h2, _⟩ := od_cons ho
      have : x ∈ a.take k := List.mem_of_getElem? (i := i) (by rw [List.getElem?_take_of_lt h1]; exact h2)
      have := List.count_pos_iff.mpr this
      omega
  · exact .inl ⟨h0, h.yes x h0⟩

section
variable {w : World} {ops : Array Oper} {rest : List Oper} {o : Oper} {a : Act} {Q : Exit → Act → World → Prop}
theorem wpList_look_ok_ent (hg : o.guard = none) (m x : Operand) (hop : o.op = Op.lookup 74 m x true) (b n : Nat) (D : DataW Unit) (hm : a.eval m = .map (some b)) (hown : Mh w b n D) (key : Value) (kl : Lit) (hx : a.eval x = key) (hkey : keyOf Try.prog 3 key = some kl)
    (hK : ∀ c l, D.atKey kl (en 0 0) = en c l → wpList Try.prog ops Q rest (a.put o.dst (.tuple #[.agg #[.int .i64 c, .int .i64 l], .bool (Maps.has D kl)])) w) :
    wpList Try.prog ops Q (o :: rest) a w :=
  wpList_lookup_own_ok w hg m x _ hop 3 80 int_key Try.underlying74 entR (zero_ent w) (en 0 0) [] (entR_mk 0 0) b n D hm hown key kl hx hkey (fun v ps hv => by
    obtain ⟨c, l, rfl, hz⟩ := entR_inv hv
    exact hK c l (congrArg Prod.fst hz))
theorem wpList_look_ent (hg : o.guard = none) (m x : Operand) (hop : o.op = Op.lookup 74 m x false) (b n : Nat) (D : DataW Unit) (hm : a.eval m = .map (some b)) (hown : Mh w b n D) (key : Value) (kl : Lit) (hx : a.eval x = key) (hkey : keyOf Try.prog 3 key = some kl)
    (hK : ∀ c l, D.atKey kl (en 0 0) = en c l → wpList Try.prog ops Q rest (a.put o.dst (.agg #[.int .i64 c, .int .i64 l])) w) :
    wpList Try.prog ops Q (o :: rest) a w := by
  refine wpList_plain hg fun K' hK' => ?_
  obtain ⟨v, ps, hrun, hv⟩ := hown.lookup int_key Try.underlying74 (zero_ent w) (entR_mk 0 0) hkey
  obtain ⟨c, l, rfl, hz⟩ := entR_inv hv
  unfold Oper.wp
  simp [execOp, hop, hm, hx, hrun, Result.andThen]
  exact hK' _ _ (hK c l (congrArg Prod.fst hz))
end
end Go.Proofs.Ytnmebnpldacngaa
