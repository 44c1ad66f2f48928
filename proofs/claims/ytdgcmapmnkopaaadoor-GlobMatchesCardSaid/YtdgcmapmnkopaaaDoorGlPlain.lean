/-
  Plain mathematics of part patterns: elements, classes, what they match.
-/
namespace Go.Proofs.YtdgcmapmnkopaaaDoor

/-- How many bytes a byte that stands for itself takes, and which byte it is. -/
def ck (c : UInt8) : Nat := if c = 92 then 2 else 1
def cv : List UInt8 → UInt8
  | [] => 0
  | c :: r => if c = 92 then r.headD 0 else c
theorem ck_pos (c : UInt8) : 1 ≤ ck c ∧ ck c ≤ 2 := by unfold ck; split <;> omega
/-- An item of a class: its bounds and how many bytes it takes. -/
def it : List UInt8 → UInt8 × UInt8 × Nat
  | [] => (0, 0, 1)
  | c :: r => match (c :: r).drop (ck c) with
    | x :: y :: t => if x = 45 ∧ y ≠ 93 then (cv (c :: r), cv (y :: t), ck c + 1 + ck y) else (cv (c :: r), cv (c :: r), ck c)
    | _ => (cv (c :: r), cv (c :: r), ck c)
theorem it_pos (l : List UInt8) : 1 ≤ (it l).2.2 := by
  unfold it
  split
  · exact Nat.le_refl _
  · rename_i c r
    have := ck_pos c
    split
    · split
      · simp only; omega
      · exact this.1
    · exact this.1
/-- The items of a class whose end is still to come, and how many bytes there are to behind its end. -/
def cl (first : Bool) : List UInt8 → Option (List (UInt8 × UInt8) × Nat)
  | [] => none
  | c :: r => if c = 93 ∧ first = false then some ([], 1) else
    (cl false ((c :: r).drop (it (c :: r)).2.2)).map fun x => (((it (c :: r)).1, (it (c :: r)).2.1) :: x.1, (it (c :: r)).2.2 + x.2)
termination_by l => l.length
decreasing_by
  have := it_pos (c :: r)
  simp only [List.length_drop, List.length_cons]
  omega
theorem cl_nil (first : Bool) : cl first [] = none := by rw [cl]
theorem cl_end (r : List UInt8) : cl false (93 :: r) = some ([], 1) := by rw [cl, if_pos ⟨rfl, rfl⟩]
theorem cl_on {first : Bool} {c : UInt8} {r : List UInt8} (h : ¬ (c = 93 ∧ first = false)) :
    cl first (c :: r) = (cl false ((c :: r).drop (it (c :: r)).2.2)).map fun x => (((it (c :: r)).1, (it (c :: r)).2.1) :: x.1, (it (c :: r)).2.2 + x.2) := by rw [cl, if_neg h]
theorem cl_le : ∀ (l : List UInt8) (first : Bool) (is : List (UInt8 × UInt8)) (m : Nat), cl first l = some (is, m) → 1 ≤ m ∧ m ≤ l.length
  | [], first, is, m, h => by rw [cl_nil] at h; cases h
  | c :: r, first, is, m, h => by
    by_cases hc : c = 93 ∧ first = false
    · rw [cl, if_pos hc] at h
      simp only [Option.some.injEq, Prod.mk.injEq] at h
      rw [List.length_cons]
      omega
    · rw [cl_on hc] at h
      have h0 := it_pos (c :: r)
      obtain ⟨⟨is', m'⟩, h1, h2⟩ := Option.map_eq_some_iff.mp h
      simp only [Prod.mk.injEq] at h2
      have h3 := cl_le _ false is' m' h1
      rw [List.length_drop] at h3
      omega
termination_by l => l.length
decreasing_by
  have := it_pos (c :: r)
  simp only [List.length_drop, List.length_cons]
  omega

inductive Tok where
  | any
  | chr (v : UInt8)
  | cls (neg : Bool) (is : List (UInt8 × UInt8))
/-- Whether a class is negated: how many bytes that takes. -/
def ng : List UInt8 → Nat
  | [] => 0
  | c :: _ => if c = 33 ∨ c = 94 then 1 else 0
/-- The first element of a part pattern, and how many bytes it takes. -/
def tk : List UInt8 → Option (Tok × Nat)
  | [] => none
  | c :: r => if c = 63 then some (.any, 1) else
    if c = 91 then (cl true (r.drop (ng r))).map fun x => (.cls (decide (ng r = 1)) x.1, 1 + ng r + x.2) else
    if c = 92 ∧ r = [] then none else some (.chr (cv (c :: r)), ck c)
theorem ng_le (l : List UInt8) : ng l ≤ 1 ∧ ng l ≤ l.length := by
  unfold ng
  split
  · simp
  · split <;> simp
theorem tk_le {l : List UInt8} {t : Tok} {k : Nat} (h : tk l = some (t, k)) : 1 ≤ k ∧ k ≤ l.length := by
  unfold tk at h
  split at h
  · cases h
  · rename_i c r
    split at h
    · simp only [Option.some.injEq, Prod.mk.injEq] at h
      rw [List.length_cons]
      omega
    · split at h
      · obtain ⟨⟨is, m⟩, h1, h2⟩ := Option.map_eq_some_iff.mp h
        simp only [Prod.mk.injEq] at h2
        have h3 := cl_le _ _ _ _ h1
        have h4 := ng_le r
        rw [List.length_drop] at h3
        rw [List.length_cons]
        omega
      · split at h
        · cases h
        · rename_i h3
          simp only [Option.some.injEq, Prod.mk.injEq] at h
          have h4 := ck_pos c
          rw [List.length_cons]
          unfold ck at *
          split at h4
          · rename_i h5
            have : r ≠ [] := fun e => h3 ⟨h5, e⟩
            have := List.length_pos_iff.mpr this
            rw [if_pos h5] at h
            omega
          · rename_i h5
            rw [if_neg h5] at h
            omega
def tm : Tok → UInt8 → Bool
  | .any, _ => true
  | .chr v, b => v == b
  | .cls neg is, b => is.any (fun x => decide (x.1.toNat ≤ b.toNat ∧ b.toNat ≤ x.2.toNat)) != neg
/-- All elements of a part pattern; a star is none. -/
def tks : List UInt8 → Option (List (Option Tok))
  | [] => some []
  | c :: r => match _h : tk (c :: r) with
    | none => none
    | some x => (tks ((c :: r).drop x.2)).map fun y => (if c = 42 then none else some x.1) :: y
termination_by l => l.length
decreasing_by
  have := tk_le (t := x.1) (k := x.2) _h
  simp only [List.length_drop, List.length_cons]
  omega
theorem tks_nil : tks [] = some [] := by rw [tks]
theorem tks_bad {c : UInt8} {r : List UInt8} (h : tk (c :: r) = none) : tks (c :: r) = none := by
  rw [tks]
  split
  · rfl
  · rename_i h2
    rw [h] at h2
    cases h2
theorem tks_on {c : UInt8} {r : List UInt8} {t : Tok} {k : Nat} (h : tk (c :: r) = some (t, k)) : tks (c :: r) = (tks ((c :: r).drop k)).map fun y => (if c = 42 then none else some t) :: y := by
  rw [tks]
  split
  · rename_i h2
    rw [h] at h2
    cases h2
  · rename_i x h2
    rw [h, Option.some.injEq] at h2
    subst h2
    rfl
def isPt (l : List UInt8) : Bool := !l.isEmpty && (tks l).isSome

/-- What is left of a class, from a place on: whether it matches, and where it ends. -/
def cg (neg : Bool) (b : UInt8) (found first : Bool) (l : List UInt8) (at_ size : Nat) : Bool × Nat := match cl first l with
  | some (is, m) => ((found || is.any (fun x => decide (x.1.toNat ≤ b.toNat ∧ b.toNat ≤ x.2.toNat))) != neg, at_ + m)
  | none => (false, size + 1)
theorem cg_nil (neg : Bool) (b : UInt8) (found first : Bool) (at_ size : Nat) : cg neg b found first [] at_ size = (false, size + 1) := by rw [cg, cl_nil]
theorem cg_end (neg : Bool) (b : UInt8) (found : Bool) (r : List UInt8) (at_ size : Nat) : cg neg b found false (93 :: r) at_ size = (found != neg, at_ + 1) := by
  rw [cg, cl_end]
  simp
theorem cg_on {neg : Bool} {b : UInt8} {found first : Bool} {c : UInt8} {r : List UInt8} {at_ size : Nat} (h : ¬ (c = 93 ∧ first = false)) :
    cg neg b found first (c :: r) at_ size = cg neg b (found || decide ((it (c :: r)).1.toNat ≤ b.toNat ∧ b.toNat ≤ (it (c :: r)).2.1.toNat)) false ((c :: r).drop (it (c :: r)).2.2) (at_ + (it (c :: r)).2.2) size := by
  rw [cg, cg, cl_on h]
  cases cl false ((c :: r).drop (it (c :: r)).2.2) with
  | none => rfl
  | some x =>
    obtain ⟨is, m⟩ := x
    simp only [Option.map_some, List.any_cons, Bool.or_assoc, Nat.add_assoc]
end Go.Proofs.YtdgcmapmnkopaaaDoor
