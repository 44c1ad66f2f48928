/-
  Plain mathematics: what a script does, whether it is right, its cost, its inverse, the runs that it leaves, the script of runs.
-/
import Derived.Test.YtidghjalfbklnaaDfPlain
namespace Go.Proofs.Ytidghjalfbklnaa

/-- An edit that starts at i and j or behind, and lies within lists of n and m lines. -/
def okE (e : Ed) (i j n m : Int) : Prop := (i ≤ e.f ∧ e.f ≤ n ∧ 0 ≤ e.d ∧ e.d ≤ n - e.f) ∧ (j ≤ e.t ∧ e.t ≤ m ∧ 0 ≤ e.i ∧ e.i ≤ m - e.t)
instance (e : Ed) (i j n m : Int) : Decidable (okE e i j n m) := by unfold okE; infer_instance
/-- How far an edit reaches. -/
def Ed.ef (e : Ed) : Nat := (e.f + e.d).toNat
def Ed.et (e : Ed) : Nat := (e.t + e.i).toNat

section
variable {α : Type} [DecidableEq α]
omit [DecidableEq α] in
/-- What a script makes of two lists, from two places on. -/
def appL (a b : List α) : List Ed → Nat → Nat → List α → Option (List α)
  | [], i, _, out => some (out ++ a.drop i)
  | e :: l, i, j, out => if okE e i j a.length b.length then appL a b l e.ef e.et (out ++ (a.drop i).take (e.f.toNat - i) ++ (b.drop e.t.toNat).take e.i.toNat) else none
/-- Whether the lists are equal up to an edit that is no empty one and doesn't touch the one ahead. -/
def okV (a b : List α) (e : Ed) (first : Bool) (i j : Nat) : Prop :=
  okE e i j a.length b.length ∧ ¬ (e.d = 0 ∧ e.i = 0) ∧ (first = false → e.f ≠ i) ∧ (a.drop i).take (e.f.toNat - i) = (b.drop j).take (e.t.toNat - j)
instance (a b : List α) (e : Ed) (first : Bool) (i j : Nat) : Decidable (okV a b e first i j) := by unfold okV; infer_instance
/-- Whether a script is right, from two places on. -/
def valL (a b : List α) : List Ed → Bool → Nat → Nat → Bool
  | [], _, i, j => decide (a.drop i = b.drop j)
  | e :: l, first, i, j => if okV a b e first i j then valL a b l false e.ef e.et else false
theorem valL_go {a b : List α} {e : Ed} {first : Bool} {i j : Nat} (h : okV a b e first i j) (l : List Ed) : valL a b (e :: l) first i j = valL a b l false e.ef e.et := by rw [valL, if_pos h]
theorem valL_not {a b : List α} {e : Ed} {first : Bool} {i j : Nat} (h : ¬ okV a b e first i j) (l : List Ed) : valL a b (e :: l) first i j = false := by rw [valL, if_neg h]
omit [DecidableEq α] in
theorem appL_go {a b : List α} {e : Ed} {i j : Nat} (h : okE e i j a.length b.length) (l : List Ed) (out : List α) : appL a b (e :: l) i j out = appL a b l e.ef e.et (out ++ (a.drop i).take (e.f.toNat - i) ++ (b.drop e.t.toNat).take e.i.toNat) := by rw [appL, if_pos h]
omit [DecidableEq α] in
theorem appL_not {a b : List α} {e : Ed} {i j : Nat} (h : ¬ okE e i j a.length b.length) (l : List Ed) (out : List α) : appL a b (e :: l) i j out = none := by rw [appL, if_neg h]

/-- The inverse. -/
def Ed.inv (e : Ed) : Ed := ⟨e.t, e.i, e.f, e.d⟩
theorem Ed.inv_inv (e : Ed) : e.inv.inv = e := rfl
theorem okE_inv {e : Ed} {i j n m : Int} (h : okE e i j n m) : okE e.inv j i m n := ⟨h.2, h.1⟩
/-- Behind an edit that is right. -/
theorem okE_ends {e : Ed} {i j n m : Nat} (h : okE e i j n m) : e.ef ≤ n ∧ e.et ≤ m ∧ i ≤ e.ef ∧ j ≤ e.et ∧ ((e.ef : Nat) : Int) = e.f + e.d ∧ ((e.et : Nat) : Int) = e.t + e.i ∧ ((e.f.toNat : Nat) : Int) = e.f ∧ ((e.t.toNat : Nat) : Int) = e.t ∧ ((e.d.toNat : Nat) : Int) = e.d ∧ ((e.i.toNat : Nat) : Int) = e.i := by
  unfold okE Ed.ef Ed.et at *
  omega
omit [DecidableEq α] in
theorem take_part (b : List α) (j t : Nat) (c : Nat) (hj : j ≤ t) : (b.drop j).take (t - j) ++ (b.drop t).take c = (b.drop j).take (t + c - j) := by
  have h : t + c - j = (t - j) + c := by omega
  rw [h, List.take_add, List.drop_drop]
  congr 3
  omega
/-- A script that is right makes of the first list the second. -/
theorem appL_val (a b : List α) : ∀ (l : List Ed) (first : Bool) (i j : Nat) (out : List α), valL a b l first i j = true → j ≤ b.length → appL a b l i j out = some (out ++ b.drop j)
  | [], _, i, j, out, h, _ => by
    have := of_decide_eq_true h
    rw [appL, this]
  | e :: l, first, i, j, out, h, hj => by
    by_cases hv : okV a b e first i j
    · rw [valL_go hv] at h
      obtain ⟨h1, h2, h3, h4⟩ := hv
      have he := okE_ends h1
      rw [appL_go h1, appL_val a b l false _ _ _ h he.2.1, h4]
      congr 1
      have e1 : e.et = e.t.toNat + e.i.toNat := by omega
      have e2 : j ≤ e.t.toNat := by unfold okE at h1; omega
      rw [List.append_assoc, List.append_assoc, ← List.append_assoc (List.take _ _), take_part b j _ _ e2, ← e1]
      congr 1
      have h5 : b.drop e.et = (b.drop j).drop (e.et - j) := by rw [List.drop_drop]; congr 1; omega
      rw [h5, List.take_append_drop]
    · rw [valL_not hv] at h
      cases h
omit [DecidableEq α] in
theorem okV_same {a b : List α} {e : Ed} {first : Bool} {i j : Nat} (h : okV a b e first i j) : e.f - i = e.t - j := by
  obtain ⟨h1, _, _, h4⟩ := h
  have he := okE_ends h1
  have h5 := congrArg List.length h4
  simp only [List.length_take, List.length_drop] at h5
  unfold okE at h1
  omega
omit [DecidableEq α] in
theorem okV_inv {a b : List α} {e : Ed} {first : Bool} {i j : Nat} (h : okV a b e first i j) : okV b a e.inv first j i := by
  have hs := okV_same h
  obtain ⟨h1, h2, h3, h4⟩ := h
  refine ⟨okE_inv h1, fun h => h2 ⟨h.2, h.1⟩, fun h => ?_, h4.symm⟩
  have := h3 h
  show e.t ≠ _
  omega
/-- The inverse of a script that is right is right. -/
theorem valL_inv (a b : List α) : ∀ (l : List Ed) (first : Bool) (i j : Nat), valL a b l first i j = true → valL b a (l.map Ed.inv) first j i = true
  | [], _, i, j, h => by
    have := of_decide_eq_true h
    exact decide_eq_true this.symm
  | e :: l, first, i, j, h => by
    by_cases hv : okV a b e first i j
    · rw [valL_go hv] at h
      rw [List.map_cons, valL_go (okV_inv hv)]
      exact valL_inv a b l false _ _ h
    · rw [valL_not hv] at h
      cases h
end
/-- How many lines a script deletes and inserts. -/
def csum : List Ed → Int
  | [] => 0
  | e :: l => e.d + e.i + csum l
theorem csum_inv : ∀ l : List Ed, csum (l.map Ed.inv) = csum l
  | [] => rfl
  | e :: l => by
    have := csum_inv l
    rw [List.map_cons, csum, csum, this]
    show e.i + e.d + _ = _
    omega

/-- A run. -/
structure Rn where
  a : Int
  b : Int
  n : Int
deriving DecidableEq
/-- The runs that a script leaves unchanged, behind those that are known; W is what the sums of the machine are. -/
def stL (W : Int → Int) (n : Int) : List Ed → Int → Int → List Rn → List Rn
  | [], i, j, acc => if i < n then acc ++ [⟨i, j, W (n - i)⟩] else acc
  | e :: l, i, j, acc => stL W n l (W (e.f + e.d)) (W (e.t + e.i)) (if i < e.f then acc ++ [⟨i, j, W (e.f - i)⟩] else acc)
/-- A run that lies behind i and j, within n and m lines. -/
def okR (r : Rn) (i j n m : Int) : Prop := 1 ≤ r.n ∧ (i ≤ r.a ∧ r.a ≤ n ∧ 0 ≤ r.n ∧ r.n ≤ n - r.a) ∧ (j ≤ r.b ∧ r.b ≤ m ∧ 0 ≤ r.n ∧ r.n ≤ m - r.b)
instance (r : Rn) (i j n m : Int) : Decidable (okR r i j n m) := by unfold okR; infer_instance
/-- The edit between two places, if there is one. -/
def chg (i j i' j' : Int) (acc : List Ed) : List Ed := if i < i' ∨ j < j' then acc ++ [⟨i, i' - i, j, j' - j⟩] else acc
/-- The script that leaves runs unchanged. -/
def ofL (n m : Int) : List Rn → Int → Int → List Ed → List Ed
  | [], i, j, acc => chg i j n m acc
  | r :: l, i, j, acc => if okR r i j n m then ofL n m l (r.a + r.n) (r.b + r.n) (chg i j r.a r.b acc) else []
theorem ofL_go {n m : Int} {r : Rn} {i j : Int} (h : okR r i j n m) (l : List Rn) (acc : List Ed) : ofL n m (r :: l) i j acc = ofL n m l (r.a + r.n) (r.b + r.n) (chg i j r.a r.b acc) := by rw [ofL, if_pos h]
theorem ofL_not {n m : Int} {r : Rn} {i j : Int} (h : ¬ okR r i j n m) (l : List Rn) (acc : List Ed) : ofL n m (r :: l) i j acc = [] := by rw [ofL, if_neg h]
theorem chg_not (i j : Int) (acc : List Ed) : chg i j i j acc = acc := by unfold chg; rw [if_neg (by omega)]
theorem chg_yes {i j i' j' : Int} (h : i < i' ∨ j < j') (acc : List Ed) : chg i j i' j' acc = acc ++ [⟨i, i' - i, j, j' - j⟩] := by unfold chg; rw [if_pos h]

theorem stL_acc (W : Int → Int) (n : Int) : ∀ (l : List Ed) (i j : Int) (acc : List Rn), stL W n l i j acc = acc ++ stL W n l i j []
  | [], i, j, acc => by
    rw [stL, stL]
    split <;> simp
  | e :: l, i, j, acc => by
    rw [stL, stL, stL_acc W n l _ _ (ite _ _ _), stL_acc W n l _ _ (if i < e.f then [] ++ [(⟨i, j, W (e.f - i)⟩ : Rn)] else [])]
    split <;> simp

section
variable {α : Type} [DecidableEq α]
/-- The script of the runs of a right script is the script: behind an edit that is still to be written. -/
theorem ofL_stL (a b : List α) (W : Int → Int) (hW : ∀ x : Int, 0 ≤ x → x ≤ (a.length : Int) + b.length → W x = x) : ∀ (l : List Ed) (i j i0 j0 : Nat) (acc : List Ed), valL a b l false i j = true → i ≤ a.length → j ≤ b.length → i0 ≤ i → j0 ≤ j → (i0 < i ∨ j0 < j) →
    ofL a.length b.length (stL W a.length l i j []) i0 j0 acc = acc ++ [⟨i0, (i : Int) - i0, j0, (j : Int) - j0⟩] ++ l
  | [], i, j, i0, j0, acc, h, hi, hj, h1, h2, h3 => by
    have hd := congrArg List.length (of_decide_eq_true h)
    simp only [List.length_drop] at hd
    have h3' : (i0 : Int) < i ∨ (j0 : Int) < j := by omega
    rw [stL]
    split
    · rename_i hlt
      rw [List.nil_append, hW _ (by omega) (by omega), ofL_go (by unfold okR; simp only; omega), ofL]
      simp only
      rw [show (i : Int) + ((a.length : Int) - i) = a.length by omega, show (j : Int) + ((a.length : Int) - i) = b.length by omega, chg_not, chg_yes h3']
      simp
    · obtain rfl : i = a.length := by omega
      obtain rfl : j = b.length := by omega
      rw [ofL, chg_yes h3']
      simp
  | e :: l, i, j, i0, j0, acc, h, hi, hj, h1, h2, h3 => by
    by_cases hv : okV a b e false i j
    · rw [valL_go hv] at h
      have hs := okV_same hv
      obtain ⟨k1, k2, k3, _⟩ := hv
      have he := okE_ends k1
      have k4 := k3 rfl
      unfold okE at k1
      have hlt : (i : Int) < e.f := by omega
      have h3' : (i0 : Int) < i ∨ (j0 : Int) < j := by omega
      rw [stL, if_pos hlt, stL_acc, List.nil_append, List.singleton_append, hW _ (by omega) (by omega), hW (e.f + e.d) (by omega) (by omega), hW (e.t + e.i) (by omega) (by omega),
        ofL_go (by unfold okR; simp only; omega), chg_yes h3']
      simp only
      have ih := ofL_stL a b W hW l e.ef e.et e.f.toNat e.t.toNat (acc ++ [⟨i0, (i : Int) - i0, j0, (j : Int) - j0⟩]) h (by omega) (by omega) (by omega) (by omega) (by omega)
      rw [show ((e.ef : Nat) : Int) = e.f + e.d by omega, show ((e.et : Nat) : Int) = e.t + e.i by omega, show ((e.f.toNat : Nat) : Int) = e.f by omega, show ((e.t.toNat : Nat) : Int) = e.t by omega] at ih
      rw [show (i : Int) + (e.f - i) = e.f by omega, show (j : Int) + (e.f - i) = e.t by omega, ih, show e.f + e.d - e.f = e.d by omega, show e.t + e.i - e.t = e.i by omega]
      simp
    · rw [valL_not hv] at h
      cases h
theorem ofL_stL0 (a b : List α) (W : Int → Int) (hW : ∀ x : Int, 0 ≤ x → x ≤ (a.length : Int) + b.length → W x = x) (l : List Ed) (h : valL a b l true 0 0 = true) :
    ofL a.length b.length (stL W a.length l 0 0 []) 0 0 [] = l := by
  cases l with
  | nil =>
    have hd := congrArg List.length (of_decide_eq_true h)
    simp only [List.length_drop] at hd
    rw [stL]
    split
    · rename_i hlt
      rw [List.nil_append, hW _ (by omega) (by omega), ofL_go (by unfold okR; simp only; omega), ofL]
      simp only
      rw [show (0 : Int) + ((a.length : Int) - 0) = a.length by omega, show (a.length : Int) = b.length by omega, chg_not, chg_not]
    · rw [ofL, show (a.length : Int) = 0 by omega, show (b.length : Int) = 0 by omega, chg_not]
  | cons e l =>
    by_cases hv : okV a b e true 0 0
    · rw [valL_go hv] at h
      have hs := okV_same hv
      obtain ⟨k1, k2, _, _⟩ := hv
      have he := okE_ends k1
      unfold okE at k1
      have ih := ofL_stL a b W hW l e.ef e.et e.f.toNat e.t.toNat [] h (by omega) (by omega) (by omega) (by omega) (by omega)
      rw [show ((e.ef : Nat) : Int) = e.f + e.d by omega, show ((e.et : Nat) : Int) = e.t + e.i by omega, show ((e.f.toNat : Nat) : Int) = e.f by omega, show ((e.t.toNat : Nat) : Int) = e.t by omega] at ih
      rw [stL, hW (e.f + e.d) (by omega) (by omega), hW (e.t + e.i) (by omega) (by omega)]
      have hres : [] ++ [(⟨e.f, e.f + e.d - e.f, e.t, e.t + e.i - e.t⟩ : Ed)] ++ l = e :: l := by
        rw [show e.f + e.d - e.f = e.d by omega, show e.t + e.i - e.t = e.i by omega]
        rfl
      rw [hres] at ih
      by_cases hlt : (0 : Int) < e.f
      · rw [if_pos hlt, stL_acc, List.nil_append, List.singleton_append, hW _ (by omega) (by omega), ofL_go (by unfold okR; simp only; omega), chg_not]
        simp only
        rw [show (0 : Int) + (e.f - 0) = e.f by omega]
        rw [← ih]
        congr 1
        omega
      · rw [if_neg hlt]
        have h0 : e.f = 0 := by omega
        have h1 : e.t = 0 := by omega
        rw [h0, h1] at ih
        rw [h0, h1]
        exact ih
    · rw [valL_not hv] at h
      cases h
end
end Go.Proofs.Ytidghjalfbklnaa
