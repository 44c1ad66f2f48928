/-
  What a stretch of a merge comes to: plain mathematics; a copy of a row of strings.
-/
import Derived.Test.YtidghjalfbklnaaThPCl
import Derived.Test.YtidghjalfbklnaaShelf
namespace Go.Proofs.Ytidghjalfbklnaa
open Go.RowKit

/-- Counted from k on, below lim, as long as f holds. -/
def cnt (f : Nat → Bool) (lim k : Nat) : Nat := if k < lim then (if f k then cnt f lim (k + 1) else k) else k
termination_by lim - k
theorem cnt_yes {f : Nat → Bool} {lim k : Nat} (h : k < lim) (hf : f k = true) : cnt f lim k = cnt f lim (k + 1) := by rw [cnt, if_pos h, if_pos hf]
theorem cnt_no {f : Nat → Bool} {lim k : Nat} (h : k < lim) (hf : f k = false) : cnt f lim k = k := by rw [cnt, if_pos h, if_neg (by rw [hf]; exact Bool.false_ne_true)]
theorem cnt_end {f : Nat → Bool} {lim k : Nat} (h : ¬ k < lim) : cnt f lim k = k := by rw [cnt, if_neg h]
theorem cnt_ge (f : Nat → Bool) (lim : Nat) : ∀ (n k : Nat), lim - k = n → k ≤ cnt f lim k
  | 0, k, h => by rw [cnt_end (by omega)]; exact Nat.le_refl _
  | n + 1, k, h => by
    cases hf : f k with
    | true => rw [cnt_yes (by omega) hf]; exact Nat.le_trans (Nat.le_succ k) (cnt_ge f lim n (k + 1) (by omega))
    | false => rw [cnt_no (by omega) hf]; exact Nat.le_refl _
theorem cnt_le (f : Nat → Bool) (lim : Nat) : ∀ (n k : Nat), lim - k = n → k ≤ lim → cnt f lim k ≤ lim
  | 0, k, h, hk => by rw [cnt_end (by omega)]; exact hk
  | n + 1, k, h, hk => by
    cases hf : f k with
    | true => rw [cnt_yes (by omega) hf]; exact cnt_le f lim n (k + 1) (by omega) (by omega)
    | false => rw [cnt_no (by omega) hf]; exact hk
/-- Whether counting goes on. -/
theorem cnt_lt {f : Nat → Bool} {lim k : Nat} : decide (k < cnt f lim k) = (decide (k < lim) && f k) := by
  by_cases h : k < lim
  · cases hf : f k with
    | true =>
      rw [cnt_yes h hf, decide_eq_true h, Bool.true_and]
      exact decide_eq_true (Nat.lt_of_lt_of_le (Nat.lt_succ_self k) (cnt_ge f lim _ (k + 1) rfl))
    | false => rw [cnt_no h hf]; simp
  · rw [cnt_end h]; simp [h]
/-- How many lines the two sides have in common at their start, and behind it at their end. -/
def hdF (o t : List (List UInt8)) (k : Nat) : Bool := decide (o[k]? = t[k]?)
def tlF (o t : List (List UInt8)) (k : Nat) : Bool := decide (o[o.length - 1 - k]? = t[t.length - 1 - k]?)
def headN (o t : List (List UInt8)) : Nat := cnt (hdF o t) (min o.length t.length) 0
def tailN (o t : List (List UInt8)) : Nat := cnt (tlF o t) (min o.length t.length - headN o t) 0
theorem headN_le (o t : List (List UInt8)) : headN o t ≤ o.length ∧ headN o t ≤ t.length := by
  have := cnt_le (hdF o t) (min o.length t.length) _ 0 rfl (Nat.zero_le _)
  unfold headN
  omega
theorem tailN_le (o t : List (List UInt8)) : tailN o t + headN o t ≤ o.length ∧ tailN o t + headN o t ≤ t.length := by
  have h := headN_le o t
  have := cnt_le (tlF o t) (min o.length t.length - headN o t) _ 0 rfl (Nat.zero_le _)
  unfold tailN
  omega
/-- A conflict between what the sides have in common. -/
def midL (o : List (List UInt8)) (n m : Nat) : List (List UInt8) := (o.drop n).take (o.length - m - n)
def confL (gs : List Rg) (b o t : List (List UInt8)) : List Rg :=
  clG (clG gs (o.take (headN o t)) ++ [⟨2, [], midL o (headN o t) (tailN o t), b, midL t (headN o t) (tailN o t)⟩]) (o.drop (o.length - tailN o t))
/-- What a stretch comes to. -/
def resL (gs : List Rg) (b o t : List (List UInt8)) : List Rg := if o = b then clG gs t else if t = b ∨ o = t then clG gs o else confL gs b o t
/-- How many lines the last region has. -/
def lastN (gs : List Rg) : Nat := match gs.getLast? with
  | some r => r.l.length
  | none => 0
theorem lastN_of {gs : List Rg} {r : Rg} (h : gs.getLast? = some r) : r.l.length = lastN gs := by rw [lastN, h]
theorem lastN_cl (gs : List Rg) (ls : List (List UInt8)) : lastN (clG gs ls) ≤ lastN gs + ls.length ∧ (clG gs ls).length ≤ gs.length + 1 := by
  unfold clG
  split
  · exact ⟨by omega, by omega⟩
  split
  · rename_i h
    simp [lastN]
  · rename_i r h
    split
    · constructor
      · simp [lastN, h]
      · have : gs ≠ [] := by intro e; rw [e] at h; cases h
        have hp : 0 < gs.length := List.length_pos_iff.mpr this
        rw [List.length_append, List.length_dropLast, List.length_singleton]
        omega
    · constructor
      · simp [lastN]
      · simp
theorem lastN_conf (gs : List Rg) (b o t : List (List UInt8)) : lastN (confL gs b o t) ≤ o.length ∧ (confL gs b o t).length ≤ gs.length + 3 := by
  unfold confL
  have h1 := lastN_cl (clG gs (o.take (headN o t)) ++ [⟨2, [], midL o (headN o t) (tailN o t), b, midL t (headN o t) (tailN o t)⟩]) (o.drop (o.length - tailN o t))
  have h2 := lastN_cl gs (o.take (headN o t))
  have h3 : lastN (clG gs (o.take (headN o t)) ++ [⟨2, [], midL o (headN o t) (tailN o t), b, midL t (headN o t) (tailN o t)⟩]) = 0 := by simp [lastN]
  rw [h3] at h1
  rw [List.length_append, List.length_singleton] at h1
  have h4 : (o.drop (o.length - tailN o t)).length ≤ o.length := by rw [List.length_drop]; omega
  omega

theorem srw_take {w : World} {p : Option Addr} {ls : List (List UInt8)} (h : SRw w p ls) (k : Nat) : SRw w p (ls.take k) := fun j hj => by
  obtain ⟨g, o, he, hg, hc⟩ := h j (by rw [List.length_take] at hj; omega)
  exact ⟨g, o, he, hg, by rw [List.getElem_take]; exact hc⟩
theorem srw_cut {w : World} {p : Option Addr} {ls : List (List UInt8)} {c n : Nat} (h : SRw w p ls) (i F : Nat) (hn : n = ls.length) (hc : n ≤ c) (hi : i ≤ F) (hF : F ≤ n) : SRw w (if c = i then p else p.map (·.add i)) ((ls.drop i).take (F - i)) :=
  srw_take (h.cut i (by omega) (by omega)) _
/-- A copy of a row of strings. -/
theorem clone_any (X : List (List UInt8)) (p : Option Addr) (c n : Nat) (w : World) (hn : n = X.length) (hp : SRw w p X) (hl : n ≤ 1000000) :
    Calls Try.prog 97 #[.slice p n c] w fun e w' => ∃ p' c', e = .returned (.slice p' n c') ∧ w'.ownsRow w.heap.size 9 1 (.slice p' n c') n (strs X) ∧ Below w.heap.size w w' := by
  have shape : ∀ (v : Value) (w' : World) (Y : List Value), w'.ownsRow w.heap.size 9 1 v n Y → ∃ p' c', v = .slice p' n c' := fun v w' Y h => by
    rcases h.2 with ⟨h', h0⟩ | ⟨g', cap', cur, h', _⟩
    · exact ⟨_, 0, by rw [h', h0]⟩
    · exact ⟨_, _, h'⟩
  rcases p with _ | ⟨b, off, spot⟩
  · have h0 : X = [] := by
      cases X with
      | nil => rfl
      | cons y l =>
        obtain ⟨g, o', h1, _⟩ := hp 0 (by simp)
        cases h1
    subst h0
    obtain rfl : n = 0 := hn
    exact (Try.slices_Clone_string_nil 0 c w).mono fun e w' ⟨h1, h2⟩ => ⟨none, 0, h1, by subst h2; exact World.ownsRow_nil _ _ _ _, by subst h2; exact Below.refl _ _⟩
  · by_cases h0 : n = 0
    · subst h0
      have hx : X = [] := List.eq_nil_of_length_eq_zero hn.symm
      subst hx
      refine (Try.slices_Clone_string_zero _ c w).mono fun e w' ⟨v', h1, h2, _, h3⟩ => ?_
      obtain ⟨p', c', rfl⟩ := shape v' w' _ h2
      exact ⟨p', c', h1, h2, h3⟩
    · obtain ⟨g, o, he, _, _⟩ := hp 0 (by omega)
      simp only [Option.some.injEq, Addr.mk.injEq] at he
      obtain ⟨rfl, rfl, rfl⟩ := he
      refine (Try.slices_Clone_string b off n c (X.map str) w (by rw [List.length_map]; omega) (by omega) (fun j hj => ?_)).mono fun e w' ⟨v', h1, h2, _, h3⟩ => ?_
      · have hj' : j < X.length := by simpa using hj
        obtain ⟨ga, oa, he, _, ha⟩ := hp j hj'
        simp only [Option.some.injEq, Addr.mk.injEq] at he
        obtain ⟨rfl, rfl, _⟩ := he
        rw [ha, List.getD_eq_getElem?_getD, List.getElem?_map, List.getElem?_eq_getElem hj']
        rfl
      · rw [List.take_of_length_le (by simp; omega)] at h2
        obtain ⟨p', c', rfl⟩ := shape v' w' _ h2
        refine ⟨p', c', h1, ?_, h3⟩
        have e2 : (X.map str).map Value.string = strs X := by rw [strs, List.map_map]; rfl
        rw [e2] at h2
        exact h2
end Go.Proofs.Ytidghjalfbklnaa
