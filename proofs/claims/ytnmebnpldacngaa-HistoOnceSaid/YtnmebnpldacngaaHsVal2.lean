/-
  Plain mathematics: the script of runs that follow one another is right; the histogram script's cost.
-/
import Derived.Test.YtnmebnpldacngaaHsVal
import Derived.Test.YtnmebnpldacngaaHsScript
import Derived.Test.YtnmebnpldacngaaDfLens
namespace Go.Proofs.Ytnmebnpldacngaa

section
variable {α : Type} [DecidableEq α]
omit [DecidableEq α] in
theorem ahead_more {A B : List α} {acc : List Ed} {i j : Nat} (h : Ahead A B acc i j) : ∀ n, i + n ≤ A.length → j + n ≤ B.length → (A.drop i).take n = (B.drop j).take n → Ahead A B acc (i + n) (j + n)
  | 0, _, _, _ => h
  | n + 1, ha, hb, he => by
    have e1 : (A.drop i).take n = (B.drop j).take n := by
      have := congrArg (List.take n) he
      rw [List.take_take, List.take_take, Nat.min_eq_left (by omega)] at this
      exact this
    have ih := ahead_more h n (by omega) (by omega) e1
    have e2 : A[i + n]? = B[j + n]? := by
      have := take_at he (k := n) (by omega)
      rw [List.getElem?_drop, List.getElem?_drop] at this
      exact this
    rw [List.getElem?_eq_getElem (show i + n < A.length by omega), List.getElem?_eq_getElem (show j + n < B.length by omega), Option.some.injEq] at e2
    exact ih.same (by omega) (by omega) e2
/-- The last edit ends ahead of a place. -/
def Sep (acc : List Ed) (i : Nat) : Prop := ∀ r l, acc = r ++ [l] → l.f + l.d < (i : Int)
omit [DecidableEq α] in
theorem chg_ahead {A B : List α} {acc : List Ed} {i j a b : Nat} (h : Ahead A B acc i j) (hs : Sep acc i) (h1 : i ≤ a) (h2 : j ≤ b) (ha : a ≤ A.length) (hb : b ≤ B.length) :
    Ahead A B (chg (i : Int) (j : Int) (a : Int) (b : Int) acc) a b ∧ ∀ r l, chg (i : Int) (j : Int) (a : Int) (b : Int) acc = r ++ [l] → l.f + l.d ≤ (a : Int) := by
  by_cases hlt : (i : Int) < a ∨ (j : Int) < b
  · rw [chg_yes hlt]
    have he : acc ++ [(⟨(i : Int), (a : Int) - i, (j : Int), (b : Int) - j⟩ : Ed)] = ext acc ⟨(i : Int), ((a - i : Nat) : Int), (j : Int), ((b - j : Nat) : Int)⟩ := by
      have e1 : (a : Int) - i = ((a - i : Nat) : Int) := by omega
      have e2 : (b : Int) - j = ((b - j : Nat) : Int) := by omega
      rw [e1, e2]
      rcases List.eq_nil_or_concat acc with rfl | ⟨r, l, rfl⟩
      · rfl
      · rw [List.concat_eq_append] at hs ⊢
        rw [ext_new r l _ (by have := hs r l rfl; simp only; omega)]
    have h3 := h.ext (d := a - i) (n := b - j) (by omega) (by omega) (by omega)
    rw [← he, show i + (a - i) = a by omega, show j + (b - j) = b by omega] at h3
    refine ⟨h3, fun r l hr => ?_⟩
    have := List.append_inj_right' hr rfl
    simp only [List.cons.injEq, and_true] at this
    rw [← this]
    simp only
    omega
  · obtain rfl : i = a := by omega
    obtain rfl : j = b := by omega
    rw [chg_not]
    exact ⟨h, fun r l hr => by have := hs r l hr; omega⟩
theorem ofL_val (A B : List α) : ∀ (rs : List Rn) (i j : Nat) (acc : List Ed), Ahead A B acc i j → Sep acc i → Ch A B rs i j A.length B.length → valL A B (ofL A.length B.length rs (i : Int) (j : Int) acc) true 0 0 = true
  | [], i, j, acc, h, hs, hc => by
    rw [ofL]
    exact (chg_ahead h hs hc.1 hc.2 (Nat.le_refl _) (Nat.le_refl _)).1.done
  | _ :: l, i, j, acc, h, hs, hc => by
    obtain ⟨a, b, n, rfl, h1, h2, h3, h4, h5, h6, h7⟩ := hc
    rw [ofL_go (by unfold okR; simp only; omega)]
    simp only
    obtain ⟨g1, g2⟩ := chg_ahead h hs h2 h3 (by omega) (by omega)
    have g3 := ahead_more g1 n h4 h5 h6
    have := ofL_val A B l (a + n) (b + n) _ g3 (fun r l hr => by have := g2 r l hr; omega) h7
    rw [show ((a + n : Nat) : Int) = (a : Int) + n by omega, show ((b + n : Nat) : Int) = (b : Int) + n by omega] at this
    exact this
end
theorem scL_val {la lb : List (List UInt8)} (ha : la.length ≤ 4096) (hb : lb.length ≤ 4096) : valL la lb (scL la lb) true 0 0 = true := by
  have h := sp_ch la lb ha hb (la.length + lb.length + 1) la lb la.length lb.length 0 0 (by simp) (by simp) (by omega) (by omega) (by omega)
  rw [Nat.zero_add, Nat.zero_add] at h
  rw [scL, fromL, if_neg (by omega)]
  exact ofL_val la lb _ 0 0 [] (Ahead.nil _ _) (fun r l hr => by simp at hr) h
theorem scL_cost {la lb : List (List UInt8)} (ha : la.length ≤ 4096) (hb : lb.length ≤ 4096) : csum (leastL la lb) ≤ csum (scL la lb) ∧ csum (scL la lb) ≤ la.length + lb.length ∧ 0 ≤ csum (scL la lb) := by
  have h1 := val_cost (scL_val ha hb)
  have h2 := leastL_cost (la := la) (lb := lb) ⟨ha, hb⟩
  omega
theorem least_nn {la lb : List (List UInt8)} (ha : la.length ≤ 4096) (hb : lb.length ≤ 4096) : 0 ≤ csum (leastL la lb) ∧ csum (leastL la lb) ≤ la.length + lb.length := by
  have h1 := val_cost (leastL_val (la := la) (lb := lb) ⟨ha, hb⟩)
  omega
theorem scL_app {la lb : List (List UInt8)} (ha : la.length ≤ 4096) (hb : lb.length ≤ 4096) : appL la lb (scL la lb) 0 0 [] = some lb := by
  have := appL_val la lb (scL la lb) true 0 0 [] (scL_val ha hb) (Nat.zero_le _)
  simpa using this
theorem scL_self (la : List (List UInt8)) : scL la la = [] := by
  have hc : cpre la la = la.length := ((cpre_same la la).mpr rfl).2
  have ht : tl la la = 0 := by
    have := (csuf_le (la.drop (cpre la la)) (la.drop (cpre la la))).1
    rw [List.length_drop, hc] at this
    rw [tl, hc]
    omega
  have hi : (inr la la la).length = 0 := by rw [inr_len, hc, ht]; omega
  have hs : sp LSr (la.length + la.length + 1) la la 0 0 = kp 0 0 la.length := by
    rw [sp, if_pos (.inl hi), hc, ht]
    simp [kp]
  rw [scL, hs, fromL, if_neg (by omega), kp]
  by_cases h0 : 0 < (la.length : Int)
  · rw [if_pos h0, ofL_go (by unfold okR; simp only; omega), ofL]
    simp only
    rw [Int.zero_add, chg_not, chg_not]
  · rw [if_neg h0, ofL, show (la.length : Int) = 0 by omega, chg_not]
theorem scL_len (la lb : List (List UInt8)) (ha : la.length ≤ 100) (hb : lb.length ≤ 100) : (scL la lb).length ≤ 10000 := by
  have h1 := sp_len (la.length + lb.length + 1) la lb 0 0
  have h2 : ∀ (n m : Int) (rs : List Rn) (i j : Int) (acc : List Ed), (ofL n m rs i j acc).length ≤ acc.length + rs.length + 1 := by
    intro n m rs
    induction rs with
    | nil => intro i j acc; rw [ofL]; have := chg_len i j n m acc; simp only [List.length_nil]; omega
    | cons r rs ih =>
      intro i j acc
      rw [ofL]
      split
      · have := ih (r.a + r.n) (r.b + r.n) (chg i j r.a r.b acc)
        have := chg_len i j r.a r.b acc
        rw [List.length_cons]
        omega
      · simp
  rw [scL, fromL]
  split
  · simp
  · have := h2 la.length lb.length (sp LSr (la.length + lb.length + 1) la lb 0 0) 0 0 []
    simp only [List.length_nil] at this
    omega
end Go.Proofs.Ytnmebnpldacngaa
