/-
  The time and the zone of a person: plain mathematics of decimal digits.
-/
import Derived.Test.YtddmnibioacelaaGreatDoorObPlain
namespace Go.Proofs.YtddmnibioacelaaGreatDoor
open Go Go.Lib

theorem numK_iff (k : Nat) (l : List UInt8) (m : Nat) : numR k l = some m ↔ l.length ≤ k ∧ decDigits m = l := by
  unfold numR
  constructor
  · intro h
    split at h
    · cases h
    · rename_i hc
      have h1 : 1 ≤ l.length := by
        rcases Nat.lt_or_ge l.length 1 with h' | h'
        · exact absurd (.inl h') hc
        · exact h'
      have h7 : l.length ≤ k := by
        rcases Nat.lt_or_ge k l.length with h' | h'
        · exact absurd (.inr (.inl h')) hc
        · exact h'
      exact ⟨h7, dec_back _ l m rfl h1 (fun h' => hc (.inr (.inr h'))) h⟩
  · rintro ⟨h7, rfl⟩
    have h1 : 1 ≤ (decDigits m).length := by rw [decDigits_length]; exact nDigits_pos m
    rw [if_neg]
    · exact decFrom_decDigits m
    · rintro (h | h | ⟨h, h'⟩)
      · omega
      · omega
      · rcases Nat.eq_zero_or_pos m with h0 | h0
        · subst h0
          rw [decDigits_one (by decide)] at h
          simp at h
        · exact decDigits_head m h0 h'
theorem numK_lt {k : Nat} {l : List UInt8} {m : Nat} (h : numR k l = some m) : m < 10 ^ k := by
  have h2 := ((numK_iff k l m).mp h).1
  have h1 := congrArg List.length ((numK_iff k l m).mp h).2
  rw [decDigits_length] at h1
  have h3 := lt_pow_nDigits m
  have h4 : 10 ^ nDigits m ≤ 10 ^ k := Nat.pow_le_pow_right (by decide) (by omega)
  omega
theorem atoiK_back {k : Nat} {l : List UInt8} {n : Int} (h0 : 0 ≤ n) (hb : itoa n = l) (h7 : l.length ≤ k) : numR k l = some n.toNat := by
  rw [numK_iff]
  refine ⟨h7, ?_⟩
  rw [itoa, if_neg (by omega)] at hb
  exact hb
theorem atoiK_of_num {k : Nat} {l : List UInt8} {m : Nat} (h : numR k l = some m) : atoi l = some (m : Int) ∧ itoa (m : Int) = l := by
  obtain ⟨h7, hd⟩ := (numK_iff k l m).mp h
  have hi : itoa (m : Int) = l := by rw [itoa, if_neg (by omega)]; simpa using hd
  refine ⟨?_, hi⟩
  have hf := decFrom_decDigits m
  rw [hd] at hf
  rcases l with _ | ⟨c, r⟩
  · exact absurd hd (decDigits_ne m)
  · obtain ⟨d, hdg⟩ : ∃ d, digitVal c = some d := digit_of_decFrom _ _ _ hf 0 c rfl
    obtain ⟨h10, he⟩ := digitVal_lt hdg
    have hn : c.toNat = 48 + d := by rw [he, UInt8.toNat_ofNat']; omega
    have n45 : (c == 45) = false := by
      rw [beq_eq_false_iff_ne]
      intro e
      rw [e] at hn
      simp at hn
      omega
    have n43 : (c == 43) = false := by
      rw [beq_eq_false_iff_ne]
      intro e
      rw [e] at hn
      simp at hn
      omega
    rw [atoi, n45, n43]
    simp [decNat, hf]
theorem dec_two (a b : UInt8) : decFrom 0 [a, b] = (digitVal a).bind fun x => (digitVal b).map fun y => 10 * x + y := by
  rw [decFrom]
  cases ha : digitVal a with
  | none => rfl
  | some x =>
    simp only [decFrom]
    cases hb : digitVal b with
    | none => rfl
    | some y => simp; omega
theorem dec_four (a b c d : UInt8) : decFrom 0 [a, b, c, d] = (decFrom 0 [a, b]).bind fun h => (decFrom 0 [c, d]).map fun m => 100 * h + m := by
  rw [dec_two, dec_two, decFrom]
  cases ha : digitVal a with
  | none => rfl
  | some x =>
    simp only [decFrom]
    cases hb : digitVal b with
    | none => rfl
    | some y =>
      simp only
      cases hc : digitVal c with
      | none => rfl
      | some z =>
        simp only
        cases hd : digitVal d with
        | none => rfl
        | some v => simp; omega
theorem dec_two_lt {a b : UInt8} {n : Nat} (h : decFrom 0 [a, b] = some n) : n < 100 := by
  rw [dec_two] at h
  cases ha : digitVal a with
  | none => rw [ha] at h; cases h
  | some x =>
    cases hb : digitVal b with
    | none => rw [ha, hb] at h; cases h
    | some y =>
      rw [ha, hb] at h
      simp only [Option.bind_some, Option.map_some, Option.some.injEq] at h
      have := (digitVal_lt ha).1
      have := (digitVal_lt hb).1
      omega
/-- The zone that a sign, hours and minutes state. -/
def zonV (s : UInt8) (h m : Nat) : Int := if s = 45 then -((60 * h + m : Nat) : Int) else ((60 * h + m : Nat) : Int)
def zonO (l : List UInt8) : Option Int := match l with
  | [s, a, b, c, d] => if (s = 43 ∨ s = 45) ∧ [s, a, b, c, d] ≠ [45, 48, 48, 48, 48] then (decFrom 0 [a, b]).bind fun h => (decFrom 0 [c, d]).bind fun m => if m < 60 then some (zonV s h m) else none else none
  | _ => none
/-- What Atoi says of a sign and four bytes. -/
theorem atoi_sign {s : UInt8} (a b c d : UInt8) (hs : s = 43 ∨ s = 45) : atoi [s, a, b, c, d] = (decFrom 0 [a, b, c, d]).map (fun (n : Nat) => if s = 45 then -(n : Int) else (n : Int)) := by
  rcases hs with rfl | rfl
  · rw [atoi, show ((43 : UInt8) == 45) = false from rfl, show ((43 : UInt8) == 43) = true from rfl]
    simp only [Bool.false_eq_true, if_false, if_true, decNat, List.isEmpty_cons]
    rfl
  · rw [atoi, show ((45 : UInt8) == 45) = true from rfl]
    simp only [Bool.false_eq_true, if_false, if_true, decNat, List.isEmpty_cons]
    try rfl
/-- What the quotient and the rest of a signed number come to. -/
theorem zon_parts (s : UInt8) (h m : Nat) (hm : m < 100) : (if s = 45 then -((100 * h + m : Nat) : Int) else ((100 * h + m : Nat) : Int)).tdiv 100 = (if s = 45 then -(h : Int) else (h : Int)) ∧ (if s = 45 then -((100 * h + m : Nat) : Int) else ((100 * h + m : Nat) : Int)).tmod 100 = (if s = 45 then -(m : Int) else (m : Int)) := by
  have e1 : ((100 * h + m : Nat) : Int).tdiv 100 = (h : Int) := by
    rw [Int.tdiv_eq_ediv_of_nonneg (by omega)]
    omega
  have e2 : ((100 * h + m : Nat) : Int).tmod 100 = (m : Int) := by
    rw [Int.tmod_eq_emod_of_nonneg (by omega)]
    omega
  split
  · rw [Int.neg_tdiv, Int.neg_tmod, e1, e2]
    exact ⟨rfl, rfl⟩
  · exact ⟨e1, e2⟩
/-- What a zone is written as. -/
def zonL (z : Int) : List UInt8 := (if z < 0 then 45 else 43) :: [UInt8.ofNat (48 + z.natAbs / 60 / 10), UInt8.ofNat (48 + z.natAbs / 60 % 10), UInt8.ofNat (48 + z.natAbs % 60 / 10), UInt8.ofNat (48 + z.natAbs % 60 % 10)]
theorem zon_back {z : Int} (h : z.natAbs < 6000) : zonO (zonL z) = some z := by
  obtain ⟨n, hn⟩ : ∃ n, n = z.natAbs := ⟨_, rfl⟩
  rw [← hn] at h
  unfold zonL
  rw [← hn]
  have da := digitVal_of (d := n / 60 / 10) (by omega)
  have db := digitVal_of (d := n / 60 % 10) (by omega)
  have dc := digitVal_of (d := n % 60 / 10) (by omega)
  have dd := digitVal_of (d := n % 60 % 10) (by omega)
  have e1 : decFrom 0 [UInt8.ofNat (48 + n / 60 / 10), UInt8.ofNat (48 + n / 60 % 10)] = some (n / 60) := by
    rw [dec_two, da, db]
    simp only [Option.bind_some, Option.map_some, Option.some.injEq]
    omega
  have e2 : decFrom 0 [UInt8.ofNat (48 + n % 60 / 10), UInt8.ofNat (48 + n % 60 % 10)] = some (n % 60) := by
    rw [dec_two, dc, dd]
    simp only [Option.bind_some, Option.map_some, Option.some.injEq]
    omega
  unfold zonO
  simp only
  rw [e1, e2, if_pos]
  · simp only [Option.bind_some]
    rw [if_pos (by omega)]
    unfold zonV
    congr 1
    by_cases hz : z < 0
    · rw [if_pos hz, if_pos rfl]
      omega
    · rw [if_neg hz, if_neg (by decide)]
      omega
  · refine ⟨?_, fun h5 => ?_⟩
    · split
      · exact .inr rfl
      · exact .inl rfl
    · simp only [List.cons.injEq, and_true] at h5
      obtain ⟨h6, ha, hb, hc, hd⟩ := h5
      rw [ha] at da
      rw [hb] at db
      rw [hc] at dc
      rw [hd] at dd
      have e48 : digitVal 48 = some 0 := by decide
      rw [e48, Option.some.injEq] at da db dc dd
      split at h6
      · omega
      · cases h6
theorem zon_text {l : List UInt8} {z : Int} (h : zonO l = some z) : zonL z = l ∧ z.natAbs < 6000 := by
  unfold zonO at h
  split at h
  · rename_i s a b c d
    split at h
    · rename_i hc
      obtain ⟨hs, hne⟩ := hc
      rw [dec_two, dec_two] at h
      cases ha : digitVal a with
      | none => rw [ha] at h; cases h
      | some x =>
        cases hb : digitVal b with
        | none => rw [ha, hb] at h; cases h
        | some y =>
          cases hcc : digitVal c with
          | none => rw [ha, hb, hcc] at h; cases h
          | some v =>
            cases hd : digitVal d with
            | none => rw [ha, hb, hcc, hd] at h; cases h
            | some u =>
              rw [ha, hb, hcc, hd] at h
              simp only [Option.bind_some, Option.map_some] at h
              split at h
              · rename_i hm
                simp only [Option.some.injEq] at h
                obtain ⟨x1, rfl⟩ := digitVal_lt ha
                obtain ⟨y1, rfl⟩ := digitVal_lt hb
                obtain ⟨v1, rfl⟩ := digitVal_lt hcc
                obtain ⟨u1, rfl⟩ := digitVal_lt hd
                have hn : z.natAbs = 60 * (10 * x + y) + (10 * v + u) := by
                  rw [← h, zonV]
                  split <;> omega
                refine ⟨?_, by omega⟩
                unfold zonL
                rw [show z.natAbs / 60 / 10 = x by omega, show z.natAbs / 60 % 10 = y by omega, show z.natAbs % 60 / 10 = v by omega, show z.natAbs % 60 % 10 = u by omega]
                congr 1
                rcases hs with rfl | rfl
                · rw [zonV, if_neg (by decide)] at h
                  rw [if_neg (by omega)]
                · rw [zonV, if_pos rfl] at h
                  rw [if_pos]
                  by_cases h0 : z.natAbs = 0
                  · refine absurd ?_ hne
                    rw [show x = 0 by omega, show y = 0 by omega, show v = 0 by omega, show u = 0 by omega]
                    rfl
                  · omega
              · cases h
    · cases h
  · cases h
end Go.Proofs.YtddmnibioacelaaGreatDoor
