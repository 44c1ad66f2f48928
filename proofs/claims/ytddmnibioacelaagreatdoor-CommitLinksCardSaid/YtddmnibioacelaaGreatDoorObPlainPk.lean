/-
  Decimal numerals without superfluous zeros, and an object's encoding: plain mathematics.
-/
import Derived.Lib.ItoaNum
import Derived.Lib.Atoi
import Derived.Lib.AtoiErr
import Derived.Lib.IndexMore
import Derived.Lib.Hide
namespace Go.Proofs.YtddmnibioacelaaGreatDoor
open Go.Lib

theorem decFrom_snoc : ∀ (l : List UInt8) (acc : Nat) (c : UInt8), decFrom acc (l ++ [c]) = (decFrom acc l).bind fun m => (digitVal c).map fun d => m * 10 + d
  | [], acc, c => by
    simp only [List.nil_append, decFrom, Option.bind_some]
    cases digitVal c <;> rfl
  | a :: l, acc, c => by
    simp only [List.cons_append, decFrom]
    cases digitVal a with
    | none => rfl
    | some d => exact decFrom_snoc l _ c
theorem digitVal_lt {c : UInt8} {d : Nat} (h : digitVal c = some d) : d < 10 ∧ c = UInt8.ofNat (48 + d) := by
  unfold digitVal at h
  split at h
  · rename_i hc
    simp only [Option.some.injEq] at h
    refine ⟨by omega, ?_⟩
    apply UInt8.toNat_inj.mp
    rw [UInt8.toNat_ofNat']
    have := UInt8.toNat_lt c
    omega
  · cases h
theorem digitVal_of {d : Nat} (h : d < 10) : digitVal (UInt8.ofNat (48 + d)) = some d := by
  unfold digitVal
  have e : (UInt8.ofNat (48 + d)).toNat = 48 + d := by rw [UInt8.toNat_ofNat']; omega
  rw [e, if_pos (by omega)]
  simp
theorem decDigits_big {m : Nat} (h : ¬ m < 10) : decDigits m = decDigits (m / 10) ++ [UInt8.ofNat (48 + m % 10)] := by rw [decDigits, dif_neg h]
theorem decDigits_ne (m : Nat) : decDigits m ≠ [] := by
  intro h
  have := congrArg List.length h
  rw [decDigits_length] at this
  have := nDigits_pos m
  simp at *
  omega
/-- A numeral is the numeral of its number. -/
theorem decFrom_decDigits (m : Nat) : decFrom 0 (decDigits m) = some m := by
  induction m using Nat.strongRecOn with
  | _ m ih =>
    by_cases h : m < 10
    · rw [decDigits_one h, decFrom, digitVal_of h]
      simp [decFrom]
    · rw [decDigits_big h, decFrom_snoc, ih (m / 10) (by omega), digitVal_of (by omega)]
      simp only [Option.bind_some, Option.map_some, Option.some.injEq]
      omega
theorem decDigits_head (m : Nat) (h : 1 ≤ m) : (decDigits m).head? ≠ some 48 := by
  induction m using Nat.strongRecOn with
  | _ m ih =>
    by_cases h10 : m < 10
    · rw [decDigits_one h10]
      simp only [List.head?_cons, ne_eq, Option.some.injEq]
      intro e
      have := congrArg UInt8.toNat e
      rw [UInt8.toNat_ofNat'] at this
      simp at this
      omega
    · rw [decDigits_big h10, List.head?_append]
      have := ih (m / 10) (by omega) (by omega)
      cases hd : (decDigits (m / 10)).head? with
      | none => exact absurd (List.head?_eq_none_iff.mp hd) (decDigits_ne _)
      | some x => rw [hd] at this; simpa using this
/-- What the reference reads as a number of at most k digits. -/
def numR (k : Nat) (l : List UInt8) : Option Nat := if l.length < 1 ∨ k < l.length ∨ (1 < l.length ∧ l.head? = some 48) then none else decFrom 0 l
theorem dec_back : ∀ (n : Nat) (l : List UInt8) (m : Nat), l.length = n → 1 ≤ n → ¬ (1 < l.length ∧ l.head? = some 48) → decFrom 0 l = some m → decDigits m = l
  | 0, _, _, _, h, _, _ => by omega
  | n + 1, l, m, hl, _, hz, hd => by
    obtain ⟨r, c, rfl⟩ : ∃ r c, l = r ++ [c] := by
      have hne : l ≠ [] := by intro e; rw [e] at hl; simp at hl
      exact ⟨l.dropLast, l.getLast hne, (List.dropLast_concat_getLast hne).symm⟩
    rw [decFrom_snoc] at hd
    cases hr : decFrom 0 r with
    | none => rw [hr] at hd; simp at hd
    | some m' =>
      rw [hr] at hd
      cases hc : digitVal c with
      | none => rw [hc] at hd; simp at hd
      | some d =>
        rw [hc] at hd
        simp only [Option.bind_some, Option.map_some, Option.some.injEq] at hd
        obtain ⟨h10, he⟩ := digitVal_lt hc
        rcases r with _ | ⟨a, r⟩
        · simp only [decFrom, Option.some.injEq] at hr
          subst hr
          subst hd
          rw [Nat.zero_mul, Nat.zero_add, decDigits_one h10, he]
          rfl
        · have hz' : a ≠ 48 := by
            intro e
            exact hz ⟨by simp, by simp [e]⟩
          have ih := dec_back n (a :: r) m' (by simpa using hl) (by simp at hl; omega) (fun h => hz' (by simpa using h.2)) hr
          have hm : 1 ≤ m' := by
            rcases Nat.eq_zero_or_pos m' with h0 | h0
            · subst h0
              rw [decDigits_one (by decide)] at ih
              simp only [List.cons.injEq] at ih
              exact absurd ih.1.symm hz'
            · exact h0
          rw [decDigits_big (by omega), show m / 10 = m' by omega, show m % 10 = d by omega, ih, he]
/-- The length that digits state, as the code reads it: the number whose numeral they are. -/
theorem num_iff (l : List UInt8) (m : Nat) : numR 7 l = some m ↔ l.length ≤ 7 ∧ decDigits m = l := by
  unfold numR
  constructor
  · intro h
    split at h
    · cases h
    · rename_i hc
      have h1 : 1 ≤ l.length := by
        rcases Nat.lt_or_ge l.length 1 with h' | h'
        · exact absurd (.inl h') hc
        · exact h'
      have h7 : l.length ≤ 7 := by
        rcases Nat.lt_or_ge 7 l.length with h' | h'
        · exact absurd (.inr (.inl h')) hc
        · exact h'
      exact ⟨h7, dec_back _ l m rfl h1 (fun h' => hc (.inr (.inr h'))) h⟩
  · rintro ⟨h7, rfl⟩
    have h1 : 1 ≤ (decDigits m).length := by rw [decDigits_length]; exact nDigits_pos m
    rw [if_neg]
    · exact decFrom_decDigits m
    · rintro (h | h | ⟨h, h'⟩)
      · omega
      · omega
      · rcases Nat.eq_zero_or_pos m with h0 | h0
        · subst h0
          rw [decDigits_one (by decide)] at h
          simp at h
        · exact decDigits_head m h0 h'
theorem numR_lt {l : List UInt8} {m : Nat} (h : numR 7 l = some m) : m < 10000000 := by
  have h2 := ((num_iff l m).mp h).1
  have h1 := congrArg List.length ((num_iff l m).mp h).2
  rw [decDigits_length] at h1
  have h3 := lt_pow_nDigits m
  have h4 : 10 ^ nDigits m ≤ 10 ^ 7 := Nat.pow_le_pow_right (by decide) (by omega)
  omega
/-- An optional sign and digits that come back when the number is written. -/
theorem atoi_back {l : List UInt8} {n : Int} (h : atoi l = some n) (h0 : 0 ≤ n) (hb : itoa n = l) (h7 : l.length ≤ 7) : numR 7 l = some n.toNat := by
  rw [num_iff]
  refine ⟨h7, ?_⟩
  rw [itoa, if_neg (by omega)] at hb
  exact hb
theorem atoi_of_num {l : List UInt8} {m : Nat} (h : numR 7 l = some m) : atoi l = some (m : Int) ∧ itoa (m : Int) = l := by
  obtain ⟨h7, hd⟩ := (num_iff l m).mp h
  have hi : itoa (m : Int) = l := by rw [itoa, if_neg (by omega)]; simpa using hd
  refine ⟨?_, hi⟩
  have hf := decFrom_decDigits m
  rw [hd] at hf
  rcases l with _ | ⟨c, r⟩
  · exact absurd hd (decDigits_ne m)
  · have hdg : ∃ d, digitVal c = some d := digit_of_decFrom _ _ _ hf 0 c rfl
    obtain ⟨d, hdg⟩ := hdg
    obtain ⟨h10, he⟩ := digitVal_lt hdg
    have hn : c.toNat = 48 + d := by rw [he, UInt8.toNat_ofNat']; omega
    have n45 : (c == 45) = false := by
      rw [beq_eq_false_iff_ne]
      intro e
      rw [e] at hn
      simp at hn
      omega
    have n43 : (c == 43) = false := by
      rw [beq_eq_false_iff_ne]
      intro e
      rw [e] at hn
      simp at hn
      omega
    rw [atoi, n45, n43]
    simp [decNat, hf]

/-- The words of the kinds. -/
def wordL (k : Int) : List UInt8 := if k = 1 then [98, 108, 111, 98] else if k = 2 then [116, 114, 101, 101] else if k = 3 then [99, 111, 109, 109, 105, 116] else if k = 4 then [116, 97, 103] else []
def kindL (l : List UInt8) : Nat := if l = [98, 108, 111, 98] then 1 else if l = [116, 114, 101, 101] then 2 else if l = [99, 111, 109, 109, 105, 116] then 3 else if l = [116, 97, 103] then 4 else 0
theorem wordL_nil {k : Int} : wordL k = [] ↔ ¬ (1 ≤ k ∧ k ≤ 4) := by
  unfold wordL
  split
  · simp; omega
  split
  · simp; omega
  split
  · simp; omega
  split
  · simp; omega
  · simp; omega
theorem kind_word {k : Int} (h : 1 ≤ k ∧ k ≤ 4) : (kindL (wordL k) : Int) = k := by
  have : k = 1 ∨ k = 2 ∨ k = 3 ∨ k = 4 := by omega
  rcases this with rfl | rfl | rfl | rfl <;> decide
theorem word_kind {l : List UInt8} (h : kindL l ≠ 0) : wordL (kindL l : Int) = l := by
  unfold kindL at h ⊢
  split
  · rename_i e; rw [e]; decide
  split
  · rename_i e; rw [e]; decide
  split
  · rename_i e; rw [e]; decide
  split
  · rename_i e; rw [e]; decide
  · rename_i h1 h2 h3 h4
    simp [h1, h2, h3, h4] at h
theorem kindL_le (l : List UInt8) : kindL l ≤ 4 := by
  unfold kindL
  repeat (split; · omega)
  omega
/-- The encoding of an object, and its error. -/
def encL (k : Int) (b : List UInt8) : List UInt8 := wordL k ++ 32 :: (decDigits b.length ++ 0 :: b)
def bytesE (k : Int) (b : List UInt8) : Nat := if wordL k = [] then 140 else if 1048576 < b.length then 4 else 0
def bytesL (k : Int) (b : List UInt8) : List UInt8 := if bytesE k b = 0 then encL k b else []
/-- What Parse reads: kind, body, error. -/
def prs (l : List UInt8) : Nat × List UInt8 × Nat :=
  let a := indexByte l 32
  let b := indexByte l 0
  if a < 0 ∨ b < a ∨ kindL (l.take a.toNat) = 0 then (0, [], 2) else
  match numR 7 ((l.take b.toNat).drop (a.toNat + 1)) with
  | none => (0, [], 2)
  | some n => if 1048576 < n then (0, [], 4) else if l.length - b.toNat - 1 < n then (0, [], 3) else if n < l.length - b.toNat - 1 then (0, [], 2) else (kindL (l.take a.toNat), l.drop (b.toNat + 1), 0)
end Go.Proofs.YtddmnibioacelaaGreatDoor
/-
  The time and the zone of a person: plain mathematics of decimal digits.
-/
namespace Go.Proofs.YtddmnibioacelaaGreatDoor
open Go Go.Lib

theorem numK_iff (k : Nat) (l : List UInt8) (m : Nat) : numR k l = some m ↔ l.length ≤ k ∧ decDigits m = l := by
  unfold numR
  constructor
  · intro h
    split at h
    · cases h
    · rename_i hc
      have h1 : 1 ≤ l.length := by
        rcases Nat.lt_or_ge l.length 1 with h' | h'
        · exact absurd (.inl h') hc
        · exact h'
      have h7 : l.length ≤ k := by
        rcases Nat.lt_or_ge k l.length with h' | h'
        · exact absurd (.inr (.inl h')) hc
        · exact h'
      exact ⟨h7, dec_back _ l m rfl h1 (fun h' => hc (.inr (.inr h'))) h⟩
  · rintro ⟨h7, rfl⟩
    have h1 : 1 ≤ (decDigits m).length := by rw [decDigits_length]; exact nDigits_pos m
    rw [if_neg]
    · exact decFrom_decDigits m
    · rintro (h | h | ⟨h, h'⟩)
      · omega
      · omega
      · rcases Nat.eq_zero_or_pos m with h0 | h0
        · subst h0
          rw [decDigits_one (by decide)] at h
          simp at h
        · exact decDigits_head m h0 h'
theorem numK_lt {k : Nat} {l : List UInt8} {m : Nat} (h : numR k l = some m) : m < 10 ^ k := by
  have h2 := ((numK_iff k l m).mp h).1
  have h1 := congrArg List.length ((numK_iff k l m).mp h).2
  rw [decDigits_length] at h1
  have h3 := lt_pow_nDigits m
  have h4 : 10 ^ nDigits m ≤ 10 ^ k := Nat.pow_le_pow_right (by decide) (by omega)
  omega
theorem atoiK_back {k : Nat} {l : List UInt8} {n : Int} (h0 : 0 ≤ n) (hb : itoa n = l) (h7 : l.length ≤ k) : numR k l = some n.toNat := by
  rw [numK_iff]
  refine ⟨h7, ?_⟩
  rw [itoa, if_neg (by omega)] at hb
  exact hb
theorem atoiK_of_num {k : Nat} {l : List UInt8} {m : Nat} (h : numR k l = some m) : atoi l = some (m : Int) ∧ itoa (m : Int) = l := by
  obtain ⟨h7, hd⟩ := (numK_iff k l m).mp h
  have hi : itoa (m : Int) = l := by rw [itoa, if_neg (by omega)]; simpa using hd
  refine ⟨?_, hi⟩
  have hf := decFrom_decDigits m
  rw [hd] at hf
  rcases l with _ | ⟨c, r⟩
  · exact absurd hd (decDigits_ne m)
  · obtain ⟨d, hdg⟩ : ∃ d, digitVal c = some d := digit_of_decFrom _ _ _ hf 0 c rfl
    obtain ⟨h10, he⟩ := digitVal_lt hdg
    have hn : c.toNat = 48 + d := by rw [he, UInt8.toNat_ofNat']; omega
    have n45 : (c == 45) = false := by
      rw [beq_eq_false_iff_ne]
      intro e
      rw [e] at hn
      simp at hn
      omega
    have n43 : (c == 43) = false := by
      rw [beq_eq_false_iff_ne]
      intro e
      rw [e] at hn
      simp at hn
      omega
    rw [atoi, n45, n43]
    simp [decNat, hf]
theorem dec_two (a b : UInt8) : decFrom 0 [a, b] = (digitVal a).bind fun x => (digitVal b).map fun y => 10 * x + y := by
  rw [decFrom]
  cases ha : digitVal a with
  | none => rfl
  | some x =>
    simp only [decFrom]
    cases hb : digitVal b with
    | none => rfl
    | some y => simp; omega
theorem dec_four (a b c d : UInt8) : decFrom 0 [a, b, c, d] = (decFrom 0 [a, b]).bind fun h => (decFrom 0 [c, d]).map fun m => 100 * h + m := by
  rw [dec_two, dec_two, decFrom]
  cases ha : digitVal a with
  | none => rfl
  | some x =>
    simp only [decFrom]
    cases hb : digitVal b with
    | none => rfl
    | some y =>
      simp only
      cases hc : digitVal c with
      | none => rfl
      | some z =>
        simp only
        cases hd : digitVal d with
        | none => rfl
        | some v => simp; omega
theorem dec_two_lt {a b : UInt8} {n : Nat} (h : decFrom 0 [a, b] = some n) : n < 100 := by
  rw [dec_two] at h
  cases ha : digitVal a with
  | none => rw [ha] at h; cases h
  | some x =>
    cases hb : digitVal b with
    | none => rw [ha, hb] at h; cases h
    | some y =>
      rw [ha, hb] at h
      simp only [Option.bind_some, Option.map_some, Option.some.injEq] at h
      have := (digitVal_lt ha).1
      have := (digitVal_lt hb).1
      omega
/-- The zone that a sign, hours and minutes state. -/
def zonV (s : UInt8) (h m : Nat) : Int := if s = 45 then -((60 * h + m : Nat) : Int) else ((60 * h + m : Nat) : Int)
def zonO (l : List UInt8) : Option Int := match l with
  | [s, a, b, c, d] => if (s = 43 ∨ s = 45) ∧ [s, a, b, c, d] ≠ [45, 48, 48, 48, 48] then (decFrom 0 [a, b]).bind fun h => (decFrom 0 [c, d]).bind fun m => if m < 60 then some (zonV s h m) else none else none
  | _ => none
/-- What Atoi says of a sign and four bytes. -/
theorem atoi_sign {s : UInt8} (a b c d : UInt8) (hs : s = 43 ∨ s = 45) : atoi [s, a, b, c, d] = (decFrom 0 [a, b, c, d]).map (fun (n : Nat) => if s = 45 then -(n : Int) else (n : Int)) := by
  rcases hs with rfl | rfl
  · rw [atoi, show ((43 : UInt8) == 45) = false from rfl, show ((43 : UInt8) == 43) = true from rfl]
    simp only [Bool.false_eq_true, if_false, if_true, decNat, List.isEmpty_cons]
    rfl
  · rw [atoi, show ((45 : UInt8) == 45) = true from rfl]
    simp only [Bool.false_eq_true, if_false, if_true, decNat, List.isEmpty_cons]
    try rfl
/-- What the quotient and the rest of a signed number come to. -/
theorem zon_parts (s : UInt8) (h m : Nat) (hm : m < 100) : (if s = 45 then -((100 * h + m : Nat) : Int) else ((100 * h + m : Nat) : Int)).tdiv 100 = (if s = 45 then -(h : Int) else (h : Int)) ∧ (if s = 45 then -((100 * h + m : Nat) : Int) else ((100 * h + m : Nat) : Int)).tmod 100 = (if s = 45 then -(m : Int) else (m : Int)) := by
  have e1 : ((100 * h + m : Nat) : Int).tdiv 100 = (h : Int) := by
    rw [Int.tdiv_eq_ediv_of_nonneg (by omega)]
    omega
  have e2 : ((100 * h + m : Nat) : Int).tmod 100 = (m : Int) := by
    rw [Int.tmod_eq_emod_of_nonneg (by omega)]
    omega
  split
  · rw [Int.neg_tdiv, Int.neg_tmod, e1, e2]
    exact ⟨rfl, rfl⟩
  · exact ⟨e1, e2⟩
/-- What a zone is written as. -/
def zonL (z : Int) : List UInt8 := (if z < 0 then 45 else 43) :: [UInt8.ofNat (48 + z.natAbs / 60 / 10), UInt8.ofNat (48 + z.natAbs / 60 % 10), UInt8.ofNat (48 + z.natAbs % 60 / 10), UInt8.ofNat (48 + z.natAbs % 60 % 10)]
theorem zon_back {z : Int} (h : z.natAbs < 6000) : zonO (zonL z) = some z := by
  obtain ⟨n, hn⟩ : ∃ n, n = z.natAbs := ⟨_, rfl⟩
  rw [← hn] at h
  unfold zonL
  rw [← hn]
  have da := digitVal_of (d := n / 60 / 10) (by omega)
  have db := digitVal_of (d := n / 60 % 10) (by omega)
  have dc := digitVal_of (d := n % 60 / 10) (by omega)
  have dd := digitVal_of (d := n % 60 % 10) (by omega)
  have e1 : decFrom 0 [UInt8.ofNat (48 + n / 60 / 10), UInt8.ofNat (48 + n / 60 % 10)] = some (n / 60) := by
    rw [dec_two, da, db]
    simp only [Option.bind_some, Option.map_some, Option.some.injEq]
    omega
  have e2 : decFrom 0 [UInt8.ofNat (48 + n % 60 / 10), UInt8.ofNat (48 + n % 60 % 10)] = some (n % 60) := by
    rw [dec_two, dc, dd]
    simp only [Option.bind_some, Option.map_some, Option.some.injEq]
    omega
  unfold zonO
  simp only
  rw [e1, e2, if_pos]
  · simp only [Option.bind_some]
    rw [if_pos (by omega)]
    unfold zonV
    congr 1
    by_cases hz : z < 0
    · rw [if_pos hz, if_pos rfl]
      omega
    · rw [if_neg hz, if_neg (by decide)]
      omega
  · refine ⟨?_, fun h5 => ?_⟩
    · split
      · exact .inr rfl
      · exact .inl rfl
    · simp only [List.cons.injEq, and_true] at h5
      obtain ⟨h6, ha, hb, hc, hd⟩ := h5
      rw [ha] at da
      rw [hb] at db
      rw [hc] at dc
      rw [hd] at dd
      have e48 : digitVal 48 = some 0 := by decide
      rw [e48, Option.some.injEq] at da db dc dd
      split at h6
      · omega
      · cases h6
theorem zon_text {l : List UInt8} {z : Int} (h : zonO l = some z) : zonL z = l ∧ z.natAbs < 6000 := by
  unfold zonO at h
  split at h
  · rename_i s a b c d
    split at h
    · rename_i hc
      obtain ⟨hs, hne⟩ := hc
      rw [dec_two, dec_two] at h
      cases ha : digitVal a with
      | none => rw [ha] at h; cases h
      | some x =>
        cases hb : digitVal b with
        | none => rw [ha, hb] at h; cases h
        | some y =>
          cases hcc : digitVal c with
          | none => rw [ha, hb, hcc] at h; cases h
          | some v =>
            cases hd : digitVal d with
            | none => rw [ha, hb, hcc, hd] at h; cases h
            | some u =>
              rw [ha, hb, hcc, hd] at h
              simp only [Option.bind_some, Option.map_some] at h
              split at h
              · rename_i hm
                simp only [Option.some.injEq] at h
                obtain ⟨x1, rfl⟩ := digitVal_lt ha
                obtain ⟨y1, rfl⟩ := digitVal_lt hb
                obtain ⟨v1, rfl⟩ := digitVal_lt hcc
                obtain ⟨u1, rfl⟩ := digitVal_lt hd
                have hn : z.natAbs = 60 * (10 * x + y) + (10 * v + u) := by
                  rw [← h, zonV]
                  split <;> omega
                refine ⟨?_, by omega⟩
                unfold zonL
                rw [show z.natAbs / 60 / 10 = x by omega, show z.natAbs / 60 % 10 = y by omega, show z.natAbs % 60 / 10 = v by omega, show z.natAbs % 60 % 10 = u by omega]
                congr 1
                rcases hs with rfl | rfl
                · rw [zonV, if_neg (by decide)] at h
                  rw [if_neg (by omega)]
                · rw [zonV, if_pos rfl] at h
                  rw [if_pos]
                  by_cases h0 : z.natAbs = 0
                  · refine absurd ?_ hne
                    rw [show x = 0 by omega, show y = 0 by omega, show v = 0 by omega, show u = 0 by omega]
                    rfl
                  · omega
              · cases h
    · cases h
  · cases h
end Go.Proofs.YtddmnibioacelaaGreatDoor
