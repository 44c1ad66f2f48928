/-
  Decoding what was encoded, and encoding what was decoded: plain mathematics.
-/
import Derived.Test.YtalbphlmebhjoaaDoorObParse
namespace Go.Proofs.YtalbphlmebhjoaaDoor
open Go.RowKit

theorem nDigits_le : ∀ (k u : Nat), u < 10 ^ (k + 1) → Lib.nDigits u ≤ k + 1
  | 0, u, h => by rw [Lib.nDigits_small (by simpa using h)]; omega
  | k + 1, u, h => by
    by_cases h10 : u < 10
    · rw [Lib.nDigits_small h10]; omega
    · rw [Lib.nDigits_big h10]
      have := nDigits_le k (u / 10) (by rw [Nat.pow_succ] at h; omega)
      omega
theorem decDigits_mem (m : Nat) : ∀ x ∈ Lib.decDigits m, 48 ≤ x.toNat := by
  induction m using Nat.strongRecOn with
  | _ m ih =>
    intro x hx
    by_cases h : m < 10
    · rw [Lib.decDigits_one h, List.mem_singleton] at hx
      rw [hx, UInt8.toNat_ofNat']
      omega
    · rw [decDigits_big h, List.mem_append] at hx
      rcases hx with hx | hx
      · exact ih (m / 10) (by omega) x hx
      · rw [List.mem_singleton] at hx
        rw [hx, UInt8.toNat_ofNat']
        omega
theorem wordL_mem (k : Int) : ∀ x ∈ wordL k, 48 ≤ x.toNat := by
  unfold wordL
  split
  · decide
  split
  · decide
  split
  · decide
  split
  · decide
  · decide
theorem idx_app (a : List UInt8) (c : UInt8) (r : List UInt8) (h : ∀ x ∈ a, x ≠ c) : Lib.indexByte (a ++ c :: r) c = (a.length : Int) := by
  refine idx_of ?_ fun j hj => ?_
  · rw [List.getElem?_append_right (Nat.le_refl _), Nat.sub_self]
    rfl
  · rw [List.getElem?_append_left hj]
    intro e
    exact h c (List.mem_of_getElem? e) rfl
theorem drop_mid : ∀ (a : List UInt8) (c : UInt8) (r : List UInt8), (a ++ c :: r).drop (a.length + 1) = r
  | [], _, _ => rfl
  | x :: a, c, r => by
    rw [List.cons_append, List.length_cons, List.drop_succ_cons]
    exact drop_mid a c r
theorem prs_enc (k : Int) (b : List UInt8) (h : wordL k ≠ []) (hb : b.length ≤ 1048576) : prs (encL k b) = (k.toNat, b, 0) := by
  have hk : 1 ≤ k ∧ k ≤ 4 := by
    by_cases hk : 1 ≤ k ∧ k ≤ 4
    · exact hk
    · exact absurd (wordL_nil.mpr hk) h
  have ha : Lib.indexByte (encL k b) 32 = ((wordL k).length : Int) := idx_app (wordL k) 32 _ fun x hx e => by
    have := wordL_mem k x hx
    rw [e] at this
    exact absurd this (by decide)
  have he : encL k b = (wordL k ++ 32 :: Lib.decDigits b.length) ++ 0 :: b := by rw [encL]; simp
  have hz : Lib.indexByte (encL k b) 0 = ((wordL k ++ 32 :: Lib.decDigits b.length).length : Int) := by
    rw [he]
    refine idx_app _ 0 _ fun x hx e => ?_
    subst e
    rw [List.mem_append, List.mem_cons] at hx
    rcases hx with hx | hx | hx
    · exact absurd (wordL_mem k _ hx) (by decide)
    · exact absurd hx (by decide)
    · exact absurd (decDigits_mem _ _ hx) (by decide)
  obtain ⟨W, hW⟩ : ∃ W, W = wordL k := ⟨_, rfl⟩
  obtain ⟨D, hD⟩ : ∃ D, D = Lib.decDigits b.length := ⟨_, rfl⟩
  have hn : numR 7 D = some b.length := by
    rw [num_iff]
    refine ⟨?_, hD.symm⟩
    rw [hD, Lib.decDigits_length]
    exact nDigits_le 6 _ (by omega)
  have hkd : kindL W = k.toNat := by
    have := kind_word hk
    rw [← hW] at this
    omega
  rw [← hW, ← hD] at hz he
  rw [← hW] at ha
  have t1 : (encL k b).take W.length = W := by rw [he, List.append_assoc, List.take_left']; rfl
  have t2 : (encL k b).take (W ++ 32 :: D).length = W ++ 32 :: D := by rw [he, List.take_left']; rfl
  have t3 : (W ++ 32 :: D).drop (W.length + 1) = D := drop_mid W 32 D
  have t4 : (encL k b).drop ((W ++ 32 :: D).length + 1) = b := by rw [he]; exact drop_mid _ 0 b
  have t5 : (encL k b).length - (W ++ 32 :: D).length - 1 = b.length := by
    rw [he, List.length_append, List.length_cons]
    omega
  unfold prs
  simp only [ha, hz, Int.toNat_natCast, t1, t2, t3, t4, t5, hn]
  rw [if_neg (by rintro (h | h | h); omega; (simp at h; omega); omega), if_neg (by omega), if_neg (by omega), if_neg (by omega), hkd]
theorem split_at {m : List UInt8} {c : UInt8} {a : Nat} (h : m[a]? = some c) : m = m.take a ++ c :: m.drop (a + 1) := by
  obtain ⟨hl, he⟩ := List.getElem?_eq_some_iff.mp h
  conv => lhs; rw [← List.take_append_drop a m]
  rw [List.drop_eq_getElem_cons hl, he]
theorem prs_back {l : List UInt8} {kd : Nat} {bd : List UInt8} (h : prs l = (kd, bd, 0)) : bytesE (kd : Int) bd = 0 ∧ encL (kd : Int) bd = l := by
  unfold prs at h
  simp only at h
  split at h
  · cases h
  · rename_i hc
    have c1 : ¬ Lib.indexByte l 32 < 0 := fun h => hc (.inl h)
    have c2 : ¬ Lib.indexByte l 0 < Lib.indexByte l 32 := fun h => hc (.inr (.inl h))
    have c3 : ¬ kindL (l.take (Lib.indexByte l 32).toNat) = 0 := fun h => hc (.inr (.inr h))
    rcases idx_nat l 32 with ha | ⟨a, ha, hal⟩
    · omega
    rcases idx_nat l 0 with hb | ⟨b, hb, hbl⟩
    · omega
    have hne : a ≠ b := by
      intro e
      subst e
      have h1 := (Lib.indexByte_some ha).1
      rw [(Lib.indexByte_some hb).1] at h1
      cases h1
    rw [ha, hb] at h
    rw [ha] at c3
    simp only [Int.toNat_natCast] at h c3
    split at h
    · cases h
    · rename_i n hn
      split at h
      · cases h
      split at h
      · cases h
      split at h
      · cases h
      rename_i d1 d2 d3
      simp only [Prod.mk.injEq, and_true] at h
      obtain ⟨rfl, rfl⟩ := h
      have hlen : (l.drop (b + 1)).length = n := by rw [List.length_drop]; omega
      have hw := word_kind c3
      have hd := ((num_iff _ n).mp hn).2
      have hwn : wordL (kindL (l.take a) : Int) ≠ [] := by
        rw [Ne, wordL_nil]
        have := kindL_le (l.take a)
        omega
      refine ⟨bytesE_ok hwn (by rw [hlen]; omega), ?_⟩
      rw [encL, hw, hlen, hd]
      have s1 := split_at (Lib.indexByte_some hb).1
      have s2 := split_at (m := l.take b) (c := 32) (a := a) (by
        rw [List.getElem?_take, if_pos (by omega)]
        exact (Lib.indexByte_some ha).1)
      rw [List.take_take, Nat.min_eq_left (by omega)] at s2
      conv => rhs; rw [s1, s2]
      simp
/-- Different objects have different encodings. -/
theorem enc_inj {k1 k2 : Int} {b1 b2 : List UInt8} (h1 : bytesE k1 b1 = 0) (h2 : bytesE k2 b2 = 0) (h : encL k1 b1 = encL k2 b2) : k1 = k2 ∧ b1 = b2 := by
  have ok : ∀ {k : Int} {b : List UInt8}, bytesE k b = 0 → wordL k ≠ [] ∧ b.length ≤ 1048576 := fun {k b} h => by
    have hw : wordL k ≠ [] := fun e => by rw [bytesE_kind e] at h; cases h
    refine ⟨hw, ?_⟩
    rcases Nat.lt_or_ge 1048576 b.length with h' | h'
    · rw [bytesE_big hw h'] at h; cases h
    · exact h'
  have p1 := prs_enc k1 b1 (ok h1).1 (ok h1).2
  rw [h, prs_enc k2 b2 (ok h2).1 (ok h2).2] at p1
  simp only [Prod.mk.injEq, and_true] at p1
  have r : ∀ {k : Int}, wordL k ≠ [] → 1 ≤ k := fun {k} h => by
    rcases Int.lt_or_le k 1 with h' | h'
    · exact absurd (wordL_nil.mpr (by omega)) h
    · exact h'
  have := r (ok h1).1
  have := r (ok h2).1
  exact ⟨by omega, p1.2.symm⟩
end Go.Proofs.YtalbphlmebhjoaaDoor
