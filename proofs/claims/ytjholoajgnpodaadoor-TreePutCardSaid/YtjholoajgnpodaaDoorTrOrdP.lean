/-
  The order of entries: plain.
-/
import Derived.Test.YtjholoajgnpodaaDoorTrBackP
namespace Go.Proofs.YtjholoajgnpodaaDoor
open Go.RowKit

theorem bl_irr : ∀ x : List UInt8, Op.bytesLess x x = false
  | [] => rfl
  | a :: x => by
    have h : ¬ a < a := UInt8.lt_irrefl a
    simp [Op.bytesLess, bl_irr x, h]
theorem bl_asym : ∀ x y : List UInt8, Op.bytesLess x y = true → Op.bytesLess y x = false
  | [], [], h => by simp [Op.bytesLess] at h
  | [], b :: y, _ => rfl
  | a :: x, [], h => by simp [Op.bytesLess] at h
  | a :: x, b :: y, h => by
    simp only [Op.bytesLess, Bool.or_eq_true, Bool.and_eq_true, decide_eq_true_eq, beq_iff_eq] at h
    simp only [Op.bytesLess, Bool.or_eq_false_iff, Bool.and_eq_false_iff, decide_eq_false_iff_not, beq_eq_false_iff_ne]
    rcases h with h | ⟨rfl, h⟩
    · exact ⟨fun h2 => absurd (UInt8.lt_trans h h2) (UInt8.lt_irrefl a), .inl fun e => by rw [e] at h; exact UInt8.lt_irrefl _ h⟩
    · exact ⟨UInt8.lt_irrefl _, .inr (bl_asym x y h)⟩
theorem bl_total : ∀ x y : List UInt8, x ≠ y → Op.bytesLess x y = true ∨ Op.bytesLess y x = true
  | [], [], h => absurd rfl h
  | [], b :: y, _ => .inl rfl
  | a :: x, [], _ => .inr rfl
  | a :: x, b :: y, h => by
    simp only [Op.bytesLess, Bool.or_eq_true, Bool.and_eq_true, decide_eq_true_eq, beq_iff_eq]
    by_cases e : a = b
    · subst e
      have hxy : x ≠ y := fun e => h (by rw [e])
      rcases bl_total x y hxy with h1 | h1
      · exact .inl (.inr ⟨rfl, h1⟩)
      · exact .inr (.inr ⟨rfl, h1⟩)
    · rcases UInt8.lt_or_lt_of_ne e with h1 | h1
      · exact .inl (.inl h1)
      · exact .inr (.inl h1)
theorem bl_trans : ∀ x y z : List UInt8, Op.bytesLess x y = true → Op.bytesLess y z = true → Op.bytesLess x z = true
  | x, [], z, h, _ => by cases x <;> simp [Op.bytesLess] at h
  | x, b :: y, [], _, h => by simp [Op.bytesLess] at h
  | [], b :: y, c :: z, _, _ => rfl
  | a :: x, b :: y, c :: z, h1, h2 => by
    simp only [Op.bytesLess, Bool.or_eq_true, Bool.and_eq_true, decide_eq_true_eq, beq_iff_eq] at h1 h2 ⊢
    rcases h1 with h1 | ⟨rfl, h1⟩ <;> rcases h2 with h2 | ⟨rfl, h2⟩
    · exact .inl (UInt8.lt_trans h1 h2)
    · exact .inl h1
    · exact .inl h2
    · exact .inr ⟨rfl, bl_trans x y z h1 h2⟩
theorem lessE_irr (a : En) : lessE a a = false := bl_irr _
theorem lessE_asym {a b : En} (h : lessE a b = true) : lessE b a = false := bl_asym _ _ h
theorem lessE_trans {a b c : En} (h1 : lessE a b = true) (h2 : lessE b c = true) : lessE a c = true := bl_trans _ _ _ h1 h2
theorem lessE_total {a b : En} (h : keyE a ≠ keyE b) : lessE a b = true ∨ lessE b a = true := bl_total _ _ fun e => h (ba_ext (by rwa [ByteArray.toList_eq, ByteArray.toList_eq] at e))
theorem lessE_xor {a b : En} (h : keyE a ≠ keyE b) : lessE a b = !lessE b a := by
  rcases lessE_total h with h1 | h1
  · rw [h1, lessE_asym h1]; rfl
  · rw [h1, lessE_asym h1]; rfl
theorem key_list (e : En) : (keyE e).data.toList = if e.m = 4 then e.n.data.toList ++ [47] else e.n.data.toList := by
  unfold keyE
  split
  · rw [app_list]
  · rfl
theorem key_ne {a b : En} (ha : flatN a.n = true) (hb : flatN b.n = true) (h : a.n ≠ b.n) : keyE a ≠ keyE b := by
  intro e
  have h1 := flatN_no ha
  have h2 := flatN_no hb
  have e2 := congrArg (fun x => x.data.toList) e
  simp only [key_list] at e2
  split at e2 <;> split at e2
  · exact h (ba_ext (List.append_cancel_right e2))
  · exact h2 47 (by rw [← e2]; simp) rfl
  · exact h1 47 (by rw [e2]; simp) rfl
  · exact h (ba_ext e2)
theorem key_same {a b : En} (h : a.n = b.n) : keyE a = keyE b ↔ (a.m = 4 ↔ b.m = 4) := by
  constructor
  · intro e
    have e2 := congrArg (fun x => x.data.toList) e
    simp only [key_list, h] at e2
    split at e2 <;> split at e2
    · simp_all
    · have := congrArg List.length e2
      simp at this
    · have := congrArg List.length e2
      simp at this
    · simp_all
  · intro e
    unfold keyE
    rw [h]
    by_cases h4 : a.m = 4
    · rw [if_pos h4, if_pos (e.1 h4)]
    · rw [if_neg h4, if_neg (fun h => h4 (e.2 h))]
theorem okEn_flat {e : En} (h : okEn e = true) : flatN e.n = true := by
  simp only [okEn, Bool.and_eq_true, decide_eq_true_eq] at h
  exact h.2.2.2.1
theorem ord_same {a b : En} (h : a.n = b.n) : (!(lessE a b && lessE b a) && ((lessE a b || lessE b a) == ((a.m == 4) != (b.m == 4)))) = true := by
  by_cases h4 : a.m = 4 ↔ b.m = 4
  · have hk := (key_same h).2 h4
    have h1 : lessE a b = false := by unfold lessE; rw [hk]; exact bl_irr _
    have h2 : lessE b a = false := by unfold lessE; rw [hk]; exact bl_irr _
    have h3 : (a.m == 4) = (b.m == 4) := by
      rw [Bool.eq_iff_iff, beq_iff_eq, beq_iff_eq]
      exact h4
    rw [h1, h2, h3]
    cases (b.m == 4) <;> rfl
  · have hk : keyE a ≠ keyE b := fun e => h4 ((key_same h).1 e)
    have h3 : (a.m == 4) = !(b.m == 4) := by
      rw [Bool.eq_iff_iff, beq_iff_eq, Bool.not_eq_true', beq_eq_false_iff_ne]
      constructor
      · intro ha hb
        exact h4 ⟨fun _ => hb, fun _ => ha⟩
      · intro hb
        by_cases ha : a.m = 4
        · exact ha
        · exact absurd ⟨fun h => absurd h ha, fun h => absurd h hb⟩ h4
    rw [lessE_xor hk, h3]
    cases lessE b a <;> cases (b.m == 4) <;> rfl
end Go.Proofs.YtjholoajgnpodaaDoor
