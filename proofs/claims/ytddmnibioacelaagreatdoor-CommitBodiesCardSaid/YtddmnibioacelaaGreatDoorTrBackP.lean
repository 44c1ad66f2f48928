/-
  Encoding and decoding trees: plain.
-/
import Derived.Test.YtddmnibioacelaaGreatDoorTrRParsePk
namespace Go.Proofs.YtddmnibioacelaaGreatDoor
open Go.RowKit

theorem flatN_no {s : ByteArray} (h : flatN s = true) : ∀ c ∈ s.data.toList, c ≠ 47 := by
  unfold flatN at h
  rw [decide_eq_true_eq] at h
  intro c hc e
  subst e
  obtain ⟨k, hk, he⟩ := List.mem_iff_getElem.mp hc
  rcases idx_natT s.data.toList 47 with h0 | ⟨j, h0, _⟩
  · exact Lib.indexByte_none h0 k (by rw [List.getElem?_eq_getElem hk, he])
  · omega
/-- A name has no byte below 32. -/
theorem okEn_bytes {e : En} (h : okEn e = true) : ∀ c ∈ e.n.data.toList, 32 ≤ c.toNat := by
  simp only [okEn, isP, Bool.and_eq_true, decide_eq_true_eq] at h
  obtain ⟨-, -, ⟨-, hc, h1, -⟩, hf, -⟩ := h
  have hno := flatN_no hf
  have hs : e.n.size ≠ 0 := by
    intro h0
    rw [prts, if_pos h0] at h1
    simp at h1
  have hp : prts e.n = [e.n.data.toList] := by rw [prts, if_neg hs, cut_none _ _ hno, List.nil_append]
  rw [hp] at hc
  simp only [comps, List.all_cons, List.all_nil, Bool.and_true, okc, Bool.and_eq_true, highs, List.all_eq_true, decide_eq_true_eq] at hc
  exact hc.1.2
theorem idx_nameT {n r : List UInt8} (h : ∀ c ∈ n, 32 ≤ c.toNat) : Lib.indexByte (n ++ 0 :: r) 0 = n.length := by
  induction n with
  | nil => rfl
  | cons b n ih =>
    have hb : (b == 0) = false := by
      rw [beq_eq_false_iff_ne]
      intro e
      have := h b (by simp)
      rw [e] at this
      exact absurd this (by decide)
    have ih := ih fun c hc => h c (by simp [hc])
    rw [List.cons_append, Lib.indexByte, hb, if_neg Bool.false_ne_true, ih]
    have h1 : (((n.length : Nat) : Int) == -1) = false := by rw [beq_eq_false_iff_ne]; omega
    rw [h1, if_neg Bool.false_ne_true, List.length_cons]
    omega
theorem modeT_word {q : Nat} (h1 : 1 ≤ q) (h4 : q ≤ 4) (x : List UInt8) : modeT (wordM q ++ x) = (q, 0) := by
  have : q = 1 ∨ q = 2 ∨ q = 3 ∨ q = 4 := by omega
  rcases this with rfl | rfl | rfl | rfl <;> rfl
theorem hexL_idT {i : ByteArray} (h : isId i = true) : str (hexL (rawL i.data.toList 20)) = i := by
  simp only [isId, Bool.and_eq_true, decide_eq_true_eq] at h
  refine ba_ext ?_
  rw [str_list, hex_raw _ h.2 20 (by rw [list_len]; omega), List.take_of_length_le (by rw [list_len]; omega)]
theorem oneT_of {e : En} (h : okEn e = true) (r : List UInt8) : oneT (encOne e ++ r) = (0, e, r) := by
  obtain ⟨hn, hi, q, hq, h1, h4⟩ := okEn_size h
  have hb := okEn_bytes h
  have he : encOne e ++ r = wordM q ++ (e.n.data.toList ++ 0 :: (rawL e.i.data.toList 20 ++ r)) := by
    rw [encOne, hq]
    simp only [List.append_assoc, List.singleton_append, List.cons_append, List.nil_append]
  rw [he, oneT, modeT_word h1 h4]
  rw [if_neg (by show ¬ q = 0; omega)]
  simp only
  rw [List.drop_left, restT, idx_nameT hb, if_neg (by
    rintro (h | h)
    · omega
    · simp only [Int.toNat_natCast, List.length_append, List.length_cons, rawL_len] at h
      omega)]
  simp only [Int.toNat_natCast]
  have d1 : (e.n.data.toList ++ 0 :: (rawL e.i.data.toList 20 ++ r)).drop (e.n.data.toList.length + 1) = rawL e.i.data.toList 20 ++ r := by
    rw [List.drop_append, List.drop_of_length_le (by omega), Nat.add_sub_cancel_left]
    rfl
  rw [List.take_left, d1, List.take_left' (rawL_len _ _), hexL_idT hi, show e.n.data.toList.length + 21 = (e.n.data.toList.length + 1) + 20 by omega, ← List.drop_drop, d1, List.drop_left' (rawL_len _ _), ← hq]
  congr 2
theorem encOne_ne {e : En} : encOne e ≠ [] := by
  unfold encOne
  simp
theorem parFrom_enc : ∀ (es acc : List En), (∀ e ∈ es, okEn e = true) → parFrom (encT es) acc = parFrom [] (acc ++ es)
  | [], acc, _ => by simp [encT]
  | e :: es, acc, h => by
    have h1 := oneT_of (h e (by simp)) (encT es)
    have he : encT (e :: es) = encOne e ++ encT es := by simp [encT]
    rw [he, parFrom_step (by simp [encOne_ne]) (by rw [h1]), h1]
    simp only
    rw [parFrom_enc es (acc ++ [e]) (fun x hx => h x (by simp [hx])), List.append_assoc]
    rfl
/-- What Body wrote, Parse takes back. -/
theorem par_body {es : List En} (h : chkT es = 0) : parE (bodyT es) = (0, es) := by
  rw [bodyT_ok h, parE, parFrom_enc es [] (chkT_all h).2, List.nil_append, parFrom_nil, if_pos h]
theorem modeT_pre {l : List UInt8} (h : (modeT l).1 ≠ 0) : ∃ x, l = wordM (modeT l).1 ++ x := by
  have h2 : Lib.hasPrefix l (wordM (modeT l).1) = true := by
    unfold modeT at h ⊢
    split
    · assumption
    rename_i h1
    rw [if_neg h1] at h
    split
    · assumption
    rename_i h2
    rw [if_neg h2] at h
    split
    · assumption
    rename_i h3
    rw [if_neg h3] at h
    split
    · assumption
    rename_i h4
    rw [if_neg h4] at h
    exact absurd rfl h
  obtain ⟨x, hx⟩ := List.isPrefixOf_iff_prefix.1 (show (wordM (modeT l).1).isPrefixOf l = true from h2)
  exact ⟨x, hx.symm⟩
theorem oneT_enc {l : List UInt8} (h : (oneT l).1 = 0) : l = encOne (oneT l).2.1 ++ (oneT l).2.2 := by
  unfold oneT restT at h ⊢
  split at h
  · rename_i h0
    rcases modeT_no h0 with e | e
    · exact absurd (h.symm.trans e) (by decide)
    · exact absurd (h.symm.trans e) (by decide)
  · rename_i h0
    rw [if_neg h0]
    obtain ⟨x, hx⟩ := modeT_pre h0
    obtain ⟨q, hq⟩ : ∃ q, q = (modeT l).1 := ⟨_, rfl⟩
    rw [← hq] at hx h ⊢
    have hd : l.drop (wordM q).length = x := by rw [hx]; exact List.drop_left
    rw [hd] at h ⊢
    split at h
    · cases h
    · rename_i h1
      rw [if_neg h1]
      rcases idx_natT x 0 with h2 | ⟨k, h2, hk⟩
      · exact (h1 (.inl (by omega))).elim
      · rw [h2] at h1 ⊢
        simp only [Int.toNat_natCast] at h1 ⊢
        have hc := (Lib.indexByte_some h2).1
        have hl : k + 21 ≤ x.length := by omega
        have h3 : ((x.drop (k + 1)).take 20).length = 20 := by rw [List.length_take, List.length_drop]; omega
        rw [encOne]
        simp only [str_list]
        rw [raw_hex _ 20 (by omega), List.take_of_length_le (i := 20) (l := (x.drop (k + 1)).take 20) (by omega)]
        have h4 : x = x.take k ++ [0] ++ (x.drop (k + 1)).take 20 ++ x.drop (k + 21) := by
          have e1 : x.drop k = 0 :: x.drop (k + 1) := by
            rw [List.drop_eq_getElem_cons (by omega)]
            rw [List.getElem?_eq_getElem (by omega), Option.some.injEq] at hc
            rw [hc]
          have e2 : x.drop (k + 1) = (x.drop (k + 1)).take 20 ++ x.drop (k + 21) := by
            conv => lhs; rw [← List.take_append_drop 20 (x.drop (k + 1))]
            rw [List.drop_drop]
          conv => lhs; rw [← List.take_append_drop k x, e1, e2]
          simp
        conv => lhs; rw [hx, h4]
        simp only [List.append_assoc]
theorem parFrom_back : ∀ (n : Nat) (r : List UInt8) (acc es : List En), r.length ≤ n → parFrom r acc = (0, es) → chkT es = 0 ∧ ∃ es2, es = acc ++ es2 ∧ encT es2 = r
  | n, r, acc, es, hn, h => by
    by_cases hr : r = []
    · subst hr
      rw [parFrom_nil] at h
      split at h
      · rename_i h0
        simp only [Prod.mk.injEq, true_and] at h
        subst h
        exact ⟨h0, [], by simp, rfl⟩
      · rename_i h0
        simp only [Prod.mk.injEq] at h
        exact absurd h.1 h0
    · by_cases h0 : (oneT r).1 = 0
      · have hl := oneT_len h0
        cases n with
        | zero => omega
        | succ n =>
          rw [parFrom_step hr h0] at h
          obtain ⟨h1, es2, he, hr2⟩ := parFrom_back n _ _ _ (by omega) h
          refine ⟨h1, (oneT r).2.1 :: es2, by rw [he, List.append_assoc]; rfl, ?_⟩
          rw [show encT ((oneT r).2.1 :: es2) = encOne (oneT r).2.1 ++ encT es2 by simp [encT], hr2]
          exact (oneT_enc h0).symm
      · rw [parFrom_bad hr h0] at h
        simp only [Prod.mk.injEq] at h
        exact absurd h.1 h0
/-- What Parse took, Body writes again. -/
theorem body_par {l : List UInt8} (h : (parE l).1 = 0) : chkT (parE l).2 = 0 ∧ bodyT (parE l).2 = l := by
  obtain ⟨h1, es2, he, hr⟩ := parFrom_back l.length l [] (parE l).2 (Nat.le_refl _) (by
    show parE l = _
    rw [← h])
  refine ⟨h1, ?_⟩
  rw [bodyT_ok h1, he, List.nil_append, hr]
theorem par_err {l : List UInt8} (h : (parE l).1 ≠ 0) : (parE l).2 = [] := by
  have : ∀ (n : Nat) (r : List UInt8) (acc : List En), r.length ≤ n → (parFrom r acc).1 ≠ 0 → (parFrom r acc).2 = [] := by
    intro n
    induction n with
    | zero =>
      intro r acc hn h
      have hr : r = [] := List.eq_nil_of_length_eq_zero (by omega)
      subst hr
      rw [parFrom_nil] at h ⊢
      split at h
      · exact absurd rfl h
      · rename_i h0; rw [if_neg h0]
    | succ n ih =>
      intro r acc hn h
      by_cases hr : r = []
      · subst hr
        rw [parFrom_nil] at h ⊢
        split at h
        · exact absurd rfl h
        · rename_i h0; rw [if_neg h0]
      · by_cases h0 : (oneT r).1 = 0
        · have hl := oneT_len h0
          rw [parFrom_step hr h0] at h ⊢
          exact ih _ _ (by omega) h
        · rw [parFrom_bad hr h0]
  exact this l.length l [] (Nat.le_refl _) h
/-- What Parse takes, Parse takes in little. -/
theorem par_size {l : List UInt8} : ∀ e ∈ (parE l).2, e.n.size ≤ l.length ∧ e.i.size ≤ 40 := by
  have : ∀ (n : Nat) (r : List UInt8) (acc : List En), r.length ≤ n → (∀ e ∈ acc, e.n.size ≤ l.length ∧ e.i.size ≤ 40) → r.length ≤ l.length → ∀ e ∈ (parFrom r acc).2, e.n.size ≤ l.length ∧ e.i.size ≤ 40 := by
    intro n
    induction n with
    | zero =>
      intro r acc hn ha hr
      have hr : r = [] := List.eq_nil_of_length_eq_zero (by omega)
      subst hr
      rw [parFrom_nil]
      split
      · exact ha
      · intro e he; simp at he
    | succ n ih =>
      intro r acc hn ha hrl
      by_cases hr : r = []
      · subst hr
        rw [parFrom_nil]
        split
        · exact ha
        · intro e he; simp at he
      · by_cases h0 : (oneT r).1 = 0
        · have hl := oneT_len h0
          rw [parFrom_step hr h0]
          refine ih _ _ (by omega) (fun e he => ?_) (by omega)
          rw [List.mem_append, List.mem_singleton] at he
          rcases he with he | rfl
          · exact ha e he
          · exact ⟨by omega, hl.2.2⟩
        · rw [parFrom_bad hr h0]
          intro e he
          simp at he
  exact this l.length l [] (Nat.le_refl _) (fun e he => by simp at he) (Nat.le_refl _)
end Go.Proofs.YtddmnibioacelaaGreatDoor
