/-
  Plain: what a delta of literals alone, and one of a single copy, are read as.
-/
import Derived.Test.YtlgaindeheaodaaDlMake
import Derived.Test.YtlgaindeheaodaaOctDigs
namespace Go.Proofs.Ytlgaindeheaodaa
open Go.RowKit

theorem mkd_ext (s : ByteArray) (lf : Nat → Nat × Nat) : ∀ (k st a : Nat) (l : List UInt8), s.size - a ≤ k → ∃ z, mkd s lf st a l = l ++ z
  | 0, st, a, l, h => ⟨_, mkd_end (by omega)⟩
  | k + 1, st, a, l, h => by
    by_cases h1 : a < s.size
    · by_cases h2 : 0 < (lf a).2
      · obtain ⟨z, hz⟩ := mkd_ext s lf k (a + (lf a).2) (a + (lf a).2) (l ++ lit (s.extract st a).data.toList ++ digs (2 * (lf a).2 + 1) ++ digs (lf a).1) (by omega)
        exact ⟨lit (s.extract st a).data.toList ++ digs (2 * (lf a).2 + 1) ++ digs (lf a).1 ++ z, by rw [mkd_copy h1 h2, hz]; simp⟩
      · by_cases h3 : a + 1 - st = 1024
        · obtain ⟨z, hz⟩ := mkd_ext s lf k (a + 1) (a + 1) (l ++ lit (s.extract st (a + 1)).data.toList) (by omega)
          exact ⟨lit (s.extract st (a + 1)).data.toList ++ z, by rw [mkd_flush h1 h2 h3, hz]; simp⟩
        · rw [mkd_on h1 h2 h3]
          exact mkd_ext s lf k st (a + 1) l (by omega)
    · exact ⟨_, mkd_end h1⟩
theorem ext_len (s : ByteArray) {a b : Nat} (h : a ≤ b) (hb : b ≤ s.size) : (s.extract a b).data.toList.length = b - a := by
  rw [list_len, ByteArray.size_extract]; omega
/-- A literal of some bytes is one step. -/
theorem lit_step {S : ByteArray} {l t z : List UInt8} {B size done : Nat} (hS : S.data.toList = l ++ lit t ++ z) (h0 : 0 < t.length) (h1 : t.length ≤ 1024) (h2 : done + t.length ≤ size) :
    ts S l.length B (size - done) = (⟨false, l.length + (digs (2 * t.length)).length, t.length⟩, l.length + (digs (2 * t.length)).length + t.length, 0) := by
  have hne : t.isEmpty = false := by
    cases t with
    | nil => simp at h0
    | cons _ _ => rfl
  rw [lit_cons hne] at hS
  have ht : takeAt S.data.toList (l.length : Nat) = (2 * t.length, ((l.length + (digs (2 * t.length)).length : Nat) : Int), 0) := by
    rw [hS, show l ++ (digs (2 * t.length) ++ t) ++ z = l ++ (digs (2 * t.length) ++ (t ++ z)) by simp]
    exact takeAt_put l (t ++ z) _ (by omega)
  have hsz : S.size = l.length + (digs (2 * t.length)).length + t.length + z.length := by
    rw [← list_len, hS]
    simp only [List.length_append]
    omega
  rw [ts_lit ht (by omega) (by omega) (by omega) (by omega)]
  rw [show 2 * t.length / 2 = t.length by omega]
theorem sts_lits (s : ByteArray) (lf : Nat → Nat × Nat) (S : ByteArray) (B : Nat) : ∀ (k st a : Nat) (l : List UInt8), s.size - a ≤ k → st ≤ a → a ≤ s.size → a - st < 1024 → (∀ b, a ≤ b → b < s.size → (lf b).2 = 0) → S.data.toList = mkd s lf st a l →
    ∃ ts, sts S B s.size l.length st = (ts, 0) ∧ ∀ t ∈ ts, t.c = false
  | k, st, a, l, hk, h1, h2, h3, hlf, hS => by
    by_cases ha : a < s.size
    · have h0 : ¬ 0 < (lf a).2 := by rw [hlf a (Nat.le_refl _) ha]; omega
      cases k with
      | zero => omega
      | succ k =>
        by_cases hf : a + 1 - st = 1024
        · rw [mkd_flush ha h0 hf] at hS
          obtain ⟨ts', e1, e2⟩ := sts_lits s lf S B k (a + 1) (a + 1) _ (by omega) (Nat.le_refl _) ha (by omega) (fun b hb hb2 => hlf b (by omega) hb2) hS
          obtain ⟨z, hz⟩ := mkd_ext s lf (s.size - (a + 1)) (a + 1) (a + 1) (l ++ lit (s.extract st (a + 1)).data.toList) (Nat.le_refl _)
          rw [hz] at hS
          have hl := ext_len s (a := st) (b := a + 1) (by omega) (by omega)
          have hst := lit_step (B := B) (size := s.size) (done := st) hS (by omega) (by omega) (by omega)
          have hne : (s.extract st (a + 1)).data.toList.isEmpty = false := by
            cases hc : (s.extract st (a + 1)).data.toList with
            | nil => rw [hc] at hl; simp at hl; omega
            | cons _ _ => rfl
          have hll : (l ++ lit (s.extract st (a + 1)).data.toList).length = l.length + (digs (2 * (s.extract st (a + 1)).data.toList.length)).length + (s.extract st (a + 1)).data.toList.length := by
            rw [lit_cons hne]; simp only [List.length_append]; omega
          rw [sts_on (by omega) hst, ← hll]
          simp only
          rw [hl, show st + (a + 1 - st) = a + 1 by omega, e1]
          exact ⟨_, rfl, fun t ht => by
            rcases List.mem_append.1 ht with ht | ht
            · rw [List.mem_singleton] at ht; rw [ht]
            · exact e2 t ht⟩
        · rw [mkd_on ha h0 hf] at hS
          exact sts_lits s lf S B k st (a + 1) l (by omega) (by omega) ha (by omega) (fun b hb hb2 => hlf b (by omega) hb2) hS
    · obtain rfl : a = s.size := by omega
      rw [mkd_end ha] at hS
      have hl := ext_len s (a := st) (b := s.size) (by omega) (Nat.le_refl _)
      by_cases hst : st = s.size
      · have hn : (s.extract st s.size).data.toList = [] := List.eq_nil_of_length_eq_zero (by omega)
        rw [hn, lit_nil, List.append_nil] at hS
        have hsz : S.size = l.length := by rw [← list_len, hS]
        rw [sts_end (by omega) (by omega)]
        exact ⟨[], rfl, by simp⟩
      · rw [← List.append_nil (l ++ lit _)] at hS
        have hne : (s.extract st s.size).data.toList.isEmpty = false := by
          cases hc : (s.extract st s.size).data.toList with
          | nil => rw [hc] at hl; simp at hl; omega
          | cons _ _ => rfl
        have hs1 := lit_step (B := B) (size := s.size) (done := st) hS (by omega) (by omega) (by omega)
        have hsz : S.size = l.length + (digs (2 * (s.extract st s.size).data.toList.length)).length + (s.extract st s.size).data.toList.length := by
          rw [← list_len, hS, lit_cons hne]
          simp only [List.length_append, List.length_nil]
          omega
        rw [sts_on (by omega) hs1]
        simp only
        rw [sts_end (by omega) (by omega), before_end]
        exact ⟨_, rfl, fun t ht => by rw [List.mem_singleton] at ht; rw [ht]⟩
theorem runs_lits : ∀ (ts : List St) (k : Nat), (∀ t ∈ ts, t.c = false) → runs k ts = []
  | [], _, _ => rfl
  | t :: r, k, h => by
    rw [runs, if_neg (by rw [h t List.mem_cons_self]; decide), runs_lits r _ fun x hx => h x (List.mem_cons_of_mem _ hx)]
    rfl
theorem tz_of {S : ByteArray} {B n : Nat} {z : List UInt8} (hS : S.data.toList = digs B ++ digs n ++ z) (hB : B < 18446744073709551616) (hn : n < 18446744073709551616) : tz S = (B, n, (digs B ++ digs n).length, 0) := by
  have h1 := takeAt_put [] (digs n ++ z) B hB
  have h2 := takeAt_put (digs B) z n hn
  rw [List.length_append]
  refine tz_ok (q := (digs B).length) ?_ ?_
  · rw [hS, show digs B ++ digs n ++ z = [] ++ (digs B ++ (digs n ++ z)) by simp]
    simpa using h1
  · rw [hS, List.append_assoc]
    exact h2
/-- A delta without copies has no runs. -/
theorem dcp_lits (s : ByteArray) (lf : Nat → Nat × Nat) (B : Nat) (hB : B ≤ 1048576) (hs : s.size ≤ 1048576) (hlf : ∀ b, (lf b).2 = 0) (S : ByteArray) (hS : S.data.toList = mkd s lf 0 0 (digs B ++ digs s.size)) : dcp S = ([], 0) := by
  obtain ⟨z, hz⟩ := mkd_ext s lf s.size 0 0 (digs B ++ digs s.size) (by omega)
  have h1 := tz_of (z := z) (by rw [hS, hz]) (show B < 18446744073709551616 by omega) (show s.size < 18446744073709551616 by omega)
  obtain ⟨ts, h2, h3⟩ := sts_lits s lf S B s.size 0 0 _ (by omega) (Nat.le_refl _) (Nat.zero_le _) (by omega) (fun b _ _ => hlf b) hS
  rw [dcp_ok (dsz_ok h1 (by omega)) (by rw [h2]), h2, runs_lits ts 0 h3]
theorem ext_nil (s : ByteArray) (a : Nat) : (s.extract a a).data.toList = [] := List.eq_nil_of_length_eq_zero (by rw [list_len, ByteArray.size_extract]; omega)
def lfS (n a : Nat) : Nat × Nat := if a = 0 then (0, n) else (0, 0)
theorem mkd_self (s : ByteArray) (h : 0 < s.size) (l : List UInt8) : mkd s (lfS s.size) 0 0 l = l ++ digs (2 * s.size + 1) ++ digs 0 := by
  have e : lfS s.size 0 = (0, s.size) := rfl
  rw [mkd_copy h (by rw [e]; exact h), e]
  simp only [Nat.zero_add]
  rw [mkd_end (Nat.lt_irrefl _), ext_nil, ext_nil, lit_nil, List.append_nil, List.append_nil]
/-- The delta of a string against itself is one copy. -/
theorem dcp_self (s : ByteArray) (h : 0 < s.size) (hs : s.size ≤ 1048576) (S : ByteArray) (hS : S.data.toList = mkd s (lfS s.size) 0 0 (digs s.size ++ digs s.size)) : dcp S = ([⟨0, 0, s.size⟩], 0) := by
  rw [mkd_self s h] at hS
  have hS' : S.data.toList = digs s.size ++ digs s.size ++ (digs (2 * s.size + 1) ++ digs 0) := by rw [hS]; simp
  have h1 := tz_of hS' (show s.size < 18446744073709551616 by omega) (show s.size < 18446744073709551616 by omega)
  obtain ⟨l0, hl0⟩ : ∃ l0, l0 = digs s.size ++ digs s.size := ⟨_, rfl⟩
  rw [← hl0] at h1 hS'
  have t1 : takeAt S.data.toList (l0.length : Nat) = (2 * s.size + 1, ((l0.length + (digs (2 * s.size + 1)).length : Nat) : Int), 0) := by
    rw [hS']
    exact takeAt_put l0 (digs 0) _ (by omega)
  have t2 : takeAt S.data.toList ((l0.length + (digs (2 * s.size + 1)).length : Nat) : Int) = (0, ((l0.length + (digs (2 * s.size + 1)).length + (digs 0).length : Nat) : Int), 0) := by
    have := takeAt_put (l0 ++ digs (2 * s.size + 1)) [] 0 (by omega)
    rw [List.append_nil, List.append_assoc, List.length_append] at this
    rw [hS']
    exact this
  have hsz : S.size = l0.length + (digs (2 * s.size + 1)).length + (digs 0).length := by
    rw [← list_len, hS']
    simp only [List.length_append]
    omega
  have hst : ts S l0.length s.size (s.size - 0) = (⟨true, 0, s.size⟩, l0.length + (digs (2 * s.size + 1)).length + (digs 0).length, 0) := by
    rw [ts_copy t1 (by omega) (by omega), show (2 * s.size + 1) / 2 = s.size by omega]
    exact tc_ok t2 (by omega) (by omega)
  have hsts : sts S s.size s.size l0.length 0 = ([⟨true, 0, s.size⟩], 0) := by
    rw [sts_on h hst]
    simp only
    rw [sts_end (by omega) (by omega), before_end]
  rw [dcp_ok (dsz_ok h1 (by omega)) (by rw [hsts]), hsts]
  rfl
/-- A base of another length is rejected. -/
theorem dap_len (b s : ByteArray) (lf : Nat → Nat × Nat) (hb : b.size ≠ s.size) (hs : s.size ≤ 1048576) (S : ByteArray) (hS : S.data.toList = mkd s lf 0 0 (digs s.size ++ digs s.size)) : dap b S = ([], 40) := by
  obtain ⟨z, hz⟩ := mkd_ext s lf s.size 0 0 (digs s.size ++ digs s.size) (by omega)
  have h1 := tz_of (z := z) (by rw [hS, hz]) (show s.size < 18446744073709551616 by omega) (show s.size < 18446744073709551616 by omega)
  exact dap_other h1 (Ne.symm hb)
end Go.Proofs.Ytlgaindeheaodaa
