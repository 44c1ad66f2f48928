/-
  Put, plain: what it keeps and what it turns.
-/
import Derived.Test.YtjholoajgnpodaaDoorTrOrdP
namespace Go.Proofs.YtjholoajgnpodaaDoor
open Go.RowKit

/-- A list that Check lets by. -/
def RelT (a b : En) : Prop := lessE a b = true ∧ a.n ≠ b.n
def SortedT (l : List En) : Prop := l.length ≤ 1024 ∧ (∀ e ∈ l, okEn e = true) ∧ l.Pairwise RelT
theorem chk_sorted {l : List En} (h : chkT l = 0) : SortedT l := by
  obtain ⟨h1, h2⟩ := chkT_ok.1 h
  have hok : ∀ j (hj : j < l.length), okEn l[j] = true := fun j hj => by have := (badT_ok (h2 j hj)).1; rwa [getD_en hj] at this
  refine ⟨h1, fun e he => ?_, ?_⟩
  · obtain ⟨k, hk, rfl⟩ := List.mem_iff_getElem.mp he
    exact hok k hk
  · rw [List.pairwise_iff_getElem]
    intro i j hi hj hij
    refine ⟨?_, ?_⟩
    · obtain ⟨d, hd⟩ : ∃ d, j = i + 1 + d := ⟨j - (i + 1), by omega⟩
      subst hd
      clear hij
      induction d with
      | zero =>
        have := (badT_ok (h2 (i + 1) hj)).2.1 (by omega)
        rwa [getD_en hj, show i + 1 - 1 = i by omega, getD_en hi] at this
      | succ d ih =>
        have h3 := (badT_ok (h2 (i + 1 + (d + 1)) hj)).2.1 (by omega)
        rw [getD_en hj, show i + 1 + (d + 1) - 1 = i + 1 + d by omega, getD_en (by omega)] at h3
        exact lessE_trans (ih (by omega)) h3
    · have := (badT_ok (h2 j hj)).2.2 l[i] (by rw [List.mem_take_iff_getElem]; exact ⟨i, by omega, rfl⟩)
      rwa [getD_en hj] at this
theorem sorted_chk {l : List En} (h : SortedT l) : chkT l = 0 := by
  obtain ⟨h1, h2, h3⟩ := h
  rw [List.pairwise_iff_getElem] at h3
  refine chkT_ok.2 ⟨h1, fun j hj => badT_of ?_ (fun h0 => ?_) (fun e he => ?_)⟩
  · rw [getD_en hj]; exact h2 _ (List.getElem_mem hj)
  · rw [getD_en hj, getD_en (by omega)]
    exact (h3 (j - 1) j (by omega) hj (by omega)).1
  · rw [List.mem_take_iff_getElem] at he
    obtain ⟨i, hi, rfl⟩ := he
    rw [getD_en hj]
    exact (h3 i j (by omega) hj (by omega)).2
theorem dropE_sorted {l : List En} {n : ByteArray} (h : SortedT l) : SortedT (dropE l n) :=
  ⟨Nat.le_trans (List.length_filter_le _ _) h.1, fun e he => h.2.1 e (List.mem_filter.1 he).1, h.2.2.filter _⟩
theorem dropE_no {l : List En} {n : ByteArray} {e : En} (h : e ∈ dropE l n) : e.n ≠ n := by
  have := (List.mem_filter.1 h).2
  simpa using this
theorem atE_le (l : List En) (e : En) : atE l e ≤ l.length := by
  unfold atE
  exact (List.takeWhile_sublist _).length_le
theorem take_atE (l : List En) (e : En) : l.take (atE l e) = l.takeWhile fun x => !lessE e x := by
  unfold atE
  induction l with
  | nil => rfl
  | cons a r ih =>
    by_cases h : (!lessE e a) = true
    · simp only [List.takeWhile_cons, h, if_true, List.length_cons, List.take_succ_cons]
      rw [ih]
    · simp [List.takeWhile_cons, h]
theorem drop_atE (l : List En) (e : En) : l.drop (atE l e) = l.dropWhile fun x => !lessE e x := by
  unfold atE
  induction l with
  | nil => rfl
  | cons a r ih =>
    by_cases h : (!lessE e a) = true
    · simp only [List.takeWhile_cons, List.dropWhile_cons, h, if_true, List.length_cons, List.drop_succ_cons]
      rw [ih]
    · simp [List.takeWhile_cons, List.dropWhile_cons, h]
theorem put_sorted {l : List En} {e : En} (h : SortedT l) (he : okEn e = true) (hl : l.length ≤ 1023) : SortedT (putE l e) := by
  have hD : SortedT (dropE l e.n) := dropE_sorted h
  have hno : ∀ x ∈ dropE l e.n, x.n ≠ e.n := fun x hx => dropE_no hx
  have hlen : (dropE l e.n).length ≤ 1023 := Nat.le_trans (List.length_filter_le _ _) hl
  unfold putE
  generalize dropE l e.n = D at hD hno hlen
  obtain ⟨h1, h2, h3⟩ := hD
  have hk : ∀ x ∈ D, keyE x ≠ keyE e := fun x hx => key_ne (okEn_flat (h2 x hx)) (okEn_flat he) (hno x hx)
  refine ⟨by have := atE_le D e; simp; omega, fun x hx => ?_, ?_⟩
  · rw [List.mem_append, List.mem_cons] at hx
    rcases hx with hx | rfl | hx
    · exact h2 x (List.mem_of_mem_take hx)
    · exact he
    · exact h2 x (List.mem_of_mem_drop hx)
  · have hlow : ∀ x ∈ D.take (atE D e), RelT x e := fun x hx => by
      refine ⟨?_, hno x (List.mem_of_mem_take hx)⟩
      rw [take_atE] at hx
      have h4 := List.all_takeWhile (p := fun x => !lessE e x) (l := D)
      rw [List.all_eq_true] at h4
      have h5 : lessE e x = false := by simpa using h4 x hx
      rcases lessE_total (hk x ((List.takeWhile_sublist _).subset hx)) with h6 | h6
      · exact h6
      · rw [h5] at h6; cases h6
    have hhigh : ∀ x ∈ D.drop (atE D e), RelT e x := fun x hx => by
      refine ⟨?_, fun h => hno x (List.mem_of_mem_drop hx) h.symm⟩
      have h4 : (D.drop (atE D e)).Pairwise RelT := h3.sublist (List.drop_sublist _ _)
      rw [drop_atE] at hx h4
      cases hd : D.dropWhile (fun x => !lessE e x) with
      | nil => rw [hd] at hx; cases hx
      | cons y r =>
        have hy : lessE e y = true := by
          have := List.head_dropWhile_not (fun x => !lessE e x) (by rw [hd]; simp : D.dropWhile (fun x => !lessE e x) ≠ [])
          simpa [hd] using this
        rw [hd] at hx h4
        rcases List.mem_cons.1 hx with rfl | hx
        · exact hy
        · exact lessE_trans hy ((List.pairwise_cons.1 h4).1 x hx).1
    rw [List.pairwise_append, List.pairwise_cons]
    refine ⟨h3.sublist (List.take_sublist _ _), ⟨hhigh, h3.sublist (List.drop_sublist _ _)⟩, fun a ha b hb => ?_⟩
    rcases List.mem_cons.1 hb with rfl | hb
    · exact hlow a ha
    · exact ⟨lessE_trans (hlow a ha).1 (hhigh b hb).1, by
        have h5 : (D.take (atE D e) ++ D.drop (atE D e)).Pairwise RelT := by rw [List.take_append_drop]; exact h3
        exact ((List.pairwise_append.1 h5).2.2 a ha b hb).2⟩
theorem find_put (l : List En) (e : En) : findE (putE l e) e.n = some e := by
  unfold findE putE
  rw [List.find?_append, List.find?_eq_none.2 (fun x hx => by simpa using dropE_no (List.mem_of_mem_take hx)), Option.none_or, List.find?_cons_of_pos (by simp)]
theorem find_drop {l : List En} {n m : ByteArray} (h : m ≠ n) : findE (dropE l n) m = findE l m := by
  unfold findE dropE
  rw [List.find?_filter]
  congr 1
  funext x
  by_cases hx : x.n = m
  · simp [hx, h]
  · simp [hx]
theorem find_put_other {l : List En} {e : En} {m : ByteArray} (h : m ≠ e.n) : findE (putE l e) m = findE l m := by
  rw [← find_drop (l := l) h]
  unfold putE
  generalize dropE l e.n = D
  unfold findE
  rw [List.find?_append, List.find?_cons_of_neg (by simpa using fun h2 => h h2.symm), ← List.find?_append, List.take_append_drop]
theorem find_gone (l : List En) (n : ByteArray) : findE (dropE l n) n = none := List.find?_eq_none.2 (fun x hx => by simpa using dropE_no hx)
theorem put_same {l : List En} {e : En} (h : SortedT l) (hf : findE l e.n = some e) : putE l e = l := by
  obtain ⟨A, B, rfl⟩ := List.append_of_mem (List.mem_of_find?_eq_some hf)
  obtain ⟨_, h2, h3⟩ := h
  rw [List.pairwise_append, List.pairwise_cons] at h3
  obtain ⟨hA, ⟨heB, hB⟩, hAB⟩ := h3
  have hd : dropE (A ++ e :: B) e.n = A ++ B := by
    unfold dropE
    rw [List.filter_append, List.filter_cons_of_neg (by simp), List.filter_eq_self.2 (fun x hx => by simpa using (hAB x hx e (by simp)).2), List.filter_eq_self.2 (fun x hx => by simpa using fun h => (heB x hx).2 h.symm)]
  have hat : atE (A ++ B) e = A.length := by
    unfold atE
    rw [List.takeWhile_append_of_pos (fun x hx => by simp [lessE_asym (hAB x hx e (by simp)).1])]
    cases B with
    | nil => simp
    | cons y r => rw [List.takeWhile_cons_of_neg (by simp [(heB y (by simp)).1]), List.append_nil]
  unfold putE
  rw [hd, hat, List.take_left, List.drop_left]
end Go.Proofs.YtjholoajgnpodaaDoor
