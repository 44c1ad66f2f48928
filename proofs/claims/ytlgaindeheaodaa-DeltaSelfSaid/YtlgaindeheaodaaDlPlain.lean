/-
  Plain mathematics of a delta's decoding: an instruction, all of them, what they come to.
-/
import Derived.Test.YtlgaindeheaodaaOctTakePlain
import Derived.Test.YtlgaindeheaodaaOwn
namespace Go.Proofs.Ytlgaindeheaodaa

/-- An instruction. -/
structure St where
  c : Bool
  f : Nat
  n : Nat
def St.none : St := ⟨false, 0, 0⟩

def tc (s : ByteArray) (q n B left : Nat) : St × Nat × Nat :=
  if (takeAt s.data.toList q).2.2 ≠ 0 then (St.none, 0, (takeAt s.data.toList q).2.2) else
  if B < n ∨ B - n < (takeAt s.data.toList q).1 then (St.none, 0, 40) else
  if left < n then (St.none, 0, 2) else
  (⟨true, (takeAt s.data.toList q).1, n⟩, (takeAt s.data.toList q).2.1.toNat, 0)
section
variable {s : ByteArray} {q n B left v q2 : Nat}
theorem tc_err {e : Nat} (h : takeAt s.data.toList q = (0, 0, e)) (he : e ≠ 0) : tc s q n B left = (St.none, 0, e) := by rw [tc, h, if_pos he]
theorem tc_out (h : takeAt s.data.toList q = (v, (q2 : Int), 0)) (hv : B < n ∨ B - n < v) : tc s q n B left = (St.none, 0, 40) := by rw [tc, h, if_neg (by simp), if_pos hv]
theorem tc_much (h : takeAt s.data.toList q = (v, (q2 : Int), 0)) (hv : ¬ (B < n ∨ B - n < v)) (h2 : left < n) : tc s q n B left = (St.none, 0, 2) := by rw [tc, h, if_neg (by simp), if_neg hv, if_pos h2]
theorem tc_ok (h : takeAt s.data.toList q = (v, (q2 : Int), 0)) (hv : ¬ (B < n ∨ B - n < v)) (h2 : ¬ left < n) : tc s q n B left = (⟨true, v, n⟩, q2, 0) := by
  rw [tc, h, if_neg (by simp), if_neg hv, if_neg h2]
  simp
end

def ts (s : ByteArray) (q B left : Nat) : St × Nat × Nat :=
  if (takeAt s.data.toList q).2.2 ≠ 0 then (St.none, 0, (takeAt s.data.toList q).2.2) else
  if (takeAt s.data.toList q).1 / 2 = 0 then (St.none, 0, 2) else
  if (takeAt s.data.toList q).1 % 2 = 1 then tc s (takeAt s.data.toList q).2.1.toNat ((takeAt s.data.toList q).1 / 2) B left else
  if 1024 < (takeAt s.data.toList q).1 / 2 ∨ left < (takeAt s.data.toList q).1 / 2 then (St.none, 0, 2) else
  if s.size - (takeAt s.data.toList q).2.1.toNat < (takeAt s.data.toList q).1 / 2 then (St.none, 0, 3) else
  (⟨false, (takeAt s.data.toList q).2.1.toNat, (takeAt s.data.toList q).1 / 2⟩, (takeAt s.data.toList q).2.1.toNat + (takeAt s.data.toList q).1 / 2, 0)
section
variable {s : ByteArray} {q B left v q2 : Nat}
theorem ts_err {e : Nat} (h : takeAt s.data.toList q = (0, 0, e)) (he : e ≠ 0) : ts s q B left = (St.none, 0, e) := by rw [ts, h, if_pos he]
theorem ts_zero (h : takeAt s.data.toList q = (v, (q2 : Int), 0)) (h0 : v / 2 = 0) : ts s q B left = (St.none, 0, 2) := by rw [ts, h, if_neg (by simp), if_pos h0]
theorem ts_copy (h : takeAt s.data.toList q = (v, (q2 : Int), 0)) (h0 : v / 2 ≠ 0) (h1 : v % 2 = 1) : ts s q B left = tc s q2 (v / 2) B left := by
  rw [ts, h, if_neg (by simp), if_neg h0, if_pos h1]
  simp
theorem ts_much (h : takeAt s.data.toList q = (v, (q2 : Int), 0)) (h0 : v / 2 ≠ 0) (h1 : v % 2 = 0) (h2 : 1024 < v / 2 ∨ left < v / 2) : ts s q B left = (St.none, 0, 2) := by
  rw [ts, h, if_neg (by simp), if_neg h0, if_neg (by omega), if_pos h2]
theorem ts_short (h : takeAt s.data.toList q = (v, (q2 : Int), 0)) (h0 : v / 2 ≠ 0) (h1 : v % 2 = 0) (h2 : ¬ (1024 < v / 2 ∨ left < v / 2)) (h3 : s.size - q2 < v / 2) : ts s q B left = (St.none, 0, 3) := by
  rw [ts, h, if_neg (by simp), if_neg h0, if_neg (by omega), if_neg h2, if_pos (by simpa using h3)]
theorem ts_lit (h : takeAt s.data.toList q = (v, (q2 : Int), 0)) (h0 : v / 2 ≠ 0) (h1 : v % 2 = 0) (h2 : ¬ (1024 < v / 2 ∨ left < v / 2)) (h3 : ¬ s.size - q2 < v / 2) : ts s q B left = (⟨false, q2, v / 2⟩, q2 + v / 2, 0) := by
  rw [ts, h, if_neg (by simp), if_neg h0, if_neg (by omega), if_neg h2, if_neg (by simpa using h3)]
  simp
end

/-- Where an instruction's bytes lie. -/
def St.fits (s : ByteArray) (B : Nat) (t : St) : Prop := if t.c = true then t.f + t.n ≤ B else t.f + t.n ≤ s.size
/-- An instruction that is read: at least a byte, no more than are left, within its source. -/
theorem ts_ok {s : ByteArray} {q B left : Nat} (h : (ts s q B left).2.2 = 0) :
    0 < (ts s q B left).1.n ∧ (ts s q B left).1.n ≤ left ∧ q < (ts s q B left).2.1 ∧ (ts s q B left).2.1 ≤ s.size ∧ (ts s q B left).1.fits s B := by
  rcases takeAt_cases s.data.toList q with ⟨e, he1, he3, ht⟩ | ⟨v, q2, a, ha, haq, hq2, hv, ht, -⟩
  · rw [ts_err ht (by omega)] at h; simp only at h; omega
  · have hll := list_len s
    by_cases h0 : v / 2 = 0
    · rw [ts_zero ht h0] at h; simp at h
    · by_cases h1 : v % 2 = 1
      · rw [ts_copy ht h0 h1] at h ⊢
        rcases takeAt_cases s.data.toList q2 with ⟨e, he1, he3, ht2⟩ | ⟨v2, q3, a2, ha2, haq2, hq3, hv2, ht2, -⟩
        · rw [tc_err ht2 (by omega)] at h; simp only at h; omega
        · by_cases hb : B < v / 2 ∨ B - v / 2 < v2
          · rw [tc_out ht2 hb] at h; simp at h
          · by_cases hl : left < v / 2
            · rw [tc_much ht2 hb hl] at h; simp at h
            · rw [tc_ok ht2 hb hl]
              simp only [St.fits, if_pos]
              omega
      · by_cases h2 : 1024 < v / 2 ∨ left < v / 2
        · rw [ts_much ht h0 (by omega) h2] at h; simp at h
        · by_cases h3 : s.size - q2 < v / 2
          · rw [ts_short ht h0 (by omega) h2 h3] at h; simp at h
          · rw [ts_lit ht h0 (by omega) h2 h3]
            simp only [St.fits]
            rw [if_neg (by decide)]
            omega

/-- The instructions from an offset on, done bytes being produced: they, the error. -/
def sts (s : ByteArray) (B size : Nat) (q done : Nat) : List St × Nat :=
  if done < size then
    if (ts s q B (size - done)).2.2 ≠ 0 then ([], (ts s q B (size - done)).2.2) else
    if _h : 0 < (ts s q B (size - done)).1.n then
      if (sts s B size (ts s q B (size - done)).2.1 (done + (ts s q B (size - done)).1.n)).2 ≠ 0 then ([], (sts s B size (ts s q B (size - done)).2.1 (done + (ts s q B (size - done)).1.n)).2)
      else ((ts s q B (size - done)).1 :: (sts s B size (ts s q B (size - done)).2.1 (done + (ts s q B (size - done)).1.n)).1, 0)
    else ([], 2)
  else if q < s.size then ([], 2) else ([], 0)
termination_by size - done
decreasing_by all_goals omega
/-- What is there already, ahead of what is still read. -/
def before {α : Type} (ps : List α) (r : List α × Nat) : List α × Nat := if r.2 ≠ 0 then ([], r.2) else (ps ++ r.1, 0)
theorem before_err {α : Type} {ps : List α} {k : Nat} (hk : k ≠ 0) : before ps ([], k) = ([], k) := by unfold before; rw [if_pos hk]
theorem before_end {α : Type} (ps : List α) : before ps ([], 0) = (ps, 0) := by unfold before; simp
theorem before_nil {α : Type} (r : List α × Nat) (h : r.2 ≠ 0 → r.1 = []) : before [] r = r := by
  unfold before
  by_cases h0 : r.2 ≠ 0
  · rw [if_pos h0]; exact Prod.ext (h h0).symm rfl
  · rw [if_neg h0]; exact Prod.ext rfl (by simp at h0; exact h0.symm)
theorem before_before {α : Type} (ps qs : List α) (r : List α × Nat) : before ps (before qs r) = before (ps ++ qs) r := by
  unfold before
  by_cases h0 : r.2 ≠ 0
  · simp [h0]
  · simp at h0; simp [h0]
section
variable {s : ByteArray} {B size q done : Nat}
theorem sts_err {e : Nat} (hlt : done < size) (h : (ts s q B (size - done)).2.2 = e) (he : e ≠ 0) : sts s B size q done = ([], e) := by
  rw [sts, if_pos hlt, if_pos (by rw [h]; exact he), h]
theorem sts_on {q' : Nat} {t : St} (hlt : done < size) (h : ts s q B (size - done) = (t, q', 0)) : sts s B size q done = before [t] (sts s B size q' (done + t.n)) := by
  have hn := ts_ok (s := s) (q := q) (B := B) (left := size - done) (by rw [h])
  rw [h] at hn
  rw [sts, if_pos hlt, h, if_neg (by simp), dif_pos hn.1]
  unfold before
  rfl
theorem sts_left (hlt : ¬ done < size) (hq : q < s.size) : sts s B size q done = ([], 2) := by rw [sts, if_neg hlt, if_pos hq]
theorem sts_end (hlt : ¬ done < size) (hq : ¬ q < s.size) : sts s B size q done = ([], 0) := by rw [sts, if_neg hlt, if_neg hq]
end
theorem sts_nil {s : ByteArray} {B size q done : Nat} (h : (sts s B size q done).2 ≠ 0) : (sts s B size q done).1 = [] := by
  rw [sts] at h ⊢
  split
  · split
    · rfl
    · split
      · split
        · rfl
        · rename_i h1 h2 h3 h4
          rw [if_pos h1, if_neg h2, dif_pos h3, if_neg h4] at h
          simp at h
      · rfl
  · split <;> rfl
/-- Instructions that fit: each within its source, together no more than are wanted. -/
def okSts (s : ByteArray) (B size : Nat) : Nat → List St → Prop
  | k, [] => k ≤ size
  | k, t :: l => t.fits s B ∧ 0 < t.n ∧ k + t.n ≤ size ∧ okSts s B size (k + t.n) l
theorem sts_fit (s : ByteArray) (B size : Nat) : ∀ (m q done : Nat), size - done ≤ m → done ≤ size → okSts s B size done (sts s B size q done).1 := by
  intro m
  induction m with
  | zero =>
    intro q done hm hd
    by_cases hq : q < s.size
    · rw [sts_left (by omega) hq]; exact hd
    · rw [sts_end (by omega) hq]; exact hd
  | succ m ih =>
    intro q done hm hd
    by_cases hlt : done < size
    · obtain ⟨r, hr⟩ : ∃ r, ts s q B (size - done) = r := ⟨_, rfl⟩
      obtain ⟨t, q', e⟩ := r
      by_cases he : e = 0
      · subst he
        have hn := ts_ok (s := s) (q := q) (B := B) (left := size - done) (by rw [hr])
        rw [hr] at hn
        obtain ⟨h1, h2, -, -, h5⟩ := hn
        simp only at h1 h2 h5
        rw [sts_on hlt hr]
        have h := ih q' (done + t.n) (by omega) (by omega)
        unfold before
        split
        · exact hd
        · exact ⟨h5, h1, by omega, h⟩
      · rw [sts_err hlt (by rw [hr]) he]; exact hd
    · by_cases hq : q < s.size
      · rw [sts_left hlt hq]; exact hd
      · rw [sts_end hlt hq]; exact hd
theorem okSts_len {s : ByteArray} {B size : Nat} : ∀ (l : List St) (k : Nat), okSts s B size k l → k + l.length ≤ size
  | [], k, h => by simpa [okSts] using h
  | t :: l, k, h => by
    obtain ⟨_, h1, h2, h3⟩ := h
    have := okSts_len l _ h3
    simp only [List.length_cons]
    omega

/-- The two lengths and the offset behind them. -/
def tz (s : ByteArray) : Nat × Nat × Nat × Nat :=
  if (takeAt s.data.toList 0).2.2 ≠ 0 then (0, 0, 0, (takeAt s.data.toList 0).2.2) else
  if (takeAt s.data.toList (takeAt s.data.toList 0).2.1).2.2 ≠ 0 then (0, 0, 0, (takeAt s.data.toList (takeAt s.data.toList 0).2.1).2.2) else
  ((takeAt s.data.toList 0).1, (takeAt s.data.toList (takeAt s.data.toList 0).2.1).1, (takeAt s.data.toList (takeAt s.data.toList 0).2.1).2.1.toNat, 0)
theorem tz_err1 {s : ByteArray} {e : Nat} (h : takeAt s.data.toList 0 = (0, 0, e)) (he : e ≠ 0) : tz s = (0, 0, 0, e) := by rw [tz, h, if_pos he]
theorem tz_err2 {s : ByteArray} {v q e : Nat} (h : takeAt s.data.toList 0 = (v, (q : Int), 0)) (h2 : takeAt s.data.toList q = (0, 0, e)) (he : e ≠ 0) : tz s = (0, 0, 0, e) := by
  rw [tz, h, if_neg (by simp), h2, if_pos he]
theorem tz_ok {s : ByteArray} {v q v2 q2 : Nat} (h : takeAt s.data.toList 0 = (v, (q : Int), 0)) (h2 : takeAt s.data.toList q = (v2, (q2 : Int), 0)) : tz s = (v, v2, q2, 0) := by
  rw [tz, h, if_neg (by simp), h2, if_neg (by simp)]
  simp
/-- An error, or two lengths and an offset within the string. -/
theorem tz_cases (s : ByteArray) : (∃ e, 1 ≤ e ∧ e ≤ 3 ∧ tz s = (0, 0, 0, e)) ∨ ∃ v v2 q2, v < 18446744073709551616 ∧ v2 < 18446744073709551616 ∧ q2 ≤ s.size ∧ tz s = (v, v2, q2, 0) := by
  rcases takeAt_cases s.data.toList 0 with ⟨e, he1, he3, ht⟩ | ⟨v, q, a, -, -, hq, hv, ht, -⟩
  · exact .inl ⟨e, he1, he3, tz_err1 ht (by omega)⟩
  · rcases takeAt_cases s.data.toList q with ⟨e, he1, he3, ht2⟩ | ⟨v2, q2, a2, -, -, hq2, hv2, ht2, -⟩
    · exact .inl ⟨e, he1, he3, tz_err2 ht ht2 (by omega)⟩
    · exact .inr ⟨v, v2, q2, hv, hv2, by rw [list_len] at hq2; exact hq2, tz_ok ht ht2⟩

/-- An instruction's bytes. -/
def St.of (b s : ByteArray) (t : St) : List UInt8 := if t.c = true then (b.extract t.f (t.f + t.n)).data.toList else (s.extract t.f (t.f + t.n)).data.toList
def laid (b s : ByteArray) (l : List St) : List UInt8 := l.flatMap (St.of b s)
theorem of_len {b s : ByteArray} {t : St} (h : t.fits s b.size) : (t.of b s).length = t.n := by
  unfold St.of St.fits at *
  split at h
  · rename_i hc; rw [if_pos hc, list_len, ByteArray.size_extract]; omega
  · rename_i hc; rw [if_neg hc, list_len, ByteArray.size_extract]; omega
theorem laid_len {b s : ByteArray} {size : Nat} : ∀ (l : List St) (k : Nat), okSts s b.size size k l → k + (laid b s l).length ≤ size
  | [], k, h => by simpa [okSts, laid] using h
  | t :: l, k, h => by
    obtain ⟨h0, h1, h2, h3⟩ := h
    have := laid_len l _ h3
    have hl := of_len h0
    simp only [laid, List.flatMap_cons, List.length_append] at this ⊢
    omega
/-- Apply. -/
def dap (b s : ByteArray) : List UInt8 × Nat :=
  if (tz s).2.2.2 ≠ 0 then ([], (tz s).2.2.2) else
  if (tz s).1 ≠ b.size then ([], 40) else
  if 1048576 < (tz s).2.1 then ([], 4) else
  if (sts s b.size (tz s).2.1 (tz s).2.2.1 0).2 ≠ 0 then ([], (sts s b.size (tz s).2.1 (tz s).2.2.1 0).2) else
  (laid b s (sts s b.size (tz s).2.1 (tz s).2.2.1 0).1, 0)
section
variable {b s : ByteArray} {v v2 q2 : Nat}
theorem dap_err {e : Nat} (h : tz s = (0, 0, 0, e)) (he : e ≠ 0) : dap b s = ([], e) := by rw [dap, h, if_pos he]
theorem dap_other (h : tz s = (v, v2, q2, 0)) (hv : v ≠ b.size) : dap b s = ([], 40) := by rw [dap, h, if_neg (by simp), if_pos hv]
theorem dap_large (h : tz s = (v, v2, q2, 0)) (hv : v = b.size) (h2 : 1048576 < v2) : dap b s = ([], 4) := by rw [dap, h, if_neg (by simp), if_neg (by simpa using hv), if_pos h2]
theorem dap_bad (h : tz s = (v, v2, q2, 0)) (hv : v = b.size) (h2 : ¬ 1048576 < v2) {k : Nat} (hk : (sts s b.size v2 q2 0).2 = k) (hk0 : k ≠ 0) : dap b s = ([], k) := by
  rw [dap, h, if_neg (by simp), if_neg (by simpa using hv), if_neg h2, if_pos (by rw [hk]; exact hk0), hk]
theorem dap_ok (h : tz s = (v, v2, q2, 0)) (hv : v = b.size) (h2 : ¬ 1048576 < v2) (hk : (sts s b.size v2 q2 0).2 = 0) : dap b s = (laid b s (sts s b.size v2 q2 0).1, 0) := by
  rw [dap, h, if_neg (by simp), if_neg (by simpa using hv), if_neg h2, if_neg (by simpa using hk)]
end
/-- Sizes. -/
def dsz (s : ByteArray) : Nat × Nat × Nat × Nat :=
  if (tz s).2.2.2 ≠ 0 then (0, 0, 0, (tz s).2.2.2) else
  if 1048576 < (tz s).1 ∨ 1048576 < (tz s).2.1 then (0, 0, 0, 4) else
  tz s
theorem dsz_err {s : ByteArray} {e : Nat} (h : tz s = (0, 0, 0, e)) (he : e ≠ 0) : dsz s = (0, 0, 0, e) := by rw [dsz, h, if_pos he]
theorem dsz_large {s : ByteArray} {v v2 q2 : Nat} (h : tz s = (v, v2, q2, 0)) (hv : 1048576 < v ∨ 1048576 < v2) : dsz s = (0, 0, 0, 4) := by rw [dsz, h, if_neg (by simp), if_pos hv]
theorem dsz_ok {s : ByteArray} {v v2 q2 : Nat} (h : tz s = (v, v2, q2, 0)) (hv : ¬ (1048576 < v ∨ 1048576 < v2)) : dsz s = (v, v2, q2, 0) := by rw [dsz, h, if_neg (by simp), if_neg hv]
theorem dsz_cases (s : ByteArray) : (∃ e, 1 ≤ e ∧ e ≤ 4 ∧ dsz s = (0, 0, 0, e)) ∨ ∃ v v2 q2, v ≤ 1048576 ∧ v2 ≤ 1048576 ∧ q2 ≤ s.size ∧ dsz s = (v, v2, q2, 0) ∧ tz s = (v, v2, q2, 0) := by
  rcases tz_cases s with ⟨e, h1, h3, h⟩ | ⟨v, v2, q2, hv, hv2, hq, h⟩
  · exact .inl ⟨e, h1, by omega, dsz_err h (by omega)⟩
  · by_cases hl : 1048576 < v ∨ 1048576 < v2
    · exact .inl ⟨4, by decide, by decide, dsz_large h hl⟩
    · exact .inr ⟨v, v2, q2, by omega, by omega, hq, dsz_ok h hl, h⟩
/-- A run. -/
structure Rn where
  a : Nat
  b : Nat
  n : Nat
/-- The runs that instructions copy, done bytes being produced. -/
def runs : Nat → List St → List Rn
  | _, [] => []
  | k, t :: l => (if t.c = true then [⟨t.f, k, t.n⟩] else []) ++ runs (k + t.n) l
/-- Copies. -/
def dcp (s : ByteArray) : List Rn × Nat :=
  if (dsz s).2.2.2 ≠ 0 then ([], (dsz s).2.2.2) else
  if (sts s (dsz s).1 (dsz s).2.1 (dsz s).2.2.1 0).2 ≠ 0 then ([], (sts s (dsz s).1 (dsz s).2.1 (dsz s).2.2.1 0).2) else
  (runs 0 (sts s (dsz s).1 (dsz s).2.1 (dsz s).2.2.1 0).1, 0)
theorem dcp_err {s : ByteArray} {e : Nat} (h : dsz s = (0, 0, 0, e)) (he : e ≠ 0) : dcp s = ([], e) := by rw [dcp, h, if_pos he]
theorem dcp_bad {s : ByteArray} {v v2 q2 k : Nat} (h : dsz s = (v, v2, q2, 0)) (hk : (sts s v v2 q2 0).2 = k) (hk0 : k ≠ 0) : dcp s = ([], k) := by rw [dcp, h, if_neg (by simp), if_pos (by rw [hk]; exact hk0), hk]
theorem dcp_ok {s : ByteArray} {v v2 q2 : Nat} (h : dsz s = (v, v2, q2, 0)) (hk : (sts s v v2 q2 0).2 = 0) : dcp s = (runs 0 (sts s v v2 q2 0).1, 0) := by rw [dcp, h, if_neg (by simp), if_neg (by simpa using hk)]
end Go.Proofs.Ytlgaindeheaodaa
