/-
  The walk of Decompress.
-/
import Derived.Test.YtlgaindeheaodaaSqLay
namespace Go.Proofs.Ytlgaindeheaodaa
open Go.RowKit

/-- A piece that takePiece gives may be laid out. -/
theorem tp_lay {s : ByteArray} {q : Int} {done size : Nat} (h : (tp s q done size).2.2 = 0) : (tp s q done size).1.b ≤ done ∧ ((tp s q done size).1.b = 0 → (tp s q done size).1.t.size = (tp s q done size).1.n) := by
  rcases takeAt_cases s.data.toList q with ⟨e, he1, he3, ht⟩ | ⟨v, q2, a, -, -, hq2, hv, ht, -⟩
  · rw [tp_err ht (by omega)] at h; simp only at h; omega
  · rw [list_len] at hq2
    by_cases hb : v / 2 = 0 ∨ (v % 2 = 1 ∧ v / 2 < 4) ∨ size - done < v / 2
    · rw [tp_bad ht hb] at h; simp at h
    · by_cases h1 : v % 2 = 1
      · rw [tp_copy ht hb h1] at h ⊢
        rcases takeAt_cases s.data.toList q2 with ⟨e, he1, he3, ht2⟩ | ⟨v2, q3, a2, -, -, hq3, hv2, ht2, -⟩
        · rw [tb_err ht2 (by omega)] at h; simp only at h; omega
        · by_cases hb2 : v2 = 0 ∨ done < v2
          · rw [tb_bad ht2 hb2] at h; simp at h
          · rw [tb_ok ht2 hb2]; simp only; omega
      · by_cases h2 : s.size - q2 < v / 2
        · rw [tp_short ht hb (by omega) h2] at h; simp at h
        · rw [tp_lit ht hb (by omega) h2]; refine ⟨Nat.zero_le _, fun _ => ?_⟩; show (s.extract q2 (q2 + v / 2)).size = v / 2; rw [ByteArray.size_extract]; omega

theorem tps_lay (s : ByteArray) (size : Nat) : ∀ (m done : Nat) (q : Int), size - done ≤ m → done ≤ size → (tps s size q done).2 = 0 → okPs size done (tps s size q done).1 ∧ (tps s size q done).1.length ≤ size - done := by
  intro m
  induction m with
  | zero =>
    intro done q hm hd h
    have hlt : ¬ done < size := by omega
    by_cases hq : q < s.size
    · rw [tps_left hlt hq] at h; simp at h
    · rw [tps_end hlt hq]; exact ⟨trivial, by simp⟩
  | succ m ih =>
    intro done q hm hd h
    by_cases hlt : done < size
    · by_cases he : (tp s q done size).2.2 = 0
      · have hn := tp_n he
        have hl := tp_lay he
        obtain ⟨p, q2, e⟩ : ∃ p, p = (tp s q done size).1 := ⟨_, rfl⟩
        have ht := tps_on (s := s) (q := q) (q' := (tp s q done size).2.1) (p := (tp s q done size).1) hlt (by rw [← he])
        rw [ht] at h ⊢
        unfold ahead at h ⊢
        by_cases h0 : (tps s size (tp s q done size).2.1 (done + (tp s q done size).1.n)).2 ≠ 0
        · rw [if_pos h0] at h; exact absurd h h0
        · rw [if_neg h0]
          have h1 := ih (done + (tp s q done size).1.n) (tp s q done size).2.1 (by omega) (by omega) (by simpa using h0)
          exact ⟨⟨hl.1, hl.2, by omega, h1.1⟩, by simp; omega⟩
      · rw [tps_err hlt rfl he] at h; exact absurd h he
    · by_cases hq : q < s.size
      · rw [tps_left hlt hq] at h; simp at h
      · rw [tps_end hlt hq]; exact ⟨trivial, by simp⟩

/-- What Decompress answers. -/
def dec (s : ByteArray) (m : Int) : List UInt8 × Nat :=
  if (takeAt s.data.toList 0).2.2 ≠ 0 then ([], (takeAt s.data.toList 0).2.2) else
  if m < 0 ∨ m < ((takeAt s.data.toList 0).1 : Int) then ([], 4) else
  if (tps s (takeAt s.data.toList 0).1 (takeAt s.data.toList 0).2.1 0).2 ≠ 0 then ([], (tps s (takeAt s.data.toList 0).1 (takeAt s.data.toList 0).2.1 0).2) else
  (lay [] (tps s (takeAt s.data.toList 0).1 (takeAt s.data.toList 0).2.1 0).1, 0)
theorem dec_err {s : ByteArray} {m : Int} {e : Nat} (h : takeAt s.data.toList 0 = (0, 0, e)) (he : e ≠ 0) : dec s m = ([], e) := by rw [dec, h, if_pos he]
theorem dec_large {s : ByteArray} {m q : Int} {v : Nat} (h : takeAt s.data.toList 0 = (v, q, 0)) (hm : m < 0 ∨ m < (v : Int)) : dec s m = ([], 4) := by rw [dec, h, if_neg (by simp), if_pos hm]
theorem dec_bad {s : ByteArray} {m q : Int} {v : Nat} (h : takeAt s.data.toList 0 = (v, q, 0)) (hm : ¬ (m < 0 ∨ m < (v : Int))) (h0 : (tps s v q 0).2 ≠ 0) : dec s m = ([], (tps s v q 0).2) := by rw [dec, h, if_neg (by simp), if_neg hm, if_pos h0]
theorem dec_ok {s : ByteArray} {m q : Int} {v : Nat} (h : takeAt s.data.toList 0 = (v, q, 0)) (hm : ¬ (m < 0 ∨ m < (v : Int))) (h0 : (tps s v q 0).2 = 0) : dec s m = (lay [] (tps s v q 0).1, 0) := by rw [dec, h, if_neg (by simp), if_neg hm, if_neg (by simpa using h0)]
/-- An answer: a string and an error. -/
def DecRes (r : List UInt8 × Nat) (w : World) (e : Ending) (w' : World) : Prop := e = .returned (.tuple #[.string (str r.1), .int .i64 r.2]) ∧ Below w.heap.size w w'
theorem decRes_mk {r : List UInt8 × Nat} {l : List UInt8} {k : Nat} {w w' : World} {b : ByteArray} (h : r = (l, k)) (hb' : str l = b) (hb : Below w.heap.size w w') : DecRes r w (.returned (.tuple #[.string b, .int .i64 k])) w' := by
  subst h; subst hb'
  exact ⟨rfl, hb⟩

end Go.Proofs.Ytlgaindeheaodaa
