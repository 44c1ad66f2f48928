/-
  Plain mathematics of Decompress: what is still answered, from a state on.
-/
import Derived.Test.YtgdeefcgjaklhaaSqDec
namespace Go.Proofs.Ytgdeefcgjaklhaa

/-- What is answered when so much is laid out and so much is still read. -/
def fin (l : List UInt8) (r : List Pc × Nat) : List UInt8 × Nat := if r.2 ≠ 0 then ([], r.2) else (lay l r.1, 0)
theorem dec_fin {s : ByteArray} {m q : Int} {v : Nat} (h : takeAt s.data.toList 0 = (v, q, 0)) (hm : ¬ (m < 0 ∨ m < (v : Int))) : dec s m = fin [] (tps s v q 0) := by
  rw [dec, h, if_neg (by simp), if_neg hm]
  rfl
theorem fin_err {l : List UInt8} {e : Nat} {r : List Pc × Nat} (h : r = ([], e)) (he : e ≠ 0) : fin l r = ([], e) := by rw [h, fin, if_pos he]
theorem fin_end (l : List UInt8) : fin l ([], 0) = (l, 0) := by rw [fin, if_neg (by simp)]; rfl
theorem fin_ahead (l : List UInt8) (p : Pc) (r : List Pc × Nat) : fin l (ahead [p] r) = fin (layP l p) r := by
  unfold fin ahead
  by_cases h : r.2 ≠ 0
  · rw [if_pos h, if_pos h, if_pos h]
  · rw [if_neg h, if_neg h, if_neg (by simp)]
    rfl
section
variable {s : ByteArray} {q : Int} {l : List UInt8} {V x q2 n z : Nat} (hlt : l.length < V)
include hlt
theorem sp_err {e : Nat} (ht : takeAt s.data.toList q = (0, 0, e)) (he : e ≠ 0) : fin l (tps s V q l.length) = ([], e) :=
  fin_err (tps_err hlt (by rw [tp_err ht he]) he) he
theorem sp_bad (ht : takeAt s.data.toList q = (x, (q2 : Int), 0)) (hn : n = x / 2) (hz : z = x % 2) (h : n = 0 ∨ (z = 1 ∧ n < 4) ∨ V - l.length < n) : fin l (tps s V q l.length) = ([], 2) := by
  subst hn; subst hz
  exact fin_err (tps_err hlt (by rw [tp_bad ht h]) (by decide)) (by decide)
theorem sp_short (ht : takeAt s.data.toList q = (x, (q2 : Int), 0)) (hn : n = x / 2) (hz : z = x % 2) (h : ¬ (n = 0 ∨ (z = 1 ∧ n < 4) ∨ V - l.length < n)) (h1 : z = 0) (h2 : s.size - q2 < n) : fin l (tps s V q l.length) = ([], 3) := by
  subst hn; subst hz
  exact fin_err (tps_err hlt (by rw [tp_short ht h h1 h2]) (by decide)) (by decide)
theorem sp_lit (ht : takeAt s.data.toList q = (x, (q2 : Int), 0)) (hn : n = x / 2) (hz : z = x % 2) (h : ¬ (n = 0 ∨ (z = 1 ∧ n < 4) ∨ V - l.length < n)) (h1 : z = 0) (h2 : ¬ s.size - q2 < n) :
    fin l (tps s V q l.length) = fin (l ++ (s.extract q2 (q2 + n)).data.toList) (tps s V ((q2 + n : Nat) : Int) (l.length + n)) := by
  subst hn; subst hz
  rw [tps_on hlt (tp_lit ht h h1 h2), fin_ahead]
  rfl
theorem sp_copy (ht : takeAt s.data.toList q = (x, (q2 : Int), 0)) (hn : n = x / 2) (hz : z = x % 2) (h : ¬ (n = 0 ∨ (z = 1 ∧ n < 4) ∨ V - l.length < n)) (h1 : z = 1) {b q3 : Nat} (ht2 : takeAt s.data.toList q2 = (b, (q3 : Int), 0)) (hb : ¬ (b = 0 ∨ l.length < b)) :
    fin l (tps s V q l.length) = fin (cpy b n l) (tps s V (q3 : Int) (l.length + n)) := by
  subst hn; subst hz
  rw [tps_on hlt ((tp_copy ht h h1).trans (tb_ok ht2 hb)), fin_ahead]
  unfold layP
  rw [if_neg (show ¬ b = 0 by omega)]
theorem sp_cerr (ht : takeAt s.data.toList q = (x, (q2 : Int), 0)) (hn : n = x / 2) (hz : z = x % 2) (h : ¬ (n = 0 ∨ (z = 1 ∧ n < 4) ∨ V - l.length < n)) (h1 : z = 1) {e : Nat} (ht2 : takeAt s.data.toList q2 = (0, 0, e)) (he : e ≠ 0) :
    fin l (tps s V q l.length) = ([], e) := by
  subst hn; subst hz
  exact fin_err (tps_err hlt (by rw [tp_copy ht h h1, tb_err ht2 he]) he) he
theorem sp_cbad (ht : takeAt s.data.toList q = (x, (q2 : Int), 0)) (hn : n = x / 2) (hz : z = x % 2) (h : ¬ (n = 0 ∨ (z = 1 ∧ n < 4) ∨ V - l.length < n)) (h1 : z = 1) {b q3 : Nat} (ht2 : takeAt s.data.toList q2 = (b, (q3 : Int), 0)) (hb : b = 0 ∨ l.length < b) :
    fin l (tps s V q l.length) = ([], 2) := by
  subst hn; subst hz
  exact fin_err (tps_err hlt (by rw [tp_copy ht h h1, tb_bad ht2 hb]) (by decide)) (by decide)
end
end Go.Proofs.Ytgdeefcgjaklhaa
