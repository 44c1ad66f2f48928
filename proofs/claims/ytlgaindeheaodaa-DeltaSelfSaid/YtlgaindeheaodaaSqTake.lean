/-
  The walks of takeBack and takePiece.
-/
import Derived.Test.YtlgaindeheaodaaOwn
import Derived.Test.YtlgaindeheaodaaOctTake
import Derived.IntWalk
import Derived.Lib.Hide
namespace Go.Proofs.Ytlgaindeheaodaa
open Go.RowKit

/-- A piece. -/
structure Pc where
  n : Nat
  b : Nat
  t : ByteArray
def Pc.none : Pc := ⟨0, 0, ⟨#[]⟩⟩
def Pc.val (p : Pc) : Value := .agg #[.int .i64 (p.n : Int), .int .i64 (p.b : Int), .string p.t]
def Pc.cells (p : Pc) : List Value := [.int .i64 (p.n : Int), .int .i64 (p.b : Int), .string p.t]

def tb (s : ByteArray) (q : Int) (n done : Nat) : Pc × Int × Nat :=
  if (takeAt s.data.toList q).2.2 ≠ 0 then (Pc.none, 0, (takeAt s.data.toList q).2.2) else
  if (takeAt s.data.toList q).1 = 0 ∨ done < (takeAt s.data.toList q).1 then (Pc.none, 0, 2) else
  (⟨n, (takeAt s.data.toList q).1, ⟨#[]⟩⟩, (takeAt s.data.toList q).2.1, 0)

theorem tb_err {s : ByteArray} {q : Int} {n done e : Nat} (h : takeAt s.data.toList q = (0, 0, e)) (he : e ≠ 0) : tb s q n done = (Pc.none, 0, e) := by rw [tb, h, if_pos he]
theorem tb_bad {s : ByteArray} {q q2 : Int} {n done v : Nat} (h : takeAt s.data.toList q = (v, q2, 0)) (hv : v = 0 ∨ done < v) : tb s q n done = (Pc.none, 0, 2) := by rw [tb, h, if_neg (by simp), if_pos hv]
theorem tb_ok {s : ByteArray} {q q2 : Int} {n done v : Nat} (h : takeAt s.data.toList q = (v, q2, 0)) (hv : ¬ (v = 0 ∨ done < v)) : tb s q n done = (⟨n, v, ⟨#[]⟩⟩, q2, 0) := by rw [tb, h, if_neg (by simp), if_neg hv]

theorem take_at (s : ByteArray) (p : Int) (w : World) (hs : s.size ≤ 4611686018427387904) (v : Nat) (q : Int) (e0 : Nat) (hv : takeAt s.data.toList p = (v, q, e0)) :
    Calls Try.prog 23 #[.string s, .int .i64 p] w fun e w' => e = .returned (.tuple #[.int .u64 v, .int .i64 q, .int .i64 e0]) ∧ w = w' :=
  (take_any s p w hs).mono fun _ _ x => ⟨by rw [x.1, hv], x.2⟩

/-- What takeBack and takePiece answer. -/
def PcRes (r : Pc × Int × Nat) (w : World) (e : Ending) (w' : World) : Prop := e = .returned (.tuple #[r.1.val, .int .i64 r.2.1, .int .i64 r.2.2]) ∧ Below w.heap.size w w'
theorem pcRes_mk {p : Pc} {q : Int} {k : Nat} {r : Pc × Int × Nat} {w w' : World} {e : Ending} (h : r = (p, q, k)) (he : e = .returned (.tuple #[.agg #[.int .i64 (p.n : Int), .int .i64 (p.b : Int), .string p.t], .int .i64 q, .int .i64 k])) (hb : Below w.heap.size w w') : PcRes r w e w' := by
  subst h
  exact ⟨he, hb⟩

def tp (s : ByteArray) (q : Int) (done size : Nat) : Pc × Int × Nat :=
  if (takeAt s.data.toList q).2.2 ≠ 0 then (Pc.none, 0, (takeAt s.data.toList q).2.2) else
  if (takeAt s.data.toList q).1 / 2 = 0 ∨ ((takeAt s.data.toList q).1 % 2 = 1 ∧ (takeAt s.data.toList q).1 / 2 < 4) ∨ size - done < (takeAt s.data.toList q).1 / 2 then (Pc.none, 0, 2) else
  if (takeAt s.data.toList q).1 % 2 = 1 then tb s (takeAt s.data.toList q).2.1 ((takeAt s.data.toList q).1 / 2) done else
  if s.size - (takeAt s.data.toList q).2.1.toNat < (takeAt s.data.toList q).1 / 2 then (Pc.none, 0, 3) else
  (⟨(takeAt s.data.toList q).1 / 2, 0, s.extract (takeAt s.data.toList q).2.1.toNat ((takeAt s.data.toList q).2.1.toNat + (takeAt s.data.toList q).1 / 2)⟩, (takeAt s.data.toList q).2.1 + ((takeAt s.data.toList q).1 / 2 : Nat), 0)

section
variable {s : ByteArray} {q : Int} {done size v q2 : Nat}
theorem tp_err {e : Nat} (h : takeAt s.data.toList q = (0, 0, e)) (he : e ≠ 0) : tp s q done size = (Pc.none, 0, e) := by rw [tp, h, if_pos he]
theorem tp_bad (h : takeAt s.data.toList q = (v, (q2 : Int), 0)) (hv : v / 2 = 0 ∨ (v % 2 = 1 ∧ v / 2 < 4) ∨ size - done < v / 2) : tp s q done size = (Pc.none, 0, 2) := by rw [tp, h, if_neg (by simp), if_pos hv]
theorem tp_copy (h : takeAt s.data.toList q = (v, (q2 : Int), 0)) (hv : ¬ (v / 2 = 0 ∨ (v % 2 = 1 ∧ v / 2 < 4) ∨ size - done < v / 2)) (h1 : v % 2 = 1) : tp s q done size = tb s q2 (v / 2) done := by
  rw [tp, h, if_neg (by simp), if_neg hv, if_pos h1]
theorem tp_short (h : takeAt s.data.toList q = (v, (q2 : Int), 0)) (hv : ¬ (v / 2 = 0 ∨ (v % 2 = 1 ∧ v / 2 < 4) ∨ size - done < v / 2)) (h1 : v % 2 = 0) (h2 : s.size - q2 < v / 2) : tp s q done size = (Pc.none, 0, 3) := by
  rw [tp, h, if_neg (by simp), if_neg hv, if_neg (by omega), if_pos (by simpa using h2)]
theorem tp_lit (h : takeAt s.data.toList q = (v, (q2 : Int), 0)) (hv : ¬ (v / 2 = 0 ∨ (v % 2 = 1 ∧ v / 2 < 4) ∨ size - done < v / 2)) (h1 : v % 2 = 0) (h2 : ¬ s.size - q2 < v / 2) :
    tp s q done size = (⟨v / 2, 0, s.extract q2 (q2 + v / 2)⟩, ((q2 + v / 2 : Nat) : Int), 0) := by
  rw [tp, h, if_neg (by simp), if_neg hv, if_neg (by omega), if_neg (by simpa using h2)]
  simp
end

theorem low1 (v : Nat) (h : v < 18446744073709551616) : bits .and .u64 (v : Int) 1 = ((v % 2 : Nat) : Int) := by
  have h1 := u64_and_nat v 1 h (by decide)
  rw [show (1 : Int) = ((1 : Nat) : Int) from rfl, h1, show (1 : Nat) = 2 ^ 1 - 1 from rfl, Nat.and_two_pow_sub_one_eq_mod]

theorem row3 {w : World} {B : Nat} {t : TypeId} {c0 c1 c2 : Value} (h : w.heap[B]? = some (.cells #[c0, c1, c2] t (0, 0))) (v0 v1 v2 : Value) :
    (((w.setCell ⟨B, 0, none⟩ v0).setCell ⟨B, 1, none⟩ v1).setCell ⟨B, 2, none⟩ v2).heap[B]? = some (.cells #[v0, v1, v2] t (0, 0)) := by
  have h0 : (w.setCell ⟨B, 0, none⟩ v0).heap[B]? = some (.cells #[v0, c1, c2] t (0, 0)) := by
    have h := heap_setCell_same w B 0 _ t v0 h
    simp only [List.setIfInBounds_toArray, List.set_cons_zero, List.set_cons_succ] at h
    exact h
  have h1 : ((w.setCell ⟨B, 0, none⟩ v0).setCell ⟨B, 1, none⟩ v1).heap[B]? = some (.cells #[v0, v1, c2] t (0, 0)) := by
    have h := heap_setCell_same (w.setCell ⟨B, 0, none⟩ v0) B 1 _ t v1 h0
    simp only [List.setIfInBounds_toArray, List.set_cons_zero, List.set_cons_succ] at h
    exact h
  have h := heap_setCell_same ((w.setCell ⟨B, 0, none⟩ v0).setCell ⟨B, 1, none⟩ v1) B 2 _ t v2 h1
  simp only [List.setIfInBounds_toArray, List.set_cons_zero, List.set_cons_succ] at h
  exact h

end Go.Proofs.Ytlgaindeheaodaa
