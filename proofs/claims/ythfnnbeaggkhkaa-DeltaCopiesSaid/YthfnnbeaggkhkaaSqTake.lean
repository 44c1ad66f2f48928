/-
  The walks of takeBack and takePiece.
-/
import Derived.Test.YthfnnbeaggkhkaaOwn
import Derived.Test.YthfnnbeaggkhkaaOctTake
import Derived.IntWalk
import Derived.Lib.Hide
namespace Go.Proofs.Ythfnnbeaggkhkaa
open Go.RowKit

/-- A piece. -/
structure Pc where
  n : Nat
  b : Nat
  t : ByteArray
def Pc.none : Pc := ⟨0, 0, ⟨#[]⟩⟩
def Pc.val (p : Pc) : Value := .agg #[.int .i64 (p.n : Int), .int .i64 (p.b : Int), .string p.t]
def Pc.cells (p : Pc) : List Value := [.int .i64 (p.n : Int), .int .i64 (p.b : Int), .string p.t]

def tb (s : ByteArray) (q : Int) (n done : Nat) : Pc × Int × Nat :=
  if (takeAt s.data.toList q).2.2 ≠ 0 then (Pc.none, 0, (takeAt s.data.toList q).2.2) else
  if (takeAt s.data.toList q).1 = 0 ∨ done < (takeAt s.data.toList q).1 then (Pc.none, 0, 2) else
  (⟨n, (takeAt s.data.toList q).1, ⟨#[]⟩⟩, (takeAt s.data.toList q).2.1, 0)

theorem tb_err {s : ByteArray} {q : Int} {n done e : Nat} (h : takeAt s.data.toList q = (0, 0, e)) (he : e ≠ 0) : tb s q n done = (Pc.none, 0, e) := by rw [tb, h, if_pos he]
theorem tb_bad {s : ByteArray} {q q2 : Int} {n done v : Nat} (h : takeAt s.data.toList q = (v, q2, 0)) (hv : v = 0 ∨ done < v) : tb s q n done = (Pc.none, 0, 2) := by rw [tb, h, if_neg (by simp), if_pos hv]
theorem tb_ok {s : ByteArray} {q q2 : Int} {n done v : Nat} (h : takeAt s.data.toList q = (v, q2, 0)) (hv : ¬ (v = 0 ∨ done < v)) : tb s q n done = (⟨n, v, ⟨#[]⟩⟩, q2, 0) := by rw [tb, h, if_neg (by simp), if_neg hv]

theorem take_at (s : ByteArray) (p : Int) (w : World) (hs : s.size ≤ 4611686018427387904) (v : Nat) (q : Int) (e0 : Nat) (hv : takeAt s.data.toList p = (v, q, e0)) :
    Calls Try.prog 40 #[.string s, .int .i64 p] w fun e w' => e = .returned (.tuple #[.int .u64 v, .int .i64 q, .int .i64 e0]) ∧ w = w' :=
  (take_any s p w hs).mono fun _ _ x => ⟨by rw [x.1, hv], x.2⟩

/-- What takeBack and takePiece answer. -/
def PcRes (r : Pc × Int × Nat) (w : World) (e : Ending) (w' : World) : Prop := e = .returned (.tuple #[r.1.val, .int .i64 r.2.1, .int .i64 r.2.2]) ∧ Below w.heap.size w w'
theorem pcRes_mk {p : Pc} {q : Int} {k : Nat} {r : Pc × Int × Nat} {w w' : World} {e : Ending} (h : r = (p, q, k)) (he : e = .returned (.tuple #[.agg #[.int .i64 (p.n : Int), .int .i64 (p.b : Int), .string p.t], .int .i64 q, .int .i64 k])) (hb : Below w.heap.size w w') : PcRes r w e w' := by
  subst h
  exact ⟨he, hb⟩

set_option maxHeartbeats 1000000 in
set_option maxRecDepth 4000 in
theorem takeBack_any (s : ByteArray) (q : Int) (n done : Nat) (w : World) (hs : s.size ≤ 4611686018427387904) (hd : done < 9223372036854775808) :
    Calls Try.prog 62 #[.string s, .int .i64 q, .int .i64 n, .int .i64 done] w (PcRes (tb s q n done) w) := by
  have hbl : ∀ o, Below w.heap.size w (w.alloc o) := fun o => (Below.refl _ _).alloc (Nat.le_refl _) o
  have i1 : IntKind.u64.wrap (done : Int) = (done : Int) := IntWalk.u64_in _ (by omega)
  rcases takeAt_cases s.data.toList q with ⟨e, he1, he3, ht⟩ | ⟨v, q2, a, -, -, hq2, hv, ht, -⟩
  · have HT : Hid (takeAt s.data.toList q = (0, 0, e)) := ht
    have HR : Hid (tb s q n done = (Pc.none, 0, e)) := tb_err ht (by omega)
    have hne : ((e : Int) != 0) = true := by simp; omega
    have hne2 : ((e : Int) == 0) = false := by simp; omega
    clear ht
    go_enter Try.func62, Try.ntmps62
    go_wp2_with (go_at_call 40; ((with_reducible refine (take_at s q _ hs _ _ _ HT.out).mono ?_); rintro e1 w1 ⟨rfl, rfl⟩))
    refine bodyPost_ret (v := .tuple #[.agg #[.int .i64 0, .int .i64 0, .string ⟨#[]⟩], .int .i64 0, .int .i64 e]) (by simp [results, Try.results62, go_sem]) rfl (pcRes_mk HR.out rfl (hbl _))
  · have HT : Hid (takeAt s.data.toList q = (v, (q2 : Int), 0)) := ht
    by_cases hbad : v = 0 ∨ done < v
    · have HR : Hid (tb s q n done = (Pc.none, 0, 2)) := tb_bad ht hbad
      clear ht
      by_cases h0 : v = 0
      · have h2 : ((v : Int) == 0) = true := by rw [h0]; rfl
        clear hbad h0
        go_enter Try.func62, Try.ntmps62
        go_wp2_with (go_at_call 40; ((with_reducible refine (take_at s q _ hs _ _ _ HT.out).mono ?_); rintro e1 w1 ⟨rfl, rfl⟩))
        refine bodyPost_ret (v := .tuple #[.agg #[.int .i64 0, .int .i64 0, .string ⟨#[]⟩], .int .i64 0, .int .i64 2]) (by simp [results, Try.results62, go_sem]) rfl (pcRes_mk HR.out rfl (hbl _))
      · have h1 : done < v := by omega
        have h2 : ((v : Int) == 0) = false := by simp; omega
        clear hbad h0
        go_enter Try.func62, Try.ntmps62
        go_wp2_with (go_at_call 40; ((with_reducible refine (take_at s q _ hs _ _ _ HT.out).mono ?_); rintro e1 w1 ⟨rfl, rfl⟩))
        refine bodyPost_ret (v := .tuple #[.agg #[.int .i64 0, .int .i64 0, .string ⟨#[]⟩], .int .i64 0, .int .i64 2]) (by simp [results, Try.results62, go_sem]) rfl (pcRes_mk HR.out rfl (hbl _))
    · have HR : Hid (tb s q n done = (⟨n, v, ⟨#[]⟩⟩, (q2 : Int), 0)) := tb_ok ht hbad
      have h1 : v ≤ done := by omega
      have h2 : ((v : Int) == 0) = false := by simp; omega
      have i2 : IntKind.i64.wrap (v : Int) = (v : Int) := IntWalk.i64_in _ (by omega)
      clear ht hbad
      go_enter Try.func62, Try.ntmps62
      go_wp2_with (go_at_call 40; ((with_reducible refine (take_at s q _ hs _ _ _ HT.out).mono ?_); rintro e1 w1 ⟨rfl, rfl⟩))
      refine bodyPost_ret (v := .tuple #[.agg #[.int .i64 n, .int .i64 v, .string ⟨#[]⟩], .int .i64 q2, .int .i64 0]) (by simp [results, Try.results62, go_sem]) rfl (pcRes_mk HR.out rfl (hbl _))

def tp (s : ByteArray) (q : Int) (done size : Nat) : Pc × Int × Nat :=
  if (takeAt s.data.toList q).2.2 ≠ 0 then (Pc.none, 0, (takeAt s.data.toList q).2.2) else
  if (takeAt s.data.toList q).1 / 2 = 0 ∨ ((takeAt s.data.toList q).1 % 2 = 1 ∧ (takeAt s.data.toList q).1 / 2 < 4) ∨ size - done < (takeAt s.data.toList q).1 / 2 then (Pc.none, 0, 2) else
  if (takeAt s.data.toList q).1 % 2 = 1 then tb s (takeAt s.data.toList q).2.1 ((takeAt s.data.toList q).1 / 2) done else
  if s.size - (takeAt s.data.toList q).2.1.toNat < (takeAt s.data.toList q).1 / 2 then (Pc.none, 0, 3) else
  (⟨(takeAt s.data.toList q).1 / 2, 0, s.extract (takeAt s.data.toList q).2.1.toNat ((takeAt s.data.toList q).2.1.toNat + (takeAt s.data.toList q).1 / 2)⟩, (takeAt s.data.toList q).2.1 + ((takeAt s.data.toList q).1 / 2 : Nat), 0)

section
variable {s : ByteArray} {q : Int} {done size v q2 : Nat}
theorem tp_err {e : Nat} (h : takeAt s.data.toList q = (0, 0, e)) (he : e ≠ 0) : tp s q done size = (Pc.none, 0, e) := by rw [tp, h, if_pos he]
theorem tp_bad (h : takeAt s.data.toList q = (v, (q2 : Int), 0)) (hv : v / 2 = 0 ∨ (v % 2 = 1 ∧ v / 2 < 4) ∨ size - done < v / 2) : tp s q done size = (Pc.none, 0, 2) := by rw [tp, h, if_neg (by simp), if_pos hv]
theorem tp_copy (h : takeAt s.data.toList q = (v, (q2 : Int), 0)) (hv : ¬ (v / 2 = 0 ∨ (v % 2 = 1 ∧ v / 2 < 4) ∨ size - done < v / 2)) (h1 : v % 2 = 1) : tp s q done size = tb s q2 (v / 2) done := by
  rw [tp, h, if_neg (by simp), if_neg hv, if_pos h1]
theorem tp_short (h : takeAt s.data.toList q = (v, (q2 : Int), 0)) (hv : ¬ (v / 2 = 0 ∨ (v % 2 = 1 ∧ v / 2 < 4) ∨ size - done < v / 2)) (h1 : v % 2 = 0) (h2 : s.size - q2 < v / 2) : tp s q done size = (Pc.none, 0, 3) := by
  rw [tp, h, if_neg (by simp), if_neg hv, if_neg (by omega), if_pos (by simpa using h2)]
theorem tp_lit (h : takeAt s.data.toList q = (v, (q2 : Int), 0)) (hv : ¬ (v / 2 = 0 ∨ (v % 2 = 1 ∧ v / 2 < 4) ∨ size - done < v / 2)) (h1 : v % 2 = 0) (h2 : ¬ s.size - q2 < v / 2) :
    tp s q done size = (⟨v / 2, 0, s.extract q2 (q2 + v / 2)⟩, ((q2 + v / 2 : Nat) : Int), 0) := by
  rw [tp, h, if_neg (by simp), if_neg hv, if_neg (by omega), if_neg (by simpa using h2)]
  simp
end

theorem low1 (v : Nat) (h : v < 18446744073709551616) : bits .and .u64 (v : Int) 1 = ((v % 2 : Nat) : Int) := by
  have h1 := u64_and_nat v 1 h (by decide)
  rw [show (1 : Int) = ((1 : Nat) : Int) from rfl, h1, show (1 : Nat) = 2 ^ 1 - 1 from rfl, Nat.and_two_pow_sub_one_eq_mod]

set_option maxHeartbeats 2000000 in
set_option maxRecDepth 4000 in
theorem takePiece_err (s : ByteArray) (q : Int) (done size e : Nat) (w : World) (hs : s.size ≤ 4611686018427387904) (ht : takeAt s.data.toList q = (0, 0, e)) (he : e ≠ 0) :
    Calls Try.prog 58 #[.string s, .int .i64 q, .int .i64 done, .int .i64 size] w (PcRes (tp s q done size) w) := by
  have hbl : ∀ o, Below w.heap.size w (w.alloc o) := fun o => (Below.refl _ _).alloc (Nat.le_refl _) o
  have HT : Hid (takeAt s.data.toList q = (0, 0, e)) := ht
  have HR : Hid (tp s q done size = (Pc.none, 0, e)) := tp_err ht he
  have hne : ((e : Int) != 0) = true := by simp; omega
  have hne2 : ((e : Int) == 0) = false := by simp; omega
  clear ht he
  go_enter Try.func58, Try.ntmps58
  go_wp2_with (go_at_call 40; ((with_reducible refine (take_at s q _ hs _ _ _ HT.out).mono ?_); rintro e1 w1 ⟨rfl, rfl⟩))
  refine bodyPost_ret (v := .tuple #[.agg #[.int .i64 0, .int .i64 0, .string ⟨#[]⟩], .int .i64 0, .int .i64 e]) (by simp [results, Try.results58, go_sem]) rfl (pcRes_mk HR.out rfl (hbl _))

theorem row3 {w : World} {B : Nat} {t : TypeId} {c0 c1 c2 : Value} (h : w.heap[B]? = some (.cells #[c0, c1, c2] t (0, 0))) (v0 v1 v2 : Value) :
    (((w.setCell ⟨B, 0, none⟩ v0).setCell ⟨B, 1, none⟩ v1).setCell ⟨B, 2, none⟩ v2).heap[B]? = some (.cells #[v0, v1, v2] t (0, 0)) := by
  have h0 : (w.setCell ⟨B, 0, none⟩ v0).heap[B]? = some (.cells #[v0, c1, c2] t (0, 0)) := by
    have h := heap_setCell_same w B 0 _ t v0 h
    simp only [List.setIfInBounds_toArray, List.set_cons_zero, List.set_cons_succ] at h
    exact h
  have h1 : ((w.setCell ⟨B, 0, none⟩ v0).setCell ⟨B, 1, none⟩ v1).heap[B]? = some (.cells #[v0, v1, c2] t (0, 0)) := by
    have h := heap_setCell_same (w.setCell ⟨B, 0, none⟩ v0) B 1 _ t v1 h0
    simp only [List.setIfInBounds_toArray, List.set_cons_zero, List.set_cons_succ] at h
    exact h
  have h := heap_setCell_same ((w.setCell ⟨B, 0, none⟩ v0).setCell ⟨B, 1, none⟩ v1) B 2 _ t v2 h1
  simp only [List.setIfInBounds_toArray, List.set_cons_zero, List.set_cons_succ] at h
  exact h

set_option maxHeartbeats 2000000 in
set_option maxRecDepth 4000 in
theorem tp_w0 (s : ByteArray) (q : Int) (done size v q2 : Nat) (w : World) (hs : s.size ≤ 4611686018427387904) (ht : takeAt s.data.toList q = (v, (q2 : Int), 0)) (hq2 : q2 ≤ s.size) (hv : v < 18446744073709551616) (hds : done ≤ size) (hsz : size < 4611686018427387904) (h0 : v / 2 = 0) :
    Calls Try.prog 58 #[.string s, .int .i64 q, .int .i64 done, .int .i64 size] w (PcRes (tp s q done size) w) := by
  have hbl : ∀ o, Below w.heap.size w (w.alloc o) := fun o => (Below.refl _ _).alloc (Nat.le_refl _) o
  have HT : Hid (takeAt s.data.toList q = (v, (q2 : Int), 0)) := ht
  have hlow := low1 v hv
  have HR := Lib.hid (tp_bad (done := done) (size := size) ht (.inl h0))
  obtain ⟨n, hn⟩ : ∃ n, n = v / 2 := ⟨_, rfl⟩
  obtain ⟨z, hz⟩ : ∃ z, z = v % 2 := ⟨_, rfl⟩
  have hhalf : (v : Int) / 2 = (n : Int) := by omega
  have i1 : IntKind.i64.wrap ((size : Int) - done) = (size : Int) - done := IntWalk.i64_in _ (by omega)
  have i2 : IntKind.u64.wrap ((size : Int) - done) = (size : Int) - done := IntWalk.u64_in _ (by omega)
  have i3 : IntKind.i64.wrap (n : Int) = (n : Int) := IntWalk.i64_in _ (by omega)
  have a0 : ((n : Int) == 0) = true := by rw [hn, h0]; rfl
  clear h0
  rw [← hz] at hlow
  try rw [← hn] at HR
  clear ht hv hds hz hn
  go_enter Try.func58, Try.ntmps58
  go_wp2_with (go_at_call 40; ((with_reducible refine (take_at s q _ hs _ _ _ HT.out).mono ?_); rintro e1 w1 ⟨rfl, rfl⟩))
  refine bodyPost_ret (v := .tuple #[.agg #[.int .i64 0, .int .i64 0, .string ⟨#[]⟩], .int .i64 0, .int .i64 2]) (by simp [results, Try.results58, go_sem]) rfl (pcRes_mk HR.out rfl (hbl _))

set_option maxHeartbeats 2000000 in
set_option maxRecDepth 4000 in
theorem tp_w1 (s : ByteArray) (q : Int) (done size v q2 : Nat) (w : World) (hs : s.size ≤ 4611686018427387904) (ht : takeAt s.data.toList q = (v, (q2 : Int), 0)) (hq2 : q2 ≤ s.size) (hv : v < 18446744073709551616) (hds : done ≤ size) (hsz : size < 4611686018427387904) (h0 : v / 2 ≠ 0) (h1 : v % 2 = 1) (h4 : v / 2 < 4) :
    Calls Try.prog 58 #[.string s, .int .i64 q, .int .i64 done, .int .i64 size] w (PcRes (tp s q done size) w) := by
  have hbl : ∀ o, Below w.heap.size w (w.alloc o) := fun o => (Below.refl _ _).alloc (Nat.le_refl _) o
  have HT : Hid (takeAt s.data.toList q = (v, (q2 : Int), 0)) := ht
  have hlow := low1 v hv
  have HR := Lib.hid (tp_bad (done := done) (size := size) ht (.inr (.inl ⟨h1, h4⟩)))
  obtain ⟨n, hn⟩ : ∃ n, n = v / 2 := ⟨_, rfl⟩
  obtain ⟨z, hz⟩ : ∃ z, z = v % 2 := ⟨_, rfl⟩
  have hhalf : (v : Int) / 2 = (n : Int) := by omega
  have i1 : IntKind.i64.wrap ((size : Int) - done) = (size : Int) - done := IntWalk.i64_in _ (by omega)
  have i2 : IntKind.u64.wrap ((size : Int) - done) = (size : Int) - done := IntWalk.u64_in _ (by omega)
  have i3 : IntKind.i64.wrap (n : Int) = (n : Int) := IntWalk.i64_in _ (by omega)
  have a0 : ((n : Int) == 0) = false := by simp; omega
  have a1 : ((z : Int) == 1) = true := by rw [hz, h1]; rfl
  have a2 : n < 4 := by omega
  clear h0 h1 h4
  rw [← hz] at hlow
  try rw [← hn] at HR
  clear ht hv hds hz hn
  go_enter Try.func58, Try.ntmps58
  go_wp2_with (go_at_call 40; ((with_reducible refine (take_at s q _ hs _ _ _ HT.out).mono ?_); rintro e1 w1 ⟨rfl, rfl⟩))
  refine bodyPost_ret (v := .tuple #[.agg #[.int .i64 0, .int .i64 0, .string ⟨#[]⟩], .int .i64 0, .int .i64 2]) (by simp [results, Try.results58, go_sem]) rfl (pcRes_mk HR.out rfl (hbl _))

set_option maxHeartbeats 2000000 in
set_option maxRecDepth 4000 in
theorem tp_w2 (s : ByteArray) (q : Int) (done size v q2 : Nat) (w : World) (hs : s.size ≤ 4611686018427387904) (ht : takeAt s.data.toList q = (v, (q2 : Int), 0)) (hq2 : q2 ≤ s.size) (hv : v < 18446744073709551616) (hds : done ≤ size) (hsz : size < 4611686018427387904) (h0 : v / 2 ≠ 0) (h1 : v % 2 = 1) (h4 : 4 ≤ v / 2) (h5 : size - done < v / 2) :
    Calls Try.prog 58 #[.string s, .int .i64 q, .int .i64 done, .int .i64 size] w (PcRes (tp s q done size) w) := by
  have hbl : ∀ o, Below w.heap.size w (w.alloc o) := fun o => (Below.refl _ _).alloc (Nat.le_refl _) o
  have HT : Hid (takeAt s.data.toList q = (v, (q2 : Int), 0)) := ht
  have hlow := low1 v hv
  have HR := Lib.hid (tp_bad (done := done) (size := size) ht (.inr (.inr h5)))
  obtain ⟨n, hn⟩ : ∃ n, n = v / 2 := ⟨_, rfl⟩
  obtain ⟨z, hz⟩ : ∃ z, z = v % 2 := ⟨_, rfl⟩
  have hhalf : (v : Int) / 2 = (n : Int) := by omega
  have i1 : IntKind.i64.wrap ((size : Int) - done) = (size : Int) - done := IntWalk.i64_in _ (by omega)
  have i2 : IntKind.u64.wrap ((size : Int) - done) = (size : Int) - done := IntWalk.u64_in _ (by omega)
  have i3 : IntKind.i64.wrap (n : Int) = (n : Int) := IntWalk.i64_in _ (by omega)
  have a0 : ((n : Int) == 0) = false := by simp; omega
  have a1 : ((z : Int) == 1) = true := by rw [hz, h1]; rfl
  have a2 : 4 ≤ n := by omega
  have a3 : (size : Int) - done < n := by omega
  clear h0 h1 h4 h5
  rw [← hz] at hlow
  try rw [← hn] at HR
  clear ht hv hds hz hn
  go_enter Try.func58, Try.ntmps58
  go_wp2_with (go_at_call 40; ((with_reducible refine (take_at s q _ hs _ _ _ HT.out).mono ?_); rintro e1 w1 ⟨rfl, rfl⟩))
  refine bodyPost_ret (v := .tuple #[.agg #[.int .i64 0, .int .i64 0, .string ⟨#[]⟩], .int .i64 0, .int .i64 2]) (by simp [results, Try.results58, go_sem]) rfl (pcRes_mk HR.out rfl (hbl _))

set_option maxHeartbeats 2000000 in
set_option maxRecDepth 4000 in
theorem tp_w3 (s : ByteArray) (q : Int) (done size v q2 : Nat) (w : World) (hs : s.size ≤ 4611686018427387904) (ht : takeAt s.data.toList q = (v, (q2 : Int), 0)) (hq2 : q2 ≤ s.size) (hv : v < 18446744073709551616) (hds : done ≤ size) (hsz : size < 4611686018427387904) (h0 : v / 2 ≠ 0) (h1 : v % 2 = 0) (h5 : size - done < v / 2) :
    Calls Try.prog 58 #[.string s, .int .i64 q, .int .i64 done, .int .i64 size] w (PcRes (tp s q done size) w) := by
  have hbl : ∀ o, Below w.heap.size w (w.alloc o) := fun o => (Below.refl _ _).alloc (Nat.le_refl _) o
  have HT : Hid (takeAt s.data.toList q = (v, (q2 : Int), 0)) := ht
  have hlow := low1 v hv
  have HR := Lib.hid (tp_bad (done := done) (size := size) ht (.inr (.inr h5)))
  obtain ⟨n, hn⟩ : ∃ n, n = v / 2 := ⟨_, rfl⟩
  obtain ⟨z, hz⟩ : ∃ z, z = v % 2 := ⟨_, rfl⟩
  have hhalf : (v : Int) / 2 = (n : Int) := by omega
  have i1 : IntKind.i64.wrap ((size : Int) - done) = (size : Int) - done := IntWalk.i64_in _ (by omega)
  have i2 : IntKind.u64.wrap ((size : Int) - done) = (size : Int) - done := IntWalk.u64_in _ (by omega)
  have i3 : IntKind.i64.wrap (n : Int) = (n : Int) := IntWalk.i64_in _ (by omega)
  have a0 : ((n : Int) == 0) = false := by simp; omega
  have a1 : ((z : Int) == 1) = false := by rw [hz, h1]; rfl
  have a3 : (size : Int) - done < n := by omega
  clear h0 h1 h5
  rw [← hz] at hlow
  try rw [← hn] at HR
  clear ht hv hds hz hn
  go_enter Try.func58, Try.ntmps58
  go_wp2_with (go_at_call 40; ((with_reducible refine (take_at s q _ hs _ _ _ HT.out).mono ?_); rintro e1 w1 ⟨rfl, rfl⟩))
  refine bodyPost_ret (v := .tuple #[.agg #[.int .i64 0, .int .i64 0, .string ⟨#[]⟩], .int .i64 0, .int .i64 2]) (by simp [results, Try.results58, go_sem]) rfl (pcRes_mk HR.out rfl (hbl _))

set_option maxHeartbeats 2000000 in
set_option maxRecDepth 4000 in
theorem tp_w4 (s : ByteArray) (q : Int) (done size v q2 : Nat) (w : World) (hs : s.size ≤ 4611686018427387904) (ht : takeAt s.data.toList q = (v, (q2 : Int), 0)) (hq2 : q2 ≤ s.size) (hv : v < 18446744073709551616) (hds : done ≤ size) (hsz : size < 4611686018427387904) (h0 : v / 2 ≠ 0) (h1 : v % 2 = 0) (h5 : v / 2 ≤ size - done) (h6 : s.size - q2 < v / 2) :
    Calls Try.prog 58 #[.string s, .int .i64 q, .int .i64 done, .int .i64 size] w (PcRes (tp s q done size) w) := by
  have hbl : ∀ o, Below w.heap.size w (w.alloc o) := fun o => (Below.refl _ _).alloc (Nat.le_refl _) o
  have HT : Hid (takeAt s.data.toList q = (v, (q2 : Int), 0)) := ht
  have hlow := low1 v hv
  have HR := Lib.hid (tp_short (done := done) (size := size) ht (by omega) h1 h6)
  obtain ⟨n, hn⟩ : ∃ n, n = v / 2 := ⟨_, rfl⟩
  obtain ⟨z, hz⟩ : ∃ z, z = v % 2 := ⟨_, rfl⟩
  have hhalf : (v : Int) / 2 = (n : Int) := by omega
  have i1 : IntKind.i64.wrap ((size : Int) - done) = (size : Int) - done := IntWalk.i64_in _ (by omega)
  have i2 : IntKind.u64.wrap ((size : Int) - done) = (size : Int) - done := IntWalk.u64_in _ (by omega)
  have i3 : IntKind.i64.wrap (n : Int) = (n : Int) := IntWalk.i64_in _ (by omega)
  have a0 : ((n : Int) == 0) = false := by simp; omega
  have a1 : ((z : Int) == 1) = false := by rw [hz, h1]; rfl
  have i4 : IntKind.i64.wrap ((s.size : Int) - q2) = (s.size : Int) - q2 := IntWalk.i64_in _ (by omega)
  have i5 : IntKind.u64.wrap ((s.size : Int) - q2) = (s.size : Int) - q2 := IntWalk.u64_in _ (by omega)
  have a3 : (n : Int) ≤ (size : Int) - done := by omega
  have a4 : (s.size : Int) - q2 < n := by omega
  clear h0 h1 h5 h6
  rw [← hz] at hlow
  try rw [← hn] at HR
  clear ht hv hds hz hn
  go_enter Try.func58, Try.ntmps58
  go_wp2_with (go_at_call 40; ((with_reducible refine (take_at s q _ hs _ _ _ HT.out).mono ?_); rintro e1 w1 ⟨rfl, rfl⟩))
  refine bodyPost_ret (v := .tuple #[.agg #[.int .i64 0, .int .i64 0, .string ⟨#[]⟩], .int .i64 0, .int .i64 3]) (by simp [results, Try.results58, go_sem]) rfl (pcRes_mk HR.out rfl (hbl _))

set_option maxHeartbeats 2000000 in
set_option maxRecDepth 4000 in
theorem tp_w5 (s : ByteArray) (q : Int) (done size v q2 : Nat) (w : World) (hs : s.size ≤ 4611686018427387904) (ht : takeAt s.data.toList q = (v, (q2 : Int), 0)) (hq2 : q2 ≤ s.size) (hv : v < 18446744073709551616) (hds : done ≤ size) (hsz : size < 4611686018427387904) (h0 : v / 2 ≠ 0) (h1 : v % 2 = 0) (h5 : v / 2 ≤ size - done) (h6 : v / 2 ≤ s.size - q2) :
    Calls Try.prog 58 #[.string s, .int .i64 q, .int .i64 done, .int .i64 size] w (PcRes (tp s q done size) w) := by
  have hbl : ∀ o, Below w.heap.size w (w.alloc o) := fun o => (Below.refl _ _).alloc (Nat.le_refl _) o
  have HT : Hid (takeAt s.data.toList q = (v, (q2 : Int), 0)) := ht
  have hlow := low1 v hv
  have HR := Lib.hid (tp_lit (done := done) (size := size) ht (by omega) h1 (by omega))
  obtain ⟨n, hn⟩ : ∃ n, n = v / 2 := ⟨_, rfl⟩
  obtain ⟨z, hz⟩ : ∃ z, z = v % 2 := ⟨_, rfl⟩
  have hhalf : (v : Int) / 2 = (n : Int) := by omega
  have i1 : IntKind.i64.wrap ((size : Int) - done) = (size : Int) - done := IntWalk.i64_in _ (by omega)
  have i2 : IntKind.u64.wrap ((size : Int) - done) = (size : Int) - done := IntWalk.u64_in _ (by omega)
  have i3 : IntKind.i64.wrap (n : Int) = (n : Int) := IntWalk.i64_in _ (by omega)
  have a0 : ((n : Int) == 0) = false := by simp; omega
  have a1 : ((z : Int) == 1) = false := by rw [hz, h1]; rfl
  have i4 : IntKind.i64.wrap ((s.size : Int) - q2) = (s.size : Int) - q2 := IntWalk.i64_in _ (by omega)
  have i5 : IntKind.u64.wrap ((s.size : Int) - q2) = (s.size : Int) - q2 := IntWalk.u64_in _ (by omega)
  have a3 : (n : Int) ≤ (size : Int) - done := by omega
  have a4 : (n : Int) ≤ (s.size : Int) - q2 := by omega
  obtain ⟨m, hm⟩ : ∃ m, m = q2 + n := ⟨_, rfl⟩
  have i6 : IntKind.i64.wrap ((q2 : Int) + n) = (m : Int) := by rw [IntWalk.i64_in _ (by omega)]; omega
  have a5 : q2 ≤ m := by omega
  have a6 : m ≤ s.size := by omega
  clear h0 h1 h5 h6
  rw [← hz] at hlow
  rw [← hn, ← hm] at HR
  clear ht hv hds hz hn hm
  go_enter Try.func58, Try.ntmps58
  go_wp2_with (go_at_call 40; ((with_reducible refine (take_at s q _ hs _ _ _ HT.out).mono ?_); rintro e1 w1 ⟨rfl, rfl⟩))
  refine bodyPost_ret (v := .tuple #[.agg #[.int .i64 n, .int .i64 0, .string (s.extract q2 m)], .int .i64 m, .int .i64 0]) (by simp [results, Try.results58, go_sem]) rfl (pcRes_mk HR.out rfl (hbl _))

set_option maxHeartbeats 2000000 in
set_option maxRecDepth 4000 in
theorem tp_w6 (s : ByteArray) (q : Int) (done size v q2 : Nat) (w : World) (hs : s.size ≤ 4611686018427387904) (ht : takeAt s.data.toList q = (v, (q2 : Int), 0)) (hq2 : q2 ≤ s.size) (hv : v < 18446744073709551616) (hds : done ≤ size) (hsz : size < 4611686018427387904) (h0 : v / 2 ≠ 0) (h1 : v % 2 = 1) (h4 : 4 ≤ v / 2) (h5 : v / 2 ≤ size - done) :
    Calls Try.prog 58 #[.string s, .int .i64 q, .int .i64 done, .int .i64 size] w (PcRes (tp s q done size) w) := by
  have hbl : ∀ o, Below w.heap.size w (w.alloc o) := fun o => (Below.refl _ _).alloc (Nat.le_refl _) o
  have HT : Hid (takeAt s.data.toList q = (v, (q2 : Int), 0)) := ht
  have hlow := low1 v hv
  have HR := Lib.hid (tp_copy (done := done) (size := size) ht (by omega) h1)
  obtain ⟨n, hn⟩ : ∃ n, n = v / 2 := ⟨_, rfl⟩
  obtain ⟨z, hz⟩ : ∃ z, z = v % 2 := ⟨_, rfl⟩
  have hhalf : (v : Int) / 2 = (n : Int) := by omega
  have i1 : IntKind.i64.wrap ((size : Int) - done) = (size : Int) - done := IntWalk.i64_in _ (by omega)
  have i2 : IntKind.u64.wrap ((size : Int) - done) = (size : Int) - done := IntWalk.u64_in _ (by omega)
  have i3 : IntKind.i64.wrap (n : Int) = (n : Int) := IntWalk.i64_in _ (by omega)
  have a0 : ((n : Int) == 0) = false := by simp; omega
  have a1 : ((z : Int) == 1) = true := by rw [hz, h1]; rfl
  have a2 : 4 ≤ n := by omega
  have a3 : (n : Int) ≤ (size : Int) - done := by omega
  have hdd : done < 9223372036854775808 := by omega
  clear h0 h1 h4 h5
  rw [← hz] at hlow
  try rw [← hn] at HR
  clear ht hv hds hz hn
  obtain ⟨r, hr⟩ : ∃ r, tb s q2 n done = r := ⟨_, rfl⟩
  obtain ⟨⟨pn, pb, pt⟩, pq, pe⟩ := r
  have htb := fun W => takeBack_any s q2 n done W hs hdd
  rw [hr] at htb
  have HTB : Hid (∀ W, Calls Try.prog 62 #[.string s, .int .i64 q2, .int .i64 n, .int .i64 done] W fun e w' => e = .returned (.tuple #[.agg #[.int .i64 pn, .int .i64 pb, .string pt], .int .i64 pq, .int .i64 pe]) ∧ Below W.heap.size W w') := htb
  have HRR := Lib.hid (HR.out.trans hr)
  clear hr htb HR
  go_enter Try.func58, Try.ntmps58
  go_wp2_with (first
    | (go_at_call 40; ((with_reducible refine (take_at s q _ hs _ _ _ HT.out).mono ?_); rintro e1 w1 ⟨rfl, rfl⟩))
    | (go_at_call 62; ((with_reducible refine (HTB.out _).mono ?_); rintro e2 w2 ⟨rfl, hb2⟩; have hrow : w2.heap[w.heap.size]? = some (.cells #[.int .i64 0, .int .i64 0, .string ⟨#[]⟩] 82 (0, 0)) := (hb2.block _ (by simp)).trans (heap_alloc_new w _); have z0 : w2.cell? ⟨w.heap.size, 0, none⟩ = some (.int .i64 0) := cell_of_row w2 _ 0 _ _ _ hrow; have z1 : w2.cell? ⟨w.heap.size, 1, none⟩ = some (.int .i64 0) := cell_of_row w2 _ 1 _ _ _ hrow; have z2 : w2.cell? ⟨w.heap.size, 2, none⟩ = some (.string ⟨#[]⟩) := cell_of_row w2 _ 2 _ _ _ hrow; have f0 := frozen_of_row w2 _ 0 _ _ hrow; have f1 := frozen_of_row w2 _ 1 _ _ hrow; have f2 := frozen_of_row w2 _ 2 _ _ hrow)))
  have hr3 := row3 hrow (.int .i64 (pn : Int)) (.int .i64 (pb : Int)) (.string pt)
  have hb3 : Below w.heap.size w (((w2.setCell ⟨w.heap.size, 0, none⟩ (.int .i64 (pn : Int))).setCell ⟨w.heap.size, 1, none⟩ (.int .i64 (pb : Int))).setCell ⟨w.heap.size, 2, none⟩ (.string pt)) :=
    Below.setCell (Below.setCell (Below.setCell ((hbl (.cells #[.int .i64 0, .int .i64 0, .string ⟨#[]⟩] 82)).trans (hb2.mono (by simp))) (Nat.le_refl _) _) (Nat.le_refl _) _) (Nat.le_refl _) _
  clear z0 z1 z2 f0 f1 f2 hrow hb2
  obtain ⟨w3, hw3⟩ : ∃ w3, w3 = (((w2.setCell ⟨w.heap.size, 0, none⟩ (.int .i64 (pn : Int))).setCell ⟨w.heap.size, 1, none⟩ (.int .i64 (pb : Int))).setCell ⟨w.heap.size, 2, none⟩ (.string pt)) := ⟨_, rfl⟩
  rw [← hw3] at hr3 hb3 ⊢
  clear hw3
  have c0 : w3.cell? ⟨w.heap.size, 0, none⟩ = some (.int .i64 (pn : Int)) := cell_of_row w3 _ 0 _ _ _ hr3
  have c1 : w3.cell? ⟨w.heap.size, 1, none⟩ = some (.int .i64 (pb : Int)) := cell_of_row w3 _ 1 _ _ _ hr3
  have c2 : w3.cell? ⟨w.heap.size, 2, none⟩ = some (.string pt) := cell_of_row w3 _ 2 _ _ _ hr3
  refine bodyPost_ret (v := .tuple #[.agg #[.int .i64 pn, .int .i64 pb, .string pt], .int .i64 pq, .int .i64 pe]) (by simp [results, Try.results58, go_sem, c0, c1, c2]) rfl (pcRes_mk HRR.out rfl hb3)

theorem takePiece_any (s : ByteArray) (q : Int) (done size : Nat) (w : World) (hs : s.size ≤ 4611686018427387904) (hds : done ≤ size) (hsz : size < 4611686018427387904) :
    Calls Try.prog 58 #[.string s, .int .i64 q, .int .i64 done, .int .i64 size] w (PcRes (tp s q done size) w) := by
  rcases takeAt_cases s.data.toList q with ⟨e, he1, he3, ht⟩ | ⟨v, q2, a, -, -, hq2, hv, ht, -⟩
  · exact takePiece_err s q done size e w hs ht (by omega)
  · rw [list_len] at hq2
    by_cases h0 : v / 2 = 0
    · exact tp_w0 s q done size v q2 w hs ht hq2 hv hds hsz h0
    · by_cases h1 : v % 2 = 1
      · by_cases h4 : v / 2 < 4
        · exact tp_w1 s q done size v q2 w hs ht hq2 hv hds hsz h0 h1 h4
        · by_cases h5 : size - done < v / 2
          · exact tp_w2 s q done size v q2 w hs ht hq2 hv hds hsz h0 h1 (by omega) h5
          · exact tp_w6 s q done size v q2 w hs ht hq2 hv hds hsz h0 h1 (by omega) (by omega)
      · by_cases h5 : size - done < v / 2
        · exact tp_w3 s q done size v q2 w hs ht hq2 hv hds hsz h0 (by omega) h5
        · by_cases h6 : s.size - q2 < v / 2
          · exact tp_w4 s q done size v q2 w hs ht hq2 hv hds hsz h0 (by omega) (by omega) h6
          · exact tp_w5 s q done size v q2 w hs ht hq2 hv hds hsz h0 (by omega) (by omega) (by omega)
end Go.Proofs.Ythfnnbeaggkhkaa
