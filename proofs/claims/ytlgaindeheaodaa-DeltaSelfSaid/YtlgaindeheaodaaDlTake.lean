/-
  The walks of takeCopy and takeStep.
-/
import Derived.Test.YtlgaindeheaodaaDlPlain
import Derived.Test.YtlgaindeheaodaaOctTake
import Derived.Test.YtlgaindeheaodaaSqTake
import Derived.IntWalk
import Derived.Lib.Hide
namespace Go.Proofs.Ytlgaindeheaodaa
open Go.RowKit

def St.val (p : St) : Value := .agg #[.bool p.c, .int .i64 (p.f : Int), .int .i64 (p.n : Int)]
def St.cells (p : St) : List Value := [.bool p.c, .int .i64 (p.f : Int), .int .i64 (p.n : Int)]
/-- What takeCopy and takeStep answer. -/
def StRes (r : St × Nat × Nat) (w : World) (e : Ending) (w' : World) : Prop := e = .returned (.tuple #[r.1.val, .int .i64 (r.2.1 : Int), .int .i64 (r.2.2 : Int)]) ∧ Below w.heap.size w w'
theorem stRes_mk {p : St} {q k : Nat} {r : St × Nat × Nat} {w w' : World} {e : Ending} (h : r = (p, q, k)) (he : e = .returned (.tuple #[.agg #[.bool p.c, .int .i64 (p.f : Int), .int .i64 (p.n : Int)], .int .i64 (q : Int), .int .i64 (k : Int)])) (hb : Below w.heap.size w w') : StRes r w e w' := by
  subst h
  exact ⟨he, hb⟩

set_option maxHeartbeats 2000000 in
set_option maxRecDepth 4000 in
theorem tc_w0 (s : ByteArray) (q n B left : Nat) (w : World) (hs : s.size ≤ 4611686018427387904) (hn : n < 9223372036854775808) (hB : B ≤ 1099511627776) (hl : left ≤ 1099511627776) (e : Nat) (ht : takeAt s.data.toList q = (0, 0, e)) (he : e ≠ 0) :
    Calls Try.prog 29 #[.string s, .int .i64 q, .int .u64 n, .int .i64 B, .int .i64 left] w (StRes (tc s q n B left) w) := by
  have hbl : ∀ o, Below w.heap.size w (w.alloc o) := fun o => (Below.refl _ _).alloc (Nat.le_refl _) o
  have HT : Hid (takeAt s.data.toList q = (0, 0, e)) := ht
  have HR : Hid (tc s q n B left = (St.none, 0, e)) := tc_err ht he
  have hne : ((e : Int) != 0) = true := by simp; omega
  have hne2 : ((e : Int) == 0) = false := by simp; omega
  clear ht he
  go_enter Try.func29, Try.ntmps29
  go_wp2_with (go_at_call 23; ((with_reducible refine (take_at s q _ hs _ _ _ HT.out).mono ?_); rintro e1 w1 ⟨rfl, rfl⟩))
  refine bodyPost_ret (v := .tuple #[.agg #[.bool false, .int .i64 0, .int .i64 0], .int .i64 0, .int .i64 e]) (by simp [results, Try.results29, go_sem]) rfl (stRes_mk HR.out rfl (hbl _))

set_option maxHeartbeats 2000000 in
set_option maxRecDepth 4000 in
theorem tc_w1 (s : ByteArray) (q n B left : Nat) (w : World) (hs : s.size ≤ 4611686018427387904) (hn : n < 9223372036854775808) (hB : B ≤ 1099511627776) (hl : left ≤ 1099511627776) (v q2 : Nat) (ht : takeAt s.data.toList q = (v, (q2 : Int), 0)) (hv : v < 18446744073709551616) (h1 : B < n) :
    Calls Try.prog 29 #[.string s, .int .i64 q, .int .u64 n, .int .i64 B, .int .i64 left] w (StRes (tc s q n B left) w) := by
  have hbl : ∀ o, Below w.heap.size w (w.alloc o) := fun o => (Below.refl _ _).alloc (Nat.le_refl _) o
  have i1 : IntKind.u64.wrap (B : Int) = (B : Int) := IntWalk.u64_in _ (by omega)
  have i2 : IntKind.u64.wrap (left : Int) = (left : Int) := IntWalk.u64_in _ (by omega)
  have HT : Hid (takeAt s.data.toList q = (v, (q2 : Int), 0)) := ht
  have HR : Hid (tc s q n B left = (St.none, 0, 40)) := tc_out ht (.inl h1)
  clear ht hv
  go_enter Try.func29, Try.ntmps29
  go_wp2_with (go_at_call 23; ((with_reducible refine (take_at s q _ hs _ _ _ HT.out).mono ?_); rintro e1 w1 ⟨rfl, rfl⟩))
  refine bodyPost_ret (v := .tuple #[.agg #[.bool false, .int .i64 0, .int .i64 0], .int .i64 0, .int .i64 40]) (by simp [results, Try.results29, go_sem]) rfl (stRes_mk HR.out rfl (hbl _))

set_option maxHeartbeats 2000000 in
set_option maxRecDepth 4000 in
theorem tc_w2 (s : ByteArray) (q n B left : Nat) (w : World) (hs : s.size ≤ 4611686018427387904) (hn : n < 9223372036854775808) (hB : B ≤ 1099511627776) (hl : left ≤ 1099511627776) (v q2 : Nat) (ht : takeAt s.data.toList q = (v, (q2 : Int), 0)) (hv : v < 18446744073709551616) (h1 : n ≤ B) (h2 : B - n < v) :
    Calls Try.prog 29 #[.string s, .int .i64 q, .int .u64 n, .int .i64 B, .int .i64 left] w (StRes (tc s q n B left) w) := by
  have hbl : ∀ o, Below w.heap.size w (w.alloc o) := fun o => (Below.refl _ _).alloc (Nat.le_refl _) o
  have i1 : IntKind.u64.wrap (B : Int) = (B : Int) := IntWalk.u64_in _ (by omega)
  have i2 : IntKind.u64.wrap (left : Int) = (left : Int) := IntWalk.u64_in _ (by omega)
  have HT : Hid (takeAt s.data.toList q = (v, (q2 : Int), 0)) := ht
  have HR : Hid (tc s q n B left = (St.none, 0, 40)) := tc_out ht (.inr h2)
  have i3 : IntKind.u64.wrap ((B : Int) - n) = (B : Int) - n := IntWalk.u64_in _ (by omega)
  have a2 : (B : Int) - n < v := by omega
  clear ht hv h2
  go_enter Try.func29, Try.ntmps29
  go_wp2_with (go_at_call 23; ((with_reducible refine (take_at s q _ hs _ _ _ HT.out).mono ?_); rintro e1 w1 ⟨rfl, rfl⟩))
  refine bodyPost_ret (v := .tuple #[.agg #[.bool false, .int .i64 0, .int .i64 0], .int .i64 0, .int .i64 40]) (by simp [results, Try.results29, go_sem]) rfl (stRes_mk HR.out rfl (hbl _))

set_option maxHeartbeats 2000000 in
set_option maxRecDepth 4000 in
theorem tc_w3 (s : ByteArray) (q n B left : Nat) (w : World) (hs : s.size ≤ 4611686018427387904) (hn : n < 9223372036854775808) (hB : B ≤ 1099511627776) (hl : left ≤ 1099511627776) (v q2 : Nat) (ht : takeAt s.data.toList q = (v, (q2 : Int), 0)) (hv : v < 18446744073709551616) (h1 : n ≤ B) (h2 : v ≤ B - n) (h3 : left < n) :
    Calls Try.prog 29 #[.string s, .int .i64 q, .int .u64 n, .int .i64 B, .int .i64 left] w (StRes (tc s q n B left) w) := by
  have hbl : ∀ o, Below w.heap.size w (w.alloc o) := fun o => (Below.refl _ _).alloc (Nat.le_refl _) o
  have i1 : IntKind.u64.wrap (B : Int) = (B : Int) := IntWalk.u64_in _ (by omega)
  have i2 : IntKind.u64.wrap (left : Int) = (left : Int) := IntWalk.u64_in _ (by omega)
  have HT : Hid (takeAt s.data.toList q = (v, (q2 : Int), 0)) := ht
  have HR : Hid (tc s q n B left = (St.none, 0, 2)) := tc_much ht (by omega) h3
  have i3 : IntKind.u64.wrap ((B : Int) - n) = (B : Int) - n := IntWalk.u64_in _ (by omega)
  have a2 : (v : Int) ≤ (B : Int) - n := by omega
  clear ht hv h2
  go_enter Try.func29, Try.ntmps29
  go_wp2_with (go_at_call 23; ((with_reducible refine (take_at s q _ hs _ _ _ HT.out).mono ?_); rintro e1 w1 ⟨rfl, rfl⟩))
  refine bodyPost_ret (v := .tuple #[.agg #[.bool false, .int .i64 0, .int .i64 0], .int .i64 0, .int .i64 2]) (by simp [results, Try.results29, go_sem]) rfl (stRes_mk HR.out rfl (hbl _))

set_option maxHeartbeats 2000000 in
set_option maxRecDepth 4000 in
theorem tc_w4 (s : ByteArray) (q n B left : Nat) (w : World) (hs : s.size ≤ 4611686018427387904) (hn : n < 9223372036854775808) (hB : B ≤ 1099511627776) (hl : left ≤ 1099511627776) (v q2 : Nat) (ht : takeAt s.data.toList q = (v, (q2 : Int), 0)) (hv : v < 18446744073709551616) (h1 : n ≤ B) (h2 : v ≤ B - n) (h3 : n ≤ left) :
    Calls Try.prog 29 #[.string s, .int .i64 q, .int .u64 n, .int .i64 B, .int .i64 left] w (StRes (tc s q n B left) w) := by
  have hbl : ∀ o, Below w.heap.size w (w.alloc o) := fun o => (Below.refl _ _).alloc (Nat.le_refl _) o
  have i1 : IntKind.u64.wrap (B : Int) = (B : Int) := IntWalk.u64_in _ (by omega)
  have i2 : IntKind.u64.wrap (left : Int) = (left : Int) := IntWalk.u64_in _ (by omega)
  have HT : Hid (takeAt s.data.toList q = (v, (q2 : Int), 0)) := ht
  have HR : Hid (tc s q n B left = (⟨true, v, n⟩, q2, 0)) := tc_ok ht (by omega) (by omega)
  have i3 : IntKind.u64.wrap ((B : Int) - n) = (B : Int) - n := IntWalk.u64_in _ (by omega)
  have i4 : IntKind.i64.wrap (v : Int) = (v : Int) := IntWalk.i64_in _ (by omega)
  have i5 : IntKind.i64.wrap (n : Int) = (n : Int) := IntWalk.i64_in _ (by omega)
  have a2 : (v : Int) ≤ (B : Int) - n := by omega
  clear ht hv h2
  go_enter Try.func29, Try.ntmps29
  go_wp2_with (go_at_call 23; ((with_reducible refine (take_at s q _ hs _ _ _ HT.out).mono ?_); rintro e1 w1 ⟨rfl, rfl⟩))
  refine bodyPost_ret (v := .tuple #[.agg #[.bool true, .int .i64 v, .int .i64 n], .int .i64 q2, .int .i64 0]) (by simp [results, Try.results29, go_sem]) rfl (stRes_mk HR.out rfl (hbl _))

theorem takeCopy_any (s : ByteArray) (q n B left : Nat) (w : World) (hs : s.size ≤ 4611686018427387904) (hn : n < 9223372036854775808) (hB : B ≤ 1099511627776) (hl : left ≤ 1099511627776) :
    Calls Try.prog 29 #[.string s, .int .i64 q, .int .u64 n, .int .i64 B, .int .i64 left] w (StRes (tc s q n B left) w) := by
  rcases takeAt_cases s.data.toList q with ⟨e, he1, he3, ht⟩ | ⟨v, q2, a, -, -, hq2, hv, ht, -⟩
  · exact tc_w0 s q n B left w hs hn hB hl e ht (by omega)
  · by_cases h1 : B < n
    · exact tc_w1 s q n B left w hs hn hB hl v q2 ht hv h1
    · by_cases h2 : B - n < v
      · exact tc_w2 s q n B left w hs hn hB hl v q2 ht hv (by omega) h2
      · by_cases h3 : left < n
        · exact tc_w3 s q n B left w hs hn hB hl v q2 ht hv (by omega) (by omega) h3
        · exact tc_w4 s q n B left w hs hn hB hl v q2 ht hv (by omega) (by omega) (by omega)

set_option maxHeartbeats 2000000 in
set_option maxRecDepth 4000 in
theorem ts_w0 (s : ByteArray) (q B left : Nat) (w : World) (hs : s.size ≤ 4611686018427387904) (hB : B ≤ 1099511627776) (hl : left ≤ 1099511627776) (e : Nat) (ht : takeAt s.data.toList q = (0, 0, e)) (he : e ≠ 0) :
    Calls Try.prog 24 #[.string s, .int .i64 q, .int .i64 B, .int .i64 left] w (StRes (ts s q B left) w) := by
  have hbl : ∀ o, Below w.heap.size w (w.alloc o) := fun o => (Below.refl _ _).alloc (Nat.le_refl _) o
  have HT : Hid (takeAt s.data.toList q = (0, 0, e)) := ht
  have HR : Hid (ts s q B left = (St.none, 0, e)) := ts_err ht he
  have hne : ((e : Int) != 0) = true := by simp; omega
  have hne2 : ((e : Int) == 0) = false := by simp; omega
  clear ht he
  go_enter Try.func24, Try.ntmps24
  go_wp2_with (go_at_call 23; ((with_reducible refine (take_at s q _ hs _ _ _ HT.out).mono ?_); rintro e1 w1 ⟨rfl, rfl⟩))
  refine bodyPost_ret (v := .tuple #[.agg #[.bool false, .int .i64 0, .int .i64 0], .int .i64 0, .int .i64 e]) (by simp [results, Try.results24, go_sem]) rfl (stRes_mk HR.out rfl (hbl _))

set_option maxHeartbeats 2000000 in
set_option maxRecDepth 4000 in
theorem ts_w1 (s : ByteArray) (q B left : Nat) (w : World) (hs : s.size ≤ 4611686018427387904) (hB : B ≤ 1099511627776) (hl : left ≤ 1099511627776) (v q2 : Nat) (ht : takeAt s.data.toList q = (v, (q2 : Int), 0)) (hq2 : q2 ≤ s.size) (hv : v < 18446744073709551616) (h0 : v / 2 = 0) :
    Calls Try.prog 24 #[.string s, .int .i64 q, .int .i64 B, .int .i64 left] w (StRes (ts s q B left) w) := by
  have hbl : ∀ o, Below w.heap.size w (w.alloc o) := fun o => (Below.refl _ _).alloc (Nat.le_refl _) o
  have HT : Hid (takeAt s.data.toList q = (v, (q2 : Int), 0)) := ht
  have hlow := low1 v hv
  have HR : Hid (ts s q B left = (St.none, 0, 2)) := ts_zero ht h0
  obtain ⟨n, hn⟩ : ∃ n, n = v / 2 := ⟨_, rfl⟩
  obtain ⟨z, hz⟩ : ∃ z, z = v % 2 := ⟨_, rfl⟩
  have hhalf : (v : Int) / 2 = (n : Int) := by omega
  have i2 : IntKind.u64.wrap (left : Int) = (left : Int) := IntWalk.u64_in _ (by omega)
  have i4 : IntKind.i64.wrap ((s.size : Int) - q2) = (s.size : Int) - q2 := IntWalk.i64_in _ (by omega)
  have i5 : IntKind.u64.wrap ((s.size : Int) - q2) = (s.size : Int) - q2 := IntWalk.u64_in _ (by omega)
  have i3 : IntKind.i64.wrap (n : Int) = (n : Int) := IntWalk.i64_in _ (by omega)
  have a0 : ((n : Int) == 0) = true := by rw [hn, h0]; rfl
  clear h0
  rw [← hz] at hlow
  try rw [← hn] at HR
  clear ht hv hz hn
  go_enter Try.func24, Try.ntmps24
  go_wp2_with (go_at_call 23; ((with_reducible refine (take_at s q _ hs _ _ _ HT.out).mono ?_); rintro e1 w1 ⟨rfl, rfl⟩))
  refine bodyPost_ret (v := .tuple #[.agg #[.bool false, .int .i64 0, .int .i64 0], .int .i64 0, .int .i64 2]) (by simp [results, Try.results24, go_sem]) rfl (stRes_mk HR.out rfl (hbl _))

set_option maxHeartbeats 2000000 in
set_option maxRecDepth 4000 in
theorem ts_w2 (s : ByteArray) (q B left : Nat) (w : World) (hs : s.size ≤ 4611686018427387904) (hB : B ≤ 1099511627776) (hl : left ≤ 1099511627776) (v q2 : Nat) (ht : takeAt s.data.toList q = (v, (q2 : Int), 0)) (hq2 : q2 ≤ s.size) (hv : v < 18446744073709551616) (h0 : v / 2 ≠ 0) (h1 : v % 2 = 0) (h2 : 1024 < v / 2) :
    Calls Try.prog 24 #[.string s, .int .i64 q, .int .i64 B, .int .i64 left] w (StRes (ts s q B left) w) := by
  have hbl : ∀ o, Below w.heap.size w (w.alloc o) := fun o => (Below.refl _ _).alloc (Nat.le_refl _) o
  have HT : Hid (takeAt s.data.toList q = (v, (q2 : Int), 0)) := ht
  have hlow := low1 v hv
  have HR : Hid (ts s q B left = (St.none, 0, 2)) := ts_much ht h0 h1 (.inl h2)
  obtain ⟨n, hn⟩ : ∃ n, n = v / 2 := ⟨_, rfl⟩
  obtain ⟨z, hz⟩ : ∃ z, z = v % 2 := ⟨_, rfl⟩
  have hhalf : (v : Int) / 2 = (n : Int) := by omega
  have i2 : IntKind.u64.wrap (left : Int) = (left : Int) := IntWalk.u64_in _ (by omega)
  have i4 : IntKind.i64.wrap ((s.size : Int) - q2) = (s.size : Int) - q2 := IntWalk.i64_in _ (by omega)
  have i5 : IntKind.u64.wrap ((s.size : Int) - q2) = (s.size : Int) - q2 := IntWalk.u64_in _ (by omega)
  have i3 : IntKind.i64.wrap (n : Int) = (n : Int) := IntWalk.i64_in _ (by omega)
  have a0 : ((n : Int) == 0) = false := by simp; omega
  have a1 : ((z : Int) == 1) = false := by rw [hz, h1]; rfl
  have a2 : 1024 < n := by omega
  clear h0 h1 h2
  rw [← hz] at hlow
  try rw [← hn] at HR
  clear ht hv hz hn
  go_enter Try.func24, Try.ntmps24
  go_wp2_with (go_at_call 23; ((with_reducible refine (take_at s q _ hs _ _ _ HT.out).mono ?_); rintro e1 w1 ⟨rfl, rfl⟩))
  refine bodyPost_ret (v := .tuple #[.agg #[.bool false, .int .i64 0, .int .i64 0], .int .i64 0, .int .i64 2]) (by simp [results, Try.results24, go_sem]) rfl (stRes_mk HR.out rfl (hbl _))

set_option maxHeartbeats 2000000 in
set_option maxRecDepth 4000 in
theorem ts_w3 (s : ByteArray) (q B left : Nat) (w : World) (hs : s.size ≤ 4611686018427387904) (hB : B ≤ 1099511627776) (hl : left ≤ 1099511627776) (v q2 : Nat) (ht : takeAt s.data.toList q = (v, (q2 : Int), 0)) (hq2 : q2 ≤ s.size) (hv : v < 18446744073709551616) (h0 : v / 2 ≠ 0) (h1 : v % 2 = 0) (h2 : v / 2 ≤ 1024) (h3 : left < v / 2) :
    Calls Try.prog 24 #[.string s, .int .i64 q, .int .i64 B, .int .i64 left] w (StRes (ts s q B left) w) := by
  have hbl : ∀ o, Below w.heap.size w (w.alloc o) := fun o => (Below.refl _ _).alloc (Nat.le_refl _) o
  have HT : Hid (takeAt s.data.toList q = (v, (q2 : Int), 0)) := ht
  have hlow := low1 v hv
  have HR : Hid (ts s q B left = (St.none, 0, 2)) := ts_much ht h0 h1 (.inr h3)
  obtain ⟨n, hn⟩ : ∃ n, n = v / 2 := ⟨_, rfl⟩
  obtain ⟨z, hz⟩ : ∃ z, z = v % 2 := ⟨_, rfl⟩
  have hhalf : (v : Int) / 2 = (n : Int) := by omega
  have i2 : IntKind.u64.wrap (left : Int) = (left : Int) := IntWalk.u64_in _ (by omega)
  have i4 : IntKind.i64.wrap ((s.size : Int) - q2) = (s.size : Int) - q2 := IntWalk.i64_in _ (by omega)
  have i5 : IntKind.u64.wrap ((s.size : Int) - q2) = (s.size : Int) - q2 := IntWalk.u64_in _ (by omega)
  have i3 : IntKind.i64.wrap (n : Int) = (n : Int) := IntWalk.i64_in _ (by omega)
  have a0 : ((n : Int) == 0) = false := by simp; omega
  have a1 : ((z : Int) == 1) = false := by rw [hz, h1]; rfl
  have a2 : n ≤ 1024 := by omega
  have a3 : left < n := by omega
  clear h0 h1 h2 h3
  rw [← hz] at hlow
  try rw [← hn] at HR
  clear ht hv hz hn
  go_enter Try.func24, Try.ntmps24
  go_wp2_with (go_at_call 23; ((with_reducible refine (take_at s q _ hs _ _ _ HT.out).mono ?_); rintro e1 w1 ⟨rfl, rfl⟩))
  refine bodyPost_ret (v := .tuple #[.agg #[.bool false, .int .i64 0, .int .i64 0], .int .i64 0, .int .i64 2]) (by simp [results, Try.results24, go_sem]) rfl (stRes_mk HR.out rfl (hbl _))

set_option maxHeartbeats 2000000 in
set_option maxRecDepth 4000 in
theorem ts_w4 (s : ByteArray) (q B left : Nat) (w : World) (hs : s.size ≤ 4611686018427387904) (hB : B ≤ 1099511627776) (hl : left ≤ 1099511627776) (v q2 : Nat) (ht : takeAt s.data.toList q = (v, (q2 : Int), 0)) (hq2 : q2 ≤ s.size) (hv : v < 18446744073709551616) (h0 : v / 2 ≠ 0) (h1 : v % 2 = 0) (h2 : v / 2 ≤ 1024) (h3 : v / 2 ≤ left) (h4 : s.size - q2 < v / 2) :
    Calls Try.prog 24 #[.string s, .int .i64 q, .int .i64 B, .int .i64 left] w (StRes (ts s q B left) w) := by
  have hbl : ∀ o, Below w.heap.size w (w.alloc o) := fun o => (Below.refl _ _).alloc (Nat.le_refl _) o
  have HT : Hid (takeAt s.data.toList q = (v, (q2 : Int), 0)) := ht
  have hlow := low1 v hv
  have HR : Hid (ts s q B left = (St.none, 0, 3)) := ts_short ht h0 h1 (by omega) h4
  obtain ⟨n, hn⟩ : ∃ n, n = v / 2 := ⟨_, rfl⟩
  obtain ⟨z, hz⟩ : ∃ z, z = v % 2 := ⟨_, rfl⟩
  have hhalf : (v : Int) / 2 = (n : Int) := by omega
  have i2 : IntKind.u64.wrap (left : Int) = (left : Int) := IntWalk.u64_in _ (by omega)
  have i4 : IntKind.i64.wrap ((s.size : Int) - q2) = (s.size : Int) - q2 := IntWalk.i64_in _ (by omega)
  have i5 : IntKind.u64.wrap ((s.size : Int) - q2) = (s.size : Int) - q2 := IntWalk.u64_in _ (by omega)
  have i3 : IntKind.i64.wrap (n : Int) = (n : Int) := IntWalk.i64_in _ (by omega)
  have a0 : ((n : Int) == 0) = false := by simp; omega
  have a1 : ((z : Int) == 1) = false := by rw [hz, h1]; rfl
  have a2 : n ≤ 1024 := by omega
  have a3 : n ≤ left := by omega
  have a4 : (s.size : Int) - q2 < n := by omega
  clear h0 h1 h2 h3 h4
  rw [← hz] at hlow
  try rw [← hn] at HR
  clear ht hv hz hn
  go_enter Try.func24, Try.ntmps24
  go_wp2_with (go_at_call 23; ((with_reducible refine (take_at s q _ hs _ _ _ HT.out).mono ?_); rintro e1 w1 ⟨rfl, rfl⟩))
  refine bodyPost_ret (v := .tuple #[.agg #[.bool false, .int .i64 0, .int .i64 0], .int .i64 0, .int .i64 3]) (by simp [results, Try.results24, go_sem]) rfl (stRes_mk HR.out rfl (hbl _))

set_option maxHeartbeats 2000000 in
set_option maxRecDepth 4000 in
theorem ts_w5 (s : ByteArray) (q B left : Nat) (w : World) (hs : s.size ≤ 4611686018427387904) (hB : B ≤ 1099511627776) (hl : left ≤ 1099511627776) (v q2 : Nat) (ht : takeAt s.data.toList q = (v, (q2 : Int), 0)) (hq2 : q2 ≤ s.size) (hv : v < 18446744073709551616) (h0 : v / 2 ≠ 0) (h1 : v % 2 = 0) (h2 : v / 2 ≤ 1024) (h3 : v / 2 ≤ left) (h4 : v / 2 ≤ s.size - q2) :
    Calls Try.prog 24 #[.string s, .int .i64 q, .int .i64 B, .int .i64 left] w (StRes (ts s q B left) w) := by
  have hbl : ∀ o, Below w.heap.size w (w.alloc o) := fun o => (Below.refl _ _).alloc (Nat.le_refl _) o
  have HT : Hid (takeAt s.data.toList q = (v, (q2 : Int), 0)) := ht
  have hlow := low1 v hv
  have HR : Hid (ts s q B left = (⟨false, q2, v / 2⟩, q2 + v / 2, 0)) := ts_lit ht h0 h1 (by omega) (by omega)
  obtain ⟨n, hn⟩ : ∃ n, n = v / 2 := ⟨_, rfl⟩
  obtain ⟨z, hz⟩ : ∃ z, z = v % 2 := ⟨_, rfl⟩
  have hhalf : (v : Int) / 2 = (n : Int) := by omega
  have i2 : IntKind.u64.wrap (left : Int) = (left : Int) := IntWalk.u64_in _ (by omega)
  have i4 : IntKind.i64.wrap ((s.size : Int) - q2) = (s.size : Int) - q2 := IntWalk.i64_in _ (by omega)
  have i5 : IntKind.u64.wrap ((s.size : Int) - q2) = (s.size : Int) - q2 := IntWalk.u64_in _ (by omega)
  have i3 : IntKind.i64.wrap (n : Int) = (n : Int) := IntWalk.i64_in _ (by omega)
  have a0 : ((n : Int) == 0) = false := by simp; omega
  have a1 : ((z : Int) == 1) = false := by rw [hz, h1]; rfl
  have a2 : n ≤ 1024 := by omega
  have a3 : n ≤ left := by omega
  have a4 : (n : Int) ≤ (s.size : Int) - q2 := by omega
  obtain ⟨m, hm⟩ : ∃ m, m = q2 + n := ⟨_, rfl⟩
  have i6 : IntKind.i64.wrap ((q2 : Int) + n) = (m : Int) := by rw [IntWalk.i64_in _ (by omega)]; omega
  rw [← hn, ← hm] at HR
  clear hm
  clear h0 h1 h2 h3 h4
  rw [← hz] at hlow
  try rw [← hn] at HR
  clear ht hv hz hn
  go_enter Try.func24, Try.ntmps24
  go_wp2_with (go_at_call 23; ((with_reducible refine (take_at s q _ hs _ _ _ HT.out).mono ?_); rintro e1 w1 ⟨rfl, rfl⟩))
  refine bodyPost_ret (v := .tuple #[.agg #[.bool false, .int .i64 q2, .int .i64 n], .int .i64 m, .int .i64 0]) (by simp [results, Try.results24, go_sem]) rfl (stRes_mk HR.out rfl (hbl _))

set_option maxHeartbeats 2000000 in
set_option maxRecDepth 4000 in
theorem ts_w6 (s : ByteArray) (q B left : Nat) (w : World) (hs : s.size ≤ 4611686018427387904) (hB : B ≤ 1099511627776) (hl : left ≤ 1099511627776) (v q2 : Nat) (ht : takeAt s.data.toList q = (v, (q2 : Int), 0)) (hq2 : q2 ≤ s.size) (hv : v < 18446744073709551616) (h0 : v / 2 ≠ 0) (h1 : v % 2 = 1) :
    Calls Try.prog 24 #[.string s, .int .i64 q, .int .i64 B, .int .i64 left] w (StRes (ts s q B left) w) := by
  have hbl : ∀ o, Below w.heap.size w (w.alloc o) := fun o => (Below.refl _ _).alloc (Nat.le_refl _) o
  have HT : Hid (takeAt s.data.toList q = (v, (q2 : Int), 0)) := ht
  have hlow := low1 v hv
  have HR : Hid (ts s q B left = tc s q2 (v / 2) B left) := ts_copy ht h0 h1
  obtain ⟨n, hn⟩ : ∃ n, n = v / 2 := ⟨_, rfl⟩
  obtain ⟨z, hz⟩ : ∃ z, z = v % 2 := ⟨_, rfl⟩
  have hhalf : (v : Int) / 2 = (n : Int) := by omega
  have hn63 : n < 9223372036854775808 := by omega
  have a0 : ((n : Int) == 0) = false := by simp; omega
  have a1 : ((z : Int) == 1) = true := by rw [hz, h1]; rfl
  clear h0 h1
  rw [← hz] at hlow
  rw [← hn] at HR
  clear ht hv hz hn
  obtain ⟨r, hr⟩ : ∃ r, tc s q2 n B left = r := ⟨_, rfl⟩
  obtain ⟨⟨pc, pf, pn⟩, pq, pe⟩ := r
  have htb := fun W => takeCopy_any s q2 n B left W hs hn63 hB hl
  rw [hr] at htb
  have HTB : Hid (∀ W, Calls Try.prog 29 #[.string s, .int .i64 q2, .int .u64 n, .int .i64 B, .int .i64 left] W fun e w' => e = .returned (.tuple #[.agg #[.bool pc, .int .i64 pf, .int .i64 pn], .int .i64 pq, .int .i64 pe]) ∧ Below W.heap.size W w') := htb
  have HRR := Lib.hid (HR.out.trans hr)
  clear hr htb HR
  go_enter Try.func24, Try.ntmps24
  go_wp2_with (first
    | (go_at_call 23; ((with_reducible refine (take_at s q _ hs _ _ _ HT.out).mono ?_); rintro e1 w1 ⟨rfl, rfl⟩))
    | (go_at_call 29; ((with_reducible refine (HTB.out _).mono ?_); rintro e2 w2 ⟨rfl, hb2⟩; have hrow : w2.heap[w.heap.size]? = some (.cells #[.bool false, .int .i64 0, .int .i64 0] 44 (0, 0)) := (hb2.block _ (by simp)).trans (heap_alloc_new w _); have z0 : w2.cell? ⟨w.heap.size, 0, none⟩ = some (.bool false) := cell_of_row w2 _ 0 _ _ _ hrow; have z1 : w2.cell? ⟨w.heap.size, 1, none⟩ = some (.int .i64 0) := cell_of_row w2 _ 1 _ _ _ hrow; have z2 : w2.cell? ⟨w.heap.size, 2, none⟩ = some (.int .i64 0) := cell_of_row w2 _ 2 _ _ _ hrow; have f0 := frozen_of_row w2 _ 0 _ _ hrow; have f1 := frozen_of_row w2 _ 1 _ _ hrow; have f2 := frozen_of_row w2 _ 2 _ _ hrow)))
  have hr3 := row3 hrow (.bool pc) (.int .i64 (pf : Int)) (.int .i64 (pn : Int))
  have hb3 : Below w.heap.size w (((w2.setCell ⟨w.heap.size, 0, none⟩ (.bool pc)).setCell ⟨w.heap.size, 1, none⟩ (.int .i64 (pf : Int))).setCell ⟨w.heap.size, 2, none⟩ (.int .i64 (pn : Int))) :=
    Below.setCell (Below.setCell (Below.setCell ((hbl (.cells #[.bool false, .int .i64 0, .int .i64 0] 44)).trans (hb2.mono (by simp))) (Nat.le_refl _) _) (Nat.le_refl _) _) (Nat.le_refl _) _
  clear z0 z1 z2 f0 f1 f2 hrow hb2
  obtain ⟨w3, hw3⟩ : ∃ w3, w3 = (((w2.setCell ⟨w.heap.size, 0, none⟩ (.bool pc)).setCell ⟨w.heap.size, 1, none⟩ (.int .i64 (pf : Int))).setCell ⟨w.heap.size, 2, none⟩ (.int .i64 (pn : Int))) := ⟨_, rfl⟩
  rw [← hw3] at hr3 hb3 ⊢
  clear hw3
  have c0 : w3.cell? ⟨w.heap.size, 0, none⟩ = some (.bool pc) := cell_of_row w3 _ 0 _ _ _ hr3
  have c1 : w3.cell? ⟨w.heap.size, 1, none⟩ = some (.int .i64 (pf : Int)) := cell_of_row w3 _ 1 _ _ _ hr3
  have c2 : w3.cell? ⟨w.heap.size, 2, none⟩ = some (.int .i64 (pn : Int)) := cell_of_row w3 _ 2 _ _ _ hr3
  refine bodyPost_ret (v := .tuple #[.agg #[.bool pc, .int .i64 pf, .int .i64 pn], .int .i64 pq, .int .i64 pe]) (by simp [results, Try.results24, go_sem, c0, c1, c2]) rfl (stRes_mk HRR.out rfl hb3)

theorem takeStep_any (s : ByteArray) (q B left : Nat) (w : World) (hs : s.size ≤ 4611686018427387904) (hB : B ≤ 1099511627776) (hl : left ≤ 1099511627776) :
    Calls Try.prog 24 #[.string s, .int .i64 q, .int .i64 B, .int .i64 left] w (StRes (ts s q B left) w) := by
  rcases takeAt_cases s.data.toList q with ⟨e, he1, he3, ht⟩ | ⟨v, q2, a, -, -, hq2, hv, ht, -⟩
  · exact ts_w0 s q B left w hs hB hl e ht (by omega)
  · rw [list_len] at hq2
    by_cases h0 : v / 2 = 0
    · exact ts_w1 s q B left w hs hB hl v q2 ht hq2 hv h0
    · by_cases h1 : v % 2 = 1
      · exact ts_w6 s q B left w hs hB hl v q2 ht hq2 hv h0 h1
      · by_cases h2 : 1024 < v / 2
        · exact ts_w2 s q B left w hs hB hl v q2 ht hq2 hv h0 (by omega) h2
        · by_cases h3 : left < v / 2
          · exact ts_w3 s q B left w hs hB hl v q2 ht hq2 hv h0 (by omega) (by omega) h3
          · by_cases h4 : s.size - q2 < v / 2
            · exact ts_w4 s q B left w hs hB hl v q2 ht hq2 hv h0 (by omega) (by omega) (by omega) h4
            · exact ts_w5 s q B left w hs hB hl v q2 ht hq2 hv h0 (by omega) (by omega) (by omega) (by omega)
end Go.Proofs.Ytlgaindeheaodaa
