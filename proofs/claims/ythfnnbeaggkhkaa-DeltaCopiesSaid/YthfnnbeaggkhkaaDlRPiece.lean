/-
  The walks of the reference's heads, piece, Sizes.
-/
import Derived.Test.YthfnnbeaggkhkaaDlCopies
import Derived.Test.YthfnnbeaggkhkaaOctRTake
namespace Go.Proofs.Ythfnnbeaggkhkaa
open Go.RowKit

/-- The reference's Take, its answer being known. -/
theorem rtake_at (s : ByteArray) (p : Int) (w : World) (hs : s.size ≤ 4611686018427387904) (v : Nat) (q : Int) (e0 : Nat) (hv : takeAt s.data.toList p = (v, q, e0)) :
    Calls Try.prog 43 #[.string s, .int .i64 p] w fun e w' => e = .returned (.tuple #[.int .u64 v, .int .i64 q, .int .i64 e0]) ∧ w = w' :=
  (rtake_any s p w hs).mono fun _ _ x => ⟨by rw [x.1, hv], x.2⟩

set_option maxHeartbeats 2000000 in
set_option maxRecDepth 4000 in
theorem rheads_any (s : ByteArray) (w : World) (hs : s.size ≤ 4611686018427387904) :
    Calls Try.prog 53 #[.string s] w (TzRes (tz s) w) := by
  rcases takeAt_cases s.data.toList 0 with ⟨e, he1, he3, ht⟩ | ⟨v, q, a, -, -, hq, hv, ht, -⟩
  · have HT : Hid (takeAt s.data.toList 0 = (0, 0, e)) := ht
    have HR : Hid (tz s = (0, 0, 0, e)) := tz_err1 ht (by omega)
    have hne : ((e : Int) != 0) = true := by simp; omega
    have hne2 : ((e : Int) == 0) = false := by simp; omega
    clear ht
    go_enter Try.func53, Try.ntmps53
    go_wp2_with (go_at_call 43; ((with_reducible refine (rtake_at s 0 _ hs _ _ _ HT.out).mono ?_); rintro e1 w1 ⟨rfl, rfl⟩))
    (try simp only [Exit.inBlock, Exit.then])
    refine bodyPost_ret (results_tmp4 rfl _ _ _) rfl ?_
    exact tzRes_mk HR.out
  · have HT : Hid (takeAt s.data.toList 0 = (v, (q : Int), 0)) := ht
    rcases takeAt_cases s.data.toList q with ⟨e, he1, he3, ht2⟩ | ⟨v2, q2, a2, -, -, hq2, hv2, ht2, -⟩
    · have HT2 : Hid (takeAt s.data.toList q = (0, 0, e)) := ht2
      have HR : Hid (tz s = (0, 0, 0, e)) := tz_err2 ht ht2 (by omega)
      have hne : ((e : Int) != 0) = true := by simp; omega
      have hne2 : ((e : Int) == 0) = false := by simp; omega
      clear ht ht2
      go_enter Try.func53, Try.ntmps53
      go_wp2_with (first
        | (go_at_call 43; ((with_reducible refine (rtake_at s 0 _ hs _ _ _ HT.out).mono ?_); rintro e1 w1 ⟨rfl, rfl⟩))
        | (go_at_call 43; ((with_reducible refine (rtake_at s q _ hs _ _ _ HT2.out).mono ?_); rintro e1 w1 ⟨rfl, rfl⟩)))
      (try simp only [Exit.inBlock, Exit.then])
      refine bodyPost_ret (results_tmp4 rfl _ _ _) rfl ?_
      exact tzRes_mk HR.out
    · have HT2 : Hid (takeAt s.data.toList q = (v2, (q2 : Int), 0)) := ht2
      have HR : Hid (tz s = (v, v2, q2, 0)) := tz_ok ht ht2
      clear ht ht2
      go_enter Try.func53, Try.ntmps53
      go_wp2_with (first
        | (go_at_call 43; ((with_reducible refine (rtake_at s 0 _ hs _ _ _ HT.out).mono ?_); rintro e1 w1 ⟨rfl, rfl⟩))
        | (go_at_call 43; ((with_reducible refine (rtake_at s q _ hs _ _ _ HT2.out).mono ?_); rintro e1 w1 ⟨rfl, rfl⟩)))
      (try simp only [Exit.inBlock, Exit.then])
      refine bodyPost_ret (results_tmp4 rfl _ _ _) rfl ?_
      exact tzRes_mk HR.out
theorem rheads_at (s : ByteArray) (w : World) (hs : s.size ≤ 4611686018427387904) (a b c d : Nat) (h : tz s = (a, b, c, d)) :
    Calls Try.prog 53 #[.string s] w fun e w' => e = .returned (.tuple #[.int .u64 (a : Int), .int .u64 (b : Int), .int .i64 (c : Int), .int .i64 (d : Int)]) ∧ w = w' :=
  (rheads_any s w hs).mono fun _ _ x => ⟨by rw [x.1, h], x.2⟩

/-- What the reference's piece answers: the length, the offset in the base (or -1), the offset behind its numbers, the error. -/
def pv (r : St × Nat × Nat) : Int × Int × Int × Nat :=
  if r.2.2 ≠ 0 then (0, 0, 0, r.2.2) else if r.1.c = true then ((r.1.n : Int), (r.1.f : Int), (r.2.1 : Int), 0) else ((r.1.n : Int), -1, (r.1.f : Int), 0)
def PvRes (r : Int × Int × Int × Nat) (w : World) (e : Ending) (w' : World) : Prop := e = .returned (.tuple #[.int .i64 r.1, .int .i64 r.2.1, .int .i64 r.2.2.1, .int .i64 (r.2.2.2 : Int)]) ∧ w = w'
theorem pvRes_err {r : St × Nat × Nat} {t : St} {q k : Nat} {w : World} (h : r = (t, q, k)) (hk : k ≠ 0) : PvRes (pv r) w (.returned (.tuple #[.int .i64 0, .int .i64 0, .int .i64 0, .int .i64 (k : Int)])) w := by
  subst h
  unfold pv
  rw [if_pos hk]
  exact ⟨rfl, rfl⟩
theorem pvRes_copy {r : St × Nat × Nat} {f n q : Nat} {w : World} (h : r = (⟨true, f, n⟩, q, 0)) : PvRes (pv r) w (.returned (.tuple #[.int .i64 (n : Int), .int .i64 (f : Int), .int .i64 (q : Int), .int .i64 0])) w := by
  subst h
  exact ⟨rfl, rfl⟩
theorem pvRes_lit {r : St × Nat × Nat} {f n q : Nat} {w : World} (h : r = (⟨false, f, n⟩, q, 0)) : PvRes (pv r) w (.returned (.tuple #[.int .i64 (n : Int), .int .i64 (-1), .int .i64 (f : Int), .int .i64 0])) w := by
  subst h
  exact ⟨rfl, rfl⟩

set_option maxHeartbeats 2000000 in
set_option maxRecDepth 4000 in
theorem rp_w0 (s : ByteArray) (q B left : Nat) (w : World) (hs : s.size ≤ 4611686018427387904) (hB : B ≤ 1099511627776) (hl : left ≤ 1099511627776) (e : Nat) (ht : takeAt s.data.toList q = (0, 0, e)) (he : e ≠ 0) :
    Calls Try.prog 54 #[.string s, .int .i64 q, .int .u64 B, .int .u64 left] w (PvRes (pv (ts s q B left)) w) := by
  have HT : Hid (takeAt s.data.toList q = (0, 0, e)) := ht
  have HR : Hid (ts s q B left = (St.none, 0, e)) := ts_err ht he
  have hne : ((e : Int) != 0) = true := by simp; omega
  have hne2 : ((e : Int) == 0) = false := by simp; omega
  have HE : Hid (e ≠ 0) := he
  clear ht he
  go_enter Try.func54, Try.ntmps54
  go_wp2_with (go_at_call 43; ((with_reducible refine (rtake_at s q _ hs _ _ _ HT.out).mono ?_); rintro e1 w1 ⟨rfl, rfl⟩))
  (try simp only [Exit.inBlock, Exit.then])
  refine bodyPost_ret (results_tmp4 rfl _ _ _) rfl ?_
  exact pvRes_err HR.out HE.out

set_option maxHeartbeats 2000000 in
set_option maxRecDepth 4000 in
theorem rp_w1 (s : ByteArray) (q B left : Nat) (w : World) (hs : s.size ≤ 4611686018427387904) (hB : B ≤ 1099511627776) (hl : left ≤ 1099511627776) (v q2 : Nat) (ht : takeAt s.data.toList q = (v, (q2 : Int), 0)) (hq2 : q2 ≤ s.size) (hv : v < 18446744073709551616) (h0 : v / 2 = 0) (h1 : v % 2 = 0) :
    Calls Try.prog 54 #[.string s, .int .i64 q, .int .u64 B, .int .u64 left] w (PvRes (pv (ts s q B left)) w) := by
  have HT : Hid (takeAt s.data.toList q = (v, (q2 : Int), 0)) := ht
  have HR : Hid (ts s q B left = (St.none, 0, 2)) := ts_zero ht h0
  obtain ⟨n, hn⟩ : ∃ n, n = v / 2 := ⟨_, rfl⟩
  obtain ⟨z, hz⟩ : ∃ z, z = v % 2 := ⟨_, rfl⟩
  have hhalf : (v : Int) / 2 = (n : Int) := by omega
  have hmod : (v : Int) % 2 = (z : Int) := by omega
  have i4 : IntKind.i64.wrap ((s.size : Int) - q2) = (s.size : Int) - q2 := IntWalk.i64_in _ (by omega)
  have i5 : IntKind.u64.wrap ((s.size : Int) - q2) = (s.size : Int) - q2 := IntWalk.u64_in _ (by omega)
  have i3 : IntKind.i64.wrap (n : Int) = (n : Int) := IntWalk.i64_in _ (by omega)
  have i8 : IntKind.u64.wrap (n : Int) = (n : Int) := IntWalk.u64_in _ (by omega)
  have a0 : ((n : Int) == 0) = true := by rw [hn, h0]; rfl
  have a2 : n ≤ 1024 := by omega
  have a1 : ((z : Int) == 0) = true := by rw [hz, h1]; rfl
  clear h0 h1
  try rw [← hn] at HR
  clear ht hv hz hn
  go_enter Try.func54, Try.ntmps54
  go_wp2_with (go_at_call 43; ((with_reducible refine (rtake_at s q _ hs _ _ _ HT.out).mono ?_); rintro e1 w1 ⟨rfl, rfl⟩))
  (try simp only [Exit.inBlock, Exit.then])
  refine bodyPost_ret (results_tmp4 rfl _ _ _) rfl ?_
  exact pvRes_err HR.out (by decide)

set_option maxHeartbeats 2000000 in
set_option maxRecDepth 4000 in
theorem rp_w1b (s : ByteArray) (q B left : Nat) (w : World) (hs : s.size ≤ 4611686018427387904) (hB : B ≤ 1099511627776) (hl : left ≤ 1099511627776) (v q2 : Nat) (ht : takeAt s.data.toList q = (v, (q2 : Int), 0)) (hq2 : q2 ≤ s.size) (hv : v < 18446744073709551616) (h0 : v / 2 = 0) (h1 : v % 2 = 1) :
    Calls Try.prog 54 #[.string s, .int .i64 q, .int .u64 B, .int .u64 left] w (PvRes (pv (ts s q B left)) w) := by
  have HT : Hid (takeAt s.data.toList q = (v, (q2 : Int), 0)) := ht
  have HR : Hid (ts s q B left = (St.none, 0, 2)) := ts_zero ht h0
  obtain ⟨n, hn⟩ : ∃ n, n = v / 2 := ⟨_, rfl⟩
  obtain ⟨z, hz⟩ : ∃ z, z = v % 2 := ⟨_, rfl⟩
  have hhalf : (v : Int) / 2 = (n : Int) := by omega
  have hmod : (v : Int) % 2 = (z : Int) := by omega
  have i4 : IntKind.i64.wrap ((s.size : Int) - q2) = (s.size : Int) - q2 := IntWalk.i64_in _ (by omega)
  have i5 : IntKind.u64.wrap ((s.size : Int) - q2) = (s.size : Int) - q2 := IntWalk.u64_in _ (by omega)
  have i3 : IntKind.i64.wrap (n : Int) = (n : Int) := IntWalk.i64_in _ (by omega)
  have i8 : IntKind.u64.wrap (n : Int) = (n : Int) := IntWalk.u64_in _ (by omega)
  have a0 : ((n : Int) == 0) = true := by rw [hn, h0]; rfl
  have a2 : n ≤ 1024 := by omega
  have a1 : ((z : Int) == 0) = false := by rw [hz, h1]; rfl
  clear h0 h1
  try rw [← hn] at HR
  clear ht hv hz hn
  go_enter Try.func54, Try.ntmps54
  go_wp2_with (go_at_call 43; ((with_reducible refine (rtake_at s q _ hs _ _ _ HT.out).mono ?_); rintro e1 w1 ⟨rfl, rfl⟩))
  (try simp only [Exit.inBlock, Exit.then])
  refine bodyPost_ret (results_tmp4 rfl _ _ _) rfl ?_
  exact pvRes_err HR.out (by decide)

set_option maxHeartbeats 2000000 in
set_option maxRecDepth 4000 in
theorem rp_w2 (s : ByteArray) (q B left : Nat) (w : World) (hs : s.size ≤ 4611686018427387904) (hB : B ≤ 1099511627776) (hl : left ≤ 1099511627776) (v q2 : Nat) (ht : takeAt s.data.toList q = (v, (q2 : Int), 0)) (hq2 : q2 ≤ s.size) (hv : v < 18446744073709551616) (h0 : v / 2 ≠ 0) (h1 : v % 2 = 0) (h2 : 1024 < v / 2) :
    Calls Try.prog 54 #[.string s, .int .i64 q, .int .u64 B, .int .u64 left] w (PvRes (pv (ts s q B left)) w) := by
  have HT : Hid (takeAt s.data.toList q = (v, (q2 : Int), 0)) := ht
  have HR : Hid (ts s q B left = (St.none, 0, 2)) := ts_much ht h0 h1 (.inl h2)
  obtain ⟨n, hn⟩ : ∃ n, n = v / 2 := ⟨_, rfl⟩
  obtain ⟨z, hz⟩ : ∃ z, z = v % 2 := ⟨_, rfl⟩
  have hhalf : (v : Int) / 2 = (n : Int) := by omega
  have hmod : (v : Int) % 2 = (z : Int) := by omega
  have i4 : IntKind.i64.wrap ((s.size : Int) - q2) = (s.size : Int) - q2 := IntWalk.i64_in _ (by omega)
  have i5 : IntKind.u64.wrap ((s.size : Int) - q2) = (s.size : Int) - q2 := IntWalk.u64_in _ (by omega)
  have i3 : IntKind.i64.wrap (n : Int) = (n : Int) := IntWalk.i64_in _ (by omega)
  have i8 : IntKind.u64.wrap (n : Int) = (n : Int) := IntWalk.u64_in _ (by omega)
  have a0 : ((n : Int) == 0) = false := by simp; omega
  have a1 : ((z : Int) == 0) = true := by rw [hz, h1]; rfl
  have a2 : 1024 < n := by omega
  clear h0 h1 h2
  try rw [← hn] at HR
  clear ht hv hz hn
  go_enter Try.func54, Try.ntmps54
  go_wp2_with (go_at_call 43; ((with_reducible refine (rtake_at s q _ hs _ _ _ HT.out).mono ?_); rintro e1 w1 ⟨rfl, rfl⟩))
  (try simp only [Exit.inBlock, Exit.then])
  refine bodyPost_ret (results_tmp4 rfl _ _ _) rfl ?_
  exact pvRes_err HR.out (by decide)

set_option maxHeartbeats 2000000 in
set_option maxRecDepth 4000 in
theorem rp_w3 (s : ByteArray) (q B left : Nat) (w : World) (hs : s.size ≤ 4611686018427387904) (hB : B ≤ 1099511627776) (hl : left ≤ 1099511627776) (v q2 : Nat) (ht : takeAt s.data.toList q = (v, (q2 : Int), 0)) (hq2 : q2 ≤ s.size) (hv : v < 18446744073709551616) (h0 : v / 2 ≠ 0) (h1 : v % 2 = 0) (h2 : v / 2 ≤ 1024) (h3 : left < v / 2) :
    Calls Try.prog 54 #[.string s, .int .i64 q, .int .u64 B, .int .u64 left] w (PvRes (pv (ts s q B left)) w) := by
  have HT : Hid (takeAt s.data.toList q = (v, (q2 : Int), 0)) := ht
  have HR : Hid (ts s q B left = (St.none, 0, 2)) := ts_much ht h0 h1 (.inr h3)
  obtain ⟨n, hn⟩ : ∃ n, n = v / 2 := ⟨_, rfl⟩
  obtain ⟨z, hz⟩ : ∃ z, z = v % 2 := ⟨_, rfl⟩
  have hhalf : (v : Int) / 2 = (n : Int) := by omega
  have hmod : (v : Int) % 2 = (z : Int) := by omega
  have i4 : IntKind.i64.wrap ((s.size : Int) - q2) = (s.size : Int) - q2 := IntWalk.i64_in _ (by omega)
  have i5 : IntKind.u64.wrap ((s.size : Int) - q2) = (s.size : Int) - q2 := IntWalk.u64_in _ (by omega)
  have i3 : IntKind.i64.wrap (n : Int) = (n : Int) := IntWalk.i64_in _ (by omega)
  have i8 : IntKind.u64.wrap (n : Int) = (n : Int) := IntWalk.u64_in _ (by omega)
  have a0 : ((n : Int) == 0) = false := by simp; omega
  have a1 : ((z : Int) == 0) = true := by rw [hz, h1]; rfl
  have a2 : n ≤ 1024 := by omega
  have a3 : left < n := by omega
  clear h0 h1 h2 h3
  try rw [← hn] at HR
  clear ht hv hz hn
  go_enter Try.func54, Try.ntmps54
  go_wp2_with (go_at_call 43; ((with_reducible refine (rtake_at s q _ hs _ _ _ HT.out).mono ?_); rintro e1 w1 ⟨rfl, rfl⟩))
  (try simp only [Exit.inBlock, Exit.then])
  refine bodyPost_ret (results_tmp4 rfl _ _ _) rfl ?_
  exact pvRes_err HR.out (by decide)

set_option maxHeartbeats 2000000 in
set_option maxRecDepth 4000 in
theorem rp_w4 (s : ByteArray) (q B left : Nat) (w : World) (hs : s.size ≤ 4611686018427387904) (hB : B ≤ 1099511627776) (hl : left ≤ 1099511627776) (v q2 : Nat) (ht : takeAt s.data.toList q = (v, (q2 : Int), 0)) (hq2 : q2 ≤ s.size) (hv : v < 18446744073709551616) (h0 : v / 2 ≠ 0) (h1 : v % 2 = 0) (h2 : v / 2 ≤ 1024) (h3 : v / 2 ≤ left) (h4 : s.size - q2 < v / 2) :
    Calls Try.prog 54 #[.string s, .int .i64 q, .int .u64 B, .int .u64 left] w (PvRes (pv (ts s q B left)) w) := by
  have HT : Hid (takeAt s.data.toList q = (v, (q2 : Int), 0)) := ht
  have HR : Hid (ts s q B left = (St.none, 0, 3)) := ts_short ht h0 h1 (by omega) h4
  obtain ⟨n, hn⟩ : ∃ n, n = v / 2 := ⟨_, rfl⟩
  obtain ⟨z, hz⟩ : ∃ z, z = v % 2 := ⟨_, rfl⟩
  have hhalf : (v : Int) / 2 = (n : Int) := by omega
  have hmod : (v : Int) % 2 = (z : Int) := by omega
  have i4 : IntKind.i64.wrap ((s.size : Int) - q2) = (s.size : Int) - q2 := IntWalk.i64_in _ (by omega)
  have i5 : IntKind.u64.wrap ((s.size : Int) - q2) = (s.size : Int) - q2 := IntWalk.u64_in _ (by omega)
  have i3 : IntKind.i64.wrap (n : Int) = (n : Int) := IntWalk.i64_in _ (by omega)
  have i8 : IntKind.u64.wrap (n : Int) = (n : Int) := IntWalk.u64_in _ (by omega)
  have a0 : ((n : Int) == 0) = false := by simp; omega
  have a1 : ((z : Int) == 0) = true := by rw [hz, h1]; rfl
  have a2 : n ≤ 1024 := by omega
  have a3 : n ≤ left := by omega
  have a4 : (s.size : Int) - q2 < n := by omega
  clear h0 h1 h2 h3 h4
  try rw [← hn] at HR
  clear ht hv hz hn
  go_enter Try.func54, Try.ntmps54
  go_wp2_with (go_at_call 43; ((with_reducible refine (rtake_at s q _ hs _ _ _ HT.out).mono ?_); rintro e1 w1 ⟨rfl, rfl⟩))
  (try simp only [Exit.inBlock, Exit.then])
  refine bodyPost_ret (results_tmp4 rfl _ _ _) rfl ?_
  exact pvRes_err HR.out (by decide)

set_option maxHeartbeats 2000000 in
set_option maxRecDepth 4000 in
theorem rp_w5 (s : ByteArray) (q B left : Nat) (w : World) (hs : s.size ≤ 4611686018427387904) (hB : B ≤ 1099511627776) (hl : left ≤ 1099511627776) (v q2 : Nat) (ht : takeAt s.data.toList q = (v, (q2 : Int), 0)) (hq2 : q2 ≤ s.size) (hv : v < 18446744073709551616) (h0 : v / 2 ≠ 0) (h1 : v % 2 = 0) (h2 : v / 2 ≤ 1024) (h3 : v / 2 ≤ left) (h4 : v / 2 ≤ s.size - q2) :
    Calls Try.prog 54 #[.string s, .int .i64 q, .int .u64 B, .int .u64 left] w (PvRes (pv (ts s q B left)) w) := by
  have HT : Hid (takeAt s.data.toList q = (v, (q2 : Int), 0)) := ht
  have HR : Hid (ts s q B left = (⟨false, q2, v / 2⟩, q2 + v / 2, 0)) := ts_lit ht h0 h1 (by omega) (by omega)
  obtain ⟨n, hn⟩ : ∃ n, n = v / 2 := ⟨_, rfl⟩
  obtain ⟨z, hz⟩ : ∃ z, z = v % 2 := ⟨_, rfl⟩
  have hhalf : (v : Int) / 2 = (n : Int) := by omega
  have hmod : (v : Int) % 2 = (z : Int) := by omega
  have i4 : IntKind.i64.wrap ((s.size : Int) - q2) = (s.size : Int) - q2 := IntWalk.i64_in _ (by omega)
  have i5 : IntKind.u64.wrap ((s.size : Int) - q2) = (s.size : Int) - q2 := IntWalk.u64_in _ (by omega)
  have i3 : IntKind.i64.wrap (n : Int) = (n : Int) := IntWalk.i64_in _ (by omega)
  have i8 : IntKind.u64.wrap (n : Int) = (n : Int) := IntWalk.u64_in _ (by omega)
  have a0 : ((n : Int) == 0) = false := by simp; omega
  have a1 : ((z : Int) == 0) = true := by rw [hz, h1]; rfl
  have a2 : n ≤ 1024 := by omega
  have a3 : n ≤ left := by omega
  have a4 : (n : Int) ≤ (s.size : Int) - q2 := by omega
  clear h0 h1 h2 h3 h4
  try rw [← hn] at HR
  clear ht hv hz hn
  go_enter Try.func54, Try.ntmps54
  go_wp2_with (go_at_call 43; ((with_reducible refine (rtake_at s q _ hs _ _ _ HT.out).mono ?_); rintro e1 w1 ⟨rfl, rfl⟩))
  (try simp only [Exit.inBlock, Exit.then])
  refine bodyPost_ret (results_tmp4 rfl _ _ _) rfl ?_
  exact pvRes_lit HR.out

set_option maxHeartbeats 2000000 in
set_option maxRecDepth 4000 in
theorem rp_c0 (s : ByteArray) (q B left : Nat) (w : World) (hs : s.size ≤ 4611686018427387904) (hB : B ≤ 1099511627776) (hl : left ≤ 1099511627776) (v q2 : Nat) (ht : takeAt s.data.toList q = (v, (q2 : Int), 0)) (hq2 : q2 ≤ s.size) (hv : v < 18446744073709551616) (h0 : v / 2 ≠ 0) (h1 : v % 2 = 1) (e : Nat) (ht2 : takeAt s.data.toList q2 = (0, 0, e)) (he : e ≠ 0) :
    Calls Try.prog 54 #[.string s, .int .i64 q, .int .u64 B, .int .u64 left] w (PvRes (pv (ts s q B left)) w) := by
  have HT : Hid (takeAt s.data.toList q = (v, (q2 : Int), 0)) := ht
  have HR : Hid (ts s q B left = (St.none, 0, e)) := (ts_copy ht h0 h1).trans (tc_err ht2 he)
  obtain ⟨n, hn⟩ : ∃ n, n = v / 2 := ⟨_, rfl⟩
  obtain ⟨z, hz⟩ : ∃ z, z = v % 2 := ⟨_, rfl⟩
  have hhalf : (v : Int) / 2 = (n : Int) := by omega
  have hmod : (v : Int) % 2 = (z : Int) := by omega
  have i4 : IntKind.i64.wrap ((s.size : Int) - q2) = (s.size : Int) - q2 := IntWalk.i64_in _ (by omega)
  have i5 : IntKind.u64.wrap ((s.size : Int) - q2) = (s.size : Int) - q2 := IntWalk.u64_in _ (by omega)
  have i3 : IntKind.i64.wrap (n : Int) = (n : Int) := IntWalk.i64_in _ (by omega)
  have i8 : IntKind.u64.wrap (n : Int) = (n : Int) := IntWalk.u64_in _ (by omega)
  have a0 : ((n : Int) == 0) = false := by simp; omega
  have a1 : ((z : Int) == 0) = false := by rw [hz, h1]; rfl
  have HT2 : Hid (takeAt s.data.toList q2 = (0, 0, e)) := ht2
  have hne : ((e : Int) != 0) = true := by simp; omega
  have hne2 : ((e : Int) == 0) = false := by simp; omega
  have HE : Hid (e ≠ 0) := he
  clear h0 h1 ht2 he
  try rw [← hn] at HR
  clear ht hv hz hn
  go_enter Try.func54, Try.ntmps54
  go_wp2_with (first | (go_at_call 43; ((with_reducible refine (rtake_at s q _ hs _ _ _ HT.out).mono ?_); rintro e1 w1 ⟨rfl, rfl⟩)) | (go_at_call 43; ((with_reducible refine (rtake_at s q2 _ hs _ _ _ HT2.out).mono ?_); rintro e1 w1 ⟨rfl, rfl⟩)))
  (try simp only [Exit.inBlock, Exit.then])
  refine bodyPost_ret (results_tmp4 rfl _ _ _) rfl ?_
  exact pvRes_err HR.out HE.out

set_option maxHeartbeats 2000000 in
set_option maxRecDepth 4000 in
theorem rp_c1 (s : ByteArray) (q B left : Nat) (w : World) (hs : s.size ≤ 4611686018427387904) (hB : B ≤ 1099511627776) (hl : left ≤ 1099511627776) (v q2 : Nat) (ht : takeAt s.data.toList q = (v, (q2 : Int), 0)) (hq2 : q2 ≤ s.size) (hv : v < 18446744073709551616) (h0 : v / 2 ≠ 0) (h1 : v % 2 = 1) (x q3 : Nat) (ht2 : takeAt s.data.toList q2 = (x, (q3 : Int), 0)) (hx : x < 18446744073709551616) (h5 : B < v / 2) :
    Calls Try.prog 54 #[.string s, .int .i64 q, .int .u64 B, .int .u64 left] w (PvRes (pv (ts s q B left)) w) := by
  have HT : Hid (takeAt s.data.toList q = (v, (q2 : Int), 0)) := ht
  have HR : Hid (ts s q B left = (St.none, 0, 40)) := (ts_copy ht h0 h1).trans (tc_out ht2 (.inl h5))
  obtain ⟨n, hn⟩ : ∃ n, n = v / 2 := ⟨_, rfl⟩
  obtain ⟨z, hz⟩ : ∃ z, z = v % 2 := ⟨_, rfl⟩
  have hhalf : (v : Int) / 2 = (n : Int) := by omega
  have hmod : (v : Int) % 2 = (z : Int) := by omega
  have i4 : IntKind.i64.wrap ((s.size : Int) - q2) = (s.size : Int) - q2 := IntWalk.i64_in _ (by omega)
  have i5 : IntKind.u64.wrap ((s.size : Int) - q2) = (s.size : Int) - q2 := IntWalk.u64_in _ (by omega)
  have i3 : IntKind.i64.wrap (n : Int) = (n : Int) := IntWalk.i64_in _ (by omega)
  have i8 : IntKind.u64.wrap (n : Int) = (n : Int) := IntWalk.u64_in _ (by omega)
  have a0 : ((n : Int) == 0) = false := by simp; omega
  have a1 : ((z : Int) == 0) = false := by rw [hz, h1]; rfl
  have HT2 : Hid (takeAt s.data.toList q2 = (x, (q3 : Int), 0)) := ht2
  have a5 : B < n := by omega
  clear h0 h1 ht2 h5 hx
  try rw [← hn] at HR
  clear ht hv hz hn
  go_enter Try.func54, Try.ntmps54
  go_wp2_with (first | (go_at_call 43; ((with_reducible refine (rtake_at s q _ hs _ _ _ HT.out).mono ?_); rintro e1 w1 ⟨rfl, rfl⟩)) | (go_at_call 43; ((with_reducible refine (rtake_at s q2 _ hs _ _ _ HT2.out).mono ?_); rintro e1 w1 ⟨rfl, rfl⟩)))
  (try simp only [Exit.inBlock, Exit.then])
  refine bodyPost_ret (results_tmp4 rfl _ _ _) rfl ?_
  exact pvRes_err HR.out (by decide)

set_option maxHeartbeats 2000000 in
set_option maxRecDepth 4000 in
theorem rp_c2 (s : ByteArray) (q B left : Nat) (w : World) (hs : s.size ≤ 4611686018427387904) (hB : B ≤ 1099511627776) (hl : left ≤ 1099511627776) (v q2 : Nat) (ht : takeAt s.data.toList q = (v, (q2 : Int), 0)) (hq2 : q2 ≤ s.size) (hv : v < 18446744073709551616) (h0 : v / 2 ≠ 0) (h1 : v % 2 = 1) (x q3 : Nat) (ht2 : takeAt s.data.toList q2 = (x, (q3 : Int), 0)) (hx : x < 18446744073709551616) (h5 : v / 2 ≤ B) (h6 : B - v / 2 < x) :
    Calls Try.prog 54 #[.string s, .int .i64 q, .int .u64 B, .int .u64 left] w (PvRes (pv (ts s q B left)) w) := by
  have HT : Hid (takeAt s.data.toList q = (v, (q2 : Int), 0)) := ht
  have HR : Hid (ts s q B left = (St.none, 0, 40)) := (ts_copy ht h0 h1).trans (tc_out ht2 (.inr h6))
  obtain ⟨n, hn⟩ : ∃ n, n = v / 2 := ⟨_, rfl⟩
  obtain ⟨z, hz⟩ : ∃ z, z = v % 2 := ⟨_, rfl⟩
  have hhalf : (v : Int) / 2 = (n : Int) := by omega
  have hmod : (v : Int) % 2 = (z : Int) := by omega
  have i4 : IntKind.i64.wrap ((s.size : Int) - q2) = (s.size : Int) - q2 := IntWalk.i64_in _ (by omega)
  have i5 : IntKind.u64.wrap ((s.size : Int) - q2) = (s.size : Int) - q2 := IntWalk.u64_in _ (by omega)
  have i3 : IntKind.i64.wrap (n : Int) = (n : Int) := IntWalk.i64_in _ (by omega)
  have i8 : IntKind.u64.wrap (n : Int) = (n : Int) := IntWalk.u64_in _ (by omega)
  have a0 : ((n : Int) == 0) = false := by simp; omega
  have a1 : ((z : Int) == 0) = false := by rw [hz, h1]; rfl
  have HT2 : Hid (takeAt s.data.toList q2 = (x, (q3 : Int), 0)) := ht2
  have a5 : n ≤ B := by omega
  have i6 : IntKind.u64.wrap ((B : Int) - n) = (B : Int) - n := IntWalk.u64_in _ (by omega)
  have a6 : (B : Int) - n < x := by omega
  clear h0 h1 ht2 h5 h6 hx
  try rw [← hn] at HR
  clear ht hv hz hn
  go_enter Try.func54, Try.ntmps54
  go_wp2_with (first | (go_at_call 43; ((with_reducible refine (rtake_at s q _ hs _ _ _ HT.out).mono ?_); rintro e1 w1 ⟨rfl, rfl⟩)) | (go_at_call 43; ((with_reducible refine (rtake_at s q2 _ hs _ _ _ HT2.out).mono ?_); rintro e1 w1 ⟨rfl, rfl⟩)))
  (try simp only [Exit.inBlock, Exit.then])
  refine bodyPost_ret (results_tmp4 rfl _ _ _) rfl ?_
  exact pvRes_err HR.out (by decide)

set_option maxHeartbeats 2000000 in
set_option maxRecDepth 4000 in
theorem rp_c3 (s : ByteArray) (q B left : Nat) (w : World) (hs : s.size ≤ 4611686018427387904) (hB : B ≤ 1099511627776) (hl : left ≤ 1099511627776) (v q2 : Nat) (ht : takeAt s.data.toList q = (v, (q2 : Int), 0)) (hq2 : q2 ≤ s.size) (hv : v < 18446744073709551616) (h0 : v / 2 ≠ 0) (h1 : v % 2 = 1) (x q3 : Nat) (ht2 : takeAt s.data.toList q2 = (x, (q3 : Int), 0)) (hx : x < 18446744073709551616) (h5 : v / 2 ≤ B) (h6 : x ≤ B - v / 2) (h7 : left < v / 2) :
    Calls Try.prog 54 #[.string s, .int .i64 q, .int .u64 B, .int .u64 left] w (PvRes (pv (ts s q B left)) w) := by
  have HT : Hid (takeAt s.data.toList q = (v, (q2 : Int), 0)) := ht
  have HR : Hid (ts s q B left = (St.none, 0, 2)) := (ts_copy ht h0 h1).trans (tc_much ht2 (by omega) h7)
  obtain ⟨n, hn⟩ : ∃ n, n = v / 2 := ⟨_, rfl⟩
  obtain ⟨z, hz⟩ : ∃ z, z = v % 2 := ⟨_, rfl⟩
  have hhalf : (v : Int) / 2 = (n : Int) := by omega
  have hmod : (v : Int) % 2 = (z : Int) := by omega
  have i4 : IntKind.i64.wrap ((s.size : Int) - q2) = (s.size : Int) - q2 := IntWalk.i64_in _ (by omega)
  have i5 : IntKind.u64.wrap ((s.size : Int) - q2) = (s.size : Int) - q2 := IntWalk.u64_in _ (by omega)
  have i3 : IntKind.i64.wrap (n : Int) = (n : Int) := IntWalk.i64_in _ (by omega)
  have i8 : IntKind.u64.wrap (n : Int) = (n : Int) := IntWalk.u64_in _ (by omega)
  have a0 : ((n : Int) == 0) = false := by simp; omega
  have a1 : ((z : Int) == 0) = false := by rw [hz, h1]; rfl
  have HT2 : Hid (takeAt s.data.toList q2 = (x, (q3 : Int), 0)) := ht2
  have a5 : n ≤ B := by omega
  have i6 : IntKind.u64.wrap ((B : Int) - n) = (B : Int) - n := IntWalk.u64_in _ (by omega)
  have a6 : (x : Int) ≤ (B : Int) - n := by omega
  have a7 : left < n := by omega
  clear h0 h1 ht2 h5 h6 h7 hx
  try rw [← hn] at HR
  clear ht hv hz hn
  go_enter Try.func54, Try.ntmps54
  go_wp2_with (first | (go_at_call 43; ((with_reducible refine (rtake_at s q _ hs _ _ _ HT.out).mono ?_); rintro e1 w1 ⟨rfl, rfl⟩)) | (go_at_call 43; ((with_reducible refine (rtake_at s q2 _ hs _ _ _ HT2.out).mono ?_); rintro e1 w1 ⟨rfl, rfl⟩)))
  (try simp only [Exit.inBlock, Exit.then])
  refine bodyPost_ret (results_tmp4 rfl _ _ _) rfl ?_
  exact pvRes_err HR.out (by decide)

set_option maxHeartbeats 2000000 in
set_option maxRecDepth 4000 in
theorem rp_c4 (s : ByteArray) (q B left : Nat) (w : World) (hs : s.size ≤ 4611686018427387904) (hB : B ≤ 1099511627776) (hl : left ≤ 1099511627776) (v q2 : Nat) (ht : takeAt s.data.toList q = (v, (q2 : Int), 0)) (hq2 : q2 ≤ s.size) (hv : v < 18446744073709551616) (h0 : v / 2 ≠ 0) (h1 : v % 2 = 1) (x q3 : Nat) (ht2 : takeAt s.data.toList q2 = (x, (q3 : Int), 0)) (hx : x < 18446744073709551616) (h5 : v / 2 ≤ B) (h6 : x ≤ B - v / 2) (h7 : v / 2 ≤ left) :
    Calls Try.prog 54 #[.string s, .int .i64 q, .int .u64 B, .int .u64 left] w (PvRes (pv (ts s q B left)) w) := by
  have HT : Hid (takeAt s.data.toList q = (v, (q2 : Int), 0)) := ht
  have HR : Hid (ts s q B left = (⟨true, x, v / 2⟩, q3, 0)) := (ts_copy ht h0 h1).trans (tc_ok ht2 (by omega) (by omega))
  obtain ⟨n, hn⟩ : ∃ n, n = v / 2 := ⟨_, rfl⟩
  obtain ⟨z, hz⟩ : ∃ z, z = v % 2 := ⟨_, rfl⟩
  have hhalf : (v : Int) / 2 = (n : Int) := by omega
  have hmod : (v : Int) % 2 = (z : Int) := by omega
  have i4 : IntKind.i64.wrap ((s.size : Int) - q2) = (s.size : Int) - q2 := IntWalk.i64_in _ (by omega)
  have i5 : IntKind.u64.wrap ((s.size : Int) - q2) = (s.size : Int) - q2 := IntWalk.u64_in _ (by omega)
  have i3 : IntKind.i64.wrap (n : Int) = (n : Int) := IntWalk.i64_in _ (by omega)
  have i8 : IntKind.u64.wrap (n : Int) = (n : Int) := IntWalk.u64_in _ (by omega)
  have a0 : ((n : Int) == 0) = false := by simp; omega
  have a1 : ((z : Int) == 0) = false := by rw [hz, h1]; rfl
  have HT2 : Hid (takeAt s.data.toList q2 = (x, (q3 : Int), 0)) := ht2
  have a5 : n ≤ B := by omega
  have i6 : IntKind.u64.wrap ((B : Int) - n) = (B : Int) - n := IntWalk.u64_in _ (by omega)
  have i7 : IntKind.i64.wrap (x : Int) = (x : Int) := IntWalk.i64_in _ (by omega)
  have a6 : (x : Int) ≤ (B : Int) - n := by omega
  have a7 : n ≤ left := by omega
  clear h0 h1 ht2 h5 h6 h7 hx
  try rw [← hn] at HR
  clear ht hv hz hn
  go_enter Try.func54, Try.ntmps54
  go_wp2_with (first | (go_at_call 43; ((with_reducible refine (rtake_at s q _ hs _ _ _ HT.out).mono ?_); rintro e1 w1 ⟨rfl, rfl⟩)) | (go_at_call 43; ((with_reducible refine (rtake_at s q2 _ hs _ _ _ HT2.out).mono ?_); rintro e1 w1 ⟨rfl, rfl⟩)))
  (try simp only [Exit.inBlock, Exit.then])
  refine bodyPost_ret (results_tmp4 rfl _ _ _) rfl ?_
  exact pvRes_copy HR.out

theorem rpiece_any (s : ByteArray) (q B left : Nat) (w : World) (hs : s.size ≤ 4611686018427387904) (hB : B ≤ 1099511627776) (hl : left ≤ 1099511627776) :
    Calls Try.prog 54 #[.string s, .int .i64 q, .int .u64 B, .int .u64 left] w (PvRes (pv (ts s q B left)) w) := by
  rcases takeAt_cases s.data.toList q with ⟨e, he1, he3, ht⟩ | ⟨v, q2, a, -, -, hq2, hv, ht, -⟩
  · exact rp_w0 s q B left w hs hB hl e ht (by omega)
  · rw [list_len] at hq2
    by_cases h0 : v / 2 = 0
    · by_cases h1 : v % 2 = 1
      · exact rp_w1b s q B left w hs hB hl v q2 ht hq2 hv h0 h1
      · exact rp_w1 s q B left w hs hB hl v q2 ht hq2 hv h0 (by omega)
    · by_cases h1 : v % 2 = 1
      · rcases takeAt_cases s.data.toList q2 with ⟨e, he1, he3, ht2⟩ | ⟨x, q3, a2, -, -, hq3, hx, ht2, -⟩
        · exact rp_c0 s q B left w hs hB hl v q2 ht hq2 hv h0 h1 e ht2 (by omega)
        · by_cases h5 : B < v / 2
          · exact rp_c1 s q B left w hs hB hl v q2 ht hq2 hv h0 h1 x q3 ht2 hx h5
          · by_cases h6 : B - v / 2 < x
            · exact rp_c2 s q B left w hs hB hl v q2 ht hq2 hv h0 h1 x q3 ht2 hx (by omega) h6
            · by_cases h7 : left < v / 2
              · exact rp_c3 s q B left w hs hB hl v q2 ht hq2 hv h0 h1 x q3 ht2 hx (by omega) (by omega) h7
              · exact rp_c4 s q B left w hs hB hl v q2 ht hq2 hv h0 h1 x q3 ht2 hx (by omega) (by omega) (by omega)
      · by_cases h2 : 1024 < v / 2
        · exact rp_w2 s q B left w hs hB hl v q2 ht hq2 hv h0 (by omega) h2
        · by_cases h3 : left < v / 2
          · exact rp_w3 s q B left w hs hB hl v q2 ht hq2 hv h0 (by omega) (by omega) h3
          · by_cases h4 : s.size - q2 < v / 2
            · exact rp_w4 s q B left w hs hB hl v q2 ht hq2 hv h0 (by omega) (by omega) (by omega) h4
            · exact rp_w5 s q B left w hs hB hl v q2 ht hq2 hv h0 (by omega) (by omega) (by omega) (by omega)
theorem rpiece_at (s : ByteArray) (q B left : Nat) (w : World) (hs : s.size ≤ 4611686018427387904) (hB : B ≤ 1099511627776) (hl : left ≤ 1099511627776) (x y z : Int) (e : Nat) (h : pv (ts s q B left) = (x, y, z, e)) :
    Calls Try.prog 54 #[.string s, .int .i64 q, .int .u64 B, .int .u64 left] w fun e' w' => e' = .returned (.tuple #[.int .i64 x, .int .i64 y, .int .i64 z, .int .i64 (e : Int)]) ∧ w = w' :=
  (rpiece_any s q B left w hs hB hl).mono fun _ _ r => ⟨by rw [r.1, h], r.2⟩

set_option maxHeartbeats 2000000 in
set_option maxRecDepth 4000 in
theorem rSizes_at (s : ByteArray) (w : World) (hs : s.size ≤ 4611686018427387904) (a b c d : Nat) (h : dsz s = (a, b, c, d)) :
    Calls Try.prog 28 #[.string s] w fun e w' => e = .returned (.tuple #[.int .i64 (a : Int), .int .i64 (b : Int), .int .i64 (d : Int)]) ∧ w = w' := by
  rcases tz_cases s with ⟨e, he1, he3, ht⟩ | ⟨v, v2, q2, hv, hv2, hq2, ht⟩
  · have HT : Hid (tz s = (0, 0, 0, e)) := ht
    have HR := (dsz_err ht (by omega)).symm.trans h
    simp only [Prod.mk.injEq] at HR
    obtain ⟨rfl, rfl, rfl, rfl⟩ := HR
    have hne : ((e : Int) != 0) = true := by simp; omega
    have hne2 : ((e : Int) == 0) = false := by simp; omega
    clear ht h
    go_enter Try.func28, Try.ntmps28
    go_wp2_with (go_at_call 53; ((with_reducible refine (rheads_at s _ hs _ _ _ _ HT.out).mono ?_); rintro e1 w1 ⟨rfl, rfl⟩))
    go_ret3
    exact ⟨rfl, rfl⟩
  · have HT : Hid (tz s = (v, v2, q2, 0)) := ht
    by_cases h1 : 1048576 < v
    · have HR := (dsz_large ht (.inl h1)).symm.trans h
      simp only [Prod.mk.injEq] at HR
      obtain ⟨rfl, rfl, rfl, rfl⟩ := HR
      clear ht h
      go_enter Try.func28, Try.ntmps28
      go_wp2_with (go_at_call 53; ((with_reducible refine (rheads_at s _ hs _ _ _ _ HT.out).mono ?_); rintro e1 w1 ⟨rfl, rfl⟩))
      go_ret3
      exact ⟨rfl, rfl⟩
    · by_cases h2 : 1048576 < v2
      · have HR := (dsz_large ht (.inr h2)).symm.trans h
        simp only [Prod.mk.injEq] at HR
        obtain ⟨rfl, rfl, rfl, rfl⟩ := HR
        clear ht h
        go_enter Try.func28, Try.ntmps28
        go_wp2_with (go_at_call 53; ((with_reducible refine (rheads_at s _ hs _ _ _ _ HT.out).mono ?_); rintro e1 w1 ⟨rfl, rfl⟩))
        go_ret3
        exact ⟨rfl, rfl⟩
      · have HR := (dsz_ok ht (by omega)).symm.trans h
        simp only [Prod.mk.injEq] at HR
        obtain ⟨rfl, rfl, rfl, rfl⟩ := HR
        have i1 : IntKind.i64.wrap (v : Int) = (v : Int) := IntWalk.i64_in _ (by omega)
        have i2 : IntKind.i64.wrap (v2 : Int) = (v2 : Int) := IntWalk.i64_in _ (by omega)
        clear ht h
        go_enter Try.func28, Try.ntmps28
        go_wp2_with (go_at_call 53; ((with_reducible refine (rheads_at s _ hs _ _ _ _ HT.out).mono ?_); rintro e1 w1 ⟨rfl, rfl⟩))
        go_ret3
        exact ⟨rfl, rfl⟩
end Go.Proofs.Ythfnnbeaggkhkaa
