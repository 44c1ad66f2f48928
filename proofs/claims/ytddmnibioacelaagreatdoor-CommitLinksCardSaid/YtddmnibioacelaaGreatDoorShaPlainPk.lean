/-
  Plain mathematics of the hash: words below 2^32 as natural numbers.
-/
import Derived.Test.YtddmnibioacelaaGreatDoorLawPostPk
import Derived.BigQuiet
import Derived.Deep.QuietTactic
import Derived.IntWalk
import Derived.WalkSmall
import Derived.StillTailTactics
import Derived.RegionTactic
import Derived.Deep.MidRow
import Derived.Test.YtddmnibioacelaaGreatDoorIdHexPk
import Derived.Deep.RegionHeld3
import Derived.Deep.DeepCutAuto
import Derived.Test.YtddmnibioacelaaGreatDoorMarkRow
import Derived.Test.YtddmnibioacelaaGreatDoorIdRHex
import Derived.Test.YtddmnibioacelaaGreatDoorTrBackPPk
namespace Go.Proofs.YtddmnibioacelaaGreatDoor

def rotr (x n : Nat) : Nat := (x / 2 ^ n) ||| (x * 2 ^ (32 - n) % 4294967296)
def ls0 (x : Nat) : Nat := (rotr x 7 ^^^ rotr x 18) ^^^ x / 8
def ls1 (x : Nat) : Nat := (rotr x 17 ^^^ rotr x 19) ^^^ x / 1024
def bs0 (x : Nat) : Nat := (rotr x 2 ^^^ rotr x 13) ^^^ rotr x 22
def bs1 (x : Nat) : Nat := (rotr x 6 ^^^ rotr x 11) ^^^ rotr x 25
def chs (e f g : Nat) : Nat := (e &&& f) ^^^ ((4294967295 ^^^ e) &&& g)
def maj (a b c : Nat) : Nat := ((a &&& b) ^^^ (a &&& c)) ^^^ (b &&& c)

theorem rotr_lt {x n : Nat} (hx : x < 4294967296) : rotr x n < 4294967296 :=
  Nat.or_lt_two_pow (n := 32) (Nat.lt_of_le_of_lt (Nat.div_le_self _ _) hx) (Nat.mod_lt _ (by decide))
theorem ls0_lt {x : Nat} (hx : x < 4294967296) : ls0 x < 4294967296 := Nat.xor_lt_two_pow (n := 32) (Nat.xor_lt_two_pow (n := 32) (rotr_lt hx) (rotr_lt hx)) (Nat.lt_of_le_of_lt (Nat.div_le_self _ _) hx)
theorem ls1_lt {x : Nat} (hx : x < 4294967296) : ls1 x < 4294967296 := Nat.xor_lt_two_pow (n := 32) (Nat.xor_lt_two_pow (n := 32) (rotr_lt hx) (rotr_lt hx)) (Nat.lt_of_le_of_lt (Nat.div_le_self _ _) hx)
theorem bs0_lt {x : Nat} (hx : x < 4294967296) : bs0 x < 4294967296 := Nat.xor_lt_two_pow (n := 32) (Nat.xor_lt_two_pow (n := 32) (rotr_lt hx) (rotr_lt hx)) (rotr_lt hx)
theorem bs1_lt {x : Nat} (hx : x < 4294967296) : bs1 x < 4294967296 := Nat.xor_lt_two_pow (n := 32) (Nat.xor_lt_two_pow (n := 32) (rotr_lt hx) (rotr_lt hx)) (rotr_lt hx)
theorem and_lt {x y : Nat} (hx : x < 4294967296) : x &&& y < 4294967296 := Nat.lt_of_le_of_lt Nat.and_le_left hx
theorem chs_lt {e f g : Nat} (he : e < 4294967296) (_hg : g < 4294967296) : chs e f g < 4294967296 :=
  Nat.xor_lt_two_pow (n := 32) (and_lt he) (and_lt (Nat.xor_lt_two_pow (n := 32) (by decide) he))
theorem maj_lt {a b c : Nat} (ha : a < 4294967296) (hb : b < 4294967296) : maj a b c < 4294967296 :=
  Nat.xor_lt_two_pow (n := 32) (Nat.xor_lt_two_pow (n := 32) (and_lt ha) (and_lt ha)) (and_lt hb)

/-- The eight variables. -/
structure St where
  a : Nat
  b : Nat
  c : Nat
  d : Nat
  e : Nat
  f : Nat
  g : Nat
  h : Nat
deriving DecidableEq

/-- A round. -/
def rnd (s : St) (k w : Nat) : St :=
  let t := (((s.h + bs1 s.e) % 4294967296 + chs s.e s.f s.g) % 4294967296 + k) % 4294967296
  let t := (t + w) % 4294967296
  let u := (bs0 s.a + maj s.a s.b s.c) % 4294967296
  { a := (t + u) % 4294967296, b := s.a, c := s.b, d := s.c, e := (s.d + t) % 4294967296, f := s.e, g := s.f, h := s.g }

def kw : List Nat := [0x428a2f98, 0x71374491, 0xb5c0fbcf, 0xe9b5dba5, 0x3956c25b, 0x59f111f1, 0x923f82a4, 0xab1c5ed5, 0xd807aa98, 0x12835b01, 0x243185be, 0x550c7dc3, 0x72be5d74, 0x80deb1fe, 0x9bdc06a7, 0xc19bf174, 0xe49b69c1, 0xefbe4786, 0x0fc19dc6, 0x240ca1cc, 0x2de92c6f, 0x4a7484aa, 0x5cb0a9dc, 0x76f988da, 0x983e5152, 0xa831c66d, 0xb00327c8, 0xbf597fc7, 0xc6e00bf3, 0xd5a79147, 0x06ca6351, 0x14292967, 0x27b70a85, 0x2e1b2138, 0x4d2c6dfc, 0x53380d13, 0x650a7354, 0x766a0abb, 0x81c2c92e, 0x92722c85, 0xa2bfe8a1, 0xa81a664b, 0xc24b8b70, 0xc76c51a3, 0xd192e819, 0xd6990624, 0xf40e3585, 0x106aa070, 0x19a4c116, 0x1e376c08, 0x2748774c, 0x34b0bcb5, 0x391c0cb3, 0x4ed8aa4a, 0x5b9cca4f, 0x682e6ff3, 0x748f82ee, 0x78a5636f, 0x84c87814, 0x8cc70208, 0x90befffa, 0xa4506ceb, 0xbef9a3f7, 0xc67178f2]
theorem kw_len : kw.length = 64 := rfl
theorem kw_lt (t : Nat) : kw.getD t 0 < 4294967296 := by
  have h : ∀ x ∈ kw, x < 4294967296 := by decide
  rw [List.getD_eq_getElem?_getD]
  by_cases ht : t < kw.length
  · rw [List.getElem?_eq_getElem ht]; exact h _ (List.getElem_mem ht)
  · rw [List.getElem?_eq_none (by omega)]; decide

/-- The variables behind t rounds. -/
def rounds (s : St) (w : List Nat) : Nat → St
  | 0 => s
  | t + 1 => rnd (rounds s w t) (kw.getD t 0) (w.getD t 0)

def St.ok (s : St) : Prop := s.a < 4294967296 ∧ s.b < 4294967296 ∧ s.c < 4294967296 ∧ s.d < 4294967296 ∧ s.e < 4294967296 ∧ s.f < 4294967296 ∧ s.g < 4294967296 ∧ s.h < 4294967296
theorem rnd_ok {s : St} (h : s.ok) (k w : Nat) : (rnd s k w).ok := by
  obtain ⟨ha, hb, hc, hd, he, hf, hg, hh⟩ := h
  exact ⟨Nat.mod_lt _ (by decide), ha, hb, hc, Nat.mod_lt _ (by decide), he, hf, hg⟩
theorem rounds_ok {s : St} (h : s.ok) (w : List Nat) (t : Nat) : (rounds s w t).ok := by
  induction t with
  | zero => exact h
  | succ t ih => exact rnd_ok ih _ _

/-- A block is absorbed. -/
def St.add (s t : St) : St := { a := (s.a + t.a) % 4294967296, b := (s.b + t.b) % 4294967296, c := (s.c + t.c) % 4294967296, d := (s.d + t.d) % 4294967296, e := (s.e + t.e) % 4294967296, f := (s.f + t.f) % 4294967296, g := (s.g + t.g) % 4294967296, h := (s.h + t.h) % 4294967296 }
theorem add_ok (s t : St) : (s.add t).ok := ⟨Nat.mod_lt _ (by decide), Nat.mod_lt _ (by decide), Nat.mod_lt _ (by decide), Nat.mod_lt _ (by decide), Nat.mod_lt _ (by decide), Nat.mod_lt _ (by decide), Nat.mod_lt _ (by decide), Nat.mod_lt _ (by decide)⟩

/-- The next word of the schedule. -/
def nextW (w : List Nat) (t : Nat) : Nat := (((ls1 (w.getD (t - 2) 0) + w.getD (t - 7) 0) % 4294967296 + ls0 (w.getD (t - 15) 0)) % 4294967296 + w.getD (t - 16) 0) % 4294967296
/-- The schedule, from its first sixteen words, n words on. -/
def sched (w : List Nat) : Nat → List Nat
  | 0 => w
  | n + 1 => sched w n ++ [nextW (sched w n) (16 + n)]
theorem sched_len {w : List Nat} (h : w.length = 16) (n : Nat) : (sched w n).length = 16 + n := by
  induction n with
  | zero => exact h
  | succ n ih => rw [sched, List.length_append, ih]; rfl
theorem sched_lt {w : List Nat} (h : ∀ x ∈ w, x < 4294967296) (n : Nat) : ∀ x ∈ sched w n, x < 4294967296 := by
  induction n with
  | zero => exact h
  | succ n ih =>
    intro x hx
    rw [sched, List.mem_append] at hx
    rcases hx with hx | hx
    · exact ih x hx
    · simp at hx; subst hx; exact Nat.mod_lt _ (by decide)

/-- The word that four bytes make. -/
def word4 (l : List UInt8) (i : Nat) : Nat := (((l.getD i 0).toNat * 256 + (l.getD (i + 1) 0).toNat) * 256 + (l.getD (i + 2) 0).toNat) * 256 + (l.getD (i + 3) 0).toNat
theorem word4_lt (l : List UInt8) (i : Nat) : word4 l i < 4294967296 := by
  have h0 := UInt8.toNat_lt (l.getD i 0)
  have h1 := UInt8.toNat_lt (l.getD (i + 1) 0)
  have h2 := UInt8.toNat_lt (l.getD (i + 2) 0)
  have h3 := UInt8.toNat_lt (l.getD (i + 3) 0)
  unfold word4; omega
/-- The first sixteen words of the block at i. -/
def words16 (l : List UInt8) (i : Nat) : List Nat := (List.range 16).map fun t => word4 l (i + 4 * t)
theorem words16_len (l : List UInt8) (i : Nat) : (words16 l i).length = 16 := by simp [words16]
theorem words16_lt (l : List UInt8) (i : Nat) : ∀ x ∈ words16 l i, x < 4294967296 := by
  intro x hx; simp only [words16, List.mem_map] at hx; obtain ⟨t, _, rfl⟩ := hx; exact word4_lt _ _

/-- The block at i is absorbed. -/
def oneBlock (s : St) (l : List UInt8) (i : Nat) : St := s.add (rounds s (sched (words16 l i) 48) 64)
/-- n blocks are absorbed. -/
def blocks (s : St) (l : List UInt8) : Nat → St
  | 0 => s
  | n + 1 => oneBlock (blocks s l n) l (64 * n)
theorem blocks_ok {s : St} (h : s.ok) (l : List UInt8) (n : Nat) : (blocks s l n).ok := by
  cases n with
  | zero => exact h
  | succ n => exact add_ok _ _

def st0 : St := ⟨0x6a09e667, 0xbb67ae85, 0x3c6ef372, 0xa54ff53a, 0x510e527f, 0x9b05688c, 0x1f83d9ab, 0x5be0cd19⟩
theorem st0_ok : st0.ok := by unfold St.ok st0; decide
end Go.Proofs.YtddmnibioacelaaGreatDoor
/-
  The walks of the rotations.
-/
namespace Go.Proofs.YtddmnibioacelaaGreatDoor
open Go.RowKit

def Turns (n : Nat) : Prop := n = 2 ∨ n = 6 ∨ n = 7 ∨ n = 11 ∨ n = 13 ∨ n = 17 ∨ n = 18 ∨ n = 19 ∨ n = 22 ∨ n = 25

theorem rot_left {x n : Nat} (_hx : x < 4294967296) (_h1 : 1 ≤ n) (_h2 : n ≤ 31) (X Y : Int) (hX : X = ((x * 2 ^ (32 - n) % 4294967296 : Nat) : Int)) (hY : Y = ((x / 2 ^ n : Nat) : Int)) : bits .or .u32 X Y = (rotr x n : Nat) := by
  subst hX hY
  rw [u32_or_nat _ _ (Nat.mod_lt _ (by decide)) (Nat.lt_of_le_of_lt (Nat.div_le_self _ _) _hx), Nat.or_comm]
  rfl
theorem rot_right {x n : Nat} (_hx : x < 4294967296) (X Y : Int) (hX : X = ((x / 2 ^ n : Nat) : Int)) (hY : Y = ((x * 2 ^ (32 - n) % 4294967296 : Nat) : Int)) : bits .or .u32 X Y = (rotr x n : Nat) := by
  subst hX hY
  rw [u32_or_nat _ _ (Nat.lt_of_le_of_lt (Nat.div_le_self _ _) _hx) (Nat.mod_lt _ (by decide))]
  rfl

end Go.Proofs.YtddmnibioacelaaGreatDoor
/-
  The walk of mix: the rounds of a block.
-/
namespace Go.Proofs.YtddmnibioacelaaGreatDoor
open Go.RowKit

def u32s (l : List Nat) : Array Value := (l.map fun (n : Nat) => Value.int .u32 (n : Int)).toArray
def stV (s : St) : Value := .agg #[.int .u32 (s.a : Int), .int .u32 (s.b : Int), .int .u32 (s.c : Int), .int .u32 (s.d : Int), .int .u32 (s.e : Int), .int .u32 (s.f : Int), .int .u32 (s.g : Int), .int .u32 (s.h : Int)]

theorem sig_eq {x y z : Nat} (hx : x < 4294967296) (hy : y < 4294967296) (hz : z < 4294967296) : bits .xor .u32 (bits .xor .u32 (x : Int) (y : Int)) (z : Int) = (((x ^^^ y) ^^^ z : Nat) : Int) := by
  rw [u32_xor_nat x y hx hy, u32_xor_nat _ z (Nat.xor_lt_two_pow (n := 32) hx hy) hz]
theorem chs_eq {e f g : Nat} (he : e < 4294967296) (hf : f < 4294967296) (hg : g < 4294967296) : bits .xor .u32 (bits .and .u32 (e : Int) (f : Int)) (bits .and .u32 (bits .xor .u32 IntKind.u32.max (e : Int)) (g : Int)) = (chs e f g : Nat) := by
  have h1 : bits .xor .u32 IntKind.u32.max (e : Int) = ((4294967295 ^^^ e : Nat) : Int) := u32_xor_nat 4294967295 e (by decide) he
  have h2 : 4294967295 ^^^ e < 4294967296 := Nat.xor_lt_two_pow (n := 32) (by decide) he
  rw [h1, u32_and_nat _ _ he hf, u32_and_nat _ _ h2 hg, u32_xor_nat _ _ (and_lt he) (and_lt h2)]
  rfl
theorem maj_eq {a b c : Nat} (ha : a < 4294967296) (hb : b < 4294967296) (hc : c < 4294967296) : bits .xor .u32 (bits .xor .u32 (bits .and .u32 (a : Int) (b : Int)) (bits .and .u32 (a : Int) (c : Int))) (bits .and .u32 (b : Int) (c : Int)) = (maj a b c : Nat) := by
  rw [u32_and_nat _ _ ha hb, u32_and_nat _ _ ha hc, u32_and_nat _ _ hb hc, u32_xor_nat _ _ (and_lt ha) (and_lt ha), u32_xor_nat _ _ (Nat.xor_lt_two_pow (n := 32) (and_lt ha) (and_lt ha)) (and_lt hb)]
  rfl

/-- Block B holds the words l. -/
def WTab (w : World) (B : Nat) (l : List Nat) : Prop := ∀ t, t < l.length → w.cell? ⟨B, t, none⟩ = some (.int .u32 (l.getD t 0 : Nat))
theorem WTab.below {w w' : World} {B B' : Nat} {l : List Nat} (h : WTab w B l) (hb : Below B' w w') (hB : B < B') : WTab w' B l := fun i hi => (hb.cell (p := ⟨B, i, none⟩) hB).trans (h i hi)
theorem WTab.alloc {w : World} {B : Nat} {l : List Nat} (h : WTab w B l) (hB : B < w.heap.size) (o : Obj) : WTab (w.alloc o) B l :=
  h.below ((Below.refl w.heap.size w).alloc (Nat.le_refl _) o) hB
theorem WTab.new (w : World) (l : List Nat) (t : TypeId) : WTab (w.alloc (.cells (u32s l) t)) w.heap.size l := fun i hi => by
  have h := World.cell?_alloc_mark w (u32s l) t (0, 0) i
  refine h.trans ?_
  simp [u32s, List.getD_eq_getElem?_getD, hi]

/-- Eight cells of a row are written. -/
theorem row8 {w : World} {B : Nat} {t : TypeId} {c0 c1 c2 c3 c4 c5 c6 c7 : Value} (h : w.heap[B]? = some (.cells #[c0, c1, c2, c3, c4, c5, c6, c7] t (0, 0))) (v0 v1 v2 v3 v4 v5 v6 v7 : Value) :
    ((((((((w.setCell ⟨B, 0, none⟩ v0).setCell ⟨B, 1, none⟩ v1).setCell ⟨B, 2, none⟩ v2).setCell ⟨B, 3, none⟩ v3).setCell ⟨B, 4, none⟩ v4).setCell ⟨B, 5, none⟩ v5).setCell ⟨B, 6, none⟩ v6).setCell ⟨B, 7, none⟩ v7).heap[B]? = some (.cells #[v0, v1, v2, v3, v4, v5, v6, v7] t (0, 0)) := by
  have h0 : (w.setCell ⟨B, 0, none⟩ v0).heap[B]? = some (.cells #[v0, c1, c2, c3, c4, c5, c6, c7] t (0, 0)) := by
    have h := heap_setCell_same w B 0 _ t v0 h
    simp only [List.setIfInBounds_toArray, List.set_cons_zero, List.set_cons_succ] at h
    exact h
  have h1 : ((w.setCell ⟨B, 0, none⟩ v0).setCell ⟨B, 1, none⟩ v1).heap[B]? = some (.cells #[v0, v1, c2, c3, c4, c5, c6, c7] t (0, 0)) := by
    have h := heap_setCell_same (w.setCell ⟨B, 0, none⟩ v0) B 1 _ t v1 h0
    simp only [List.setIfInBounds_toArray, List.set_cons_zero, List.set_cons_succ] at h
    exact h
  have h2 : (((w.setCell ⟨B, 0, none⟩ v0).setCell ⟨B, 1, none⟩ v1).setCell ⟨B, 2, none⟩ v2).heap[B]? = some (.cells #[v0, v1, v2, c3, c4, c5, c6, c7] t (0, 0)) := by
    have h := heap_setCell_same ((w.setCell ⟨B, 0, none⟩ v0).setCell ⟨B, 1, none⟩ v1) B 2 _ t v2 h1
    simp only [List.setIfInBounds_toArray, List.set_cons_zero, List.set_cons_succ] at h
    exact h
  have h3 : ((((w.setCell ⟨B, 0, none⟩ v0).setCell ⟨B, 1, none⟩ v1).setCell ⟨B, 2, none⟩ v2).setCell ⟨B, 3, none⟩ v3).heap[B]? = some (.cells #[v0, v1, v2, v3, c4, c5, c6, c7] t (0, 0)) := by
    have h := heap_setCell_same (((w.setCell ⟨B, 0, none⟩ v0).setCell ⟨B, 1, none⟩ v1).setCell ⟨B, 2, none⟩ v2) B 3 _ t v3 h2
    simp only [List.setIfInBounds_toArray, List.set_cons_zero, List.set_cons_succ] at h
    exact h
  have h4 : (((((w.setCell ⟨B, 0, none⟩ v0).setCell ⟨B, 1, none⟩ v1).setCell ⟨B, 2, none⟩ v2).setCell ⟨B, 3, none⟩ v3).setCell ⟨B, 4, none⟩ v4).heap[B]? = some (.cells #[v0, v1, v2, v3, v4, c5, c6, c7] t (0, 0)) := by
    have h := heap_setCell_same ((((w.setCell ⟨B, 0, none⟩ v0).setCell ⟨B, 1, none⟩ v1).setCell ⟨B, 2, none⟩ v2).setCell ⟨B, 3, none⟩ v3) B 4 _ t v4 h3
    simp only [List.setIfInBounds_toArray, List.set_cons_zero, List.set_cons_succ] at h
    exact h
  have h5 : ((((((w.setCell ⟨B, 0, none⟩ v0).setCell ⟨B, 1, none⟩ v1).setCell ⟨B, 2, none⟩ v2).setCell ⟨B, 3, none⟩ v3).setCell ⟨B, 4, none⟩ v4).setCell ⟨B, 5, none⟩ v5).heap[B]? = some (.cells #[v0, v1, v2, v3, v4, v5, c6, c7] t (0, 0)) := by
    have h := heap_setCell_same (((((w.setCell ⟨B, 0, none⟩ v0).setCell ⟨B, 1, none⟩ v1).setCell ⟨B, 2, none⟩ v2).setCell ⟨B, 3, none⟩ v3).setCell ⟨B, 4, none⟩ v4) B 5 _ t v5 h4
    simp only [List.setIfInBounds_toArray, List.set_cons_zero, List.set_cons_succ] at h
    exact h
  have h6 : (((((((w.setCell ⟨B, 0, none⟩ v0).setCell ⟨B, 1, none⟩ v1).setCell ⟨B, 2, none⟩ v2).setCell ⟨B, 3, none⟩ v3).setCell ⟨B, 4, none⟩ v4).setCell ⟨B, 5, none⟩ v5).setCell ⟨B, 6, none⟩ v6).heap[B]? = some (.cells #[v0, v1, v2, v3, v4, v5, v6, c7] t (0, 0)) := by
    have h := heap_setCell_same ((((((w.setCell ⟨B, 0, none⟩ v0).setCell ⟨B, 1, none⟩ v1).setCell ⟨B, 2, none⟩ v2).setCell ⟨B, 3, none⟩ v3).setCell ⟨B, 4, none⟩ v4).setCell ⟨B, 5, none⟩ v5) B 6 _ t v6 h5
    simp only [List.setIfInBounds_toArray, List.set_cons_zero, List.set_cons_succ] at h
    exact h
  have h7 : ((((((((w.setCell ⟨B, 0, none⟩ v0).setCell ⟨B, 1, none⟩ v1).setCell ⟨B, 2, none⟩ v2).setCell ⟨B, 3, none⟩ v3).setCell ⟨B, 4, none⟩ v4).setCell ⟨B, 5, none⟩ v5).setCell ⟨B, 6, none⟩ v6).setCell ⟨B, 7, none⟩ v7).heap[B]? = some (.cells #[v0, v1, v2, v3, v4, v5, v6, v7] t (0, 0)) := by
    have h := heap_setCell_same (((((((w.setCell ⟨B, 0, none⟩ v0).setCell ⟨B, 1, none⟩ v1).setCell ⟨B, 2, none⟩ v2).setCell ⟨B, 3, none⟩ v3).setCell ⟨B, 4, none⟩ v4).setCell ⟨B, 5, none⟩ v5).setCell ⟨B, 6, none⟩ v6) B 7 _ t v7 h6
    simp only [List.setIfInBounds_toArray, List.set_cons_zero, List.set_cons_succ] at h
    exact h
  exact h7

end Go.Proofs.YtddmnibioacelaaGreatDoor
/-
  The walk of the reference's block.
-/
namespace Go.Proofs.YtddmnibioacelaaGreatDoor
open Go.RowKit

def St.list (s : St) : List Nat := [s.a, s.b, s.c, s.d, s.e, s.f, s.g, s.h]

/-- The world in the rounds: the state, the words, the keys. -/
structure BlkW (w wr : World) (bs bw bk : Nat) (s : St) (l : List Nat) : Prop where
  below : Below w.heap.size w wr
  s : WTab wr bs s.list
  t : WTab wr bw l
  k : WTab wr bk kw
theorem BlkW.drewN {w wr : World} {bs bw bk : Nat} {s : St} {l : List Nat} (h : BlkW w wr bs bw bk s l) (n : Nat) : BlkW w (wr.drewN n) bs bw bk s l :=
  ⟨below_drewN h.below n, fun i hi => h.s i hi, fun i hi => h.t i hi, fun i hi => h.k i hi⟩

end Go.Proofs.YtddmnibioacelaaGreatDoor
/-
  The walk of schedule: the words of a block.
-/
namespace Go.Proofs.YtddmnibioacelaaGreatDoor
open Go.RowKit

/-- Block B holds the words l, and they may be written. -/
def Row32 (w : World) (B : Nat) (l : List Nat) : Prop := ∀ t, t < l.length → w.cell? ⟨B, t, none⟩ = some (.int .u32 (l.getD t 0 : Nat)) ∧ w.frozen? ⟨B, t, none⟩ = false
theorem Row32.set {w : World} {B : Nat} {l : List Nat} (h : Row32 w B l) {i : Nat} (hi : i < l.length) (x : Nat) : Row32 (w.setCell ⟨B, i, none⟩ (.int .u32 (x : Int))) B (l.set i x) := by
  intro j hj
  rw [List.length_set] at hj
  rw [World.frozen?_setCell]
  by_cases e : i = j
  · subst e
    have h0 := h i hi
    refine ⟨(World.cell?_setCell_same _ _ _ h0.1).trans ?_, h0.2⟩
    rw [List.getD_eq_getElem?_getD, List.getElem?_set_self hi]
    rfl
  · have h0 := h j hj
    refine ⟨(World.cell?_setCell_other _ _ _ _ (by simp [e])).trans (h0.1.trans ?_), h0.2⟩
    rw [List.getD_eq_getElem?_getD, List.getD_eq_getElem?_getD, List.getElem?_set_ne e]
theorem Row32.range {w : World} {B : Nat} {l : List Nat} (h : Row32 w B l) : w.rangeAt B 0 (l.map fun (n : Nat) => Value.int .u32 (n : Int)) := by
  intro j v hv
  have hj : j < l.length := by
    have := (List.getElem?_eq_some_iff.1 hv).1
    simpa using this
  rw [Nat.zero_add, (h j hj).1, ← hv, List.getD_eq_getElem?_getD]
  simp [hj]

def zeros64 : List Nat := [0, 0, 0, 0, 0, 0, 0, 0, 0, 0, 0, 0, 0, 0, 0, 0, 0, 0, 0, 0, 0, 0, 0, 0, 0, 0, 0, 0, 0, 0, 0, 0, 0, 0, 0, 0, 0, 0, 0, 0, 0, 0, 0, 0, 0, 0, 0, 0, 0, 0, 0, 0, 0, 0, 0, 0, 0, 0, 0, 0, 0, 0, 0, 0]
theorem zeros64_get (t : Nat) : zeros64.getD t 0 = 0 := by
  have h : ∀ x ∈ zeros64, x = 0 := by decide
  rw [List.getD_eq_getElem?_getD]
  by_cases ht : t < zeros64.length
  · rw [List.getElem?_eq_getElem ht]; exact h _ (List.getElem_mem ht)
  · rw [List.getElem?_eq_none (by omega)]; rfl
theorem Row32.new (w : World) (l : List Nat) (t : TypeId) : Row32 (w.alloc (.cells (u32s l) t)) w.heap.size l := fun i hi => by
  have hb : (w.alloc (.cells (u32s l) t)).heap[w.heap.size]? = some (.cells (u32s l) t (0, 0)) := heap_alloc_new w _
  exact ⟨WTab.new w l t i hi, frozen_of_row _ _ _ _ _ hb⟩

/-- The world in which the schedule is made. -/
structure SchW (w wr : World) (L : List Nat) : Prop where
  below : Below w.heap.size w wr
  len : L.length = 64
  row : Row32 wr (w.heap.size + 1) L
  res : Row32 wr w.heap.size zeros64
theorem SchW.set {w wr : World} {L : List Nat} (h : SchW w wr L) {i : Nat} (hi : i < 64) (x : Nat) : SchW w (wr.setCell ⟨w.heap.size + 1, i, none⟩ (.int .u32 (x : Int))) (L.set i x) :=
  ⟨h.below.setCell (p := ⟨w.heap.size + 1, i, none⟩) (Nat.le_succ _) _, by rw [List.length_set]; exact h.len, h.row.set (by rw [h.len]; exact hi) x, fun t ht => by
    rw [World.frozen?_setCell]
    exact ⟨(World.cell?_setCell_other _ _ _ _ (by simp)).trans (h.res t ht).1, (h.res t ht).2⟩⟩
theorem SchW.drewN {w wr : World} {L : List Nat} (h : SchW w wr L) (n : Nat) : SchW w (wr.drewN n) L := ⟨below_drewN h.below n, h.len, fun t ht => h.row t ht, fun t ht => h.res t ht⟩
theorem SchW.drew {w wr : World} {L : List Nat} (h : SchW w wr L) : SchW w wr.drew L := h.drewN 1

/-- The number of j bytes from k on. -/
def pv (l : List UInt8) (k : Nat) : Nat → Nat
  | 0 => 0
  | j + 1 => pv l k j * 256 + (l.getD (k + j) 0).toNat
theorem pv_lt (l : List UInt8) (k j : Nat) : pv l k j < 256 ^ j := by
  induction j with
  | zero => exact Nat.one_pos
  | succ j ih =>
    have := UInt8.toNat_lt (l.getD (k + j) 0)
    rw [pv, Nat.pow_succ]; omega
theorem pv_four (l : List UInt8) (k : Nat) : pv l k 4 = word4 l k := by simp [pv, word4]

theorem take_get {L : List Nat} {i t : Nat} (h : i < t) : (L.take t).getD i 0 = L.getD i 0 := by
  rw [List.getD_eq_getElem?_getD, List.getD_eq_getElem?_getD, List.getElem?_take_of_lt h]
/-- i words are made, j bytes of the next. -/
def Part (l : List UInt8) (L : List Nat) (i j : Nat) : Prop := (∀ t, t < i → L.getD t 0 = word4 l (4 * t)) ∧ L.getD i 0 = pv l (4 * i) j ∧ ∀ t, i < t → L.getD t 0 = 0
theorem getD_set {L : List Nat} {i x : Nat} (hi : i < L.length) (t : Nat) : (L.set i x).getD t 0 = if i = t then x else L.getD t 0 := by
  rw [List.getD_eq_getElem?_getD, List.getD_eq_getElem?_getD]
  by_cases e : i = t
  · subst e; rw [List.getElem?_set_self hi]; simp
  · rw [List.getElem?_set_ne e, if_neg e]
theorem Part.next {l : List UInt8} {L : List Nat} {i j : Nat} (h : Part l L i j) (hi : i < L.length) : Part l (L.set i (pv l (4 * i) j * 256 + (l.getD (4 * i + j) 0).toNat)) i (j + 1) := by
  refine ⟨fun t ht => ?_, ?_, fun t ht => ?_⟩
  · rw [getD_set hi, if_neg (by omega)]; exact h.1 t ht
  · rw [getD_set hi, if_pos rfl]; rfl
  · rw [getD_set hi, if_neg (by omega)]; exact h.2.2 t ht
theorem Part.on {l : List UInt8} {L : List Nat} {i : Nat} (h : Part l L i 4) : Part l L (i + 1) 0 := by
  refine ⟨fun t ht => ?_, h.2.2 _ (by omega), fun t ht => h.2.2 _ (by omega)⟩
  by_cases e : t = i
  · subst e; rw [h.2.1, pv_four]
  · exact h.1 t (by omega)

theorem byte_or {p c : Nat} (hp : p < 16777216) (hc : c < 256) : bits .or .u32 ((p : Int) * 256) (c : Int) = ((p * 256 + c : Nat) : Int) := by
  rw [show ((p : Int) * 256) = ((p * 256 : Nat) : Int) by omega, u32_or_nat (p * 256) c (by omega) (by omega), nat_join 8 (p * 256) c (by omega) (by omega)]
theorem below_setCells {B b : Nat} {a : World} : ∀ (vs : List Value) (o : Nat) (w : World), Below B a w → B ≤ b → Below B a (w.setCells b o vs)
  | [], _, _, h, _ => h
  | v :: r, o, w, h, hb => below_setCells r (o + 1) (w.setCell ⟨b, o, none⟩ v) (h.setCell (p := ⟨b, o, none⟩) hb v) hb
theorem results_cell_mid {P : Program} {fn : Func} {p : Tmp} {ty : TypeId} (h : fn.results = #[.cell p ty]) (tmps : Array Value) (w : World) (g : Nat) (cs : List Value) (d : TypeDesc)
    (hp : tmps.getD p undef = .pointer (some ⟨g, 0, none⟩)) (hg : w.rangeAt g 0 cs) (hu : P.underlying ty = some d) (hd : d.isRow = true) (hi : (P.info? ty).map (·.size) = some cs.length) :
    (results fn tmps).run P w = .ok (.agg cs.toArray) w := by
  have hp' : tmps[p]?.getD undef = .pointer (some ⟨g, 0, none⟩) := by simpa using hp
  simp [results, h, hp', asAddr, run_loadVar_mid w g 0 ty cs d hg hu hd hi]

end Go.Proofs.YtddmnibioacelaaGreatDoor
/-
  The reference's first and keys: two rows of words.
-/
namespace Go.Proofs.YtddmnibioacelaaGreatDoor
open Go.RowKit

end Go.Proofs.YtddmnibioacelaaGreatDoor
/-
  The walk of the reference's words.
-/
namespace Go.Proofs.YtddmnibioacelaaGreatDoor
open Go.RowKit

def ucells (l : List Nat) : List Value := l.map fun (n : Nat) => Value.int .u32 (n : Int)
theorem ucells_len (l : List Nat) : (ucells l).length = l.length := by simp [ucells]
theorem ucells_append (l m : List Nat) : ucells (l ++ m) = ucells l ++ ucells m := by simp [ucells]
theorem ucells_one (l : List Nat) : ∀ u ∈ ucells l, u.oneCell' = true := by
  intro u hu; simp only [ucells, List.mem_map] at hu; obtain ⟨b, _, rfl⟩ := hu; rfl
theorem Tryz.info32 : (Tryz.prog.info? 140).map (fun i => (i.zero, i.size, i.bytes)) = some (some (.int .u32 0), 1, 4) := by kernel_rfl
theorem words16_get (l : List UInt8) (i t : Nat) (ht : t < 16) : (words16 l i).take (t + 1) = (words16 l i).take t ++ [word4 l (i + 4 * t)] := by
  rw [List.take_succ_eq_append_getElem (by rw [words16_len]; exact ht)]
  simp [words16]

end Go.Proofs.YtddmnibioacelaaGreatDoor
/-
  The walk of absorb: block by block.
-/
namespace Go.Proofs.YtddmnibioacelaaGreatDoor
open Go.RowKit

def cells8 (v : St) : Array Value := #[.int .u32 (v.a : Int), .int .u32 (v.b : Int), .int .u32 (v.c : Int), .int .u32 (v.d : Int), .int .u32 (v.e : Int), .int .u32 (v.f : Int), .int .u32 (v.g : Int), .int .u32 (v.h : Int)]
def zero8 : St := ⟨0, 0, 0, 0, 0, 0, 0, 0⟩

/-- The eight cells of a row, one by one. -/
abbrev Eight (w : World) (B : Nat) (v : St) : Prop :=
  w.cell? ⟨B, 0, none⟩ = some (.int .u32 (v.a : Int)) ∧ w.cell? ⟨B, 1, none⟩ = some (.int .u32 (v.b : Int)) ∧ w.cell? ⟨B, 2, none⟩ = some (.int .u32 (v.c : Int)) ∧ w.cell? ⟨B, 3, none⟩ = some (.int .u32 (v.d : Int)) ∧
  w.cell? ⟨B, 4, none⟩ = some (.int .u32 (v.e : Int)) ∧ w.cell? ⟨B, 5, none⟩ = some (.int .u32 (v.f : Int)) ∧ w.cell? ⟨B, 6, none⟩ = some (.int .u32 (v.g : Int)) ∧ w.cell? ⟨B, 7, none⟩ = some (.int .u32 (v.h : Int))
theorem Eight.of_row {w : World} {B : Nat} {v : St} {t : TypeId} {fr : Nat × Nat} (h : w.heap[B]? = some (.cells (cells8 v) t fr)) : Eight w B v :=
  ⟨cell_of_row w B 0 _ _ _ h, cell_of_row w B 1 _ _ _ h, cell_of_row w B 2 _ _ _ h, cell_of_row w B 3 _ _ _ h, cell_of_row w B 4 _ _ _ h, cell_of_row w B 5 _ _ _ h, cell_of_row w B 6 _ _ _ h, cell_of_row w B 7 _ _ _ h⟩
theorem Eight.below {w w' : World} {B B' : Nat} {v : St} (h : Eight w B v) (hb : Below B' w w') (hB : B < B') : Eight w' B v := by
  obtain ⟨h0, h1, h2, h3, h4, h5, h6, h7⟩ := h
  exact ⟨(hb.cell (p := ⟨B, 0, none⟩) hB).trans h0, (hb.cell (p := ⟨B, 1, none⟩) hB).trans h1, (hb.cell (p := ⟨B, 2, none⟩) hB).trans h2, (hb.cell (p := ⟨B, 3, none⟩) hB).trans h3, (hb.cell (p := ⟨B, 4, none⟩) hB).trans h4, (hb.cell (p := ⟨B, 5, none⟩) hB).trans h5, (hb.cell (p := ⟨B, 6, none⟩) hB).trans h6, (hb.cell (p := ⟨B, 7, none⟩) hB).trans h7⟩

/-- What the statement leaves that makes the mixed state: a new row that holds it. -/
def CutW (wr : World) (m : St) (p : Value) (wx : World) : Prop := ∃ g, p = .pointer (some ⟨g, 0, none⟩) ∧ wr.heap.size ≤ g ∧ Eight wx g m ∧ Below wr.heap.size wr wx

/-- A row of eight zeros that may be written. -/
def Zero8 (w : World) (g : Nat) : Prop := Eight w g zero8 ∧ w.frozen? ⟨g, 0, none⟩ = false ∧ w.frozen? ⟨g, 1, none⟩ = false ∧ w.frozen? ⟨g, 2, none⟩ = false ∧ w.frozen? ⟨g, 3, none⟩ = false ∧ w.frozen? ⟨g, 4, none⟩ = false ∧ w.frozen? ⟨g, 5, none⟩ = false ∧ w.frozen? ⟨g, 6, none⟩ = false ∧ w.frozen? ⟨g, 7, none⟩ = false
theorem Zero8.below {w w' : World} {g B : Nat} (h : Zero8 w g) (hb : Below B w w') (hg : g < B) : Zero8 w' g := by
  obtain ⟨h, f0, f1, f2, f3, f4, f5, f6, f7⟩ := h
  exact ⟨h.below hb hg, (hb.frozen (p := ⟨g, 0, none⟩) hg).trans f0, (hb.frozen (p := ⟨g, 1, none⟩) hg).trans f1, (hb.frozen (p := ⟨g, 2, none⟩) hg).trans f2, (hb.frozen (p := ⟨g, 3, none⟩) hg).trans f3, (hb.frozen (p := ⟨g, 4, none⟩) hg).trans f4, (hb.frozen (p := ⟨g, 5, none⟩) hg).trans f5, (hb.frozen (p := ⟨g, 6, none⟩) hg).trans f6, (hb.frozen (p := ⟨g, 7, none⟩) hg).trans f7⟩
theorem keepB {wr w1 w' : World} {g : Nat} (h : Hid (Zero8 w1 g ∧ g < w1.heap.size ∧ wr.heap.size ≤ g)) (hb : Below w1.heap.size w1 w') : Hid (Zero8 w' g ∧ g < w'.heap.size ∧ wr.heap.size ≤ g) :=
  ⟨h.out.1.below hb h.out.2.1, Nat.lt_of_lt_of_le h.out.2.1 hb.size, h.out.2.2⟩
theorem below_set8 {wr w1 : World} {g : Nat} {v0 v1 v2 v3 v4 v5 v6 v7 : Value} (hb : Below wr.heap.size wr w1) (hg : wr.heap.size ≤ g) :
    Below wr.heap.size wr ((((((((w1.setCell ⟨g, 0, none⟩ v0).setCell ⟨g, 1, none⟩ v1).setCell ⟨g, 2, none⟩ v2).setCell ⟨g, 3, none⟩ v3).setCell ⟨g, 4, none⟩ v4).setCell ⟨g, 5, none⟩ v5).setCell ⟨g, 6, none⟩ v6).setCell ⟨g, 7, none⟩ v7) :=
  Below.setCell (Below.setCell (Below.setCell (Below.setCell (Below.setCell (Below.setCell (Below.setCell (Below.setCell hb (p := ⟨g, 0, none⟩) hg _) (p := ⟨g, 1, none⟩) hg _) (p := ⟨g, 2, none⟩) hg _) (p := ⟨g, 3, none⟩) hg _) (p := ⟨g, 4, none⟩) hg _) (p := ⟨g, 5, none⟩) hg _) (p := ⟨g, 6, none⟩) hg _) (p := ⟨g, 7, none⟩) hg _

theorem below_set8' {W w1 : World} {g B : Nat} {v0 v1 v2 v3 v4 v5 v6 v7 : Value} (hb : Below B W w1) (hg : B ≤ g) :
    Below B W ((((((((w1.setCell ⟨g, 0, none⟩ v0).setCell ⟨g, 1, none⟩ v1).setCell ⟨g, 2, none⟩ v2).setCell ⟨g, 3, none⟩ v3).setCell ⟨g, 4, none⟩ v4).setCell ⟨g, 5, none⟩ v5).setCell ⟨g, 6, none⟩ v6).setCell ⟨g, 7, none⟩ v7) :=
  Below.setCell (Below.setCell (Below.setCell (Below.setCell (Below.setCell (Below.setCell (Below.setCell (Below.setCell hb (p := ⟨g, 0, none⟩) hg _) (p := ⟨g, 1, none⟩) hg _) (p := ⟨g, 2, none⟩) hg _) (p := ⟨g, 3, none⟩) hg _) (p := ⟨g, 4, none⟩) hg _) (p := ⟨g, 5, none⟩) hg _) (p := ⟨g, 6, none⟩) hg _) (p := ⟨g, 7, none⟩) hg _
theorem below_al {wr w1 : World} (hb : Below wr.heap.size wr w1) (o : Obj) : Below wr.heap.size wr (w1.alloc o) := hb.alloc hb.size o
theorem below_al1 (wr : World) (o : Obj) : Below wr.heap.size wr (wr.drew.alloc o) := ((Below.refl _ wr).drew).alloc (Nat.le_refl _) o
theorem below_al2 (wr : World) (o : Obj) : Below wr.heap.size wr (wr.alloc o).drew := ((Below.refl _ wr).alloc (Nat.le_refl _) o).drew
theorem below_sz {wr w1 : World} (hb : Below wr.heap.size wr w1) : wr.heap.size ≤ w1.heap.size := hb.size

theorem cs_same {w : World} {g o : Nat} {v u : Value} (h : w.cell? ⟨g, o, none⟩ = some u) : (w.setCell ⟨g, o, none⟩ v).cell? ⟨g, o, none⟩ = some v := World.cell?_setCell_same w ⟨g, o, none⟩ v h
theorem cs_ne {w : World} {g o o' : Nat} {v : Value} {x : Option Value} (hne : o ≠ o') (h : w.cell? ⟨g, o', none⟩ = x) : (w.setCell ⟨g, o, none⟩ v).cell? ⟨g, o', none⟩ = x :=
  (World.cell?_setCell_other w _ _ v (fun e => hne (by simp only [Addr.mk.injEq] at e; exact e.2.1 ▸ rfl))).trans h
theorem Eight.set8 {w1 : World} {g : Nat} {z m : St} (h : Eight w1 g z) : Eight ((((((((w1.setCell ⟨g, 0, none⟩ (.int .u32 (m.a : Int))).setCell ⟨g, 1, none⟩ (.int .u32 (m.b : Int))).setCell ⟨g, 2, none⟩ (.int .u32 (m.c : Int))).setCell ⟨g, 3, none⟩ (.int .u32 (m.d : Int))).setCell ⟨g, 4, none⟩ (.int .u32 (m.e : Int))).setCell ⟨g, 5, none⟩ (.int .u32 (m.f : Int))).setCell ⟨g, 6, none⟩ (.int .u32 (m.g : Int))).setCell ⟨g, 7, none⟩ (.int .u32 (m.h : Int))) g m := by
  obtain ⟨z0, z1, z2, z3, z4, z5, z6, z7⟩ := h
  exact ⟨cs_ne (by decide) (cs_ne (by decide) (cs_ne (by decide) (cs_ne (by decide) (cs_ne (by decide) (cs_ne (by decide) (cs_ne (by decide) (cs_same (z0)))))))), cs_ne (by decide) (cs_ne (by decide) (cs_ne (by decide) (cs_ne (by decide) (cs_ne (by decide) (cs_ne (by decide) (cs_same (cs_ne (by decide) (z1)))))))), cs_ne (by decide) (cs_ne (by decide) (cs_ne (by decide) (cs_ne (by decide) (cs_ne (by decide) (cs_same (cs_ne (by decide) (cs_ne (by decide) (z2)))))))), cs_ne (by decide) (cs_ne (by decide) (cs_ne (by decide) (cs_ne (by decide) (cs_same (cs_ne (by decide) (cs_ne (by decide) (cs_ne (by decide) (z3)))))))), cs_ne (by decide) (cs_ne (by decide) (cs_ne (by decide) (cs_same (cs_ne (by decide) (cs_ne (by decide) (cs_ne (by decide) (cs_ne (by decide) (z4)))))))), cs_ne (by decide) (cs_ne (by decide) (cs_same (cs_ne (by decide) (cs_ne (by decide) (cs_ne (by decide) (cs_ne (by decide) (cs_ne (by decide) (z5)))))))), cs_ne (by decide) (cs_same (cs_ne (by decide) (cs_ne (by decide) (cs_ne (by decide) (cs_ne (by decide) (cs_ne (by decide) (cs_ne (by decide) (z6)))))))), cs_same (cs_ne (by decide) (cs_ne (by decide) (cs_ne (by decide) (cs_ne (by decide) (cs_ne (by decide) (cs_ne (by decide) (cs_ne (by decide) (z7))))))))⟩
theorem cutB {wr w1 : World} {g : Nat} {m : St} (h : Hid (Zero8 w1 g ∧ g < w1.heap.size ∧ wr.heap.size ≤ g)) (hb : Below wr.heap.size wr w1) : CutW wr m (.pointer (some ⟨g, 0, none⟩)) ((((((((w1.setCell ⟨g, 0, none⟩ (.int .u32 (m.a : Int))).setCell ⟨g, 1, none⟩ (.int .u32 (m.b : Int))).setCell ⟨g, 2, none⟩ (.int .u32 (m.c : Int))).setCell ⟨g, 3, none⟩ (.int .u32 (m.d : Int))).setCell ⟨g, 4, none⟩ (.int .u32 (m.e : Int))).setCell ⟨g, 5, none⟩ (.int .u32 (m.f : Int))).setCell ⟨g, 6, none⟩ (.int .u32 (m.g : Int))).setCell ⟨g, 7, none⟩ (.int .u32 (m.h : Int))) :=
  ⟨g, rfl, h.out.2.2, h.out.1.1.set8, below_set8 hb h.out.2.2⟩

/-- j of the eight words are added. -/
def addN (u m : St) (j : Nat) : St := ⟨if 0 < j then (u.a + m.a) % 4294967296 else u.a, if 1 < j then (u.b + m.b) % 4294967296 else u.b, if 2 < j then (u.c + m.c) % 4294967296 else u.c, if 3 < j then (u.d + m.d) % 4294967296 else u.d, if 4 < j then (u.e + m.e) % 4294967296 else u.e, if 5 < j then (u.f + m.f) % 4294967296 else u.f, if 6 < j then (u.g + m.g) % 4294967296 else u.g, if 7 < j then (u.h + m.h) % 4294967296 else u.h⟩
theorem addN_all (u m : St) : addN u m 8 = u.add m := rfl
theorem addN_none (u m : St) : addN u m 0 = u := rfl
theorem word_extract (s : ByteArray) (p i : Nat) (hp : p + 64 ≤ s.size) (hi : i < 64) : (s.extract p (p + 64)).data.toList.getD i 0 = s.data.toList.getD (p + i) 0 := by
  rw [Lib.extract_data, Nat.add_sub_cancel_left, List.getD_eq_getElem?_getD, List.getD_eq_getElem?_getD, List.getElem?_take_of_lt hi, List.getElem?_drop]
theorem words_extract (s : ByteArray) (p : Nat) (hp : p + 64 ≤ s.size) : words16 (s.extract p (p + 64)).data.toList 0 = words16 s.data.toList p := by
  unfold words16
  apply List.map_congr_left
  intro t ht
  rw [List.mem_range] at ht
  unfold word4
  rw [word_extract s p _ hp (by omega), word_extract s p _ hp (by omega), word_extract s p _ hp (by omega), word_extract s p _ hp (by omega)]
  simp only [Nat.zero_add, Nat.add_assoc]

end Go.Proofs.YtddmnibioacelaaGreatDoor
/-
  The walk of pad: the rest of a message, padded to whole blocks.
-/
namespace Go.Proofs.YtddmnibioacelaaGreatDoor
open Go.RowKit

/-- The eight bytes of a length. -/
def be8 (n : Nat) : List UInt8 := [UInt8.ofNat (n / 72057594037927936 % 256), UInt8.ofNat (n / 281474976710656 % 256), UInt8.ofNat (n / 1099511627776 % 256), UInt8.ofNat (n / 4294967296 % 256), UInt8.ofNat (n / 16777216 % 256), UInt8.ofNat (n / 65536 % 256), UInt8.ofNat (n / 256 % 256), UInt8.ofNat (n % 256)]
theorem be8_len (n : Nat) : (be8 n).length = 8 := rfl
def fill (l : List UInt8) (j : Nat) : List UInt8 := l ++ 128 :: List.replicate j 0
theorem fill_len (l : List UInt8) (j : Nat) : (fill l j).length = l.length + 1 + j := by simp [fill]; omega
theorem fill_next (l : List UInt8) (j : Nat) : fill l (j + 1) = fill l j ++ [0] := by simp [fill, List.replicate_succ']
/-- What stands at the end of a message of n bytes whose last bytes are l. -/
def padL (l : List UInt8) (n : Nat) : List UInt8 := fill l ((119 - l.length) % 64) ++ be8 (8 * n)
theorem ownM_eq {w : World} {base e n m : Nat} {v : Value} {xs ys : List Value} (h : OwnM w base e v n xs) (hn : n = m) (hx : xs = ys) : OwnM w base e v m ys := hx ▸ hn ▸ h
theorem ownM_slice {w : World} {base : Nat} {e : TypeId} {v : Value} {n : Nat} {xs : List Value} (h : OwnM w base e v n xs) : ∃ g cap, v = .slice (some ⟨g, 0, none⟩) n cap := by
  obtain ⟨_, g, cap, cur, fz, rfl, -⟩ := h
  exact ⟨g, cap, rfl⟩

def slLen (v : Value) : Nat := match v with | .slice _ n _ => n | _ => 0

end Go.Proofs.YtddmnibioacelaaGreatDoor
/-
  Plain: the four bytes of a word.
-/
namespace Go.Proofs.YtddmnibioacelaaGreatDoor
open Go.RowKit

/-- The four bytes of a word. -/
def wbytes (n : Nat) : List UInt8 := [UInt8.ofNat (n / 16777216), UInt8.ofNat (n / 65536 % 256), UInt8.ofNat (n / 256 % 256), UInt8.ofNat (n % 256)]
theorem wbytes_len (n : Nat) : (wbytes n).length = 4 := rfl

theorem wcells {n : Nat} (hn : n < 4294967296) : #[Value.int .u8 ((n : Int) / 16777216), .int .u8 ((n : Int) / 65536 % 256), .int .u8 ((n : Int) / 256 % 256), .int .u8 ((n : Int) % 256)] = (bcells (wbytes n)).toArray := by
  simp only [bcells, wbytes, List.map_cons, List.map_nil]
  rw [u8nat (by omega), u8nat (by omega), u8nat (by omega), u8nat (by omega)]
  rfl

end Go.Proofs.YtddmnibioacelaaGreatDoor
/-
  The walk of Digest.
-/
namespace Go.Proofs.YtddmnibioacelaaGreatDoor
open Go.RowKit

theorem padL_len (l : List UInt8) (n : Nat) (hl : l.length < 64) : (padL l n).length = 64 ∨ (padL l n).length = 128 := by
  simp only [padL, List.length_append, fill_len, be8_len]
  omega
/-- How many blocks the padded rest makes. -/
def padN (l : List UInt8) : Nat := if l.length < 56 then 1 else 2
theorem padL_size (l : List UInt8) (n : Nat) (hl : l.length < 64) : (padL l n).length = 64 * padN l := by
  simp only [padL, List.length_append, fill_len, be8_len, padN]
  split <;> omega
/-- The bytes of the eight words. -/
def stB (v : St) : List UInt8 := wbytes v.a ++ (wbytes v.b ++ (wbytes v.c ++ (wbytes v.d ++ (wbytes v.e ++ (wbytes v.f ++ (wbytes v.g ++ wbytes v.h))))))
/-- The hash, as the code makes it. -/
def shaC (s : ByteArray) : List UInt8 := stB (blocks (blocks st0 (s.extract 0 (64 * (s.size / 64))).data.toList (s.size / 64)) (padL (s.extract (64 * (s.size / 64)) s.size).data.toList s.size) (padN (s.extract (64 * (s.size / 64)) s.size).data.toList))

theorem four_cells (wr : World) (C : Array Value) (l : List UInt8) (j : Nat) (u : Value) {t : TypeId} (hC : C = (bcells l).toArray) (hj : (bcells l)[j]? = some u) : (wr.alloc (.cells C t)).cell? ((⟨wr.heap.size, 0, none⟩ : Addr).add j) = some u := by
  subst hC
  rw [Addr.add_lit, Nat.zero_add, World.cell?_alloc_mark]
  simpa using hj

end Go.Proofs.YtddmnibioacelaaGreatDoor
/-
  The hash over the whole padded message.
-/
namespace Go.Proofs.YtddmnibioacelaaGreatDoor
open Go.RowKit

theorem words16_congr {l l' : List UInt8} {i i' : Nat} (h : ∀ t, t < 64 → l.getD (i + t) 0 = l'.getD (i' + t) 0) : words16 l i = words16 l' i' := by
  unfold words16
  apply List.map_congr_left
  intro t ht
  rw [List.mem_range] at ht
  unfold word4
  have h0 := h (4 * t) (by omega)
  have h1 := h (4 * t + 1) (by omega)
  have h2 := h (4 * t + 2) (by omega)
  have h3 := h (4 * t + 3) (by omega)
  simp only [← Nat.add_assoc] at h1 h2 h3
  rw [h0, h1, h2, h3]
theorem blocks_congr {l l' : List UInt8} (v : St) (n : Nat) (h : ∀ t, t < 64 * n → l.getD t 0 = l'.getD t 0) : blocks v l n = blocks v l' n := by
  induction n with
  | zero => rfl
  | succ n ih =>
    rw [blocks, blocks, ih (fun t ht => h t (by omega)), oneBlock, oneBlock, words16_congr (fun t ht => h (64 * n + t) (by omega))]
theorem blocks_add (v : St) (l : List UInt8) (q m : Nat) : blocks v l (q + m) = blocks (blocks v l q) (l.drop (64 * q)) m := by
  induction m with
  | zero => rfl
  | succ m ih =>
    have e : words16 l (64 * (q + m)) = words16 (l.drop (64 * q)) (64 * m) := words16_congr (fun t _ => by
      rw [List.getD_eq_getElem?_getD, List.getD_eq_getElem?_getD, List.getElem?_drop, show 64 * (q + m) + t = 64 * q + (64 * m + t) by omega])
    rw [← Nat.add_assoc, blocks, blocks, ih, oneBlock, oneBlock, e]

/-- What is put behind a message of n bytes. -/
def tailL (n : Nat) : List UInt8 := 128 :: List.replicate ((119 - n % 64) % 64) 0 ++ be8 (8 * n)
theorem tailL_len (n : Nat) : (tailL n).length = 1 + (119 - n % 64) % 64 + 8 := by simp [tailL, be8_len]; omega
theorem padL_tail (l : List UInt8) (n : Nat) (h : l.length = n % 64) : padL l n = l ++ tailL n := by
  simp [padL, fill, tailL, h]
theorem shaC_eq (s : ByteArray) : shaC s = stB (blocks st0 (s.data.toList ++ tailL s.size) ((s.size + (tailL s.size).length) / 64)) := by
  obtain ⟨q, hq⟩ : ∃ q, q = s.size / 64 := ⟨_, rfl⟩
  have hx : (s.extract (64 * q) s.size).data.toList = s.data.toList.drop (64 * q) := by
    rw [Lib.extract_data, List.take_of_length_le (by simp)]
  have hy : (s.extract 0 (64 * q)).data.toList = s.data.toList.take (64 * q) := by
    rw [Lib.extract_data]; simp
  have hl : (s.data.toList.drop (64 * q)).length = s.size % 64 := by rw [List.length_drop, list_len]; omega
  have hn : (s.size + (tailL s.size).length) / 64 = q + padN (s.data.toList.drop (64 * q)) := by
    rw [tailL_len, padN, hl]
    split <;> omega
  rw [shaC, ← hq, hx, hy, hn, blocks_add, padL_tail _ _ hl, List.drop_append_of_le_length (by rw [list_len]; omega)]
  congr 2
  apply blocks_congr
  intro t ht
  rw [List.getD_eq_getElem?_getD, List.getD_eq_getElem?_getD, List.getElem?_take_of_lt ht, List.getElem?_append_left (by rw [list_len]; omega)]
end Go.Proofs.YtddmnibioacelaaGreatDoor
/-
  The walk of the reference's Digest.
-/
namespace Go.Proofs.YtddmnibioacelaaGreatDoor
open Go.RowKit

theorem wtab_owned {w : World} {base g n cap : Nat} {e : TypeId} {l : List Nat} (h : w.ownsRow base e 1 (.slice (some ⟨g, 0, none⟩) n cap) n (ucells l)) : WTab w g l := fun t ht => by
  have h1 := h.cells (g := g) rfl t (.int .u32 (l.getD t 0 : Nat)) (by simp [ucells, List.getD_eq_getElem?_getD, List.getElem?_eq_getElem ht])
  rw [Addr.add_lit, Nat.zero_add] at h1
  exact h1
theorem blocks_step (v : St) (l : List UInt8) (n : Nat) : (blocks v l n).add (rounds (blocks v l n) (sched (words16 l (64 * n)) 48) 64) = blocks v l (n + 1) := rfl

def tailF (j : Nat) : List UInt8 := 128 :: List.replicate j 0
theorem tailF_len (j : Nat) : (tailF j).length = 1 + j := by simp [tailF]; omega
theorem tailF_next (j : Nat) : tailF (j + 1) = tailF j ++ [0] := by simp [tailF, List.replicate_succ']

theorem list_lt {v : St} (h : v.ok) (k : Nat) : v.list.getD k 0 < 4294967296 := by
  obtain ⟨h0, h1, h2, h3, h4, h5, h6, h7⟩ := h
  match k with
  | 0 => exact h0
  | 1 => exact h1
  | 2 => exact h2
  | 3 => exact h3
  | 4 => exact h4
  | 5 => exact h5
  | 6 => exact h6
  | 7 => exact h7
  | k + 8 => simp [St.list]
theorem stB_take (v : St) (k : Nat) (h : k < 8) : (stB v).take (4 * (k + 1)) = (stB v).take (4 * k) ++ wbytes (v.list.getD k 0) := by
  rcases (by omega : k = 0 ∨ k = 1 ∨ k = 2 ∨ k = 3 ∨ k = 4 ∨ k = 5 ∨ k = 6 ∨ k = 7) with rfl | rfl | rfl | rfl | rfl | rfl | rfl | rfl <;> rfl

theorem wcells_wrap {y : Nat} (hy : y < 4294967296) : #[Value.int .u8 (IntKind.u8.wrap ((y : Int) / 16777216)), .int .u8 (IntKind.u8.wrap ((y : Int) / 65536)), .int .u8 (IntKind.u8.wrap ((y : Int) / 256)), .int .u8 (IntKind.u8.wrap (y : Int))] = (bcells (wbytes y)).toArray := by
  rw [← wcells hy, IntKind.wrap_u8, IntKind.wrap_u8, IntKind.wrap_u8, IntKind.wrap_u8, show (y : Int) / 16777216 % 256 = (y : Int) / 16777216 by omega]
theorem own_ne {w : World} {base size n B : Nat} {e : TypeId} {v : Value} {xs : List Value} (h : w.ownsRow base e size v n xs) (hB : B < base) : v.ownBlock ≠ some B := fun hr => by
  have := (h.lt B hr).1
  omega

/-- The world of the rounds over the blocks. -/
structure RdW (w wr : World) (B K : Nat) (s : St) : Prop where
  below : Below w.heap.size w wr
  b : B < wr.heap.size
  k : K < wr.heap.size
  s : WTab wr B s.list
  t : WTab wr K kw

end Go.Proofs.YtddmnibioacelaaGreatDoor
/-
  The walk of Of.
-/
namespace Go.Proofs.YtddmnibioacelaaGreatDoor
open Go.RowKit

theorem stB_len (v : St) : (stB v).length = 32 := rfl
/-- The ID's text, as the code makes it. -/
def ofC (s : ByteArray) : List UInt8 := hexL ((str (shaC s)).extract 0 20).data.toList

end Go.Proofs.YtddmnibioacelaaGreatDoor
/-
  The walk of the reference's Of.
-/
namespace Go.Proofs.YtddmnibioacelaaGreatDoor
open Go.RowKit

end Go.Proofs.YtddmnibioacelaaGreatDoor
/-
  The walks of the reference's Check and Bytes, of both Id and of Same.
-/
namespace Go.Proofs.YtddmnibioacelaaGreatDoor
open Go.RowKit

set_option maxHeartbeats 2000000 in
theorem rcheck_any (k : Int) (b : ByteArray) (w : World) (hb : b.size ≤ 140737488355328) :
    Calls Tryz.prog 90 #[.agg #[.int .i64 k, .string b]] w fun e w' => e = .returned (.int .i64 (bytesE k b.data.toList : Int)) ∧ Below w.heap.size w w' := by
  obtain ⟨t, ht⟩ : ∃ t, t = str (wordL k) := ⟨_, rfl⟩
  have HWd : Hid (∀ w', Calls Tryz.prog 52 #[.int .i64 k] w' fun e w'' => e = .returned (.string t) ∧ w'' = w') := fun w' => by
    rw [ht]
    exact rword_any k w'
  have hx := heap_alloc_new w (.cells #[.int .i64 k, .string b] 50)
  have hbx : Below w.heap.size w (w.alloc (.cells #[.int .i64 k, .string b] 50)) := (Below.refl _ _).alloc (Nat.le_refl _) _
  obtain ⟨w1, hw1⟩ : ∃ w1, w1 = w.alloc (.cells #[.int .i64 k, .string b] 50) := ⟨_, rfl⟩
  have HW1 := Lib.hid hw1
  rw [← hw1] at hx hbx
  have c0 := cell_of_row w1 w.heap.size 0 _ _ _ hx
  have c1 := cell_of_row w1 w.heap.size 1 _ _ _ hx
  have c0 : w1.cell? ⟨w.heap.size, 0, none⟩ = some (.int .i64 k) := c0
  have c1 : w1.cell? ⟨w.heap.size, 1, none⟩ = some (.string b) := c1
  have HBX := Lib.hid hbx
  clear hw1 hx hbx
  by_cases hk : wordL k = []
  · have HR : Hid ((bytesE k b.data.toList) = 140) := bytesE_kind hk
    have f1 : t.toList.isEmpty = true := by rw [ByteArray.toList_eq, ht, str_list, hk]; rfl
    have f2 : (t.toList == []) = true := by rw [ByteArray.toList_eq, ht, str_list, hk]; rfl
    clear ht hk
    go_enter Tryz.func90, Tryz.ntmps90
    go_upto_region 1 with fail
    rw [← HW1.out]
    go_wp2_with (go_at_call 52; ((with_reducible refine (HWd.out _).mono ?_); rintro e w2 ⟨rfl, rfl⟩))
    go_ret
    exact ⟨by rw [HR.out]; rfl, HBX.out⟩
  have f1 : t.toList.isEmpty = false := by
    rw [ByteArray.toList_eq, ht, str_list]
    cases hx : wordL k with
    | nil => exact absurd hx hk
    | cons a l => rfl
  have f2 : (t.toList == []) = false := by rw [ByteArray.toList_eq, ht, str_list, beq_eq_false_iff_ne]; exact hk
  by_cases hbig : 1048576 < b.size
  · have HR : Hid ((bytesE k b.data.toList) = 4) := bytesE_big hk (by rw [list_len]; exact hbig)
    clear ht hk
    go_enter Tryz.func90, Tryz.ntmps90
    go_upto_region 1 with fail
    rw [← HW1.out]
    go_wp2_with (go_at_call 52; ((with_reducible refine (HWd.out _).mono ?_); rintro e w2 ⟨rfl, rfl⟩))
    go_ret
    exact ⟨by rw [HR.out]; rfl, HBX.out⟩
  · have HR : Hid ((bytesE k b.data.toList) = 0) := bytesE_ok hk (by rw [list_len]; exact hbig)
    clear ht hk
    go_enter Tryz.func90, Tryz.ntmps90
    go_upto_region 1 with fail
    rw [← HW1.out]
    go_wp2_with (go_at_call 52; ((with_reducible refine (HWd.out _).mono ?_); rintro e w2 ⟨rfl, rfl⟩))
    go_ret
    exact ⟨by rw [HR.out]; rfl, HBX.out⟩

set_option maxHeartbeats 2000000 in
set_option maxRecDepth 4000 in
theorem rbytes_any (k : Int) (b : ByteArray) (w : World) (hb : b.size ≤ 140737488355328) :
    Calls Tryz.prog 72 #[.agg #[.int .i64 k, .string b]] w fun e w' => e = .returned (.tuple #[.string (str (bytesL k b.data.toList)), .int .i64 (bytesE k b.data.toList : Int)]) ∧ Below w.heap.size w w' := by
  obtain ⟨E, hE⟩ : ∃ E, E = bytesE k b.data.toList := ⟨_, rfl⟩
  have HCh : Hid (∀ w', Calls Tryz.prog 90 #[.agg #[.int .i64 k, .string b]] w' fun e w'' => e = .returned (.int .i64 (E : Int)) ∧ Below w'.heap.size w' w'') := fun w' => by
    rw [hE]
    exact rcheck_any k b w' hb
  have hx := heap_alloc_new w (.cells #[.int .i64 k, .string b] 50)
  have hbx : Below w.heap.size w (w.alloc (.cells #[.int .i64 k, .string b] 50)) := (Below.refl _ _).alloc (Nat.le_refl _) _
  obtain ⟨w1, hw1⟩ : ∃ w1, w1 = w.alloc (.cells #[.int .i64 k, .string b] 50) := ⟨_, rfl⟩
  have HW1 := Lib.hid hw1
  rw [← hw1] at hx hbx
  have c0 := cell_of_row w1 w.heap.size 0 _ _ _ hx
  have c1 := cell_of_row w1 w.heap.size 1 _ _ _ hx
  have c0 : w1.cell? ⟨w.heap.size, 0, none⟩ = some (.int .i64 k) := c0
  have c1 : w1.cell? ⟨w.heap.size, 1, none⟩ = some (.string b) := c1
  have HBX := Lib.hid hbx
  clear hw1 hx hbx
  rw [← hE]
  by_cases h0 : E = 0
  · subst h0
    have hne : wordL k ≠ [] := fun h => by rw [bytesE_kind h] at hE; cases hE
    have hsz : b.size ≤ 1048576 := by
      rcases Nat.lt_or_ge 1048576 b.size with h | h
      · rw [bytesE_big hne (by rw [list_len]; exact h)] at hE
        cases hE
      · exact h
    obtain ⟨t, ht⟩ : ∃ t, t = str (wordL k) := ⟨_, rfl⟩
    have hts : t.size ≤ 6 := by rw [ht, str_size]; exact wordL_le k
    obtain ⟨d, hd⟩ : ∃ d, d = str (Lib.decDigits b.size) := ⟨_, rfl⟩
    have hds : d.size ≤ 21 := by rw [hd, str_size, ← itoa_nat]; exact Lib.itoa_length_le _ (by omega) (by omega)
    have HR : Hid (bytesL k b.data.toList = encL k b.data.toList) := bytesL_ok hE.symm
    have HE : Hid (t ++ ⟨#[32]⟩ ++ d ++ ⟨#[0]⟩ ++ b = str (encL k b.data.toList)) := by show _ = _; rw [ht, hd]; exact enc_str k b
    have HDg : Hid (∀ w2 : World, ∀ x : BelW w2, Calls Tryz.prog 91 #[.int .i64 (b.size : Int)] x.w fun e w'' => e = .returned (.string d) ∧ ∃ y : BelW w2, w'' = y.w) := fun w2 x => Calls.bel_class (x := x) (by rw [hd]; exact robdigits_any b.size x.w (by omega))
    have HWd : Hid (∀ w2 : World, ∀ x : BelW w2, Calls Tryz.prog 52 #[.int .i64 k] x.w fun e w'' => e = .returned (.string t) ∧ ∃ y : BelW w2, w'' = y.w) := fun w2 x => Calls.same_class (x := x) (by rw [ht]; exact rword_any k x.w)
    clear ht hd hE hne
    go_enter Tryz.func72, Tryz.ntmps72
    go_upto_region 1 with fail
    rw [← HW1.out]
    go_wp2_with (go_at_call 90; ((with_reducible refine (HCh.out _).mono ?_); rintro e w2 ⟨rfl, hb2⟩))
    have HB2 := Lib.hid (HBX.out.trans (hb2.mono HBX.out.size))
    have k0 : ∀ x : BelW w2, x.w.cell? ⟨w.heap.size, 0, none⟩ = some (.int .i64 k) := fun x => cell_bel (cell_bel c0 hb2) x.h
    have k1 : ∀ x : BelW w2, x.w.cell? ⟨w.heap.size, 1, none⟩ = some (.string b) := fun x => cell_bel (cell_bel c1 hb2) x.h
    have hq : Nonempty (BelW w2) := ⟨⟨w2, Below.refl _ _⟩⟩
    clear c0 c1 hb2
    refine wp_region_bel (w0 := w2) (Below.refl _ _) (by kernel_rfl) (by kernel_rfl) ?_
    repeat (go_big_quiet_step (first | (go_at_call 91; exact HDg.out _ _) | (go_at_call 52; exact HWd.out _ _)))
    refine wpQuiet_nil ?_
    rintro _ ⟨x, rfl⟩
    have HX := Lib.hid (HB2.out.trans (x.h.mono HB2.out.size))
    go_wp2
    go_ret2
    exact ⟨by rw [HR.out, ← HE.out]; rfl, HX.out⟩
  · have HR : Hid (bytesL k b.data.toList = []) := bytesL_err (by rw [← hE]; exact h0)
    have f1 : ((E : Int) != 0) = true := by simpa using h0
    clear hE h0
    go_enter Tryz.func72, Tryz.ntmps72
    go_upto_region 1 with fail
    rw [← HW1.out]
    go_wp2_with (go_at_call 90; ((with_reducible refine (HCh.out _).mono ?_); rintro e w2 ⟨rfl, hb2⟩))
    go_ret2
    exact ⟨by rw [HR.out]; rfl, HBX.out.trans (hb2.mono HBX.out.size)⟩

/-- An object's ID. -/
def idL (k : Int) (b : List UInt8) : List UInt8 := if bytesE k b = 0 then ofC (str (encL k b)) else []
theorem bytesL_len {k : Int} {b : ByteArray} : (bytesL k b.data.toList).length ≤ 2000000 := by
  unfold bytesL
  split
  · rename_i h
    have hb : b.size ≤ 1048576 := by
      rcases Nat.lt_or_ge 1048576 b.size with h' | h'
      · exfalso
        by_cases hw : wordL k = []
        · rw [bytesE_kind hw] at h; cases h
        · rw [bytesE_big hw (by rw [list_len]; exact h')] at h; cases h
      · exact h'
    have h1 : (Lib.decDigits b.size).length ≤ 21 := by rw [← itoa_nat]; exact Lib.itoa_length_le _ (by omega) (by omega)
    have h2 := wordL_le k
    unfold encL
    simp only [List.length_append, List.length_cons, list_len]
    omega
  · simp

end Go.Proofs.YtddmnibioacelaaGreatDoor
