/-
  Plain mathematics of the hash: words below 2^32 as natural numbers.
-/
namespace Go.Proofs.YtalbphlmebhjoaaDoor

def rotr (x n : Nat) : Nat := (x / 2 ^ n) ||| (x * 2 ^ (32 - n) % 4294967296)
def ls0 (x : Nat) : Nat := (rotr x 7 ^^^ rotr x 18) ^^^ x / 8
def ls1 (x : Nat) : Nat := (rotr x 17 ^^^ rotr x 19) ^^^ x / 1024
def bs0 (x : Nat) : Nat := (rotr x 2 ^^^ rotr x 13) ^^^ rotr x 22
def bs1 (x : Nat) : Nat := (rotr x 6 ^^^ rotr x 11) ^^^ rotr x 25
def chs (e f g : Nat) : Nat := (e &&& f) ^^^ ((4294967295 ^^^ e) &&& g)
def maj (a b c : Nat) : Nat := ((a &&& b) ^^^ (a &&& c)) ^^^ (b &&& c)

theorem rotr_lt {x n : Nat} (hx : x < 4294967296) : rotr x n < 4294967296 :=
  Nat.or_lt_two_pow (n := 32) (Nat.lt_of_le_of_lt (Nat.div_le_self _ _) hx) (Nat.mod_lt _ (by decide))
theorem ls0_lt {x : Nat} (hx : x < 4294967296) : ls0 x < 4294967296 := Nat.xor_lt_two_pow (n := 32) (Nat.xor_lt_two_pow (n := 32) (rotr_lt hx) (rotr_lt hx)) (Nat.lt_of_le_of_lt (Nat.div_le_self _ _) hx)
theorem ls1_lt {x : Nat} (hx : x < 4294967296) : ls1 x < 4294967296 := Nat.xor_lt_two_pow (n := 32) (Nat.xor_lt_two_pow (n := 32) (rotr_lt hx) (rotr_lt hx)) (Nat.lt_of_le_of_lt (Nat.div_le_self _ _) hx)
theorem bs0_lt {x : Nat} (hx : x < 4294967296) : bs0 x < 4294967296 := Nat.xor_lt_two_pow (n := 32) (Nat.xor_lt_two_pow (n := 32) (rotr_lt hx) (rotr_lt hx)) (rotr_lt hx)
theorem bs1_lt {x : Nat} (hx : x < 4294967296) : bs1 x < 4294967296 := Nat.xor_lt_two_pow (n := 32) (Nat.xor_lt_two_pow (n := 32) (rotr_lt hx) (rotr_lt hx)) (rotr_lt hx)
theorem and_lt {x y : Nat} (hx : x < 4294967296) : x &&& y < 4294967296 := Nat.lt_of_le_of_lt Nat.and_le_left hx
theorem chs_lt {e f g : Nat} (he : e < 4294967296) (_hg : g < 4294967296) : chs e f g < 4294967296 :=
  Nat.xor_lt_two_pow (n := 32) (and_lt he) (and_lt (Nat.xor_lt_two_pow (n := 32) (by decide) he))
theorem maj_lt {a b c : Nat} (ha : a < 4294967296) (hb : b < 4294967296) : maj a b c < 4294967296 :=
  Nat.xor_lt_two_pow (n := 32) (Nat.xor_lt_two_pow (n := 32) (and_lt ha) (and_lt ha)) (and_lt hb)

/-- The eight variables. -/
structure St where
  a : Nat
  b : Nat
  c : Nat
  d : Nat
  e : Nat
  f : Nat
  g : Nat
  h : Nat
deriving DecidableEq

/-- A round. -/
def rnd (s : St) (k w : Nat) : St :=
  let t := (((s.h + bs1 s.e) % 4294967296 + chs s.e s.f s.g) % 4294967296 + k) % 4294967296
  let t := (t + w) % 4294967296
  let u := (bs0 s.a + maj s.a s.b s.c) % 4294967296
  { a := (t + u) % 4294967296, b := s.a, c := s.b, d := s.c, e := (s.d + t) % 4294967296, f := s.e, g := s.f, h := s.g }

def kw : List Nat := [0x428a2f98, 0x71374491, 0xb5c0fbcf, 0xe9b5dba5, 0x3956c25b, 0x59f111f1, 0x923f82a4, 0xab1c5ed5, 0xd807aa98, 0x12835b01, 0x243185be, 0x550c7dc3, 0x72be5d74, 0x80deb1fe, 0x9bdc06a7, 0xc19bf174, 0xe49b69c1, 0xefbe4786, 0x0fc19dc6, 0x240ca1cc, 0x2de92c6f, 0x4a7484aa, 0x5cb0a9dc, 0x76f988da, 0x983e5152, 0xa831c66d, 0xb00327c8, 0xbf597fc7, 0xc6e00bf3, 0xd5a79147, 0x06ca6351, 0x14292967, 0x27b70a85, 0x2e1b2138, 0x4d2c6dfc, 0x53380d13, 0x650a7354, 0x766a0abb, 0x81c2c92e, 0x92722c85, 0xa2bfe8a1, 0xa81a664b, 0xc24b8b70, 0xc76c51a3, 0xd192e819, 0xd6990624, 0xf40e3585, 0x106aa070, 0x19a4c116, 0x1e376c08, 0x2748774c, 0x34b0bcb5, 0x391c0cb3, 0x4ed8aa4a, 0x5b9cca4f, 0x682e6ff3, 0x748f82ee, 0x78a5636f, 0x84c87814, 0x8cc70208, 0x90befffa, 0xa4506ceb, 0xbef9a3f7, 0xc67178f2]
theorem kw_len : kw.length = 64 := rfl
theorem kw_lt (t : Nat) : kw.getD t 0 < 4294967296 := by
  have h : ∀ x ∈ kw, x < 4294967296 := by decide
  rw [List.getD_eq_getElem?_getD]
  by_cases ht : t < kw.length
  · rw [List.getElem?_eq_getElem ht]; exact h _ (List.getElem_mem ht)
  · rw [List.getElem?_eq_none (by omega)]; decide

/-- The variables behind t rounds. -/
def rounds (s : St) (w : List Nat) : Nat → St
  | 0 => s
  | t + 1 => rnd (rounds s w t) (kw.getD t 0) (w.getD t 0)

def St.ok (s : St) : Prop := s.a < 4294967296 ∧ s.b < 4294967296 ∧ s.c < 4294967296 ∧ s.d < 4294967296 ∧ s.e < 4294967296 ∧ s.f < 4294967296 ∧ s.g < 4294967296 ∧ s.h < 4294967296
theorem rnd_ok {s : St} (h : s.ok) (k w : Nat) : (rnd s k w).ok := by
  obtain ⟨ha, hb, hc, hd, he, hf, hg, hh⟩ := h
  exact ⟨Nat.mod_lt _ (by decide), ha, hb, hc, Nat.mod_lt _ (by decide), he, hf, hg⟩
theorem rounds_ok {s : St} (h : s.ok) (w : List Nat) (t : Nat) : (rounds s w t).ok := by
  induction t with
  | zero => exact h
  | succ t ih => exact rnd_ok ih _ _

/-- A block is absorbed. -/
def St.add (s t : St) : St := { a := (s.a + t.a) % 4294967296, b := (s.b + t.b) % 4294967296, c := (s.c + t.c) % 4294967296, d := (s.d + t.d) % 4294967296, e := (s.e + t.e) % 4294967296, f := (s.f + t.f) % 4294967296, g := (s.g + t.g) % 4294967296, h := (s.h + t.h) % 4294967296 }
theorem add_ok (s t : St) : (s.add t).ok := ⟨Nat.mod_lt _ (by decide), Nat.mod_lt _ (by decide), Nat.mod_lt _ (by decide), Nat.mod_lt _ (by decide), Nat.mod_lt _ (by decide), Nat.mod_lt _ (by decide), Nat.mod_lt _ (by decide), Nat.mod_lt _ (by decide)⟩

/-- The next word of the schedule. -/
def nextW (w : List Nat) (t : Nat) : Nat := (((ls1 (w.getD (t - 2) 0) + w.getD (t - 7) 0) % 4294967296 + ls0 (w.getD (t - 15) 0)) % 4294967296 + w.getD (t - 16) 0) % 4294967296
/-- The schedule, from its first sixteen words, n words on. -/
def sched (w : List Nat) : Nat → List Nat
  | 0 => w
  | n + 1 => sched w n ++ [nextW (sched w n) (16 + n)]
theorem sched_len {w : List Nat} (h : w.length = 16) (n : Nat) : (sched w n).length = 16 + n := by
  induction n with
  | zero => exact h
  | succ n ih => rw [sched, List.length_append, ih]; rfl
theorem sched_lt {w : List Nat} (h : ∀ x ∈ w, x < 4294967296) (n : Nat) : ∀ x ∈ sched w n, x < 4294967296 := by
  induction n with
  | zero => exact h
  | succ n ih =>
    intro x hx
    rw [sched, List.mem_append] at hx
    rcases hx with hx | hx
    · exact ih x hx
    · simp at hx; subst hx; exact Nat.mod_lt _ (by decide)

/-- The word that four bytes make. -/
def word4 (l : List UInt8) (i : Nat) : Nat := (((l.getD i 0).toNat * 256 + (l.getD (i + 1) 0).toNat) * 256 + (l.getD (i + 2) 0).toNat) * 256 + (l.getD (i + 3) 0).toNat
theorem word4_lt (l : List UInt8) (i : Nat) : word4 l i < 4294967296 := by
  have h0 := UInt8.toNat_lt (l.getD i 0)
  have h1 := UInt8.toNat_lt (l.getD (i + 1) 0)
  have h2 := UInt8.toNat_lt (l.getD (i + 2) 0)
  have h3 := UInt8.toNat_lt (l.getD (i + 3) 0)
  unfold word4; omega
/-- The first sixteen words of the block at i. -/
def words16 (l : List UInt8) (i : Nat) : List Nat := (List.range 16).map fun t => word4 l (i + 4 * t)
theorem words16_len (l : List UInt8) (i : Nat) : (words16 l i).length = 16 := by simp [words16]
theorem words16_lt (l : List UInt8) (i : Nat) : ∀ x ∈ words16 l i, x < 4294967296 := by
  intro x hx; simp only [words16, List.mem_map] at hx; obtain ⟨t, _, rfl⟩ := hx; exact word4_lt _ _

/-- The block at i is absorbed. -/
def oneBlock (s : St) (l : List UInt8) (i : Nat) : St := s.add (rounds s (sched (words16 l i) 48) 64)
/-- n blocks are absorbed. -/
def blocks (s : St) (l : List UInt8) : Nat → St
  | 0 => s
  | n + 1 => oneBlock (blocks s l n) l (64 * n)
theorem blocks_ok {s : St} (h : s.ok) (l : List UInt8) (n : Nat) : (blocks s l n).ok := by
  cases n with
  | zero => exact h
  | succ n => exact add_ok _ _

def st0 : St := ⟨0x6a09e667, 0xbb67ae85, 0x3c6ef372, 0xa54ff53a, 0x510e527f, 0x9b05688c, 0x1f83d9ab, 0x5be0cd19⟩
theorem st0_ok : st0.ok := by unfold St.ok st0; decide
end Go.Proofs.YtalbphlmebhjoaaDoor
