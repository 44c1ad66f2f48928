/-
  Trees, plain: entries, their order, what is wrong with a list, the encoding, edits.
-/
import Derived.Test.YtbleabfgekeneaaGreatDoorPtSplitPk
import Derived.Test.YtbleabfgekeneaaGreatDoorIdHexPk
namespace Go.Proofs.YtbleabfgekeneaaGreatDoor
open Go.RowKit

/-- An entry: its mode, name and ID. -/
structure En where
  m : Int
  n : ByteArray
  i : ByteArray
deriving DecidableEq
def En.cells (e : En) : List Value := [.int .i64 e.m, .string e.n, .string e.i]
def En.zero : En := ⟨0, ⟨#[]⟩, ⟨#[]⟩⟩
/-- What an entry is sorted by. -/
def keyE (e : En) : ByteArray := if e.m = 4 then e.n ++ ⟨#[47]⟩ else e.n
def lessE (a b : En) : Bool := Op.bytesLess (keyE a).toList (keyE b).toList
/-- No slash. -/
def flatN (s : ByteArray) : Bool := decide (Lib.indexByte s.data.toList 47 < 0)
def okEn (e : En) : Bool := decide (1 ≤ e.m) && (decide (e.m ≤ 4) && (isP e.n && (flatN e.n && isId e.i)))
/-- What is wrong at a place. -/
def badT (l : List En) (k : Nat) : Nat :=
  if okEn (l.getD k En.zero) = false then 1
  else if 0 < k ∧ lessE (l.getD (k - 1) En.zero) (l.getD k En.zero) = false then 150
  else if (l.take k).any (fun e => decide (e.n = (l.getD k En.zero).n)) = true then 6 else 0
/-- What is wrong from a place on. -/
def chkFrom (l : List En) (k : Nat) : Nat :=
  if k < l.length then (if badT l k = 0 then chkFrom l (k + 1) else badT l k) else 0
termination_by l.length - k
def chkT (l : List En) : Nat := if 1024 < l.length then 4 else chkFrom l 0
theorem chkFrom_step {l : List En} {k : Nat} (h : k < l.length) (h0 : badT l k = 0) : chkFrom l k = chkFrom l (k + 1) := by
  rw [chkFrom, if_pos h, if_pos h0]
theorem chkFrom_bad {l : List En} {k : Nat} (h : k < l.length) (h0 : badT l k ≠ 0) : chkFrom l k = badT l k := by
  rw [chkFrom, if_pos h, if_neg h0]
theorem chkFrom_end {l : List En} {k : Nat} (h : ¬ k < l.length) : chkFrom l k = 0 := by rw [chkFrom, if_neg h]
theorem chkFrom_ok {l : List En} : ∀ (d k : Nat), d = l.length - k → (chkFrom l k = 0 ↔ ∀ j, k ≤ j → j < l.length → badT l j = 0)
  | 0, k, h => by
    rw [chkFrom_end (by omega)]
    exact ⟨fun _ j h1 h2 => by omega, fun _ => rfl⟩
  | d + 1, k, h => by
    have hk : k < l.length := by omega
    by_cases h0 : badT l k = 0
    · rw [chkFrom_step hk h0, chkFrom_ok d (k + 1) (by omega)]
      constructor
      · intro h j h1 h2
        rcases Nat.lt_or_ge k j with h3 | h3
        · exact h j h3 h2
        · obtain rfl : j = k := by omega
          exact h0
      · exact fun h j h1 h2 => h j (by omega) h2
    · rw [chkFrom_bad hk h0]
      exact ⟨fun h => absurd h h0, fun h => h k (Nat.le_refl _) hk⟩
theorem chkT_ok {l : List En} : chkT l = 0 ↔ l.length ≤ 1024 ∧ ∀ j, j < l.length → badT l j = 0 := by
  unfold chkT
  split
  · exact ⟨fun h => by omega, fun h => by omega⟩
  · rw [chkFrom_ok _ 0 rfl]
    exact ⟨fun h => ⟨by omega, fun j hj => h j (Nat.zero_le _) hj⟩, fun h j _ hj => h.2 j hj⟩
theorem badT_ok {l : List En} {k : Nat} (h : badT l k = 0) : okEn (l.getD k En.zero) = true ∧ (0 < k → lessE (l.getD (k - 1) En.zero) (l.getD k En.zero) = true) ∧ ∀ e ∈ l.take k, e.n ≠ (l.getD k En.zero).n := by
  unfold badT at h
  split at h
  · cases h
  split at h
  · cases h
  split at h
  · cases h
  rename_i h1 h2 h3
  refine ⟨by simpa using h1, fun hk => ?_, fun e he hn => h3 ?_⟩
  · simpa [hk] using h2
  · rw [List.any_eq_true]
    exact ⟨e, he, by simpa using hn⟩
theorem badT_of {l : List En} {k : Nat} (h1 : okEn (l.getD k En.zero) = true) (h2 : 0 < k → lessE (l.getD (k - 1) En.zero) (l.getD k En.zero) = true) (h3 : ∀ e ∈ l.take k, e.n ≠ (l.getD k En.zero).n) : badT l k = 0 := by
  unfold badT
  rw [if_neg (by rw [h1]; decide), if_neg (fun h => by rw [h2 h.1] at h; cases h.2), if_neg]
  simp only [Bool.not_eq_true, List.any_eq_false, decide_eq_true_eq]
  exact h3

/-- The word of a mode. -/
def wordM (m : Int) : List UInt8 := if m = 1 then [49, 48, 48, 54, 52, 52, 32] else if m = 2 then [49, 48, 48, 55, 53, 53, 32] else if m = 3 then [49, 50, 48, 48, 48, 48, 32] else if m = 4 then [52, 48, 48, 48, 48, 32] else []
def encOne (e : En) : List UInt8 := wordM e.m ++ e.n.data.toList ++ [0] ++ rawL e.i.data.toList 20
def encT (l : List En) : List UInt8 := l.flatMap encOne
/-- What Body answers. -/
def bodyT (l : List En) : List UInt8 := if chkT l = 0 then encT l else []

/-- What is wrong where no mode of those ahead of q begins bytes. -/
def errTo (l : List UInt8) : Nat → Nat
  | 0 => 2
  | q + 1 => if 1 ≤ q ∧ Lib.hasPrefix (wordM q) l = true then 3 else errTo l q
/-- The mode at the beginning of bytes, or what is wrong. -/
def modeT (l : List UInt8) : Nat × Nat :=
  if Lib.hasPrefix l (wordM 1) = true then (1, 0) else if Lib.hasPrefix l (wordM 2) = true then (2, 0) else if Lib.hasPrefix l (wordM 3) = true then (3, 0) else if Lib.hasPrefix l (wordM 4) = true then (4, 0)
  else (0, errTo l 5)
theorem errTo_le (l : List UInt8) : ∀ q, errTo l q = 2 ∨ errTo l q = 3
  | 0 => .inl rfl
  | q + 1 => by
    rw [errTo]
    split
    · exact .inr rfl
    · exact errTo_le l q
theorem modeT_hit {l : List UInt8} {q : Nat} (h1 : 1 ≤ q) (h4 : q ≤ 4) (h : Lib.hasPrefix l (wordM q) = true) (hn : ∀ j : Nat, 1 ≤ j → j < q → Lib.hasPrefix l (wordM j) = false) : modeT l = (q, 0) := by
  unfold modeT
  have : q = 1 ∨ q = 2 ∨ q = 3 ∨ q = 4 := by omega
  rcases this with rfl | rfl | rfl | rfl
  · exact if_pos h
  · have a := hn 1 (by omega) (by omega)
    rw [if_neg (by rw [show (1 : Int) = ((1 : Nat) : Int) from rfl, a]; decide)]
    exact if_pos h
  · have a := hn 1 (by omega) (by omega)
    have b := hn 2 (by omega) (by omega)
    rw [if_neg (by rw [show (1 : Int) = ((1 : Nat) : Int) from rfl, a]; decide), if_neg (by rw [show (2 : Int) = ((2 : Nat) : Int) from rfl, b]; decide)]
    exact if_pos h
  · have a := hn 1 (by omega) (by omega)
    have b := hn 2 (by omega) (by omega)
    have c := hn 3 (by omega) (by omega)
    rw [if_neg (by rw [show (1 : Int) = ((1 : Nat) : Int) from rfl, a]; decide), if_neg (by rw [show (2 : Int) = ((2 : Nat) : Int) from rfl, b]; decide), if_neg (by rw [show (3 : Int) = ((3 : Nat) : Int) from rfl, c]; decide)]
    exact if_pos h
theorem modeT_miss {l : List UInt8} (hn : ∀ j : Nat, 1 ≤ j → j < 5 → Lib.hasPrefix l (wordM j) = false) : modeT l = (0, errTo l 5) := by
  unfold modeT
  have a := hn 1 (by omega) (by omega)
  have b := hn 2 (by omega) (by omega)
  have c := hn 3 (by omega) (by omega)
  have d := hn 4 (by omega) (by omega)
  rw [if_neg (by rw [show (1 : Int) = ((1 : Nat) : Int) from rfl, a]; decide), if_neg (by rw [show (2 : Int) = ((2 : Nat) : Int) from rfl, b]; decide), if_neg (by rw [show (3 : Int) = ((3 : Nat) : Int) from rfl, c]; decide), if_neg (by rw [show (4 : Int) = ((4 : Nat) : Int) from rfl, d]; decide)]
/-- The entry behind a mode's word: what is wrong, the entry, the rest. -/
def restT (q : Nat) (r : List UInt8) (x : Int) : Nat × En × List UInt8 :=
  if x < 0 ∨ r.length < x.toNat + 21 then (3, En.zero, []) else (0, ⟨q, str (r.take x.toNat), str (hexL ((r.drop (x.toNat + 1)).take 20))⟩, r.drop (x.toNat + 21))
/-- The first entry of bytes: what is wrong, the entry, the rest. -/
def oneT (l : List UInt8) : Nat × En × List UInt8 :=
  if (modeT l).1 = 0 then ((modeT l).2, En.zero, [])
  else restT (modeT l).1 (l.drop (wordM (modeT l).1).length) (Lib.indexByte (l.drop (wordM (modeT l).1).length) 0)
/-- All entries behind those that are read. -/
def parFrom (l : List UInt8) (es : List En) : Nat × List En :=
  if l = [] then (if chkT es = 0 then (0, es) else (chkT es, []))
  else if (oneT l).1 ≠ 0 then ((oneT l).1, [])
  else if (oneT l).2.2.length < l.length then parFrom (oneT l).2.2 (es ++ [(oneT l).2.1]) else (0, [])
termination_by l.length
def parE (l : List UInt8) : Nat × List En := parFrom l []

/-- The first entry of a name. -/
def findE (l : List En) (n : ByteArray) : Option En := l.find? fun e => decide (e.n = n)
def dropE (l : List En) (n : ByteArray) : List En := l.filter fun e => !decide (e.n = n)
/-- How many entries lie ahead of the first that sorts behind e. -/
def atE (l : List En) (e : En) : Nat := (l.takeWhile fun x => !lessE e x).length
def putE (l : List En) (e : En) : List En := (dropE l e.n).take (atE (dropE l e.n) e) ++ e :: (dropE l e.n).drop (atE (dropE l e.n) e)
end Go.Proofs.YtbleabfgekeneaaGreatDoor
