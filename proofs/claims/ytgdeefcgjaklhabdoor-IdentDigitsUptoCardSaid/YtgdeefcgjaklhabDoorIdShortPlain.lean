/-
  Plain mathematics of Short.
-/
import Derived.Test.YtgdeefcgjaklhabDoorIdFindPlain
namespace Go.Proofs.YtgdeefcgjaklhabDoor
open Go.RowKit

/-- How many bytes two lists begin with alike. -/
def lcp : List UInt8 → List UInt8 → Nat
  | a :: l, b :: m => if a = b then lcp l m + 1 else 0
  | [], _ => 0
  | _ :: _, [] => 0
theorem lcp_le (l m : List UInt8) : lcp l m ≤ l.length := by
  induction l generalizing m with
  | nil => simp [lcp]
  | cons a l ih =>
    cases m with
    | nil => simp [lcp]
    | cons b m => rw [lcp]; split <;> simp; exact ih m
theorem lcp_lt {l m : List UInt8} (h : l.length = m.length) (hn : l ≠ m) : lcp l m < l.length := by
  induction l generalizing m with
  | nil => cases m with
    | nil => exact absurd rfl hn
    | cons b m => simp at h
  | cons a l ih =>
    cases m with
    | nil => simp at h
    | cons b m =>
      rw [lcp]
      split
      · rename_i he
        have := ih (m := m) (by simpa using h) (fun e => hn (by rw [he, e]))
        simp; omega
      · simp
theorem lcp_eq {l m : List UInt8} {j : Nat} (h : j < lcp l m) : l[j]? = m[j]? := by
  induction l generalizing m j with
  | nil => simp [lcp] at h
  | cons a l ih =>
    cases m with
    | nil => simp [lcp] at h
    | cons b m =>
      rw [lcp] at h
      split at h
      · rename_i he
        cases j with
        | zero => simp [he]
        | succ j => simpa using ih (m := m) (by omega)
      · omega
theorem lcp_ne {l m : List UInt8} (h : l.length = m.length) (hn : l ≠ m) : l[lcp l m]? ≠ m[lcp l m]? := by
  induction l generalizing m with
  | nil => cases m with
    | nil => exact absurd rfl hn
    | cons b m => simp at h
  | cons a l ih =>
    cases m with
    | nil => simp at h
    | cons b m =>
      rw [lcp]
      split
      · rename_i he
        simpa using ih (m := m) (by simpa using h) (fun e => hn (by rw [he, e]))
      · rename_i he
        simpa using he
theorem pre_lcp (l m : List UInt8) (n : Nat) (h : n ≤ l.length) : Lib.hasPrefix m (l.take n) = decide (n ≤ lcp l m) := by
  unfold Lib.hasPrefix
  induction l generalizing m n with
  | nil => simp at h; subst h; simp [List.isPrefixOf]
  | cons a l ih =>
    cases n with
    | zero => simp [List.isPrefixOf]
    | succ n =>
      cases m with
      | nil => simp [lcp, List.isPrefixOf]
      | cons b m =>
        rw [List.take_succ_cons, List.isPrefixOf, ih m n (by simpa using h), lcp]
        by_cases he : a = b
        · subst he; simp
        · simp [he]

def stepK (id : ByteArray) (n : Nat) (o : ByteArray) : Nat := if o ≠ id ∧ isId o = true then max n (lcp id.data.toList o.data.toList + 1) else n
def keptL (id : ByteArray) (L : List ByteArray) (n : Nat) : Nat := L.foldl (stepK id) n
theorem keptL_cons (id s : ByteArray) (L : List ByteArray) (n : Nat) : keptL id (s :: L) n = keptL id L (stepK id n s) := rfl
theorem isId_size {s : ByteArray} (h : isId s = true) : s.size = 40 := by simp [isId] at h; exact h.1
theorem isId_dig {s : ByteArray} (h : isId s = true) : allDig s.data.toList = true := by simp [isId] at h; exact h.2
theorem stepK_le {id o : ByteArray} {n : Nat} (hi : isId id = true) (hn : n ≤ 40) : n ≤ stepK id n o ∧ stepK id n o ≤ 40 := by
  unfold stepK
  split
  · rename_i h
    have h1 := isId_size hi
    have h2 := isId_size h.2
    have := lcp_lt (l := id.data.toList) (m := o.data.toList) (by rw [list_len, list_len, h1, h2]) (fun e => h.1 (ba_ext e.symm))
    rw [list_len] at this
    omega
  · omega
theorem keptL_le {id : ByteArray} (hi : isId id = true) : ∀ (L : List ByteArray) (n : Nat), n ≤ 40 → n ≤ keptL id L n ∧ keptL id L n ≤ 40
  | [], n, h => ⟨Nat.le_refl _, h⟩
  | s :: L, n, h => by
    have h1 := stepK_le (o := s) hi h
    have h2 := keptL_le hi L _ h1.2
    rw [keptL_cons]
    omega
/-- What Short answers. -/
def shortS (L : List ByteArray) (id : ByteArray) : ByteArray := if isId id = true then id.extract 0 (keptL id L 7) else ⟨#[]⟩
theorem shortS_no {L : List ByteArray} {id : ByteArray} (h : isId id = false) : shortS L id = ⟨#[]⟩ := by rw [shortS, if_neg (by rw [h]; decide)]
theorem shortS_yes {L : List ByteArray} {id : ByteArray} (h : isId id = true) : shortS L id = id.extract 0 (keptL id L 7) := by rw [shortS, if_pos h]
end Go.Proofs.YtgdeefcgjaklhabDoor
