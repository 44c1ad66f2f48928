/-
  The walks of path's small functions, and of the reference's.
-/
import Derived.Test.YtjholoajgnpodaaDoorLaidStrsPk
import Derived.Lib.SplitLaws
namespace Go.Proofs.YtjholoajgnpodaaDoor
open Go.RowKit

theorem none_true {s : ByteArray} (h : s.size = 0) : s.toList.isEmpty = true := by
  rw [ByteArray.toList_eq, List.eq_nil_of_length_eq_zero (l := s.data.toList) (by rw [list_len]; exact h)]
  rfl
theorem none_false {s : ByteArray} (h : 0 < s.size) : s.toList.isEmpty = false := by
  rw [ByteArray.toList_eq]
  cases hx : s.data.toList with
  | nil =>
    have := list_len s
    rw [hx] at this
    simp at this
    omega
  | cons a t => rfl

/-- The path of an entry in a directory. -/
def undr (d n : ByteArray) : ByteArray := if d.size = 0 then n else d ++ ⟨#[47]⟩ ++ n
theorem undr_none {d n : ByteArray} (h : d.size = 0) : undr d n = n := if_pos h
theorem undr_some {d n : ByteArray} (h : 0 < d.size) : undr d n = d ++ ⟨#[47]⟩ ++ n := if_neg (by omega)

/-- Whether a path lies in a directory. -/
def wthn (d p : ByteArray) : Bool := if d.size = 0 then p.size != 0 else decide (d.size + 1 < p.size) && ((p.extract 0 d.size).toList == d.toList) && (p.data.toList.getD d.size 0 == 47)
theorem pt_at (s : ByteArray) (i : Nat) (h : i < s.size) : s.data.toList.getD i 0 = s[i] := by
  rw [List.getD_eq_getElem?_getD, List.getElem?_eq_getElem (by rw [list_len]; exact h)]
  rfl
theorem pt47 (c : UInt8) : ((c.toNat : Int) == 47) = (c == 47) := by
  by_cases h : c = 47
  · subst h; rfl
  · have : ¬ c.toNat = 47 := fun e => h (UInt8.toNat_inj.mp (by rw [e]; rfl))
    have e1 : (c == 47) = false := by simp [h]
    rw [e1, beq_eq_false_iff_ne]
    omega

end Go.Proofs.YtjholoajgnpodaaDoor
/-
  Plain mathematics: what the library's Split answers for a slash is the string cut at its slashes.
-/
namespace Go.Proofs.YtjholoajgnpodaaDoor
open Go.RowKit

/-- A string cut at its slashes, the piece that has begun being cur. -/
def cut : List UInt8 → List UInt8 → List (List UInt8)
  | cur, [] => [cur]
  | cur, c :: r => if c = 47 then cur :: cut [] r else cut (cur ++ [c]) r
theorem cut_none : ∀ (l cur : List UInt8), (∀ c ∈ l, c ≠ 47) → cut cur l = [cur ++ l]
  | [], cur, _ => by simp [cut]
  | c :: r, cur, h => by
    rw [cut, if_neg (h c (by simp)), cut_none r (cur ++ [c]) (fun x hx => h x (by simp [hx]))]
    simp
theorem cut_at : ∀ (a r cur : List UInt8), (∀ c ∈ a, c ≠ 47) → cut cur (a ++ 47 :: r) = (cur ++ a) :: cut [] r
  | [], r, cur, _ => by simp [cut]
  | c :: a, r, cur, h => by
    rw [List.cons_append, cut, if_neg (h c (by simp)), cut_at a r (cur ++ [c]) (fun x hx => h x (by simp [hx]))]
    simp
/-- No piece has a slash. -/
theorem cut_free : ∀ (l cur : List UInt8), (∀ c ∈ cur, c ≠ 47) → ∀ p ∈ cut cur l, ∀ c ∈ p, c ≠ 47
  | [], cur, h, p, hp => by
    simp only [cut, List.mem_singleton] at hp
    subst hp
    exact h
  | c :: r, cur, h, p, hp => by
    rw [cut] at hp
    split at hp
    · rcases List.mem_cons.mp hp with rfl | hp
      · exact h
      · exact cut_free r [] (by simp) p hp
    · rename_i hc
      exact cut_free r (cur ++ [c]) (fun x hx => by
        rcases List.mem_append.mp hx with hx | hx
        · exact h x hx
        · rw [List.mem_singleton.mp hx]; exact hc) p hp
abbrev slash : ByteArray := ⟨#[47]⟩
theorem index47 (s : ByteArray) : Lib.indexB s slash = Lib.indexByte s.data.toList 47 := Lib.index_one _ _
theorem cut_split : ∀ (n : Nat) (s : ByteArray), s.size ≤ n → (Lib.splitB slash 0 (Lib.countB s slash) s).map (fun x => x.data.toList) = cut [] s.data.toList := by
  intro n
  induction n with
  | zero =>
    intro s hs
    have hl : s.data.toList = [] := List.eq_nil_of_length_eq_zero (by rw [list_len]; omega)
    have h1 : Lib.indexB s slash = -1 := by rw [index47, hl]; rfl
    rw [Lib.splitB_miss slash 0 _ s h1, hl]
    simp [cut, hl]
  | succ n ih =>
    intro s hs
    rcases Lib.indexB_cases s slash with h | ⟨i, h, hi⟩
    · rw [Lib.splitB_miss slash 0 _ s h, cut_none]
      · simp
      · intro c hc e
        subst e
        obtain ⟨k, hk⟩ := List.mem_iff_getElem?.mp hc
        rw [index47] at h
        exact Lib.indexByte_none h k hk
    · have h1 : slash.size = 1 := rfl
      rw [h1] at hi
      have hr := Lib.countB_hit s slash i (by decide) h
      rw [h1] at hr
      rw [hr, Nat.add_comm 1, Lib.splitB, if_neg (by rw [h]; simp), h]
      have hx : (s.extract (i + 1) s.size).size ≤ n := by rw [ByteArray.size_extract]; omega
      have he : s.data.toList = s.data.toList.take i ++ 47 :: s.data.toList.drop (i + 1) := by
        rw [index47] at h
        have h2 := (Lib.indexByte_some h).1
        obtain ⟨hlt, h3⟩ := List.getElem?_eq_some_iff.mp h2
        rw [← h3, ← List.drop_eq_getElem_cons hlt, List.take_append_drop]
      have hd : (s.extract (i + 1) s.size).data.toList = s.data.toList.drop (i + 1) := by
        rw [ext_bytes, List.take_of_length_le (by rw [List.length_drop, list_len]; omega)]
      have ht : (s.extract 0 i).data.toList = s.data.toList.take i := by rw [ext_bytes, List.drop_zero, Nat.sub_zero]
      simp only [Int.toNat_natCast, Nat.add_zero, List.map_cons, h1]
      rw [ih _ hx, hd, ht]
      conv => rhs; rw [he]
      rw [cut_at, List.nil_append]
      intro c hc e
      subst e
      obtain ⟨k, hk⟩ := List.mem_iff_getElem?.mp hc
      rw [List.getElem?_take] at hk
      split at hk
      · rename_i hki
        rw [index47] at h
        exact (Lib.indexByte_some h).2 k hki hk
      · simp at hk
end Go.Proofs.YtjholoajgnpodaaDoor
