/-
  The walks of path's small functions, and of the reference's.
-/
import Derived.Test.YtdgcmapmnkopaaaDoorRow
namespace Go.Proofs.YtdgcmapmnkopaaaDoor
open Go.RowKit

theorem none_true {s : ByteArray} (h : s.size = 0) : s.toList.isEmpty = true := by
  rw [ByteArray.toList_eq, List.eq_nil_of_length_eq_zero (l := s.data.toList) (by rw [list_len]; exact h)]
  rfl
theorem none_false {s : ByteArray} (h : 0 < s.size) : s.toList.isEmpty = false := by
  rw [ByteArray.toList_eq]
  cases hx : s.data.toList with
  | nil =>
    have := list_len s
    rw [hx] at this
    simp at this
    omega
  | cons a t => rfl

/-- The path of an entry in a directory. -/
def undr (d n : ByteArray) : ByteArray := if d.size = 0 then n else d ++ ⟨#[47]⟩ ++ n
theorem undr_none {d n : ByteArray} (h : d.size = 0) : undr d n = n := if_pos h
theorem undr_some {d n : ByteArray} (h : 0 < d.size) : undr d n = d ++ ⟨#[47]⟩ ++ n := if_neg (by omega)

set_option maxHeartbeats 400000 in
set_option maxRecDepth 4000 in
theorem under_any (d n : ByteArray) (w : World) (hd : d.size ≤ 1048576) (hn : n.size ≤ 1048576) :
    Calls Tryd.prog 27 #[.string d, .string n] w fun e w' => e = .returned (.string (undr d n)) ∧ w = w' := by
  by_cases h : d.size = 0
  · have he := none_true h
    rw [undr_none h]
    clear h
    go_enter Tryd.func27, Tryd.ntmps27
    go_wp2
    go_ret
    exact ⟨rfl, rfl⟩
  · have he := none_false (s := d) (by omega)
    rw [undr_some (by omega)]
    have h1 : (⟨#[47]⟩ : ByteArray).size = 1 := rfl
    have h2 : (d ++ ⟨#[47]⟩ : ByteArray).size = d.size + 1 := by rw [ByteArray.size_append, h1]
    clear h
    go_enter Tryd.func27, Tryd.ntmps27
    go_wp2
    go_ret
    exact ⟨rfl, rfl⟩
set_option maxHeartbeats 400000 in
set_option maxRecDepth 4000 in
theorem runder_any (d n : ByteArray) (w : World) (hd : d.size ≤ 1048576) (hn : n.size ≤ 1048576) :
    Calls Tryd.prog 28 #[.string d, .string n] w fun e w' => e = .returned (.string (undr d n)) ∧ w = w' := by
  by_cases h : d.size = 0
  · have he := none_true h
    rw [undr_none h]
    clear h
    go_enter Tryd.func28, Tryd.ntmps28
    go_wp2
    go_ret
    exact ⟨rfl, rfl⟩
  · have he := none_false (s := d) (by omega)
    rw [undr_some (by omega)]
    have h1 : (⟨#[47]⟩ : ByteArray).size = 1 := rfl
    have h2 : (d ++ ⟨#[47]⟩ : ByteArray).size = d.size + 1 := by rw [ByteArray.size_append, h1]
    clear h
    go_enter Tryd.func28, Tryd.ntmps28
    go_wp2
    go_ret
    exact ⟨rfl, rfl⟩

/-- Whether a path lies in a directory. -/
def wthn (d p : ByteArray) : Bool := if d.size = 0 then p.size != 0 else decide (d.size + 1 < p.size) && ((p.extract 0 d.size).toList == d.toList) && (p.data.toList.getD d.size 0 == 47)
theorem pt_at (s : ByteArray) (i : Nat) (h : i < s.size) : s.data.toList.getD i 0 = s[i] := by
  rw [List.getD_eq_getElem?_getD, List.getElem?_eq_getElem (by rw [list_len]; exact h)]
  rfl
theorem pt47 (c : UInt8) : ((c.toNat : Int) == 47) = (c == 47) := by
  by_cases h : c = 47
  · subst h; rfl
  · have : ¬ c.toNat = 47 := fun e => h (UInt8.toNat_inj.mp (by rw [e]; rfl))
    have e1 : (c == 47) = false := by simp [h]
    rw [e1, beq_eq_false_iff_ne]
    omega

set_option maxHeartbeats 400000 in
set_option maxRecDepth 4000 in
theorem rwithin_any (d p : ByteArray) (w : World) (hd : d.size ≤ 1048576) (hp : p.size ≤ 1048576) :
    Calls Tryd.prog 30 #[.string d, .string p] w fun e w' => e = .returned (.bool (wthn d p)) ∧ w = w' := by
  by_cases h : d.size = 0
  · have he := none_true h
    have hw : wthn d p = !p.toList.isEmpty := by
      unfold wthn
      rw [if_pos h]
      by_cases hz : p.size = 0
      · rw [none_true hz, hz]; rfl
      · rw [none_false (by omega), bne_iff_ne.mpr hz]; rfl
    rw [hw]
    clear h hw
    go_enter Tryd.func30, Tryd.ntmps30
    go_wp2
    go_ret
    exact ⟨rfl, rfl⟩
  · have he := none_false (s := d) (by omega)
    by_cases hlt : d.size + 1 < p.size
    · have hds : d.size < p.size := by omega
      have h47 := pt47 (p[d.size])
      cases hx : ((p.extract 0 d.size).toList == d.toList) with
      | false =>
        have hw : wthn d p = false := by
          unfold wthn
          rw [if_neg h, hx]
          simp
        rw [hw]
        clear hw h
        go_enter Tryd.func30, Tryd.ntmps30
        go_wp2
        go_ret
        exact ⟨rfl, rfl⟩
      | true =>
        have hw : wthn d p = (p[d.size] == 47) := by
          unfold wthn
          rw [if_neg h, hx, pt_at p d.size hds, decide_eq_true hlt]
          simp
        rw [hw]
        clear hw h
        go_enter Tryd.func30, Tryd.ntmps30
        go_wp2
        go_ret
        exact ⟨rfl, rfl⟩
    · have hw : wthn d p = false := by
        unfold wthn
        rw [if_neg h, decide_eq_false hlt]
        rfl
      rw [hw]
      clear hw h
      go_enter Tryd.func30, Tryd.ntmps30
      go_wp2
      go_ret
      exact ⟨rfl, rfl⟩
end Go.Proofs.YtdgcmapmnkopaaaDoor
