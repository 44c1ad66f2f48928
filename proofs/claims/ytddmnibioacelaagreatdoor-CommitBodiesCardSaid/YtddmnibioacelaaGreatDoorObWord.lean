/-
  The walks of Word, Kind and length.
-/
import Derived.Test.YtddmnibioacelaaGreatDoorObNumPk
import Derived.Test.YtddmnibioacelaaGreatDoorShelf
namespace Go.Proofs.YtddmnibioacelaaGreatDoor
open Go.RowKit

/-- The words' table. -/
structure WoTab (w : World) : Prop where
  a0 : w.cell? ⟨0, 0, none⟩ = some (.string ⟨#[]⟩)
  a1 : w.cell? ⟨0, 1, none⟩ = some (.string ⟨#[98, 108, 111, 98]⟩)
  a2 : w.cell? ⟨0, 2, none⟩ = some (.string ⟨#[116, 114, 101, 101]⟩)
  a3 : w.cell? ⟨0, 3, none⟩ = some (.string ⟨#[99, 111, 109, 109, 105, 116]⟩)
  a4 : w.cell? ⟨0, 4, none⟩ = some (.string ⟨#[116, 97, 103]⟩)
theorem WoTab.below {w w' : World} (h : WoTab w) (hb : Below w.heap.size w w') : WoTab w' := ⟨cell_bel h.a0 hb, cell_bel h.a1 hb, cell_bel h.a2 hb, cell_bel h.a3 hb, cell_bel h.a4 hb⟩

set_option maxHeartbeats 1000000 in
theorem word_any (k : Int) (w : World) (h : WoTab w) :
    Calls Tryz.prog 51 #[.int .i64 k] w fun e w' => e = .returned (.string (str (wordL k))) ∧ w' = w := by
  obtain ⟨c0, c1, c2, c3, c4⟩ := h
  by_cases hlo : k < 0
  · have HR : Hid (str (wordL k) = ⟨#[]⟩) := by show _ = _; rw [wordL_nil.mpr (by omega)]; rfl
    go_enter Tryz.func51, Tryz.ntmps51
    go_wp2
    go_ret
    exact ⟨by rw [HR.out]; rfl, rfl⟩
  by_cases hhi : 5 ≤ k
  · have HR : Hid (str (wordL k) = ⟨#[]⟩) := by show _ = _; rw [wordL_nil.mpr (by omega)]; rfl
    go_enter Tryz.func51, Tryz.ntmps51
    go_wp2
    go_ret
    exact ⟨by rw [HR.out]; rfl, rfl⟩
  have hk : k = 0 ∨ k = 1 ∨ k = 2 ∨ k = 3 ∨ k = 4 := by omega
  clear hlo hhi
  rcases hk with rfl | rfl | rfl | rfl | rfl
  all_goals
    go_enter Tryz.func51, Tryz.ntmps51
    go_wp2
    go_ret
    exact ⟨rfl, rfl⟩

theorem hne_lit (l : List UInt8) (s : ByteArray) (h : s.data.toList ≠ l) : (l == s.toList) = false := by
  rw [ByteArray.toList_eq, beq_eq_false_iff_ne]
  exact fun e => h e.symm

set_option maxHeartbeats 2000000 in
set_option maxRecDepth 4000 in
theorem kind_any (s : ByteArray) (w : World) (h : WoTab w) :
    Calls Tryz.prog 80 #[.string s] w fun e w' => e = .returned (.int .i64 (kindL s.data.toList : Int)) ∧ w' = w := by
  obtain ⟨c0, c1, c2, c3, c4⟩ := h
  go_enter Tryz.func80, Tryz.ntmps80
  go_wp2
  go_loop [6] (fun iv => ∃ k : Nat, k ≤ 5 ∧ iv = .int .i64 (k : Int) ∧ Hid (∀ j : Nat, j < k → s.data.toList ≠ wordL (j : Int))) (fun iv => 5 - (intOf iv).toNat)
  case atStart => exact ⟨0, by omega, rfl, fun j h => by omega⟩
  case round =>
    obtain ⟨k, hk, rfl, HN⟩ := hrel
    have hk6 : k = 0 ∨ k = 1 ∨ k = 2 ∨ k = 3 ∨ k = 4 ∨ k = 5 := by omega
    clear hk
    rcases hk6 with rfl | rfl | rfl | rfl | rfl | rfl
    · have ix : ∀ w, (Instr.index 93 (.agg #[.string { data := #[] }, .string { data := #[98, 108, 111, 98] }, .string { data := #[116, 114, 101, 101] }, .string { data := #[99, 111, 109, 109, 105, 116] }, .string { data := #[116, 97, 103] }]) (.int .i64 0)).run Tryz.prog w = .ok (.string { data := #[] }) w := fun _ => by kernel_rfl
      by_cases hs : s = ⟨#[]⟩
      · subst hs
        go_wp2
        go_ret
        exact ⟨rfl, rfl⟩
      · have hne : ((⟨#[]⟩ : ByteArray).toList == s.toList) = false := ba_ne fun e => hs e.symm
        have f1 : s.toList.isEmpty = false := by
          rw [ByteArray.toList_eq]
          cases hx : s.data.toList with
          | nil => exact absurd (ba_ext (by rw [hx])) hs
          | cons a t => rfl
        have f2 : ([] == s.toList) = false := by
          rw [beq_eq_false_iff_ne]
          intro e
          rw [← e] at f1
          cases f1
        have HN2 : Hid (∀ j : Nat, j < 1 → s.data.toList ≠ wordL (j : Int)) := fun j h => by
          rcases Nat.lt_or_ge j 0 with h' | h'
          · exact HN.out j h'
          · obtain rfl : j = 0 := by omega
            intro e
            exact hs (ba_ext (by rw [e]; rfl))
        clear HN hs
        go_wp2
        go_round
        case rel => exact ⟨1, by omega, rfl, HN2.out⟩
        case measure => simp [intOf]
    · have ix : ∀ w, (Instr.index 93 (.agg #[.string { data := #[] }, .string { data := #[98, 108, 111, 98] }, .string { data := #[116, 114, 101, 101] }, .string { data := #[99, 111, 109, 109, 105, 116] }, .string { data := #[116, 97, 103] }]) (.int .i64 1)).run Tryz.prog w = .ok (.string { data := #[98, 108, 111, 98] }) w := fun _ => by kernel_rfl
      by_cases hs : s = ⟨#[98, 108, 111, 98]⟩
      · subst hs
        go_wp2
        go_ret
        exact ⟨rfl, rfl⟩
      · have hne : ((⟨#[98, 108, 111, 98]⟩ : ByteArray).toList == s.toList) = false := ba_ne fun e => hs e.symm
        have f2 : ([98, 108, 111, 98] == s.toList) = false := hne_lit [98, 108, 111, 98] s (fun e => hs (ba_ext (by rw [e])))
        have HN2 : Hid (∀ j : Nat, j < 2 → s.data.toList ≠ wordL (j : Int)) := fun j h => by
          rcases Nat.lt_or_ge j 1 with h' | h'
          · exact HN.out j h'
          · obtain rfl : j = 1 := by omega
            intro e
            exact hs (ba_ext (by rw [e]; rfl))
        clear HN hs
        go_wp2
        go_round
        case rel => exact ⟨2, by omega, rfl, HN2.out⟩
        case measure => simp [intOf]
    · have ix : ∀ w, (Instr.index 93 (.agg #[.string { data := #[] }, .string { data := #[98, 108, 111, 98] }, .string { data := #[116, 114, 101, 101] }, .string { data := #[99, 111, 109, 109, 105, 116] }, .string { data := #[116, 97, 103] }]) (.int .i64 2)).run Tryz.prog w = .ok (.string { data := #[116, 114, 101, 101] }) w := fun _ => by kernel_rfl
      by_cases hs : s = ⟨#[116, 114, 101, 101]⟩
      · subst hs
        go_wp2
        go_ret
        exact ⟨rfl, rfl⟩
      · have hne : ((⟨#[116, 114, 101, 101]⟩ : ByteArray).toList == s.toList) = false := ba_ne fun e => hs e.symm
        have f2 : ([116, 114, 101, 101] == s.toList) = false := hne_lit [116, 114, 101, 101] s (fun e => hs (ba_ext (by rw [e])))
        have HN2 : Hid (∀ j : Nat, j < 3 → s.data.toList ≠ wordL (j : Int)) := fun j h => by
          rcases Nat.lt_or_ge j 2 with h' | h'
          · exact HN.out j h'
          · obtain rfl : j = 2 := by omega
            intro e
            exact hs (ba_ext (by rw [e]; rfl))
        clear HN hs
        go_wp2
        go_round
        case rel => exact ⟨3, by omega, rfl, HN2.out⟩
        case measure => simp [intOf]
    · have ix : ∀ w, (Instr.index 93 (.agg #[.string { data := #[] }, .string { data := #[98, 108, 111, 98] }, .string { data := #[116, 114, 101, 101] }, .string { data := #[99, 111, 109, 109, 105, 116] }, .string { data := #[116, 97, 103] }]) (.int .i64 3)).run Tryz.prog w = .ok (.string { data := #[99, 111, 109, 109, 105, 116] }) w := fun _ => by kernel_rfl
      by_cases hs : s = ⟨#[99, 111, 109, 109, 105, 116]⟩
      · subst hs
        go_wp2
        go_ret
        exact ⟨rfl, rfl⟩
      · have hne : ((⟨#[99, 111, 109, 109, 105, 116]⟩ : ByteArray).toList == s.toList) = false := ba_ne fun e => hs e.symm
        have f2 : ([99, 111, 109, 109, 105, 116] == s.toList) = false := hne_lit [99, 111, 109, 109, 105, 116] s (fun e => hs (ba_ext (by rw [e])))
        have HN2 : Hid (∀ j : Nat, j < 4 → s.data.toList ≠ wordL (j : Int)) := fun j h => by
          rcases Nat.lt_or_ge j 3 with h' | h'
          · exact HN.out j h'
          · obtain rfl : j = 3 := by omega
            intro e
            exact hs (ba_ext (by rw [e]; rfl))
        clear HN hs
        go_wp2
        go_round
        case rel => exact ⟨4, by omega, rfl, HN2.out⟩
        case measure => simp [intOf]
    · have ix : ∀ w, (Instr.index 93 (.agg #[.string { data := #[] }, .string { data := #[98, 108, 111, 98] }, .string { data := #[116, 114, 101, 101] }, .string { data := #[99, 111, 109, 109, 105, 116] }, .string { data := #[116, 97, 103] }]) (.int .i64 4)).run Tryz.prog w = .ok (.string { data := #[116, 97, 103] }) w := fun _ => by kernel_rfl
      by_cases hs : s = ⟨#[116, 97, 103]⟩
      · subst hs
        go_wp2
        go_ret
        exact ⟨rfl, rfl⟩
      · have hne : ((⟨#[116, 97, 103]⟩ : ByteArray).toList == s.toList) = false := ba_ne fun e => hs e.symm
        have f2 : ([116, 97, 103] == s.toList) = false := hne_lit [116, 97, 103] s (fun e => hs (ba_ext (by rw [e])))
        have HN2 : Hid (∀ j : Nat, j < 5 → s.data.toList ≠ wordL (j : Int)) := fun j h => by
          rcases Nat.lt_or_ge j 4 with h' | h'
          · exact HN.out j h'
          · obtain rfl : j = 4 := by omega
            intro e
            exact hs (ba_ext (by rw [e]; rfl))
        clear HN hs
        go_wp2
        go_round
        case rel => exact ⟨5, by omega, rfl, HN2.out⟩
        case measure => simp [intOf]
    · have HK : Hid (kindL s.data.toList = 0) := by
        show _ = _
        rcases Nat.eq_zero_or_pos (kindL s.data.toList) with h | h
        · exact h
        · exact absurd (word_kind (by omega)).symm (HN.out _ (by have := kindL_le s.data.toList; omega))
      clear HN
      go_wp2
      go_ret
      exact ⟨by rw [HK.out]; rfl, rfl⟩
end Go.Proofs.YtddmnibioacelaaGreatDoor
