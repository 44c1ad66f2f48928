/-
  The contracts of path over a world that has only grown since a call began; the walk of the law package's own check.
-/
import Derived.Test.YtdgcmapmnkopaaaDoorPtMeet
import Derived.Test.YtdgcmapmnkopaaaDoorPtJoin
import Derived.Test.YtdgcmapmnkopaaaDoorPtLast
import Derived.Test.YtdgcmapmnkopaaaDoorPtRIs
namespace Go.Proofs.YtdgcmapmnkopaaaDoor
open Go.RowKit

/-- w is w0 with new blocks, and holds an int where bytealg.MaxLen lies. -/
def PI (w0 w : World) : Prop := Below w0.heap.size w0 w ∧ ∃ m, w.cell? ⟨0, 0, none⟩ = some (.int .i64 m)
theorem PI.step {w0 w w' : World} (h : PI w0 w) (hb : Below w.heap.size w w') : PI w0 w' := ⟨h.1.trans (hb.mono h.1.size), by
  obtain ⟨m, hm⟩ := h.2
  exact ⟨m, (hb.cell (p := ⟨0, 0, none⟩) (World.block_lt_of_cell? w _ hm)).trans hm⟩⟩
theorem PI.alloc {w0 w : World} (h : PI w0 w) (o : Obj) : PI w0 (w.alloc o) := h.step ((Below.refl _ _).alloc (Nat.le_refl _) _)
theorem PI.drewN {w0 w : World} (h : PI w0 w) (n : Nat) : PI w0 (w.drewN n) := h.step (below_drewN (Below.refl _ _) _)

theorem cut_some : ∀ (l cur : List UInt8), ∃ x xs, cut cur l = x :: xs
  | [], cur => ⟨cur, [], rfl⟩
  | c :: r, cur => by
    rw [cut]
    split
    · exact ⟨_, _, rfl⟩
    · exact cut_some r _
theorem jn_cut : ∀ (l cur : List UInt8), jn (cut cur l) = cur ++ l
  | [], cur => by rw [cut, jn, Lib.join_one, List.append_nil]
  | c :: r, cur => by
    rw [cut]
    split
    · rename_i hc
      have ih := jn_cut r []
      obtain ⟨x, xs, hx⟩ := cut_some r []
      rw [hx, jn, Lib.join_cons] at ih
      rw [hx, jn, Lib.join_cons, Lib.joinTail, List.map_cons, List.flatten_cons]
      rw [Lib.joinTail] at ih
      rw [List.append_assoc, ih, hc]
      rfl
    · rw [jn_cut r (cur ++ [c])]
      simp
theorem jn_prts (s : ByteArray) : jn (prts s) = s.data.toList := by
  unfold prts
  split
  · rename_i h
    rw [List.eq_nil_of_length_eq_zero (l := s.data.toList) (by rw [list_len]; exact h)]
    rfl
  · rw [jn_cut]
    rfl

section
variable {w0 w : World} (h : PI w0 w)
include h
theorem is_inv (s : ByteArray) (b : Bool) (hs : s.size ≤ 1048576) (hb : isP s = b) : Calls Tryd.prog 16 #[.string s] w fun e w' => e = .returned (.bool b) ∧ PI w0 w' := by
  obtain ⟨m, hm⟩ := h.2
  exact (is_any s m w hs hm).mono fun _ _ x => ⟨by rw [x.1, hb], h.step x.2⟩
theorem ris_inv (s : ByteArray) (b : Bool) (hs : s.size ≤ 1048576) (hb : isP s = b) : Calls Tryd.prog 17 #[.string s] w fun e w' => e = .returned (.bool b) ∧ PI w0 w' :=
  (ris_any s w hs).mono fun _ _ x => ⟨by rw [x.1, hb], h.step x.2⟩
theorem parts_inv (s : ByteArray) (ls : List (List UInt8)) (n : Nat) (hs : s.size ≤ 1048576) (hl : ls = prts s) (hn : n = ls.length) :
    Calls Tryd.prog 19 #[.string s] w fun e w' => (∃ p cap, e = .returned (.slice p n cap) ∧ n ≤ cap ∧ SRw w' p ls) ∧ Below w.heap.size w w' := by
  obtain ⟨m, hm⟩ := h.2
  have x := parts_cap s m w hs hm
  rw [← hl, ← hn] at x
  exact x
omit h in
theorem rparts_inv (s : ByteArray) (ls : List (List UInt8)) (n : Nat) (hs : s.size ≤ 1048576) (hl : ls = prts s) (hn : n = ls.length) :
    Calls Tryd.prog 20 #[.string s] w fun e w' => (∃ p cap, e = .returned (.slice p n cap) ∧ SRw w' p ls) ∧ Below w.heap.size w w' := by
  have x := rparts_any s w hs
  rw [← hl, ← hn] at x
  exact x
theorem lc_is0 : Calls Tryd.prog 16 #[.string { data := #[97, 47, 98, 46, 99] }] w fun e w' => e = .returned (.bool true) ∧ PI w0 w' := is_inv h _ _ (by decide) (by decide +kernel)
theorem lc_is1 : Calls Tryd.prog 16 #[.string { data := #[] }] w fun e w' => e = .returned (.bool false) ∧ PI w0 w' := is_inv h _ _ (by decide) (by decide +kernel)
theorem lc_is2 : Calls Tryd.prog 16 #[.string { data := #[47, 97] }] w fun e w' => e = .returned (.bool false) ∧ PI w0 w' := is_inv h _ _ (by decide) (by decide +kernel)
theorem lc_is3 : Calls Tryd.prog 16 #[.string { data := #[97, 47, 47, 98] }] w fun e w' => e = .returned (.bool false) ∧ PI w0 w' := is_inv h _ _ (by decide) (by decide +kernel)
theorem lc_is4 : Calls Tryd.prog 16 #[.string { data := #[97, 47, 46, 46, 47, 98] }] w fun e w' => e = .returned (.bool false) ∧ PI w0 w' := is_inv h _ _ (by decide) (by decide +kernel)
theorem lc_is5 : Calls Tryd.prog 16 #[.string { data := #[46, 103, 114, 97, 102, 116, 47, 120] }] w fun e w' => e = .returned (.bool false) ∧ PI w0 w' := is_inv h _ _ (by decide) (by decide +kernel)
theorem lc_dir : Calls Tryd.prog 21 #[.string { data := #[97, 47, 98, 47, 99] }] w fun e w' => e = .returned (.string { data := #[97, 47, 98] }) ∧ PI w0 w' :=
  (dir_any _ w (by decide)).mono fun _ _ x => ⟨by rw [x.1]; exact ret_str (by decide +kernel), x.2 ▸ h⟩
theorem lc_name : Calls Tryd.prog 23 #[.string { data := #[97, 47, 98, 47, 99] }] w fun e w' => e = .returned (.string { data := #[99] }) ∧ PI w0 w' :=
  (name_any _ w (by decide)).mono fun _ _ x => ⟨by rw [x.1]; exact ret_str (by decide +kernel), x.2 ▸ h⟩
theorem lc_in1 : Calls Tryd.prog 29 #[.string { data := #[97] }, .string { data := #[97, 98] }] w fun e w' => e = .returned (.bool false) ∧ PI w0 w' :=
  (within_any _ _ w (by decide) (by decide)).mono fun _ _ x => ⟨by rw [x.1]; exact ret_bool (by decide +kernel), x.2 ▸ h⟩
theorem lc_in2 : Calls Tryd.prog 29 #[.string { data := #[97] }, .string { data := #[97, 47, 98] }] w fun e w' => e = .returned (.bool true) ∧ PI w0 w' :=
  (within_any _ _ w (by decide) (by decide)).mono fun _ _ x => ⟨by rw [x.1]; exact ret_bool (by decide +kernel), x.2 ▸ h⟩
theorem lc_under : Calls Tryd.prog 27 #[.string { data := #[] }, .string { data := #[120] }] w fun e w' => e = .returned (.string { data := #[120] }) ∧ PI w0 w' :=
  (under_any _ _ w (by decide) (by decide)).mono fun _ _ x => ⟨by rw [x.1]; exact ret_str (by decide +kernel), x.2 ▸ h⟩
theorem lc_join : Calls Tryd.prog 25 #[.slice (some ⟨w.heap.size, 0, none⟩) 2 2] (w.alloc (.cells #[.string { data := #[97] }, .string { data := #[98] }] 9)) fun e w' => e = .returned (.string { data := #[97, 47, 98] }) ∧ PI w0 w' :=
  (pjoin_any [[97], [98]] _ 2 2 _ _ rfl (srw_new w [{ data := #[97] }, { data := #[98] }] 9) (by decide) (by decide) (by decide) rfl).mono fun _ _ x => ⟨by rw [x.1]; exact ret_str (by decide +kernel), (h.alloc _).step x.2⟩
omit h in
theorem lv_met : Met [[97, 47, 98], [99], [97]] 0 2 true := by
  refine ⟨by decide, by decide, (by decide +kernel : coll [97, 47, 98] [97] = true), fun x y a => absurd a (Nat.not_lt_zero _), fun y a b => ?_⟩
  obtain rfl : y = 1 := by omega
  exact fun e => absurd (show coll [97, 47, 98] [99] = true from e) (by decide +kernel)
theorem lc_meet : Calls Tryd.prog 31 #[.slice (some ⟨w.heap.size, 0, none⟩) 3 3] (w.alloc (.cells #[.string { data := #[97, 47, 98] }, .string { data := #[99] }, .string { data := #[97] }] 9)) fun e w' => e = .returned (.tuple #[.int .i64 0, .int .i64 2, .bool true]) ∧ PI w0 w' :=
  (meet_any [[97, 47, 98], [99], [97]] _ 3 3 _ rfl (srw_new w [{ data := #[97, 47, 98] }, { data := #[99] }, { data := #[97] }] 9) (by decide) (by decide)).mono fun _ _ ⟨⟨i, k, b, x, hm⟩, y⟩ => ⟨by obtain ⟨rfl, rfl, rfl⟩ := hm.one lv_met; exact x, (h.alloc _).step y⟩
end

set_option maxHeartbeats 2000000 in
set_option maxRecDepth 10000 in
theorem lives_inv {w0 w : World} (h : PI w0 w) : Calls Tryd.prog 15 #[] w fun e w' => e = .returned (.bool true) ∧ PI w0 w' := by
  go_enter Tryd.func15, Tryd.ntmps15
  go_wp2_with (first
    | (go_at_call 31; ((with_reducible refine (lc_meet (by assumption)).mono ?_); rintro e w' ⟨rfl, hi⟩))
    | (go_at_call 16; first | ((with_reducible refine (lc_is0 (by assumption)).mono ?_); rintro e w' ⟨rfl, hi⟩) | ((with_reducible refine (lc_is1 (by assumption)).mono ?_); rintro e w' ⟨rfl, hi⟩) | ((with_reducible refine (lc_is2 (by assumption)).mono ?_); rintro e w' ⟨rfl, hi⟩) | ((with_reducible refine (lc_is3 (by assumption)).mono ?_); rintro e w' ⟨rfl, hi⟩) | ((with_reducible refine (lc_is4 (by assumption)).mono ?_); rintro e w' ⟨rfl, hi⟩) | ((with_reducible refine (lc_is5 (by assumption)).mono ?_); rintro e w' ⟨rfl, hi⟩))
    | (go_at_call 21; ((with_reducible refine (lc_dir (by assumption)).mono ?_); rintro e w' ⟨rfl, hi⟩))
    | (go_at_call 23; ((with_reducible refine (lc_name (by assumption)).mono ?_); rintro e w' ⟨rfl, hi⟩))
    | (go_at_call 29; first | ((with_reducible refine (lc_in1 (by assumption)).mono ?_); rintro e w' ⟨rfl, hi⟩) | ((with_reducible refine (lc_in2 (by assumption)).mono ?_); rintro e w' ⟨rfl, hi⟩))
    | (go_at_call 27; ((with_reducible refine (lc_under (by assumption)).mono ?_); rintro e w' ⟨rfl, hi⟩))
    | (go_at_call 25; ((with_reducible refine (lc_join (by assumption)).mono ?_); rintro e w' ⟨rfl, hi⟩)))
  go_ret
  exact ⟨rfl, ‹_›⟩
end Go.Proofs.YtdgcmapmnkopaaaDoor
