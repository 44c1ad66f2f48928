/-
  The walks of the laws SimilTells and SimilBoth.
-/
import Derived.Test.YtddcogcjmmjpkaaSmTurn
namespace Go.Proofs.Ytddcogcjmmjpkaa
open Go.RowKit Go.Maps Go.WideMaps

theorem few_size {s : ByteArray} (h : fewB s = true) : s.size ≤ 3000 := by
  unfold fewB at h
  rw [Bool.and_eq_true, decide_eq_true_eq] at h
  exact h.1
theorem few_lines {s : ByteArray} (h : fewB s = true) : (split s.data.toList).length ≤ 120 := by
  unfold fewB at h
  rw [Bool.and_eq_true, decide_eq_true_eq, decide_eq_true_eq] at h
  exact h.2
theorem rcommon_inv {W w : World} (h : Below W.heap.size W w) (a b : ByteArray) (r : Nat) (ha : a.size ≤ 1048576) (hb : b.size ≤ 1048576) (hr : r = shS a b) :
    Calls Try.prog 24 #[.string a, .string b] w fun e w' => e = .returned (.int .i64 r) ∧ Below W.heap.size W w' := (rcommon_any a b r w ha hb hr).mono fun _ _ x => ⟨x.1, h.trans (x.2.mono h.size)⟩
theorem rscore_inv {W w : World} (h : Below W.heap.size W w) (a b : ByteArray) (r : Nat) (ha : a.size ≤ 1048576) (hb : b.size ≤ 1048576) (hr : r = scS a b) :
    Calls Try.prog 26 #[.string a, .string b] w fun e w' => e = .returned (.int .i64 r) ∧ Below W.heap.size W w' := (rscore_any a b r w ha hb hr).mono fun _ _ x => ⟨x.1, h.trans (x.2.mono h.size)⟩
theorem atLeast_inv {W w : World} (h : Below W.heap.size W w) (a b : ByteArray) (least : Int) (r : Bool) (ha : a.size ≤ 1048576) (hb : b.size ≤ 1048576) (hr : r = decide (least ≤ (scS a b : Int))) :
    Calls Try.prog 27 #[.string a, .string b, .int .i64 least] w fun e w' => e = .returned (.bool r) ∧ Below W.heap.size W w' := (atLeast_any a b least r w ha hb hr).mono fun _ _ x => ⟨x.1, h.trans (x.2.mono h.size)⟩
theorem above_inv {W w : World} (h : Below W.heap.size W w) (a b : ByteArray) (least : Int) (r : Bool) (ha : a.size ≤ 1048576) (hb : b.size ≤ 1048576) (hr : r = decide (least ≤ (scS a b : Int))) :
    Calls Try.prog 28 #[.string a, .string b, .int .i64 least] w fun e w' => e = .returned (.bool r) ∧ Below W.heap.size W w' := (above_any a b least r w ha hb hr).mono fun _ _ x => ⟨x.1, h.trans (x.2.mono h.size)⟩

set_option maxHeartbeats 4000000 in
set_option maxRecDepth 8000 in
theorem smTells_walk (a b : ByteArray) (least : Int) (W : World) : Calls Try.prog 5 #[.string a, .string b, .int .i64 least] W fun e W' => e = .returned (.bool true) ∧ Below W.heap.size W W' := by
  have hb0 := Below.refl W.heap.size W
  rcases hfa : fewB a with _ | _
  · have HFA := Lib.hid hfa.symm
    clear hfa
    go_enter Try.func5, Try.ntmps5
    go_wp2_with (first
      | (go_at_call 21; ((with_reducible refine (few_inv (by assumption) a false HFA.out).mono ?_); rintro e w' ⟨rfl, hi⟩))
      | (go_at_call 22; ((with_reducible refine (lives_inv (by assumption)).mono ?_); rintro e w' ⟨rfl, hi⟩)))
    go_ret
    exact ⟨rfl, by assumption⟩
  rcases hfb : fewB b with _ | _
  · have HFA := Lib.hid hfa.symm
    have HFB := Lib.hid hfb.symm
    clear hfa hfb
    go_enter Try.func5, Try.ntmps5
    go_wp2_with (first
      | (go_at_call 21; first
        | ((with_reducible refine (few_inv (by assumption) a true HFA.out).mono ?_); rintro e w' ⟨rfl, hi⟩)
        | ((with_reducible refine (few_inv (by assumption) b false HFB.out).mono ?_); rintro e w' ⟨rfl, hi⟩))
      | (go_at_call 22; ((with_reducible refine (lives_inv (by assumption)).mono ?_); rintro e w' ⟨rfl, hi⟩)))
    go_ret
    exact ⟨rfl, by assumption⟩
  have hsa := few_size hfa
  have hsb := few_size hfb
  have HFA := Lib.hid hfa.symm
  have HFB := Lib.hid hfb.symm
  clear hfa hfb
  obtain ⟨m, hm⟩ : ∃ m, m = shS a b := ⟨_, rfl⟩
  obtain ⟨s, hs⟩ : ∃ s, s = scS a b := ⟨_, rfl⟩
  obtain ⟨t, ht⟩ : ∃ t, t = decide (least ≤ (scS a b : Int)) := ⟨_, rfl⟩
  have HM := Lib.hid hm
  have HS := Lib.hid hs
  have HT := Lib.hid ht
  clear hm hs ht
  go_enter Try.func5, Try.ntmps5
  go_wp2_with (first
    | (go_at_call 21; first
      | ((with_reducible refine (few_inv (by assumption) a true HFA.out).mono ?_); rintro e w' ⟨rfl, hi⟩)
      | ((with_reducible refine (few_inv (by assumption) b true HFB.out).mono ?_); rintro e w' ⟨rfl, hi⟩))
    | (go_at_call 22; ((with_reducible refine (lives_inv (by assumption)).mono ?_); rintro e w' ⟨rfl, hi⟩))
    | (go_at_call 23; ((with_reducible refine (common_inv (by assumption) a b m (by omega) (by omega) HM.out).mono ?_); rintro e w' ⟨rfl, hi⟩))
    | (go_at_call 24; ((with_reducible refine (rcommon_inv (by assumption) a b m (by omega) (by omega) HM.out).mono ?_); rintro e w' ⟨rfl, hi⟩))
    | (go_at_call 25; ((with_reducible refine (score_inv (by assumption) a b s (by omega) (by omega) HS.out).mono ?_); rintro e w' ⟨rfl, hi⟩))
    | (go_at_call 26; ((with_reducible refine (rscore_inv (by assumption) a b s (by omega) (by omega) HS.out).mono ?_); rintro e w' ⟨rfl, hi⟩))
    | (go_at_call 27; ((with_reducible refine (atLeast_inv (by assumption) a b least t (by omega) (by omega) HT.out).mono ?_); rintro e w' ⟨rfl, hi⟩))
    | (go_at_call 28; ((with_reducible refine (above_inv (by assumption) a b least t (by omega) (by omega) HT.out).mono ?_); rintro e w' ⟨rfl, hi⟩)))
  go_ret
  exact ⟨rfl, by assumption⟩

theorem shS_self (a : ByteArray) : shS a a = a.size := by rw [shS, shr_self, ← size_join]
theorem scS_self (a : ByteArray) : scS a a = 100 := scr_self _ (size_join a)
theorem both_full (a b : ByteArray) : scS a b = 100 ↔ ((split a.data.toList).length = (split b.data.toList).length ∧ ∀ l ∈ split a.data.toList, (split a.data.toList).count l = (split b.data.toList).count l) := by
  unfold scS
  rw [scr_full (size_join a) (size_join b) (split_pos _) (split_pos _)]
  constructor
  · intro h
    exact ⟨h.length_eq, fun l _ => h.count_eq l⟩
  · intro h
    exact perm_of h.1 h.2

set_option maxHeartbeats 4000000 in
set_option maxRecDepth 8000 in
theorem smBoth_walk (a b : ByteArray) (W : World) : Calls Try.prog 7 #[.string a, .string b] W fun e W' => e = .returned (.bool true) ∧ Below W.heap.size W W' := by
  have hb0 := Below.refl W.heap.size W
  rcases hfa : fewB a with _ | _
  · have HFA := Lib.hid hfa.symm
    clear hfa
    go_enter Try.func7, Try.ntmps7
    go_wp2_with (first
      | (go_at_call 21; ((with_reducible refine (few_inv (by assumption) a false HFA.out).mono ?_); rintro e w' ⟨rfl, hi⟩))
      | (go_at_call 22; ((with_reducible refine (lives_inv (by assumption)).mono ?_); rintro e w' ⟨rfl, hi⟩)))
    go_ret
    exact ⟨rfl, by assumption⟩
  rcases hfb : fewB b with _ | _
  · have HFA := Lib.hid hfa.symm
    have HFB := Lib.hid hfb.symm
    clear hfa hfb
    go_enter Try.func7, Try.ntmps7
    go_wp2_with (first
      | (go_at_call 21; first
        | ((with_reducible refine (few_inv (by assumption) a true HFA.out).mono ?_); rintro e w' ⟨rfl, hi⟩)
        | ((with_reducible refine (few_inv (by assumption) b false HFB.out).mono ?_); rintro e w' ⟨rfl, hi⟩))
      | (go_at_call 22; ((with_reducible refine (lives_inv (by assumption)).mono ?_); rintro e w' ⟨rfl, hi⟩)))
    go_ret
    exact ⟨rfl, by assumption⟩
  have hsa := few_size hfa
  have hsb := few_size hfb
  have HFA := Lib.hid hfa.symm
  have HFB := Lib.hid hfb.symm
  clear hfa hfb
  obtain ⟨m, hm⟩ : ∃ m, m = shS a b := ⟨_, rfl⟩
  obtain ⟨s, hs⟩ : ∃ s, s = scS a b := ⟨_, rfl⟩
  have HM := Lib.hid hm
  have HS := Lib.hid hs
  have HM2 : Hid (m = shS b a) := by show _ = _; rw [hm]; exact shr_symm _ _
  have HS2 : Hid (s = scS b a) := by show _ = _; rw [hs]; exact scr_symm _ _ _ _
  have HM3 : Hid (a.size = shS a a) := (shS_self a).symm
  have HS3 : Hid (100 = scS a a) := (scS_self a).symm
  have hs1 : s ≤ 100 := by rw [hs]; exact scS_le a b
  obtain ⟨t, ht⟩ : ∃ t, t = ((s : Int) == 100) := ⟨_, rfl⟩
  have HT : Hid (t = true ↔ ((split a.data.toList).length = (split b.data.toList).length ∧ ∀ l ∈ split a.data.toList, (split a.data.toList).count l = (split b.data.toList).count l)) := by
    show _ ↔ _
    rw [← both_full, ← hs, ht, beq_iff_eq]
    omega
  have d1 := ht.symm
  have d2 : decide ((s : Int) ≤ 100) = true := decide_eq_true (by omega)
  have d3 : decide (s ≤ 100) = true := decide_eq_true hs1
  clear hm hs ht
  go_enter Try.func7, Try.ntmps7
  go_wp2_with (first
    | (go_at_call 21; first
      | ((with_reducible refine (few_inv (by assumption) a true HFA.out).mono ?_); rintro e w' ⟨rfl, hi⟩)
      | ((with_reducible refine (few_inv (by assumption) b true HFB.out).mono ?_); rintro e w' ⟨rfl, hi⟩))
    | (go_at_call 22; ((with_reducible refine (lives_inv (by assumption)).mono ?_); rintro e w' ⟨rfl, hi⟩))
    | (go_at_call 23; first
      | ((with_reducible refine (common_inv (by assumption) a b m (by omega) (by omega) HM.out).mono ?_); rintro e w' ⟨rfl, hi⟩)
      | ((with_reducible refine (common_inv (by assumption) b a m (by omega) (by omega) HM2.out).mono ?_); rintro e w' ⟨rfl, hi⟩)
      | ((with_reducible refine (common_inv (by assumption) a a a.size (by omega) (by omega) HM3.out).mono ?_); rintro e w' ⟨rfl, hi⟩))
    | (go_at_call 25; first
      | ((with_reducible refine (score_inv (by assumption) a b s (by omega) (by omega) HS.out).mono ?_); rintro e w' ⟨rfl, hi⟩)
      | ((with_reducible refine (score_inv (by assumption) b a s (by omega) (by omega) HS2.out).mono ?_); rintro e w' ⟨rfl, hi⟩)
      | ((with_reducible refine (score_inv (by assumption) a a 100 (by omega) (by omega) HS3.out).mono ?_); rintro e w' ⟨rfl, hi⟩))
    | (go_at_call 31; ((with_reducible refine (turned_inv (by assumption) a b t (by omega) (by omega) HT.out).mono ?_); rintro e w' ⟨rfl, hi⟩)))
  go_ret
  exact ⟨rfl, by assumption⟩
end Go.Proofs.Ytddcogcjmmjpkaa
