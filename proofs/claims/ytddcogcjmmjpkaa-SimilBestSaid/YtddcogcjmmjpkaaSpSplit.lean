/-
  The walk of lines.Split with the function that it hands to visit.
-/
import Derived.Test.YtddcogcjmmjpkaaSpVisit
namespace Go.Proofs.Ytddcogcjmmjpkaa
open Go.RowKit

theorem str_self (t : ByteArray) : str t.data.toList = t := ba_ext rfl
/-- What Split's function keeps. -/
def JS (W : World) (done : List (List UInt8)) (w : World) : Prop := ∃ v, w.heap[W.heap.size]? = some (.cells #[v] 22 (0, 0)) ∧ w.ownsRow (W.heap.size + 1) 9 1 v done.length (strs done) ∧ Below W.heap.size W w
theorem one_str (t : ByteArray) : ∀ u ∈ [Value.string t], u.oneCell' = true := by intro u hu; simp at hu; subst hu; rfl

set_option maxHeartbeats 2000000 in
set_option maxRecDepth 4000 in
theorem split1_any (W : World) (done : List (List UInt8)) (t : ByteArray) (wx : World) (hj : JS W done wx) (hd : done.length ≤ 1048576) :
    Calls Try.prog 104 #[.string t, .pointer (some ⟨W.heap.size, 0, none⟩)] wx fun e w' => e = .returned (.bool true) ∧ JS W (done ++ [t.data.toList]) w' := by
  obtain ⟨i0, hi, hz0, hz1, hz2⟩ := info_parts Try.infoStr
  obtain ⟨v, hr, ho, hb⟩ := hj
  have c0 := cell_of_row wx W.heap.size 0 _ _ _ hr
  have f0 := frozen_of_row wx W.heap.size 0 _ _ hr
  have hsz := hb.size
  have HR := Lib.hid hr
  clear hr
  go_enter Try.func104, Try.ntmps104
  go_wp2_with (at_builtin; refine wpList_append_own _ rfl _ _ 22 rfl (W.heap.size + 1) 9 i0 (.string ⟨#[]⟩) 1 16 Try.underlying22 hi hz0 hz1 hz2 rfl (by decide) _ _ _ rfl (ho.alloc _) ⟨wx.heap.size, 0, none⟩ 1 1 [.string t] rfl rfl (new_cell wx _ _) (one_str _) (by unfold maxLen; omega) (by omega) (by have := row_lt HR.out; simp; omega) ?_; intro v1 w1 ho1 hg1 _; obtain ⟨g1, cap1, rfl, _, _⟩ := ho1.form (by omega); have hr1 := own_row (ho.alloc _) (row_alloc HR.out (row_lt HR.out)) (by decide) (by have := row_lt HR.out; simp; omega) hg1; have c1 := cell_of_row w1 W.heap.size 0 _ _ _ hr1; have f1 := frozen_of_row w1 W.heap.size 0 _ _ hr1; have HR1 := Lib.hid hr1; clear hr1)
  have hb1 : Below W.heap.size W w1 := below_own (below_new hb _) (ho.alloc _) (Nat.le_succ _) hg1
  clear hg1 ho c0 f0
  go_wp2
  go_ret
  refine ⟨rfl, _, one_set HR1.out, ?_, hb1.setCell (Nat.le_refl _) _⟩
  have h := own_set (u := .slice (some ⟨g1, 0, none⟩) (done.length + 1) cap1) ho1 (own_ty ho1 HR1.out (by decide))
  rw [List.length_append, strs_append]
  rw [show strs [t.data.toList] = [Value.string t] by simp [strs, str_self]]
  exact h

set_option maxHeartbeats 2000000 in
set_option maxRecDepth 4000 in
theorem split_any (s : ByteArray) (W : World) (hs : s.size ≤ 1048576) (n : Nat) (hn : n = (split s.data.toList).length) :
    Calls Try.prog 72 #[.string s] W fun e w' => (∃ p cap, e = .returned (.slice p n cap) ∧ SRw w' p (split s.data.toList)) ∧ Below W.heap.size W w' := by
  have HF : Hid (∀ (done : List (List UInt8)) (t : ByteArray) (wx : World), JS W done wx → 0 < t.size → t.size ≤ s.size → done.length < s.size → (join done).length + t.size ≤ s.size → Calls Try.prog 104 #[.string t, .pointer (some ⟨W.heap.size, 0, none⟩)] wx fun e w' => e = .returned (.bool ((fun _ => true) t.data.toList)) ∧ JS W (done ++ [t.data.toList]) w') := fun done t wx hj _ _ hd _ => split1_any W done t wx hj (by omega)
  have HJ0 : Hid (JS W [] (W.alloc (.cells #[.slice none 0 0] 22))) := ⟨_, heap_alloc_new W _, World.ownsRow_nil _ _ _ _, (Below.refl _ _).alloc (Nat.le_refl _) _⟩
  have hmf := make_fun Try.prog
  have HN := Lib.hid hn
  clear hn
  go_enter Try.func72, Try.ntmps72
  go_wp2_with (go_at_call 103; refine (visit_split s W.heap.size (fun _ => true) (JS W) _ hs HF HJ0.out).mono ?_; rintro e w1 ⟨rfl, hj⟩; rw [upto_all] at hj; obtain ⟨v, hr, ho, hb⟩ := hj; have c0 := cell_of_row w1 W.heap.size 0 _ _ _ hr; clear hr)
  go_ret
  obtain ⟨p, cap, rfl, hsr⟩ := srw_of ho
  exact ⟨⟨p, cap, by rw [HN.out]; rfl, hsr⟩, hb⟩
end Go.Proofs.Ytddcogcjmmjpkaa
