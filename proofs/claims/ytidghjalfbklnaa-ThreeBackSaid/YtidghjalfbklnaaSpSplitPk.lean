/-
  The walk of lines.Split with the function that it hands to visit.
-/
import Derived.Test.YtidghjalfbklnaaSpVisit
import Derived.Deep.QuietTactic
import Derived.BigQuiet
namespace Go.Proofs.Ytidghjalfbklnaa
open Go.RowKit

theorem str_self (t : ByteArray) : str t.data.toList = t := ba_ext rfl
/-- What Split's function keeps. -/
def JSp (W : World) (done : List (List UInt8)) (w : World) : Prop := ∃ v, w.heap[W.heap.size]? = some (.cells #[v] 22 (0, 0)) ∧ w.ownsRow (W.heap.size + 1) 9 1 v done.length (strs done) ∧ Below W.heap.size W w
theorem one_str (t : ByteArray) : ∀ u ∈ [Value.string t], u.oneCell' = true := by intro u hu; simp at hu; subst hu; rfl

set_option maxHeartbeats 2000000 in
set_option maxRecDepth 4000 in
theorem split1_any (W : World) (done : List (List UInt8)) (t : ByteArray) (wx : World) (hj : JSp W done wx) (hd : done.length ≤ 1048576) :
    Calls Try.prog 82 #[.string t, .pointer (some ⟨W.heap.size, 0, none⟩)] wx fun e w' => e = .returned (.bool true) ∧ JSp W (done ++ [t.data.toList]) w' := by
  obtain ⟨i0, hi, hz0, hz1, hz2⟩ := info_parts Try.infoStr
  obtain ⟨v, hr, ho, hb⟩ := hj
  have c0 := cell_of_row wx W.heap.size 0 _ _ _ hr
  have f0 := frozen_of_row wx W.heap.size 0 _ _ hr
  have hsz := hb.size
  have HR := Lib.hid hr
  clear hr
  go_enter Try.func82, Try.ntmps82
  go_wp2_with (at_builtin; refine wpList_append_own _ rfl _ _ 22 rfl (W.heap.size + 1) 9 i0 (.string ⟨#[]⟩) 1 16 Try.underlying22 hi hz0 hz1 hz2 rfl (by decide) _ _ _ rfl (ho.alloc _) ⟨wx.heap.size, 0, none⟩ 1 1 [.string t] rfl rfl (new_cell wx _ _) (one_str _) (by unfold maxLen; omega) (by omega) (by have := row_lt HR.out; simp; omega) ?_; intro v1 w1 ho1 hg1 _; obtain ⟨g1, cap1, rfl, _, _⟩ := ho1.form (by omega); have hr1 := own_row (ho.alloc _) (row_alloc HR.out (row_lt HR.out)) (by decide) (by have := row_lt HR.out; simp; omega) hg1; have c1 := cell_of_row w1 W.heap.size 0 _ _ _ hr1; have f1 := frozen_of_row w1 W.heap.size 0 _ _ hr1; have HR1 := Lib.hid hr1; clear hr1)
  have hb1 : Below W.heap.size W w1 := below_own (below_new hb _) (ho.alloc _) (Nat.le_succ _) hg1
  clear hg1 ho c0 f0
  go_wp2
  go_ret
  refine ⟨rfl, _, one_set HR1.out, ?_, hb1.setCell (Nat.le_refl _) _⟩
  have h := own_set (u := .slice (some ⟨g1, 0, none⟩) (done.length + 1) cap1) ho1 (own_ty ho1 HR1.out (by decide))
  rw [List.length_append, strs_append]
  rw [show strs [t.data.toList] = [Value.string t] by simp [strs, str_self]]
  exact h

set_option maxHeartbeats 2000000 in
set_option maxRecDepth 4000 in
theorem split_any (s : ByteArray) (W : World) (hs : s.size ≤ 1048576) (n : Nat) (hn : n = (split s.data.toList).length) :
    Calls Try.prog 51 #[.string s] W fun e w' => (∃ p cap, e = .returned (.slice p n cap) ∧ SRw w' p (split s.data.toList)) ∧ Below W.heap.size W w' := by
  have HF : Hid (∀ (done : List (List UInt8)) (t : ByteArray) (wx : World), JSp W done wx → 0 < t.size → t.size ≤ s.size → done.length < s.size → (join done).length + t.size ≤ s.size → Calls Try.prog 82 #[.string t, .pointer (some ⟨W.heap.size, 0, none⟩)] wx fun e w' => e = .returned (.bool ((fun _ => true) t.data.toList)) ∧ JSp W (done ++ [t.data.toList]) w') := fun done t wx hj _ _ hd _ => split1_any W done t wx hj (by omega)
  have HJ0 : Hid (JSp W [] (W.alloc (.cells #[.slice none 0 0] 22))) := ⟨_, heap_alloc_new W _, World.ownsRow_nil _ _ _ _, (Below.refl _ _).alloc (Nat.le_refl _) _⟩
  have hmf := make_fun Try.prog
  have HN := Lib.hid hn
  clear hn
  go_enter Try.func51, Try.ntmps51
  go_wp2_with (go_at_call 81; refine (visit_split s W.heap.size (fun _ => true) (JSp W) _ hs HF HJ0.out).mono ?_; rintro e w1 ⟨rfl, hj⟩; rw [upto_all] at hj; obtain ⟨v, hr, ho, hb⟩ := hj; have c0 := cell_of_row w1 W.heap.size 0 _ _ _ hr; clear hr)
  go_ret
  obtain ⟨p, cap, rfl, hsr⟩ := srw_of ho
  exact ⟨⟨p, cap, by rw [HN.out]; rfl, hsr⟩, hb⟩
end Go.Proofs.Ytidghjalfbklnaa
/-
  The walks of ref05's Join and Split.
-/
namespace Go.Proofs.Ytidghjalfbklnaa
open Go.RowKit

theorem join_snoc (ls : List (List UInt8)) (x : List UInt8) : join (ls ++ [x]) = join ls ++ x := by simp [join]
theorem take_next (ls : List (List UInt8)) (k : Nat) (h : k < ls.length) : ls.take (k + 1) = ls.take k ++ [ls[k]] := List.take_succ_eq_append_getElem h
theorem join_take_le (ls : List (List UInt8)) (k : Nat) : (join (ls.take k)).length ≤ (join ls).length := by
  have h := congrArg List.length (congrArg join (List.take_append_drop k ls))
  simp only [join, List.flatten_append, List.length_append] at h ⊢
  omega
theorem join_at_le (ls : List (List UInt8)) (k : Nat) (h : k < ls.length) : (join (ls.take k)).length + ls[k].length ≤ (join ls).length := by
  have := join_take_le ls (k + 1)
  rw [take_next ls k h, join_snoc, List.length_append] at this
  exact this
theorem below_all {w w' : World} (h : Below w.heap.size w w') : Below w.heap.size w w' := h


theorem srw_cap {w : World} {base : Nat} {e : TypeId} {v : Value} {ls : List (List UInt8)} (h : w.ownsRow base e 1 v ls.length (strs ls)) : ∃ p cap, v = .slice p ls.length cap ∧ SRw w p ls ∧ ls.length ≤ cap := by
  obtain ⟨p, cap, rfl, hs⟩ := srw_of h
  refine ⟨p, cap, rfl, hs, ?_⟩
  rcases h.2 with ⟨_, hx⟩ | ⟨g, c2, cur, hv, _, _, hle, _⟩
  · omega
  · simp only [Value.slice.injEq] at hv
    obtain ⟨_, _, rfl⟩ := hv
    exact hle

set_option maxHeartbeats 2000000 in
set_option maxRecDepth 4000 in
theorem rSplit_any (s : ByteArray) (w : World) (hs : s.size ≤ 1048576) (n : Nat) (hn : n = (split s.data.toList).length) :
    Calls Try.prog 55 #[.string s] w fun e w' => (∃ p cap, e = .returned (.slice p n cap) ∧ SRw w' p (split s.data.toList) ∧ n ≤ cap) ∧ Below w.heap.size w w' := by
  obtain ⟨i0, hi, hz0, hz1, hz2⟩ := info_parts Try.infoStr
  obtain ⟨R, hR⟩ : ∃ R, R = split s.data.toList := ⟨_, rfl⟩
  have HR : Hid (R = [] ++ rest s.data.toList 0 0) := by show _ = _; rw [hR, rest_start]; rfl
  rw [← hR] at hn ⊢
  have HN := Lib.hid hn
  clear hR hn
  go_enter Try.func55, Try.ntmps55
  go_wp2
  go_loopw [3, 4, 8] (fun v xv i wr => ∃ (x k : Nat) (done : List (List UInt8)), xv = .int .i64 x ∧ i = .int .i64 k ∧ x ≤ k ∧ k ≤ s.size ∧ done.length ≤ x ∧ R = done ++ rest s.data.toList x k ∧ wr.ownsRow w.heap.size 9 1 v done.length (strs done) ∧ Below w.heap.size w wr) (fun _ _ i _ => s.size - (intOf i).toNat)
  case atStart => exact ⟨0, 0, [], rfl, rfl, by omega, by omega, by simp, HR.out, World.ownsRow_nil _ _ _ _, Below.refl _ _⟩
  case round =>
    clear HR
    obtain ⟨x, k, done, rfl, rfl, hxk, hks, hdl, hR, ho, hb⟩ := hrel
    by_cases hlt : k < s.size
    · by_cases h10 : s[k] = 10
      · have a1 : ((s[k].toNat : Int) == 10) = true := u8_is (n := 10) (by decide) h10
        obtain ⟨q, hq⟩ : ∃ q, q = k + 1 := ⟨_, rfl⟩
        have i2 : IntKind.i64.wrap ((k : Int) + 1) = (q : Int) := by rw [IntWalk.i64_in _ (by omega)]; omega
        have hxq : x ≤ q := by omega
        have hqs : q ≤ s.size := by omega
        obtain ⟨t, ht⟩ : ∃ t, t = s.extract x q := ⟨_, rfl⟩
        rw [rest_hand s x k hlt hxk (.inl h10), ← hq, ← ht] at hR
        have HR : Hid (R = (done ++ [t.data.toList]) ++ rest s.data.toList q q) := by show _ = _; rw [hR]; simp
        have HTX : Hid (s.extract x q = t) := ht.symm
        have HQ : Hid (q = k + 1) := hq
        have hdl2 : (done ++ [t.data.toList]).length ≤ q := by simp; omega
        clear hR h10 hq ht
        go_wp2_with (at_builtin; rw [HTX.out]; refine wpList_append_own _ rfl _ _ 22 rfl w.heap.size 9 i0 (.string ⟨#[]⟩) 1 16 Try.underlying22 hi hz0 hz1 hz2 rfl (by decide) _ _ _ rfl (ho.alloc _) ⟨wr.heap.size, 0, none⟩ 1 1 [.string t] rfl rfl (new_cell wr _ _) (one_str _) (by unfold maxLen; omega) (by omega) (by have := hb.size; simp; omega) ?_; intro v1 w1 ho1 hg1 _)
        have hb1 := app_step hb ho hg1 (Nat.le_refl _) hb.size
        have ho2 : w1.ownsRow w.heap.size 9 1 v1 (done ++ [t.data.toList]).length (strs (done ++ [t.data.toList])) := by
          rw [List.length_append, strs_append, show strs [t.data.toList] = [Value.string t] by simp [strs, str_self]]
          exact ho1
        clear ho hg1 ho1
        go_wp2
        go_roundw
        case rel => exact ⟨q, q, done ++ [t.data.toList], rfl, by rw [HQ.out]; try go_num, Nat.le_refl _, hqs, hdl2, HR.out, ho2, hb1⟩
        case measure => have := HQ.out; simp [intOf]; omega
      · have a1 : ((s[k].toNat : Int) == 10) = false := u8_not (n := 10) (by decide) h10
        rw [rest_skip s x k hlt hxk h10] at hR
        have HR : Hid (R = done ++ rest s.data.toList x (k + 1)) := hR
        clear hR h10
        go_wp2
        go_roundw
        case rel => exact ⟨x, k + 1, done, rfl, by go_num, by omega, by omega, hdl, HR.out, ho, hb⟩
        case measure => simp [intOf]; omega
    · obtain rfl : k = s.size := by omega
      by_cases hx : x < s.size
      · obtain ⟨t, ht⟩ : ∃ t, t = s.extract x s.size := ⟨_, rfl⟩
        have hr : rest s.data.toList x s.size = [t.data.toList] := by
          unfold rest
          rw [drop_none s s.size (Nat.le_refl _), spl, ← ext_bytes, ← ht, if_neg]
          rw [ht]
          have : (s.extract x s.size).data.toList.length = s.size - x := by rw [list_len, ByteArray.size_extract]; omega
          cases h : (s.extract x s.size).data.toList with
          | nil => rw [h] at this; simp at this; omega
          | cons a b => simp
        have HX : Hid (R = done ++ [t.data.toList]) := by show _ = _; rw [hR, hr]
        have HTX : Hid (s.extract x s.size = t) := ht.symm
        clear hR hr ht hlt
        go_wp2_with (at_builtin; rw [HTX.out]; refine wpList_append_own _ rfl _ _ 22 rfl w.heap.size 9 i0 (.string ⟨#[]⟩) 1 16 Try.underlying22 hi hz0 hz1 hz2 rfl (by decide) _ _ _ rfl (ho.alloc _) ⟨wr.heap.size, 0, none⟩ 1 1 [.string t] rfl rfl (new_cell wr _ _) (one_str _) (by unfold maxLen; omega) (by omega) (by have := hb.size; simp; omega) ?_; intro v1 w1 ho1 hg1 _)
        have hb1 := app_step hb ho hg1 (Nat.le_refl _) hb.size
        have ho2 : w1.ownsRow w.heap.size 9 1 v1 R.length (strs R) := by
          rw [HX.out, List.length_append, strs_append, show strs [t.data.toList] = [Value.string t] by simp [strs, str_self]]
          exact ho1
        clear ho hg1 ho1
        go_wp2
        go_ret
        obtain ⟨p, cap, rfl, hsr, hcap⟩ := srw_cap ho2
        exact ⟨⟨p, cap, by rw [HN.out]; rfl, hsr, by rw [HN.out]; exact hcap⟩, hb1⟩
      · have HX : Hid (R = done) := by show _ = _; rw [hR, rest_end s (Nat.le_refl _) x (by omega)]; simp
        clear hR hlt
        go_wp2
        go_ret
        have ho2 : wr.ownsRow w.heap.size 9 1 u3 R.length (strs R) := by rw [HX.out]; exact ho
        obtain ⟨p, cap, rfl, hsr, hcap⟩ := srw_cap ho2
        exact ⟨⟨p, cap, by rw [HN.out]; rfl, hsr, by rw [HN.out]; exact hcap⟩, hb⟩
end Go.Proofs.Ytidghjalfbklnaa
