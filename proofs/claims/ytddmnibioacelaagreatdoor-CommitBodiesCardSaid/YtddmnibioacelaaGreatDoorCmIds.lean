/-
  The walks of areIds and distinct.
-/
import Derived.Test.YtddmnibioacelaaGreatDoorCmPlain
import Derived.Test.YtddmnibioacelaaGreatDoorStOwPk
namespace Go.Proofs.YtddmnibioacelaaGreatDoor
open Go Go.RowKit Go.Maps Go.WideMaps

theorem allId_take {l : List (List UInt8)} {k : Nat} (h : k < l.length) (h0 : allId (l.take k) = true) : allId (l.take (k + 1)) = isId (str l[k]) := by
  unfold allId at *
  rw [List.take_succ_eq_append_getElem h, List.all_append, h0]
  simp
theorem allId_false {l : List (List UInt8)} {k : Nat} (h : k < l.length) (h0 : isId (str l[k]) = false) : allId l = false := by
  unfold allId
  rw [← Bool.not_eq_true, List.all_eq_true]
  intro h1
  rw [h1 _ (List.getElem_mem h)] at h0
  cases h0

set_option maxHeartbeats 1000000 in
set_option maxRecDepth 4000 in
theorem areIds_any (ls : List (List UInt8)) (p : Option Addr) (c n : Nat) (w : World) (hn : n = ls.length) (hp : SRw w p ls) (hl : ∀ x ∈ ls, x.length ≤ 140737488355328) (hn2 : n ≤ 140737488355328) :
    Calls Tryz.prog 36 #[.slice p n c] w fun e w' => e = .returned (.bool (allId ls)) ∧ Below w.heap.size w w' := by
  obtain ⟨R, hR⟩ : ∃ R, R = allId ls := ⟨_, rfl⟩
  rw [← hR]
  have HR := Lib.hid hR
  have HN := Lib.hid hn
  have HP := Lib.hid hp
  have HL := Lib.hid hl
  clear hR hn hp hl
  go_enter Tryz.func36, Tryz.ntmps36
  go_wp2
  go_loopw [7] (fun iv wr => ∃ k : Nat, k ≤ n ∧ iv = .int .i64 (k : Int) ∧ Hid (allId (ls.take k) = true) ∧ Hid (Below w.heap.size w wr)) (fun iv _ => n - (intOf iv).toNat)
  case atStart => exact ⟨0, by omega, rfl, rfl, Below.refl _ _⟩
  case round =>
    obtain ⟨k, hk, rfl, HA, HB⟩ := hrel
    by_cases hlt : k < n
    · have hkl : k < ls.length := by rw [← HN.out]; exact hlt
      obtain ⟨x, hx⟩ : ∃ x, x = str ls[k] := ⟨_, rfl⟩
      have hxs : x.size ≤ 140737488355328 := by rw [hx, str_size]; exact HL.out _ (List.getElem_mem hkl)
      obtain ⟨g, o, rfl, hg, a0⟩ := HP.out.below HB.out k hkl
      rw [← hx] at a0
      obtain ⟨I, hI⟩ : ∃ I, I = isId x := ⟨_, rfl⟩
      have HI : Hid (∀ w', Calls Tryz.prog 35 #[.string x] w' fun e w'' => e = .returned (.bool I) ∧ w' = w'') := fun w' => by rw [hI]; exact is_any x w' hxs
      rw [hx] at hI
      have HI2 := Lib.hid hI
      clear hx hxs hI
      rcases I with _ | _
      · have HX : Hid (R = false) := by show _ = _; rw [HR.out, allId_false hkl HI2.out.symm]
        go_wp2_with (go_at_call 35; ((with_reducible refine (HI.out _).mono ?_); rintro e w2 ⟨rfl, rfl⟩))
        go_ret
        exact ⟨by rw [HX.out]; rfl, HB.out⟩
      · have HX : Hid (allId (ls.take (k + 1)) = true) := by show _ = _; rw [allId_take hkl HA.out, ← HI2.out]
        go_wp2_with (go_at_call 35; ((with_reducible refine (HI.out _).mono ?_); rintro e w2 ⟨rfl, rfl⟩))
        go_roundw
        case rel => exact ⟨k + 1, by omega, by go_num, HX.out, HB.out⟩
        case measure => simp [intOf]; omega
    · have HX : Hid (R = true) := by
        show _ = _
        have h := HA.out
        rw [List.take_of_length_le (by have := HN.out; omega)] at h
        rw [HR.out, h]
      go_wp2_with fail
      go_ret
      exact ⟨by rw [HX.out]; rfl, HB.out⟩

theorem snoc_ind {α : Type} {P : List α → Prop} (h0 : P []) (h1 : ∀ l s, P l → P (l ++ [s])) (l : List α) : P l := by
  have : ∀ m : List α, P m.reverse := fun m => by
    induction m with
    | nil => exact h0
    | cons a m ih =>
      rw [List.reverse_cons]
      exact h1 _ _ ih
  have h := this l.reverse
  rwa [List.reverse_reverse] at h
/-- A list without what occurs earlier in it. -/
def disL (l : List (List UInt8)) : List (List UInt8) := l.foldl (fun o s => if s ∈ o then o else o ++ [s]) []
theorem disL_snoc (l : List (List UInt8)) (s : List UInt8) : disL (l ++ [s]) = if s ∈ disL l then disL l else disL l ++ [s] := by
  unfold disL
  rw [List.foldl_append]
  rfl
theorem disL_mem (l : List (List UInt8)) (x : List UInt8) : x ∈ disL l ↔ x ∈ l := by
  induction l using snoc_ind with
  | h0 => simp [disL]
  | h1 l s ih =>
    rw [disL_snoc, List.mem_append, List.mem_singleton]
    split
    · rename_i h
      rw [ih]
      constructor
      · exact .inl
      · rintro (h1 | rfl)
        · exact h1
        · exact ih.mp h
    · rw [List.mem_append, List.mem_singleton, ih]
theorem disL_len (l : List (List UInt8)) : (disL l).length ≤ l.length := by
  induction l using snoc_ind with
  | h0 => simp [disL]
  | h1 l s ih =>
    rw [disL_snoc]
    split <;> simp <;> omega
theorem disL_nodup (l : List (List UInt8)) : (disL l = l ∧ l.Nodup) ∨ ((disL l).length < l.length ∧ ¬ l.Nodup) := by
  induction l using snoc_ind with
  | h0 => left; simp [disL]
  | h1 l s ih =>
    rw [disL_snoc]
    have hn : (l ++ [s]).Nodup ↔ l.Nodup ∧ s ∉ l := by
      rw [List.nodup_append]
      simp
      intro _
      exact ⟨fun h hs => h s hs rfl, fun h a ha e => h (e ▸ ha)⟩
    have hl := disL_len l
    rcases ih with ⟨h1, h2⟩ | ⟨h1, h2⟩
    · by_cases hs : s ∈ l
      · rw [if_pos ((disL_mem l s).mpr hs)]
        right
        exact ⟨by simp; omega, fun h => (hn.mp h).2 hs⟩
      · rw [if_neg (fun h => hs ((disL_mem l s).mp h)), h1]
        exact .inl ⟨rfl, hn.mpr ⟨h2, hs⟩⟩
    · right
      refine ⟨?_, fun h => h2 (hn.mp h).1⟩
      split <;> simp <;> omega
theorem disL_take {l : List (List UInt8)} {k : Nat} (h : k < l.length) : disL (l.take (k + 1)) = if l[k] ∈ l.take k then disL (l.take k) else disL (l.take k) ++ [l[k]] := by
  rw [List.take_succ_eq_append_getElem h, disL_snoc]
  simp only [disL_mem]

set_option maxHeartbeats 2000000 in
set_option maxRecDepth 4000 in
theorem distinct_any (ls : List (List UInt8)) (p : Option Addr) (c n : Nat) (w : World) (hn : n = ls.length) (hp : SRw w p ls) (hl : ∀ x ∈ ls, x.length ≤ 140737488355328) (hn2 : n ≤ 1000000) :
    Calls Tryz.prog 39 #[.slice p n c] w fun e w' => ∃ v, e = .returned v ∧ SOw w' w.heap.size v (disL ls) ∧ Below w.heap.size w w' := by
  have HN := Lib.hid hn
  have HP := Lib.hid hp
  have HL := Lib.hid hl
  have hmm := make_sb n w
  have hb1 : Below w.heap.size w (w.alloc (.map #[] 0)) := below_new (Below.refl _ _) _
  have hm1 := msb_new w
  have hs1 : w.heap.size < (w.alloc (.map #[] 0)).heap.size := by simp
  obtain ⟨w1, hw1⟩ : ∃ w1, w1 = w.alloc (.map #[] 0) := ⟨_, rfl⟩
  obtain ⟨M, hM⟩ : ∃ M, M = w.heap.size := ⟨_, rfl⟩
  rw [← hw1, ← hM] at hmm hm1
  rw [← hw1] at hb1 hs1
  have HM := Lib.hid hM
  clear hn hp hl hw1
  rw [← hM] at hs1
  clear hM
  go_enter Tryz.func39, Tryz.ntmps39
  go_wp2
  go_loopw [3, 12] (fun ov iv wr => ∃ (k : Nat) (D : DataW Unit) (os : List (List UInt8)), k ≤ n ∧ iv = .int .i64 (k : Int) ∧ Msb wr M k D ∧ Hid (IsSt D (ls.take k)) ∧ SOw wr w1.heap.size ov os ∧ os.length ≤ k ∧ Hid (os = disL (ls.take k)) ∧ Hid (Below w.heap.size w wr) ∧ w1.heap.size ≤ wr.heap.size) (fun _ iv _ => n - (intOf iv).toNat)
  case atStart => exact ⟨0, _, [], by omega, rfl, hm1, isSt_nil, SOw.nil _ _, by simp, rfl, hb1, Nat.le_refl _⟩
  case round =>
    clear hm1 hb1 hmm
    obtain ⟨k, D, os, hk, rfl, hm, HI, ho, hol, HO, HB, hs⟩ := hrel
    by_cases hlt : k < n
    · have hkl : k < ls.length := by rw [← HN.out]; exact hlt
      obtain ⟨x, hx⟩ : ∃ x, x = str ls[k] := ⟨_, rfl⟩
      have hxs : x.size ≤ 140737488355328 := by rw [hx, str_size]; exact HL.out _ (List.getElem_mem hkl)
      have hxl : x.data.toList = ls[k] := by rw [hx]; rfl
      obtain ⟨g, o, rfl, hg, a0⟩ := HP.out.below HB.out k hkl
      rw [← hx] at a0
      obtain ⟨B, hB⟩ : ∃ B, B = decide (x.data.toList ∈ ls.take k) := ⟨_, rfl⟩
      have hlk := msb_look hm (t := x) hxs (B := B) (by rw [HI.out.look, hB])
      have hkey := skeyS (t := x) hxs
      obtain ⟨K, hK⟩ : ∃ K, K = Lit.string x.data.toList := ⟨_, rfl⟩
      have hput := HI.out.put x.data.toList
      rw [hxl, ← List.take_succ_eq_append_getElem hkl, ← hxl, ← hK] at hput
      rw [← hK] at hkey
      have HPT := Lib.hid hput
      have HTK := Lib.hid (disL_take hkl)
      rw [← hxl] at HTK
      have hMw : M < w1.heap.size := hs1
      clear hx hput hK HI hxs
      rcases B with _ | _
      · have HO2 : Hid (os ++ [x.data.toList] = disL (ls.take (k + 1))) := by
          show _ = _
          rw [HTK.out, if_neg (of_decide_eq_false hB.symm), ← HO.out]
        clear hB hxl
        go_wp2_with (first
          | (at_builtin; refine wp_so_one rfl _ _ rfl rfl ho x rfl (by omega) hs ?_; intro v4 w4 ho4 hg4; have hm4 := (hm.alloc (.cells #[.string x] 9)).kept hg4 (ho.apart hMw); have hb4 := ho.bel1 HB.out (by have := HM.out; omega) (by have := HM.out; omega) hg4; have hs4 := hg4.size)
          | (at_mapUpdate; refine wpList_mapUpdate_own _ rfl _ _ _ 88 rfl 9 4 str_keyedS Tryz.underlying88 _ M k D rfl hm4 (by unfold maxLen; omega) _ _ _ rfl rfl hkey _ [] (plainElem_bool Tryz.underlying4 true) ?_; intro w5 hm5 hg5))
        go_roundw
        case rel => exact ⟨k + 1, _, _, by omega, by go_num, hm5, HPT.out, ho4.grown hg5 hMw, by simp; omega, HO2.out, hb4.grown hg5 (by have := HM.out; have := hb4.size; omega) (fun j hj => by have := HM.out; cases hj; omega), by have := hg5.size; simp at hs4; omega⟩
        case measure => simp [intOf]; omega
      · have HO2 : Hid (os = disL (ls.take (k + 1))) := by
          show _ = _
          rw [HTK.out, if_pos (of_decide_eq_true hB.symm), ← HO.out]
        clear hB hxl
        go_wp2_with (at_mapUpdate; refine wpList_mapUpdate_own _ rfl _ _ _ 88 rfl 9 4 str_keyedS Tryz.underlying88 _ M k D rfl hm (by unfold maxLen; omega) _ _ _ rfl rfl hkey _ [] (plainElem_bool Tryz.underlying4 true) ?_; intro w5 hm5 hg5)
        go_roundw
        case rel => exact ⟨k + 1, _, _, by omega, by go_num, hm5, HPT.out, ho.grown hg5 hMw, by omega, HO2.out, HB.out.grown hg5 (by have := HM.out; omega) (fun j hj => by have := HM.out; cases hj; omega), by have := hg5.size; omega⟩
        case measure => simp [intOf]; omega
    · have HX : Hid (os = disL ls) := by
        show _ = _
        rw [HO.out, List.take_of_length_le (by have := HN.out; omega)]
      have HOO := Lib.hid ho
      clear ho hm
      go_wp2_with fail
      go_ret
      refine ⟨_, rfl, ?_, HB.out⟩
      rw [← HX.out]
      have h1 := HOO.out
      refine ⟨h1.1, ?_⟩
      rcases h1.2 with h2 | ⟨g, cap, cur, h3, h4, h5⟩
      · exact .inl h2
      · exact .inr ⟨g, cap, cur, h3, by have := HM.out; omega, h5⟩
end Go.Proofs.YtddmnibioacelaaGreatDoor
