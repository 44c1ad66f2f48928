/-
  The walk of links.
-/
import Derived.Test.YthfnnbeaggkhkaaSqMatch
import Derived.Maps.OwnSet
import Derived.Maps.Views
import Derived.StringKeys
import Derived.Deep.AppendLies
namespace Go.Proofs.Ythfnnbeaggkhkaa
open Go.RowKit Go.Maps Go.WideMaps

theorem Try.infoInt : (Try.prog.info? 3).map (fun i => (i.zero, i.size, i.bytes)) = some (some (.int .i64 0), 1, 8) := by kernel_rfl
theorem str_keyed : Keyed Try.prog 9 := string_keyed Try.underlying9
theorem zero_int (w : World) : (zeroValue 3).run Try.prog w = .ok (.int .i64 0) w := by kernel_rfl
theorem make_map (n : Int) (w : World) : (Instr.makeMap 77 (some (.int .i64 n))).run Try.prog w = .ok (.map (some w.heap.size)) (w.alloc (.map #[] 0)) := by kernel_rfl

/-- The key of an offset: its four bytes. -/
def kl (l : List UInt8) (i : Nat) : Lit := .string ((l.drop i).take 4)
/-- The map behind k offsets: the last of them for each key. -/
def Cm (l : List UInt8) : Nat → DataW Unit
  | 0 => .map []
  | k + 1 => (Cm l k).put (kl l k) (.lit (.int .i64 (k : Int)))
theorem Cm_isMap (l : List UInt8) : ∀ k, IsMap (Cm l k)
  | 0 => isMap_empty
  | k + 1 => (Cm_isMap l k).put _ _
theorem kl_same {l : List UInt8} {j i : Nat} (h : same4 l j i = true) : kl l j = kl l i := by
  unfold same4 at h
  rw [decide_eq_true_eq] at h
  rw [kl, kl, h]
theorem kl_ne {l : List UInt8} {j i : Nat} (h : same4 l j i = false) : kl l i ≠ kl l j := by
  unfold same4 at h
  rw [decide_eq_false_iff_not] at h
  intro e
  rw [kl, kl, Lit.string.injEq] at e
  exact h e.symm
theorem key_lit (l : List UInt8) (i : Nat) : WideAt.IsKeyLit (kl l i) := trivial
theorem Cm_look (l : List UInt8) (i : Nat) : ∀ k, (down (fun j => same4 l j i) k = -1 ∧ Maps.has (Cm l k) (kl l i) = false) ∨ ∃ f : Nat, down (fun j => same4 l j i) k = (f : Int) ∧ Maps.has (Cm l k) (kl l i) = true ∧ ∀ z, (Cm l k).atKey (kl l i) z = .lit (.int .i64 (f : Int))
  | 0 => .inl ⟨rfl, rfl⟩
  | k + 1 => by
    rw [down, Cm]
    cases hs : same4 l k i with
    | true =>
      rw [if_pos rfl, kl_same hs]
      exact .inr ⟨k, rfl, has_put_same (Cm_isMap l k) (key_lit l i) _, fun z => atKey_put_same (Cm_isMap l k) (key_lit l i) _ z⟩
    | false =>
      rw [if_neg (by decide)]
      rcases Cm_look l i k with ⟨h1, h2⟩ | ⟨f, h1, h2, h3⟩
      · exact .inl ⟨h1, by rw [has_put_other (kl_ne hs)]; exact h2⟩
      · exact .inr ⟨f, h1, by rw [has_put_other (kl_ne hs)]; exact h2, fun z => by rw [atKey_put_other (kl_ne hs)]; exact h3 z⟩

/-- The chain's row behind k offsets. -/
def lks (l : List UInt8) (k : Nat) : List Value := (List.range k).map fun i => Value.int .i64 (lk l i)
theorem lks_len (l : List UInt8) (k : Nat) : (lks l k).length = k := by simp [lks]
theorem lks_next (l : List UInt8) (k : Nat) : lks l (k + 1) = lks l k ++ [Value.int .i64 (lk l k)] := by simp [lks, List.range_succ]
theorem lrow_of {w : World} {base B n cap : Nat} {e : TypeId} {l : List UInt8} (hn : n = l.length - 3) (h : w.ownsRow base e 1 (.slice (some ⟨B, 0, none⟩) n cap) n (lks l n)) : LRow w B l := fun i hi => by
  have h1 := h.cells (g := B) rfl i (.int .i64 (lk l i)) (by rw [lks, List.getElem?_map, List.getElem?_range (by omega)]; rfl)
  rw [Addr.add_lit, Nat.zero_add] at h1
  exact h1

theorem own_ne {w : World} {base size n B : Nat} {e : TypeId} {v : Value} {xs : List Value} (h : w.ownsRow base e size v n xs) (hB : B < base) : v.ownBlock ≠ some B := fun hr => by
  have := (h.lt B hr).1
  omega
theorem int_one (c : Int) : ∀ u ∈ [Value.int .i64 c], u.oneCell' = true := by intro u hu; simp at hu; subst hu; rfl

set_option maxHeartbeats 2000000 in
set_option maxRecDepth 4000 in
theorem links_any (s : ByteArray) (w : World) (hs : s.size ≤ 1099511627776) :
    Calls Try.prog 32 #[.string s] w fun e w' => ∃ B cap, e = .returned (.slice (some ⟨B, 0, none⟩) (s.size - 3) cap) ∧ B < w'.heap.size ∧ LRow w' B s.data.toList ∧ Below w.heap.size w w' := by
  obtain ⟨i0, hi, hz0, hz1, hz2⟩ := info_parts Try.infoInt
  have hmm := make_map s.size w
  have i1 : IntKind.i64.wrap ((s.size : Int) - 4) = (s.size : Int) - 4 := IntWalk.i64_in _ (by omega)
  have i2 : IntKind.i64.wrap ((s.size : Int) - 4 + 1) = (s.size : Int) - 3 := by rw [IntWalk.i64_in _ (by omega)]; omega
  obtain ⟨N, hN⟩ : ∃ N, N = s.size - 3 := ⟨_, rfl⟩
  rw [← hN]
  have hmap : ∀ w1, (w.alloc (.map #[] 0)).grownBy w1 none → w1.ownsMap Try.prog 9 (plainElem (H := Unit) Try.prog 3) w.heap.size 0 (Cm s.data.toList 0) := fun w1 hg => (World.ownsMap_made (H := Unit) w Try.prog 9 (plainElem Try.prog 3)).kept hg (by simp)
  go_enter Try.func32, Try.ntmps32
  go_wp2_with (at_make; refine wpList_make_own _ rfl _ _ 47 rfl (w.heap.size + 1) 3 i0 (.int .i64 0) 1 Try.underlying47 hi hz0 hz1 _ _ _ s.size rfl rfl (by omega) (by rw [hz2]; omega) (by unfold maxLen; omega) (by simp) ?_)
  intro w1 hown1 hgrow1
  have hm1 := hmap w1 hgrow1
  have hb1 : Below w.heap.size w w1 := ((Below.refl _ _).alloc (Nat.le_refl _) _).grown hgrow1 (by simp) (by simp)
  have hsz1 : w.heap.size + 1 ≤ w1.heap.size := by have := hgrow1.size; simp at this; omega
  clear hmap hgrow1 hmm
  go_wp2
  clear i1
  go_loopw [4, 19] (fun v i wr => ∃ k g cap : Nat, k ≤ N ∧ i = .int .i64 k ∧ v = .slice (some ⟨g, 0, none⟩) k cap ∧ wr.ownsRow (w.heap.size + 1) 3 1 v k (lks s.data.toList k) ∧ wr.ownsMap Try.prog 9 (plainElem (H := Unit) Try.prog 3) w.heap.size k (Cm s.data.toList k) ∧ Below w.heap.size w wr ∧ w.heap.size + 1 ≤ wr.heap.size)
    (fun _ i _ => N - (intOf i).toNat)
  case atStart => exact ⟨0, _, _, by omega, rfl, rfl, hown1, hm1, hb1, hsz1⟩
  case round =>
    clear hown1 hm1 hb1 hsz1
    obtain ⟨k, g, cap, hk, rfl, rfl, hown, hmap, hbel, hsz⟩ := hrel
    by_cases hlt : k < N
    · have k4 : k + 4 ≤ s.size := by omega
      have j1 : IntKind.i64.wrap ((k : Int) + 4) = (k : Int) + 4 := IntWalk.i64_in _ (by omega)
      have hkey0 : keyOf Try.prog 9 (.string (s.extract k (k + 4))) = some (kl s.data.toList k) := by
        rw [keyOf_string_mk Try.underlying9 (by rw [ByteArray.size_extract]; unfold maxLen; omega), ext_bytes, show k + 4 - k = 4 by omega]
        rfl
      have hk1 : (k : Int) < N := by omega
      obtain ⟨D, hD⟩ : ∃ D, D = Cm s.data.toList k := ⟨_, rfl⟩
      obtain ⟨K, hK⟩ : ∃ K, K = kl s.data.toList k := ⟨_, rfl⟩
      have HD : Hid (D.put K (.lit (.int .i64 (k : Int))) = Cm s.data.toList (k + 1)) := by show _ = _; rw [hD, hK]; rfl
      rw [← hK] at hkey0
      have hkey := hkey0
      have hlook := Cm_look s.data.toList k k
      rw [← hD, ← hK] at hlook
      rw [← hD] at hmap
      clear hD hK hkey0
      rcases hlook with ⟨h1, h2⟩ | ⟨f, h1, h2, h3⟩
      · have HR : Hid (lks s.data.toList k ++ [Value.int .i64 (-1)] = lks s.data.toList (k + 1)) := by
          show _ = _
          rw [lks_next, show lk s.data.toList k = -1 from h1]
        clear h1
        go_wp2_with (first
          | (at_lookup; refine wpList_lookup_own_ok_int _ rfl _ _ 77 rfl 9 3 .i64 str_keyed Try.underlying77 Try.underlying3 (zero_int _) w.heap.size k D rfl hmap _ _ rfl hkey ?_; intro c hat hwc)
          | (at_builtin; refine wpList_append_own _ rfl _ _ 47 rfl (w.heap.size + 1) 3 i0 (.int .i64 0) 1 8 Try.underlying47 hi hz0 hz1 hz2 rfl (by decide) _ _ _ rfl (hown.alloc _) ⟨wr.heap.size, 0, none⟩ 1 1 [.int .i64 (-1)] rfl rfl (new_cell _ _ _) (int_one _) (by unfold maxLen; omega) (by omega) (by simp; omega) ?_; intro v2 w2 ho2 hg2 _; have hm2 := (hmap.alloc _).kept hg2 (Ne.symm (own_ne hown (Nat.lt_succ_self _))))
          | (at_mapUpdate; refine wpList_mapUpdate_own _ rfl _ _ _ 77 rfl 9 3 str_keyed Try.underlying77 _ w.heap.size k D rfl hm2 (by unfold maxLen; omega) _ _ _ rfl rfl hkey _ [] (plainElem_int Try.underlying3 (WalkArith.wf_i64 (by omega))) ?_; intro w3 hm3 hg3))
        have hb2 := app_step hbel hown hg2 (Nat.le_succ _) (by omega)
        have hs2 := hg2.size
        have hs3 := hg3.size
        simp at hs2
        have hb3 : Below w.heap.size w w3 := hb2.grown hg3 (by omega) (fun j hj => by cases hj; exact Nat.le_refl _)
        obtain ⟨g2, cap2, rfl, _, _⟩ := ho2.form (by omega)
        have ho3 := ho2.kept hg3 (.inr (own_ne ho2 (Nat.lt_succ_self _)))
        clear hg2 hg3 hm2 hmap hown hbel ho2 hb2
        go_wp2
        go_roundw
        case rel => exact ⟨k + 1, g2, cap2, by omega, by go_num, rfl, owns_eq ho3 HR.out, by rw [HD.out] at hm3; exact hm3, hb3, by omega⟩
        case measure => simp [intOf]; omega
      · have HF : Hid (lk s.data.toList k = (f : Int)) := h1
        have H3 : Hid (∀ z, D.atKey K z = .lit (.int .i64 (f : Int))) := h3
        clear h1 h3
        go_wp2_with (first
          | (at_lookup; refine wpList_lookup_own_ok_int _ rfl _ _ 77 rfl 9 3 .i64 str_keyed Try.underlying77 Try.underlying3 (zero_int _) w.heap.size k D rfl hmap _ _ rfl hkey ?_; intro c hat hwc)
          | (at_builtin; refine wpList_append_own _ rfl _ _ 47 rfl (w.heap.size + 1) 3 i0 (.int .i64 0) 1 8 Try.underlying47 hi hz0 hz1 hz2 rfl (by decide) _ _ _ rfl (hown.alloc _) ⟨wr.heap.size, 0, none⟩ 1 1 [.int .i64 c] rfl rfl (new_cell _ _ _) (int_one _) (by unfold maxLen; omega) (by omega) (by simp; omega) ?_; intro v2 w2 ho2 hg2 _; have hm2 := (hmap.alloc _).kept hg2 (Ne.symm (own_ne hown (Nat.lt_succ_self _))))
          | (at_mapUpdate; refine wpList_mapUpdate_own _ rfl _ _ _ 77 rfl 9 3 str_keyed Try.underlying77 _ w.heap.size k D rfl hm2 (by unfold maxLen; omega) _ _ _ rfl rfl hkey _ [] (plainElem_int Try.underlying3 (WalkArith.wf_i64 (by omega))) ?_; intro w3 hm3 hg3))
        have hb2 := app_step hbel hown hg2 (Nat.le_succ _) (by omega)
        have hs2 := hg2.size
        have hs3 := hg3.size
        simp at hs2
        have hb3 : Below w.heap.size w w3 := hb2.grown hg3 (by omega) (fun j hj => by cases hj; exact Nat.le_refl _)
        obtain ⟨g2, cap2, rfl, _, _⟩ := ho2.form (by omega)
        have ho3 := ho2.kept hg3 (.inr (own_ne ho2 (Nat.lt_succ_self _)))
        have HR : Hid (lks s.data.toList k ++ [Value.int .i64 c] = lks s.data.toList (k + 1)) := by
          show _ = _
          have e := (H3.out (.lit (.int .i64 0))).symm.trans hat
          simp only [DataW.lit.injEq, Lit.int.injEq, true_and] at e
          rw [lks_next, HF.out, e]
        clear hat
        clear hg2 hg3 hm2 hmap hown hbel ho2 hb2
        go_wp2
        go_roundw
        case rel => exact ⟨k + 1, g2, cap2, by omega, by go_num, rfl, owns_eq ho3 HR.out, by rw [HD.out] at hm3; exact hm3, hb3, by omega⟩
        case measure => simp [intOf]; omega
    · obtain rfl : k = N := by omega
      have hl3 : k = s.data.toList.length - 3 := by rw [list_len]; exact hN
      have hLR := lrow_of hl3 hown
      have hlt2 : g < wr.heap.size := by
        rcases hown.2 with ⟨h0, _⟩ | ⟨g', cap', cur, h0, _, hg, _⟩
        · cases h0
        · simp only [Value.slice.injEq, Option.some.injEq, Addr.mk.injEq, and_true, true_and] at h0
          obtain ⟨rfl, -⟩ := h0
          exact lt_of_block hg
      clear hlt hown hmap hN
      go_wp2
      go_ret
      exact ⟨_, _, rfl, hlt2, hLR, hbel⟩
end Go.Proofs.Ythfnnbeaggkhkaa
