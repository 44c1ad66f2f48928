/-
  The walk of the law GlobDeep.
-/
import Derived.Test.YtdgcmapmnkopaaaDoorGlLives
namespace Go.Proofs.YtdgcmapmnkopaaaDoor
open Go.RowKit

theorem cut_app : ∀ (a r cur : List UInt8), cut cur (a ++ 47 :: r) = cut cur a ++ cut [] r
  | [], r, cur => by simp [cut]
  | c :: a, r, cur => by
    rw [List.cons_append, cut, cut]
    split
    · rw [cut_app a r [], List.cons_append]
    · exact cut_app a r _
theorem prts_pos {s : ByteArray} (h : 0 < s.size) : prts s = cut [] s.data.toList := by unfold prts; rw [if_neg (by omega)]
/-- A pattern below a double star. -/
def deepP (p : ByteArray) : ByteArray := ⟨#[42, 42, 47]⟩ ++ p
theorem deepP_size (p : ByteArray) : (deepP p).size = 3 + p.size := by rw [deepP, ByteArray.size_append]; rfl
theorem deepP_prts {p : ByteArray} (h : 0 < p.size) : prts (deepP p) = [42, 42] :: prts p := by
  rw [prts_pos (by rw [deepP_size]; omega), prts_pos h, deepP, app_list]
  show cut [] (([42, 42] : List UInt8) ++ 47 :: p.data.toList) = _
  rw [cut_at _ _ _ (by decide)]
  rfl
theorem pt_stars : isPt [42, 42] = true := by decide +kernel
theorem deepP_is {p : ByteArray} (h : gIs p = true) (hs : p.size ≤ 200) : gIs (deepP p) = true := by
  have h0 := (gIs_parts h).1
  unfold gIs at h ⊢
  rw [Bool.and_eq_true, Bool.and_eq_true] at h
  rw [deepP_prts h0, List.all_cons, pt_stars, h.2.2, deepP_size, decide_eq_true (by omega), decide_eq_true (by omega)]
  rfl
theorem gMatch_parts {p s : ByteArray} (h : gMatch p s = true) : gIs p = true ∧ isP s = true ∧ wm partM ((prts p).map starP) (prts s) = true := by
  unfold gMatch at h
  rw [Bool.and_eq_true, Bool.and_eq_true] at h
  exact ⟨h.1, h.2.1, h.2.2⟩
theorem gMatch_of {p s : ByteArray} (h1 : gIs p = true) (h2 : isP s = true) (h3 : wm partM ((prts p).map starP) (prts s) = true) : gMatch p s = true := by
  unfold gMatch
  rw [h1, h2, h3]
  rfl
theorem isP_pos {s : ByteArray} (h : isP s = true) : 0 < s.size := by
  rcases Nat.lt_or_ge 0 s.size with h0 | h0
  · exact h0
  · unfold isP prts at h
    rw [if_pos (by omega)] at h
    simp at h
theorem starP_stars : starP [42, 42] = none := rfl
theorem deep_here {p s : ByteArray} (h : gMatch p s = true) (hs : p.size ≤ 200) : gMatch (deepP p) s = true := by
  obtain ⟨h1, h2, h3⟩ := gMatch_parts h
  refine gMatch_of (deepP_is h1 hs) h2 ?_
  rw [deepP_prts (gIs_parts h1).1, List.map_cons, starP_stars, wm_star_iff]
  exact ⟨0, Nat.zero_le _, h3⟩
theorem deep_below {p s : ByteArray} (dir : ByteArray) (h : gMatch p s = true) (hs : p.size ≤ 200) (ht : isP (dir ++ ⟨#[47]⟩ ++ s) = true) : gMatch (deepP p) (dir ++ ⟨#[47]⟩ ++ s) = true := by
  obtain ⟨h1, h2, h3⟩ := gMatch_parts h
  refine gMatch_of (deepP_is h1 hs) ht ?_
  have e : prts (dir ++ ⟨#[47]⟩ ++ s) = cut [] dir.data.toList ++ prts s := by
    rw [prts_pos (isP_pos ht), prts_pos (isP_pos h2), app_list, app_list, ← cut_app]
    show cut [] (dir.data.toList ++ [47] ++ s.data.toList) = _
    rw [List.append_assoc]
    rfl
  rw [deepP_prts (gIs_parts h1).1, List.map_cons, starP_stars, wm_star_iff, e]
  exact ⟨(cut [] dir.data.toList).length, by rw [List.length_append]; omega, by rw [List.drop_left]; exact h3⟩

theorem PI.bel {w0 w : World} (h : PI w0 w) : Below w0.heap.size w0 w := h.1

set_option maxHeartbeats 2000000 in
set_option maxRecDepth 4000 in
theorem globDeep_walk (p s d : ByteArray) (W : World) (hp0 : p.size ≤ 140737488355328) (hs0 : s.size ≤ 140737488355328) (hd0 : d.size ≤ 140737488355328) (h0 : PI W W) :
    Calls Tryd.prog 12 #[.string p, .string s, .string d] W fun e W' => e = .returned (.bool true) ∧ Below W.heap.size W W' := by
  by_cases hp : 200 < p.size
  · go_enter Tryd.func12, Tryd.ntmps12
    go_wp2_with (go_at_call 33; ((with_reducible refine (glives_any W _ (by assumption)).mono ?_); rintro e w' ⟨rfl, hi⟩))
    go_ret
    exact ⟨rfl, hi.1⟩
  · by_cases hs : 200 < s.size
    · go_enter Tryd.func12, Tryd.ntmps12
      go_wp2_with (go_at_call 33; ((with_reducible refine (glives_any W _ (by assumption)).mono ?_); rintro e w' ⟨rfl, hi⟩))
      go_ret
      exact ⟨rfl, hi.1⟩
    · by_cases hd : 200 < d.size
      · go_enter Tryd.func12, Tryd.ntmps12
        go_wp2_with (go_at_call 33; ((with_reducible refine (glives_any W _ (by assumption)).mono ?_); rintro e w' ⟨rfl, hi⟩))
        go_ret
        exact ⟨rfl, hi.1⟩
      · obtain ⟨M, hM⟩ : ∃ M, gMatch p s = M := ⟨_, rfl⟩
        have H1 := Lib.hid (fun (w : World) (h : PI W w) => mc p s M hM (by omega) (by omega) h)
        rcases M with _ | _
        · clear hM
          go_enter Tryd.func12, Tryd.ntmps12
          go_wp2_with (first
            | (go_at_call 33; ((with_reducible refine (glives_any W _ (by assumption)).mono ?_); rintro e w' ⟨rfl, hi⟩))
            | (go_at_call 41; ((with_reducible refine (H1.out _ (by assumption)).mono ?_); rintro e w1 ⟨rfl, hi⟩)))
          go_ret
          exact ⟨rfl, PI.bel (by assumption)⟩
        · have hsz : (d ++ ⟨#[47]⟩ ++ s).size ≤ 1048576 := by
            rw [ByteArray.size_append, ByteArray.size_append]
            have h1 : (⟨#[47]⟩ : ByteArray).size = 1 := rfl
            omega
          have H2 : Hid (∀ w, PI W w → Calls Tryd.prog 41 #[.string (⟨#[42, 42, 47]⟩ ++ p), .string s] w fun e w' => e = .returned (.bool true) ∧ PI W w') := fun w h => mc (deepP p) s true (deep_here hM (by omega)) (by rw [deepP_size]; omega) (by omega) h
          obtain ⟨I, hI⟩ : ∃ I, isP (d ++ ⟨#[47]⟩ ++ s) = I := ⟨_, rfl⟩
          have H3 : Hid (∀ w, PI W w → Calls Tryd.prog 17 #[.string (d ++ ⟨#[47]⟩ ++ s)] w fun e w' => e = .returned (.bool I) ∧ PI W w') := fun w h => ris_inv h _ _ hsz hI
          rcases I with _ | _
          · clear hM hI hsz
            go_enter Tryd.func12, Tryd.ntmps12
            go_wp2_with (first
              | (go_at_call 33; ((with_reducible refine (glives_any W _ (by assumption)).mono ?_); rintro e w' ⟨rfl, hi⟩))
              | (go_at_call 17; ((with_reducible refine (H3.out _ (by assumption)).mono ?_); rintro e w1 ⟨rfl, hi⟩))
              | (go_at_call 41; first
                | ((with_reducible refine (H1.out _ (by assumption)).mono ?_); rintro e w1 ⟨rfl, hi⟩)
                | ((with_reducible refine (H2.out _ (by assumption)).mono ?_); rintro e w1 ⟨rfl, hi⟩)))
            go_ret
            exact ⟨rfl, PI.bel (by assumption)⟩
          · have H4 : Hid (∀ w, PI W w → Calls Tryd.prog 41 #[.string (⟨#[42, 42, 47]⟩ ++ p), .string (d ++ ⟨#[47]⟩ ++ s)] w fun e w' => e = .returned (.bool true) ∧ PI W w') := fun w h => mc (deepP p) _ true (deep_below d hM (by omega) hI) (by rw [deepP_size]; omega) hsz h
            clear hM hI hsz
            go_enter Tryd.func12, Tryd.ntmps12
            go_wp2_with (first
              | (go_at_call 33; ((with_reducible refine (glives_any W _ (by assumption)).mono ?_); rintro e w' ⟨rfl, hi⟩))
              | (go_at_call 17; ((with_reducible refine (H3.out _ (by assumption)).mono ?_); rintro e w1 ⟨rfl, hi⟩))
              | (go_at_call 41; first
                | ((with_reducible refine (H1.out _ (by assumption)).mono ?_); rintro e w1 ⟨rfl, hi⟩)
                | ((with_reducible refine (H2.out _ (by assumption)).mono ?_); rintro e w1 ⟨rfl, hi⟩)
                | ((with_reducible refine (H4.out _ (by assumption)).mono ?_); rintro e w1 ⟨rfl, hi⟩)))
            go_ret
            exact ⟨rfl, PI.bel (by assumption)⟩
end Go.Proofs.YtdgcmapmnkopaaaDoor
