/-
  The walk of the law GlobSingle.
-/
import Derived.Test.YtdgcmapmnkopaaaDoorGlLawA
namespace Go.Proofs.YtdgcmapmnkopaaaDoor
open Go.RowKit

theorem gis_stars : gIs ⟨#[42, 42]⟩ = true := by decide +kernel
theorem prts_stars : prts ⟨#[42, 42]⟩ = [[42, 42]] := by decide +kernel
theorem stars_all {s : ByteArray} (h : isP s = true) : gMatch ⟨#[42, 42]⟩ s = true := by
  refine gMatch_of gis_stars h ?_
  rw [prts_stars, List.map_cons, starP_stars, wm_star_iff]
  exact ⟨(prts s).length, Nat.le_refl _, by rw [List.drop_length]; exact wm_nil _ _⟩
theorem prts_single {p : ByteArray} (h : (prts p).length = 1) : prts p = [p.data.toList] ∧ noSl p.data.toList = true := by
  obtain ⟨x, hx⟩ := List.length_eq_one_iff.mp h
  have h1 := jn_prts p
  rw [hx, jn, Lib.join_one] at h1
  rw [hx, h1]
  refine ⟨rfl, (noSl_iff _).mpr ?_⟩
  rw [← h1]
  unfold prts at hx
  split at hx
  · cases hx
  · exact cut_free p.data.toList [] (by simp) x (by rw [hx]; exact List.mem_singleton_self _)
theorem gMatch_single {p s : ByteArray} (hp : (prts p).length = 1) (hs : (prts s).length = 1) (h2 : p.data.toList ≠ [42, 42]) (h : isP s = true) : gMatch p s = gPart p s := by
  obtain ⟨a, b⟩ := prts_single hp
  obtain ⟨c, d⟩ := prts_single hs
  unfold gMatch gPart
  rw [a, b, c, d, h, List.map_cons, List.map_nil, starP, if_neg h2, wm_some, wm_nil]
  simp
theorem lit_stars (p : ByteArray) : (p.toList == [42, 42]) = decide (p.data.toList = [42, 42]) := by
  rw [ByteArray.toList_eq]
  exact Bool.eq_iff_iff.mpr (by simp)
theorem mcl (p s : ByteArray) (B : Bool) (hB : gMatch p s = B) (hs : p.size ≤ 140737488355328) (hs2 : s.size ≤ 140737488355328) {w0 w : World} (h : PI w0 w) : Calls Tryd.prog 41 #[.string p, .string s] w fun e w' => e = .returned (.bool B) ∧ PI w0 w' :=
  (match_any p s B w hs hs2 h.start hB.symm).mono fun _ _ x => ⟨x.1, h.step x.2.1⟩
theorem pcl (p s : ByteArray) (B : Bool) (hB : gPart p s = B) (hs : p.size ≤ 1048576) (hs2 : s.size ≤ 1048576) {w0 w : World} (h : PI w0 w) : Calls Tryd.prog 39 #[.string p, .string s] w fun e w' => e = .returned (.bool B) ∧ PI w0 w' :=
  (part_any p s B w hs hs2 h.start hB.symm).mono fun _ _ x => ⟨x.1, h.step x.2.1⟩
theorem risl (s : ByteArray) (B : Bool) (hB : isP s = B) (hs : s.size ≤ 1048576) {w0 w : World} (h : PI w0 w) : Calls Tryd.prog 17 #[.string s] w fun e w' => e = .returned (.bool B) ∧ PI w0 w' :=
  (ris_any s w hs).mono fun _ _ x => ⟨by rw [x.1, hB], h.step x.2⟩
theorem rpl (s : ByteArray) (n : Nat) (hn : (prts s).length = n) (hs : s.size ≤ 1048576) {w0 w : World} (h : PI w0 w) : Calls Tryd.prog 20 #[.string s] w fun e w' => (∃ p cap, e = .returned (.slice p n cap)) ∧ PI w0 w' :=
  (rparts_any s w hs).mono fun e w' ⟨⟨p, cap, x, _⟩, y⟩ => ⟨⟨p, cap, by rw [x, hn]⟩, h.step y⟩

set_option maxHeartbeats 8000000 in
set_option maxRecDepth 4000 in
theorem globSingle_walk (p s : ByteArray) (W : World) (hp0 : p.size ≤ 1048576) (hs0 : s.size ≤ 1048576) (h0 : PI W W) :
    Calls Tryd.prog 14 #[.string p, .string s] W fun e W' => e = .returned (.bool true) ∧ Below W.heap.size W W' := by
  obtain ⟨I, hI⟩ : ∃ I, isP s = I := ⟨_, rfl⟩
  obtain ⟨M, hM⟩ : ∃ M, gMatch p s = M := ⟨_, rfl⟩
  have H1 := Lib.hid (fun (w : World) (h : PI W w) => risl s I hI hs0 h)
  have H2 := Lib.hid (fun (w : World) (h : PI W w) => mcl p s M hM (by omega) (by omega) h)
  rcases I with _ | _
  · have hM2 : M = false := by rw [← hM, gMatch, hI]; simp
    subst hM2
    clear hM hI
    go_enter Tryd.func14, Tryd.ntmps14
    go_wp2_with (first
      | (go_at_call 33; ((with_reducible refine (glives_any W _ (by assumption)).mono ?_); rintro e w' ⟨rfl, hi⟩))
      | (go_at_call 17; ((with_reducible refine (H1.out _ (by assumption)).mono ?_); rintro e w1 ⟨rfl, hi1⟩))
      | (go_at_call 41; ((with_reducible refine (H2.out _ (by assumption)).mono ?_); rintro e w1 ⟨rfl, hi1⟩)))
    go_ret
    exact ⟨rfl, hi.1⟩
  have hss := isP_size hI
  have H3 := Lib.hid (fun (w : World) (h : PI W w) => mcl ⟨#[42, 42]⟩ s true (stars_all hI) (by decide) (by omega) h)
  by_cases hp : 200 < p.size
  · clear hM hI
    go_enter Tryd.func14, Tryd.ntmps14
    go_wp2_with (first
      | (go_at_call 33; ((with_reducible refine (glives_any W _ (by assumption)).mono ?_); rintro e w' ⟨rfl, hi⟩))
      | (go_at_call 17; ((with_reducible refine (H1.out _ (by assumption)).mono ?_); rintro e w1 ⟨rfl, hi1⟩))
      | (go_at_call 41; ((with_reducible refine (H3.out _ (by assumption)).mono ?_); rintro e w1 ⟨rfl, hi1⟩)))
    go_ret
    exact ⟨rfl, hi.1⟩
  have hl := lit_stars p
  by_cases h2 : p.data.toList = [42, 42]
  · rw [decide_eq_true h2] at hl
    clear hM hI
    go_enter Tryd.func14, Tryd.ntmps14
    go_wp2_with (first
      | (go_at_call 33; ((with_reducible refine (glives_any W _ (by assumption)).mono ?_); rintro e w' ⟨rfl, hi⟩))
      | (go_at_call 17; ((with_reducible refine (H1.out _ (by assumption)).mono ?_); rintro e w1 ⟨rfl, hi1⟩))
      | (go_at_call 41; ((with_reducible refine (H3.out _ (by assumption)).mono ?_); rintro e w1 ⟨rfl, hi1⟩)))
    go_ret
    exact ⟨rfl, hi.1⟩
  rw [decide_eq_false h2] at hl
  obtain ⟨n, hn⟩ : ∃ n, (prts p).length = n := ⟨_, rfl⟩
  obtain ⟨m, hm⟩ : ∃ m, (prts s).length = m := ⟨_, rfl⟩
  have hnl := prts_count p
  have hml := prts_count s
  have H4 := Lib.hid (fun (w : World) (h : PI W w) => rpl p n hn (by omega) h)
  have H5 := Lib.hid (fun (w : World) (h : PI W w) => rpl s m hm (by omega) h)
  by_cases hn1 : n = 1
  · subst hn1
    by_cases hm1 : m = 1
    · subst hm1
      have H6 := Lib.hid (fun (w : World) (h : PI W w) => pcl p s M ((gMatch_single hn hm h2 hI).symm.trans hM) (by omega) (by omega) h)
      clear hM hI hn hm h2 hnl hml
      rcases M with _ | _ <;>
      · go_enter Tryd.func14, Tryd.ntmps14
        go_wp2_with (first
          | (go_at_call 33; ((with_reducible refine (glives_any W _ (by assumption)).mono ?_); rintro e w' ⟨rfl, hi⟩))
          | (go_at_call 17; ((with_reducible refine (H1.out _ (by assumption)).mono ?_); rintro e w1 ⟨rfl, hi1⟩))
          | (go_at_call 20; first
            | ((with_reducible refine (H4.out _ (by assumption)).mono ?_); rintro e w1 ⟨⟨q1, cap1, rfl⟩, hi1⟩)
            | ((with_reducible refine (H5.out _ (by assumption)).mono ?_); rintro e w1 ⟨⟨q1, cap1, rfl⟩, hi1⟩))
          | (go_at_call 39; ((with_reducible refine (H6.out _ (by assumption)).mono ?_); rintro e w1 ⟨rfl, hi1⟩))
          | (go_at_call 41; first
            | ((with_reducible refine (H3.out _ (by assumption)).mono ?_); rintro e w1 ⟨rfl, hi1⟩)
            | ((with_reducible refine (H2.out _ (by assumption)).mono ?_); rintro e w1 ⟨rfl, hi1⟩)))
        go_ret
        exact ⟨rfl, hi.1⟩
    · have hx : ((m : Int) != 1) = true := bne_iff_ne.mpr (by omega)
      clear hM hI hn hm h2
      go_enter Tryd.func14, Tryd.ntmps14
      go_wp2_with (first
        | (go_at_call 33; ((with_reducible refine (glives_any W _ (by assumption)).mono ?_); rintro e w' ⟨rfl, hi⟩))
        | (go_at_call 17; ((with_reducible refine (H1.out _ (by assumption)).mono ?_); rintro e w1 ⟨rfl, hi1⟩))
        | (go_at_call 20; first
          | ((with_reducible refine (H4.out _ (by assumption)).mono ?_); rintro e w1 ⟨⟨q1, cap1, rfl⟩, hi1⟩)
          | ((with_reducible refine (H5.out _ (by assumption)).mono ?_); rintro e w1 ⟨⟨q1, cap1, rfl⟩, hi1⟩))
        | (go_at_call 41; ((with_reducible refine (H3.out _ (by assumption)).mono ?_); rintro e w1 ⟨rfl, hi1⟩)))
      go_ret
      exact ⟨rfl, hi.1⟩
  · have hx : ((n : Int) != 1) = true := bne_iff_ne.mpr (by omega)
    clear hM hI hn hm h2
    go_enter Tryd.func14, Tryd.ntmps14
    go_wp2_with (first
      | (go_at_call 33; ((with_reducible refine (glives_any W _ (by assumption)).mono ?_); rintro e w' ⟨rfl, hi⟩))
      | (go_at_call 17; ((with_reducible refine (H1.out _ (by assumption)).mono ?_); rintro e w1 ⟨rfl, hi1⟩))
      | (go_at_call 20; ((with_reducible refine (H4.out _ (by assumption)).mono ?_); rintro e w1 ⟨⟨q1, cap1, rfl⟩, hi1⟩))
      | (go_at_call 41; ((with_reducible refine (H3.out _ (by assumption)).mono ?_); rintro e w1 ⟨rfl, hi1⟩)))
    go_ret
    exact ⟨rfl, hi.1⟩
end Go.Proofs.YtdgcmapmnkopaaaDoor
