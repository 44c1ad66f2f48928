/-
  A pattern without signs matches itself alone; the walk of the law GlobLiteral.
-/
import Derived.Test.YtdgcmapmnkopaaaDoorGlAnyIdx
import Derived.Test.YtdgcmapmnkopaaaDoorGlLawC
namespace Go.Proofs.YtdgcmapmnkopaaaDoor
open Go.RowKit

/-- No sign of a pattern. -/
def plainB (c : UInt8) : Prop := c ≠ 63 ∧ c ≠ 42 ∧ c ≠ 91 ∧ c ≠ 92
theorem tks_plain : ∀ l : List UInt8, (∀ c ∈ l, plainB c) → tks l = some (l.map fun c => some (.chr c))
  | [], _ => tks_nil
  | c :: r, h => by
    obtain ⟨h1, h2, h3, h4⟩ := h c (by simp)
    have ht : tk (c :: r) = some (.chr c, 1) := by
      rw [tk, if_neg h1, if_neg h3, if_neg (fun e => h4 e.1), cv, if_neg h4, ck, if_neg h4]
    rw [tks_on ht, List.drop_succ_cons, List.drop_zero, tks_plain r (fun x hx => h x (by simp [hx])), if_neg h2]
    rfl
theorem wm_eq {τ α : Type} [DecidableEq α] (μ : τ → α → Bool) (f : α → τ) : ∀ (L T : List α), (∀ x ∈ L, ∀ y, μ (f x) y = decide (x = y)) → wm μ (L.map fun x => some (f x)) T = decide (L = T)
  | [], [], _ => by rw [List.map_nil, wm_nil]; rfl
  | [], _ :: _, _ => by rw [List.map_nil, wm_nil]; simp
  | _ :: _, [], _ => by rw [List.map_cons, wm_some_nil]; simp
  | x :: L, y :: T, h => by
    rw [List.map_cons, wm_some, wm_eq μ f L T (fun z hz => h z (by simp [hz])), h x (by simp) y]
    simp
theorem cut_mem : ∀ (l cur x : List UInt8), x ∈ cut cur l → ∀ c ∈ x, c ∈ cur ∨ c ∈ l
  | [], cur, x, h, c, hc => by
    rw [cut, List.mem_singleton] at h
    exact .inl (h ▸ hc)
  | d :: r, cur, x, h, c, hc => by
    rw [cut] at h
    split at h
    · rcases List.mem_cons.mp h with rfl | h
      · exact .inl hc
      · rcases cut_mem r [] x h c hc with h1 | h1
        · cases h1
        · exact .inr (by simp [h1])
    · rcases cut_mem r _ x h c hc with h1 | h1
      · rcases List.mem_append.mp h1 with h2 | h2
        · exact .inl h2
        · rw [List.mem_singleton.mp h2]; exact .inr (by simp)
      · exact .inr (by simp [h1])
theorem lit_facts {p : ByteArray} (h : lit p = true) : isP p = true ∧ ∀ c ∈ p.data.toList, plainB c := by
  unfold lit at h
  rw [Bool.and_eq_true, Bool.not_eq_true'] at h
  refine ⟨h.1, fun c hc => ?_⟩
  have h2 := List.any_eq_false.mp h.2 c hc
  rw [List.contains_iff_mem] at h2
  simp only [List.mem_cons, List.not_mem_nil, or_false, not_or] at h2
  exact ⟨h2.1, h2.2.1, h2.2.2.1, h2.2.2.2⟩
theorem lit_part {p : ByteArray} (h : lit p = true) {x : List UInt8} (hx : x ∈ prts p) : (∀ c ∈ x, plainB c) ∧ x ≠ [] := by
  obtain ⟨h1, h2⟩ := lit_facts h
  refine ⟨fun c hc => ?_, fun e => ?_⟩
  · rw [prts_pos (isP_pos h1)] at hx
    rcases cut_mem _ _ _ hx c hc with h3 | h3
    · cases h3
    · exact h2 c h3
  · unfold isP at h1
    rw [Bool.and_eq_true, Bool.and_eq_true] at h1
    have h3 := List.all_eq_true.mp h1.2.1 x hx
    rw [e] at h3
    exact absurd h3 (by decide +kernel)
theorem lit_is {p : ByteArray} (h : lit p = true) : gIs p = true := by
  have h1 := (lit_facts h).1
  have h2 := isP_pos h1
  have h3 := isP_size h1
  unfold gIs
  rw [decide_eq_true h2, decide_eq_true h3, Bool.true_and, Bool.true_and, List.all_eq_true]
  intro x hx
  obtain ⟨h4, h5⟩ := lit_part h hx
  unfold isPt
  rw [tks_plain x h4]
  cases x with
  | nil => exact absurd rfl h5
  | cons _ _ => rfl
theorem partM_lit {x : List UInt8} (h : ∀ c ∈ x, plainB c) (y : List UInt8) : partM x y = decide (x = y) := by
  rw [partM_some (tks_plain x h)]
  exact wm_eq tm Tok.chr x y fun c _ d => by
    show (c == d) = _
    by_cases e : c = d
    · subst e; simp
    · rw [decide_eq_false e]; exact beq_eq_false_iff_ne.mpr e
theorem lit_star {p : ByteArray} (h : lit p = true) : (prts p).map starP = (prts p).map fun x => some x := by
  refine List.map_congr_left fun x hx => ?_
  unfold starP
  rw [if_neg]
  intro e
  have := (lit_part h hx).1 42 (by rw [e]; simp)
  exact this.2.1 rfl
theorem lit_match {p : ByteArray} (h : lit p = true) (s : ByteArray) : gMatch p s = decide (p.data.toList = s.data.toList) := by
  unfold gMatch
  rw [lit_is h, lit_star h, wm_eq partM (fun x => x) (prts p) (prts s) (fun x hx y => partM_lit (lit_part h hx).1 y), Bool.true_and]
  by_cases e : p.data.toList = s.data.toList
  · have e2 : p = s := by rw [← pt_self p, ← pt_self s, e]
    subst e2
    rw [(lit_facts h).1]
    simp
  · have e3 : prts p ≠ prts s := fun e4 => e (by rw [← jn_prts p, ← jn_prts s, e4])
    rw [decide_eq_false e, decide_eq_false e3, Bool.and_false]

set_option maxHeartbeats 1000000 in
set_option maxRecDepth 4000 in
theorem covers_lit (p : ByteArray) (w0 w : World) (hs : p.size ≤ 140737488355328) (hL : lit p = true) (hP : PI w0 w) :
    Calls Tryd.prog 43 #[.string p, .string p] w fun e w' => e = .returned (.bool true) ∧ PI w0 w' := by
  have HL : Hid (∀ w', PI w0 w' → Calls Tryd.prog 34 #[.string p] w' fun e w'' => e = .returned (.tuple #[.string p, .bool true]) ∧ PI w0 w'') := fun w' h => by
    have x := literal_any p w0 w' hs h
    rw [hL, if_pos rfl] at x
    exact x
  have HM : Hid (∀ w', PI w0 w' → Calls Tryd.prog 41 #[.string p, .string p] w' fun e w'' => e = .returned (.bool true) ∧ PI w0 w'') := fun w' h => mcl p p true (by rw [lit_match hL]; simp) hs hs h
  clear hL
  go_enter Tryd.func43, Tryd.ntmps43
  go_wp2_with (first
    | (go_at_call 34; ((with_reducible refine (HL.out _ (by assumption)).mono ?_); rintro e w1 ⟨rfl, hp1⟩))
    | (go_at_call 41; ((with_reducible refine (HM.out _ (by assumption)).mono ?_); rintro e w2 ⟨rfl, hp2⟩)))
  go_ret
  exact ⟨rfl, hp2⟩

set_option maxHeartbeats 4000000 in
set_option maxRecDepth 4000 in
theorem globLiteral_walk (p s : ByteArray) (W : World) (hp0 : p.size ≤ 140737488355328) (hs0 : s.size ≤ 140737488355328) (h0 : PI W W) :
    Calls Tryd.prog 11 #[.string p, .string s] W fun e W' => e = .returned (.bool true) ∧ Below W.heap.size W W' := by
  obtain ⟨L, hL⟩ : ∃ L, lit p = L := ⟨_, rfl⟩
  have H1 := Lib.hid (fun (w : World) (h : PI W w) => literal_any p W w hp0 h)
  rw [hL] at H1
  rcases L with _ | _
  · have H2 : Hid (∀ w, PI W w → Calls Tryd.prog 34 #[.string p] w fun e w' => e = .returned (.tuple #[.string ⟨#[]⟩, .bool false]) ∧ PI W w') := H1.out
    clear H1 hL
    go_enter Tryd.func11, Tryd.ntmps11
    go_wp2_with (first
      | (go_at_call 33; ((with_reducible refine (glives_any W _ (by assumption)).mono ?_); rintro e w' ⟨rfl, hi⟩))
      | (go_at_call 34; ((with_reducible refine (H2.out _ (by assumption)).mono ?_); rintro e w1 ⟨rfl, hi1⟩)))
    go_ret
    exact ⟨rfl, hi.1⟩
  · have H2 : Hid (∀ w, PI W w → Calls Tryd.prog 34 #[.string p] w fun e w' => e = .returned (.tuple #[.string p, .bool true]) ∧ PI W w') := H1.out
    clear H1
    obtain ⟨E, hE⟩ : ∃ E, (p.toList == s.toList) = E := ⟨_, rfl⟩
    have hE2 : gMatch p s = E := by
      rw [← hE, lit_match hL, ByteArray.toList_eq, ByteArray.toList_eq]
      exact Bool.eq_iff_iff.mpr (by simp)
    have H3 := Lib.hid (fun (w : World) (h : PI W w) => mcl p s E hE2 hp0 hs0 h)
    have H4 := Lib.hid (fun (w : World) (h : PI W w) => mcl p p true (by rw [lit_match hL]; simp) hp0 hp0 h)
    have H5 : Hid (∀ w, PI W w → Calls Tryd.prog 36 #[.string p] w fun e w' => e = .returned (.bool true) ∧ PI W w') := fun w h => by
      obtain ⟨m, hm⟩ := h.2
      exact (gis_any p m true w hp0 hm (lit_is hL).symm).mono fun _ _ x => ⟨x.1, h.step x.2⟩
    have H6 := Lib.hid (fun (w : World) (h : PI W w) => covers_lit p W w hp0 hL h)
    clear hL hE2
    rcases E with _ | _ <;>
    · go_enter Tryd.func11, Tryd.ntmps11
      go_wp2_with (first
        | (go_at_call 33; ((with_reducible refine (glives_any W _ (by assumption)).mono ?_); rintro e w' ⟨rfl, hi⟩))
        | (go_at_call 34; ((with_reducible refine (H2.out _ (by assumption)).mono ?_); rintro e w1 ⟨rfl, hi1⟩))
        | (go_at_call 36; ((with_reducible refine (H5.out _ (by assumption)).mono ?_); rintro e w1 ⟨rfl, hi1⟩))
        | (go_at_call 43; ((with_reducible refine (H6.out _ (by assumption)).mono ?_); rintro e w1 ⟨rfl, hi1⟩))
        | (go_at_call 41; first
          | ((with_reducible refine (H4.out _ (by assumption)).mono ?_); rintro e w1 ⟨rfl, hi1⟩)
          | ((with_reducible refine (H3.out _ (by assumption)).mono ?_); rintro e w1 ⟨rfl, hi1⟩)))
      go_ret
      exact ⟨rfl, hi.1⟩
end Go.Proofs.YtdgcmapmnkopaaaDoor
