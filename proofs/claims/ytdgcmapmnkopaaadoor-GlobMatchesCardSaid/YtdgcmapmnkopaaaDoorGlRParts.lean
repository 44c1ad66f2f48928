/-
  The walk of the reference's parts.
-/
import Derived.Test.YtdgcmapmnkopaaaDoorGlRPart
namespace Go.Proofs.YtdgcmapmnkopaaaDoor
open Go.RowKit

/-- A part pattern that stands by itself. -/
def GoodP (x : List UInt8) : Prop := noSl x = true ∧ gIs (str x) = true
theorem good_len {x : List UInt8} (h : GoodP x) : x.length ≤ 255 := (gIs_parts h.2).2.1
theorem good_part {x y : List UInt8} (h : GoodP x) (hy : noSl y = true) : gPart (str x) (str y) = partM x y := by
  unfold gPart
  rw [str_self, str_self, h.1, hy, h.2]
  rfl
theorem good_of {p : ByteArray} (h : gIs p = true) : ∀ x ∈ prts p, GoodP x := fun x hx => by
  obtain ⟨h0, h1, h2⟩ := gIs_parts h
  have hl := prts_len hx
  have hn : noSl x = true := by
    refine (noSl_iff _).mpr ?_
    unfold prts at hx
    split at hx
    · simp at hx
    · exact cut_free p.data.toList [] (by simp) x hx
  refine ⟨hn, ?_⟩
  have hpt : isPt x = true := by
    unfold gIs at h
    rw [Bool.and_eq_true, Bool.and_eq_true] at h
    exact List.all_eq_true.mp h.2.2 x hx
  have h3 : 0 < (str x).size := by
    unfold isPt at hpt
    cases x with
    | nil => cases hpt
    | cons a r => rw [str_len, List.length_cons]; omega
  unfold gIs
  rw [prts_one (p := str x) hn h3, List.all_cons, str_self, hpt, decide_eq_true (p := 0 < (str x).size) h3, decide_eq_true (p := (str x).size ≤ 255) (by rw [str_len]; omega)]
  rfl
theorem noSl_prts {s : ByteArray} : ∀ x ∈ prts s, noSl x = true := fun x hx => by
  refine (noSl_iff _).mpr ?_
  unfold prts at hx
  split at hx
  · simp at hx
  · exact cut_free s.data.toList [] (by simp) x hx

set_option maxHeartbeats 1000000 in
set_option maxRecDepth 4000 in
theorem rps_nil (p q : Option Addr) (c d m : Nat) (w : World) (B : Bool) (hB : B = decide (m = 0)) :
    Calls Tryd.prog 62 #[.slice p 0 c, .slice q m d] w fun e w' => e = .returned (.bool B) ∧ w = w' := by
  have HB : Hid (decide ((m : Int) = 0) = B) := by
    show _ = _
    rw [hB]
    by_cases h : m = 0
    · rw [decide_eq_true h, decide_eq_true (by omega)]
    · rw [decide_eq_false h, decide_eq_false (by omega)]
  clear hB
  go_enter Tryd.func62, Tryd.ntmps62
  go_wp2_with fail
  go_ret
  exact ⟨ret_bool HB.out, rfl⟩
/-- What parts answers. -/
def PsP (L M : List (List UInt8)) (N : Nat) : Prop :=
  ∀ (p q : Option Addr) (c d n m : Nat) (w : World) (B : Bool), L.length + M.length ≤ N → SRw w p L → SRw w q M → n = L.length → m = M.length → n ≤ c → m ≤ d → (∀ x ∈ L, GoodP x) → (∀ y ∈ M, noSl y = true ∧ y.length ≤ 1048576) → n ≤ 1048576 → m ≤ 1048576 → B = wm partM (L.map starP) M →
    Calls Tryd.prog 62 #[.slice p n c, .slice q m d] w fun e w' => e = .returned (.bool B) ∧ Below w.heap.size w w'
theorem srw_tail {w : World} {p : Option Addr} {x : List UInt8} {ls : List (List UInt8)} {c : Nat} (h : SRw w p (x :: ls)) (hc : ls.length + 1 ≤ c) :
    ∃ g o o', p = some ⟨g, o, none⟩ ∧ g < w.heap.size ∧ w.cell? ⟨g, o, none⟩ = some (.string (str x)) ∧ (((c = 1) = True ∧ o' = o) ∨ ((c = 1) = False ∧ o' = o + 1)) ∧ SRw w (some ⟨g, o', none⟩) ls := by
  obtain ⟨g, o, rfl, hg, a0⟩ := h 0 (by simp)
  simp only [List.getElem_cons_zero, Nat.add_zero] at a0
  have hcut := srw_cut1 h hc
  by_cases h1 : c = 1
  · rw [if_pos h1] at hcut
    exact ⟨g, o, o, rfl, hg, a0, .inl ⟨eq_true h1, rfl⟩, hcut⟩
  · rw [if_neg h1] at hcut
    exact ⟨g, o, o + 1, rfl, hg, a0, .inr ⟨eq_false h1, rfl⟩, hcut⟩
set_option maxHeartbeats 4000000 in
set_option maxRecDepth 4000 in
theorem rps_any (N : Nat) : ∀ (L M : List (List UInt8)), PsP L M N := by
  induction N with
  | zero =>
    intro L M p q c d n m w B hN hp hq hn hm hc hd hL hM hn2 hm2 hB
    obtain rfl : L = [] := List.length_eq_zero_iff.mp (by omega)
    subst hn
    refine (rps_nil p q c d m w B ?_).mono fun e w' h => ⟨h.1, h.2 ▸ Below.refl _ _⟩
    rw [hB, List.map_nil, wm_nil, hm]
    cases M <;> simp
  | succ N ih =>
    intro L M p q c d n m w B hN hp hq hn hm hc hd hL hM hn2 hm2 hB
    cases L with
    | nil =>
      subst hn
      refine (rps_nil p q c d m w B ?_).mono fun e w' h => ⟨h.1, h.2 ▸ Below.refl _ _⟩
      rw [hB, List.map_nil, wm_nil, hm]
      cases M <;> simp
    | cons x L' =>
      rw [List.length_cons] at hn hN
      obtain ⟨k, hk⟩ : ∃ k, k = L'.length := ⟨_, rfl⟩
      have hnk : n = k + 1 := by omega
      subst hnk
      obtain ⟨g, o, o', rfl, hg, a0, ho', hcut⟩ := srw_tail hp (by omega : L'.length + 1 ≤ c)
      have hL' : ∀ y ∈ L', GoodP y := fun y hy => hL y (by simp [hy])
      have hgx := hL x (by simp)
      obtain ⟨t, ht⟩ : ∃ t, t = str x := ⟨_, rfl⟩
      rw [← ht] at a0
      have e1 := eqlit x (decide (x = [42, 42])) rfl
      rw [← ht] at e1
      by_cases hst : x = [42, 42]
      · rw [decide_eq_true hst] at e1
        obtain ⟨R, hR⟩ : ∃ R, R = wm partM (L'.map starP) M := ⟨_, rfl⟩
        have H1 : Hid (Calls Tryd.prog 62 #[.slice (some ⟨g, o', none⟩) k (c - 1), .slice q m d] w fun e w' => e = .returned (.bool R) ∧ Below w.heap.size w w') :=
          ih L' M _ _ _ _ _ _ w R (by omega) hcut hq hk hm (by omega) hd hL' hM (by omega) hm2 hR
        rw [List.map_cons, starP, if_pos hst] at hB
        cases M with
        | nil =>
          rw [wm_star_nil, ← hR] at hB
          have HB := Lib.hid hB
          rw [List.length_nil] at hm
          subst hm
          clear hB hR hp hq hn hL hM ih hcut hL' hgx ht hst hN hk
          cases R <;> rcases ho' with ⟨hc1, rfl⟩ | ⟨hc1, rfl⟩ <;>
          · go_enter Tryd.func62, Tryd.ntmps62
            go_wp2_with (go_at_call 62; ((with_reducible refine H1.out.mono ?_); rintro e w2 ⟨rfl, hb2⟩))
            go_ret
            exact ⟨by rw [HB.out]; rfl, hb2⟩
        | cons y M' =>
          rw [wm_star, ← hR] at hB
          rw [List.length_cons] at hm hN
          obtain ⟨j, hj⟩ : ∃ j, j = M'.length := ⟨_, rfl⟩
          have hmj : m = j + 1 := by omega
          subst hmj
          obtain ⟨g2, r, r', rfl, hg2, b0, hr', hcut2⟩ := srw_tail hq (by omega : M'.length + 1 ≤ d)
          obtain ⟨S, hS⟩ : ∃ S, S = wm partM (none :: L'.map starP) M' := ⟨_, rfl⟩
          have H2 : Hid (∀ w2, Below w.heap.size w w2 → Calls Tryd.prog 62 #[.slice (some ⟨g, o, none⟩) (k + 1) c, .slice (some ⟨g2, r', none⟩) j (d - 1)] w2 fun e w' => e = .returned (.bool S) ∧ Below w2.heap.size w2 w') := fun w2 hb =>
            ih (x :: L') M' _ _ _ _ _ _ w2 S (by rw [List.length_cons]; omega) (hp.below hb) (hcut2.below hb) (by rw [List.length_cons, hk]) hj hc (by omega) hL (fun z hz => hM z (by simp [hz])) hn2 (by omega) (by rw [hS, List.map_cons, starP, if_pos hst])
          rw [← hS] at hB
          have HB := Lib.hid hB
          clear hB hR hS hp hq hn hm hL hM ih hcut hcut2 hL' hgx ht hst hN hk hj
          cases R <;> rcases ho' with ⟨hc1, rfl⟩ | ⟨hc1, rfl⟩ <;> rcases hr' with ⟨hc2, rfl⟩ | ⟨hc2, rfl⟩ <;>
          · go_enter Tryd.func62, Tryd.ntmps62
            go_wp2_with (go_at_call 62; first
              | ((with_reducible refine H1.out.mono ?_); rintro e w2 ⟨rfl, hb2⟩)
              | ((with_reducible refine (H2.out _ hb2).mono ?_); rintro e w3 ⟨rfl, hb3⟩))
            go_ret
            first
              | exact ⟨by rw [HB.out]; rfl, hb2.trans (hb3.mono hb2.size)⟩
              | exact ⟨by rw [HB.out]; rfl, hb2⟩
      · rw [decide_eq_false hst] at e1
        rw [List.map_cons, starP, if_neg hst] at hB
        cases M with
        | nil =>
          rw [wm_some_nil] at hB
          have HB := Lib.hid hB
          rw [List.length_nil] at hm
          subst hm
          clear hB hp hq hn hL hM ih hcut hL' hgx ht hst hN hk
          go_enter Tryd.func62, Tryd.ntmps62
          go_wp2_with fail
          go_quiet (fail)
          go_wp2_with fail
          go_ret
          exact ⟨by rw [HB.out]; rfl, below_drewN (Below.refl _ _) _⟩
        | cons y M' =>
          rw [wm_some] at hB
          rw [List.length_cons] at hm hN
          obtain ⟨j, hj⟩ : ∃ j, j = M'.length := ⟨_, rfl⟩
          have hmj : m = j + 1 := by omega
          subst hmj
          obtain ⟨g2, r, r', rfl, hg2, b0, hr', hcut2⟩ := srw_tail hq (by omega : M'.length + 1 ≤ d)
          have hy := hM y (by simp)
          obtain ⟨u, hu⟩ : ∃ u, u = str y := ⟨_, rfl⟩
          rw [← hu] at b0
          obtain ⟨R, hR⟩ : ∃ R, R = partM x y := ⟨_, rfl⟩
          obtain ⟨S, hS⟩ : ∃ S, S = wm partM (L'.map starP) M' := ⟨_, rfl⟩
          have HF := Lib.hid (fun (z : BelW w) => Calls.bel_class (x := z) (rgpart_any t u R z.w (by rw [ht, str_len]; have := good_len hgx; omega) (by rw [hu, str_len]; exact hy.2) (by rw [ht, hu, good_part hgx hy.1, hR])))
          have HG := Lib.hid (fun (z : BelW w) => Calls.bel_class (x := z) (ih L' M' (some ⟨g, o', none⟩) (some ⟨g2, r', none⟩) (c - 1) (d - 1) k j z.w S (by omega) (hcut.below z.h) (hcut2.below z.h) hk hj (by omega) (by omega) hL' (fun z hz => hM z (by simp [hz])) (by omega) (by omega) hS))
          rw [← hR, ← hS] at hB
          have HB := Lib.hid hB
          have k1 : ∀ z : BelW w, z.w.cell? ⟨g, o, none⟩ = some (.string t) := fun z => (z.h.cell (p := ⟨g, o, none⟩) hg).trans a0
          have k2 : ∀ z : BelW w, z.w.cell? ⟨g2, r, none⟩ = some (.string u) := fun z => (z.h.cell (p := ⟨g2, r, none⟩) hg2).trans b0
          clear hB hR hS hp hq hn hm hL hM ih hcut hcut2 hL' hgx ht hst hN hk hj hu hy
          cases R <;> rcases ho' with ⟨hc1, rfl⟩ | ⟨hc1, rfl⟩ <;> rcases hr' with ⟨hc2, rfl⟩ | ⟨hc2, rfl⟩ <;>
          · go_enter Tryd.func62, Tryd.ntmps62
            go_wp2_with fail
            have hq : Nonempty (BelW w) := ⟨⟨w, Below.refl _ _⟩⟩
            refine wp_region_bel (w0 := w) (Below.refl _ _) (by kernel_rfl) (by kernel_rfl) ?_
            repeat (go_big_quiet_step (first
              | (go_at_call 40; exact HF.out _)
              | (go_at_call 62; exact HG.out _)))
            refine wpQuiet_nil ?_
            rintro _ ⟨z, rfl⟩
            have hz := z.h
            go_wp2_with fail
            go_ret
            exact ⟨by rw [HB.out]; rfl, hz⟩
end Go.Proofs.YtdgcmapmnkopaaaDoor
