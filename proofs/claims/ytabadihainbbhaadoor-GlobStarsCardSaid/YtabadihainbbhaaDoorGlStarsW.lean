/-
  The walk of the law GlobStars.
-/
import Derived.Test.YtabadihainbbhaaDoorGlLawB
namespace Go.Proofs.YtabadihainbbhaaDoor
open Go.RowKit

theorem pc (p s : ByteArray) (B : Bool) (hB : gPart p s = B) (hs : p.size ≤ 1048576) (hs2 : s.size ≤ 1048576) {w0 w : World} (h : PI w0 w) : Calls Tryd.prog 39 #[.string p, .string s] w fun e w' => e = .returned (.bool B) ∧ PI w0 w' :=
  (part_any p s B w hs hs2 h.start hB.symm).mono fun _ _ x => ⟨x.1, h.step x.2.1⟩
theorem gisc (p : ByteArray) (B : Bool) (hB : gIs p = B) (hs : p.size ≤ 140737488355328) {w0 w : World} (h : PI w0 w) : Calls Tryd.prog 36 #[.string p] w fun e w' => e = .returned (.bool B) ∧ PI w0 w' := by
  obtain ⟨m, hm⟩ := h.2
  exact (gis_any p m B w hs hm hB.symm).mono fun _ _ x => ⟨x.1, h.step x.2⟩
set_option maxHeartbeats 8000000 in
set_option maxRecDepth 4000 in
theorem globStars_walk (a b s : ByteArray) (W : World) (ha0 : a.size ≤ 140737488355328) (hb0 : b.size ≤ 140737488355328) (hs0 : s.size ≤ 140737488355328) (h0 : PI W W) :
    Calls Tryd.prog 13 #[.string a, .string b, .string s] W fun e W' => e = .returned (.bool true) ∧ Below W.heap.size W W' := by
  by_cases ha : 100 < a.size
  · go_enter Tryd.func13, Tryd.ntmps13
    go_wp2_with (go_at_call 33; ((with_reducible refine (glives_any W _ (by assumption)).mono ?_); rintro e w' ⟨rfl, hi⟩))
    go_ret
    exact ⟨rfl, hi.1⟩
  by_cases hb : 100 < b.size
  · go_enter Tryd.func13, Tryd.ntmps13
    go_wp2_with (go_at_call 33; ((with_reducible refine (glives_any W _ (by assumption)).mono ?_); rintro e w' ⟨rfl, hi⟩))
    go_ret
    exact ⟨rfl, hi.1⟩
  by_cases hs : 300 < s.size
  · go_enter Tryd.func13, Tryd.ntmps13
    go_wp2_with (go_at_call 33; ((with_reducible refine (glives_any W _ (by assumption)).mono ?_); rintro e w' ⟨rfl, hi⟩))
    go_ret
    exact ⟨rfl, hi.1⟩
  obtain ⟨Ga, hGa⟩ : ∃ G, gIs a = G := ⟨_, rfl⟩
  obtain ⟨Gb, hGb⟩ : ∃ G, gIs b = G := ⟨_, rfl⟩
  have H1 := Lib.hid (fun (w : World) (h : PI W w) => gisc a Ga hGa (by omega) h)
  have H2 := Lib.hid (fun (w : World) (h : PI W w) => gisc b Gb hGb (by omega) h)
  obtain ⟨P1, hP1⟩ : ∃ G, gPart (a ++ ⟨#[63]⟩ ++ b) s = G := ⟨_, rfl⟩
  obtain ⟨P2, hP2⟩ : ∃ G, gPart (a ++ b) s = G := ⟨_, rfl⟩
  obtain ⟨Q, hQ⟩ : ∃ G, gPart (a ++ ⟨#[42]⟩ ++ b) s = G := ⟨_, rfl⟩
  have H3 : Hid (∀ w, PI W w → Calls Tryd.prog 39 #[.string (a ++ ⟨#[63]⟩ ++ b), .string s] w fun e w' => e = .returned (.bool P1) ∧ PI W w') := fun w h => pc _ s P1 hP1 (by rw [mid_size]; omega) (by omega) h
  have H4 : Hid (∀ w, PI W w → Calls Tryd.prog 39 #[.string (a ++ b), .string s] w fun e w' => e = .returned (.bool P2) ∧ PI W w') := fun w h => pc _ s P2 hP2 (by rw [ByteArray.size_append]; omega) (by omega) h
  have H5 : Hid (∀ w, PI W w → Calls Tryd.prog 39 #[.string (a ++ ⟨#[42]⟩ ++ b), .string s] w fun e w' => e = .returned (.bool Q) ∧ PI W w') := fun w h => pc _ s Q hQ (by rw [mid_size]; omega) (by omega) h
  have hV : (a.size = 0 ∨ Ga = true) → (b.size = 0 ∨ Gb = true) → (P1 = true → Q = true) ∧ (P2 = true → Q = true) := fun x y => by
    subst hGa; subst hGb
    exact ⟨fun z => by rw [← hQ]; exact stars_any x y (by omega) (by omega) (hP1.trans z), fun z => by rw [← hQ]; exact stars_none x y (by omega) (by omega) (hP2.trans z)⟩
  have HA : (a.size = 0 ∧ a.toList.isEmpty = true) ∨ (a.toList.isEmpty = false) := by
    by_cases h : a.size = 0
    · exact .inl ⟨h, none_true h⟩
    · exact .inr (none_false (by omega))
  have HB : (b.size = 0 ∧ b.toList.isEmpty = true) ∨ (b.toList.isEmpty = false) := by
    by_cases h : b.size = 0
    · exact .inl ⟨h, none_true h⟩
    · exact .inr (none_false (by omega))
  have HC : (a.toList.isEmpty = false ∧ Ga = false) ∨ (a.toList.isEmpty = true ∨ a.toList.isEmpty = false ∧ Ga = true) ∧ (a.size = 0 ∨ Ga = true) := by
    rcases HA with ⟨x, y⟩ | x
    · exact .inr ⟨.inl y, .inl x⟩
    · cases Ga
      · exact .inl ⟨x, rfl⟩
      · exact .inr ⟨.inr ⟨x, rfl⟩, .inr rfl⟩
  have HD : (b.toList.isEmpty = false ∧ Gb = false) ∨ (b.toList.isEmpty = true ∨ b.toList.isEmpty = false ∧ Gb = true) ∧ (b.size = 0 ∨ Gb = true) := by
    rcases HB with ⟨x, y⟩ | x
    · exact .inr ⟨.inl y, .inl x⟩
    · cases Gb
      · exact .inl ⟨x, rfl⟩
      · exact .inr ⟨.inr ⟨x, rfl⟩, .inr rfl⟩
  clear HA HB hGa hGb hP1 hP2 hQ
  rcases HC with ⟨x1, rfl⟩ | ⟨HC, y1⟩
  · clear hV HD
    go_enter Tryd.func13, Tryd.ntmps13
    go_wp2_with (first
      | (go_at_call 33; ((with_reducible refine (glives_any W _ (by assumption)).mono ?_); rintro e w' ⟨rfl, hi⟩))
      | (go_at_call 36; ((with_reducible refine (H1.out _ (by assumption)).mono ?_); rintro e w1 ⟨rfl, hi1⟩)))
    go_ret
    exact ⟨rfl, hi.1⟩
  rcases HD with ⟨x2, rfl⟩ | ⟨HD, y2⟩
  · clear hV y1
    rcases HC with x1 | ⟨x1, rfl⟩ <;>
    · go_enter Tryd.func13, Tryd.ntmps13
      go_wp2_with (first
        | (go_at_call 33; ((with_reducible refine (glives_any W _ (by assumption)).mono ?_); rintro e w' ⟨rfl, hi⟩))
        | (go_at_call 36; first
          | ((with_reducible refine (H1.out _ (by assumption)).mono ?_); rintro e w1 ⟨rfl, hi1⟩)
          | ((with_reducible refine (H2.out _ (by assumption)).mono ?_); rintro e w1 ⟨rfl, hi1⟩)))
      go_ret
      exact ⟨rfl, hi.1⟩
  obtain ⟨hV1, hV2⟩ := hV y1 y2
  have HP : (P1 = false ∧ P2 = false) ∨ (Q = true ∧ (P1 = false ∧ P2 = true ∨ P1 = true ∧ P2 = false ∨ P1 = true ∧ P2 = true)) := by
    cases P1 <;> cases P2 <;> simp_all
  clear hV1 hV2 y1 y2
  rcases HP with ⟨rfl, rfl⟩ | ⟨rfl, ⟨rfl, rfl⟩ | ⟨rfl, rfl⟩ | ⟨rfl, rfl⟩⟩ <;> rcases HC with x1 | ⟨x1, rfl⟩ <;> rcases HD with x2 | ⟨x2, rfl⟩ <;>
  · go_enter Tryd.func13, Tryd.ntmps13
    go_wp2_with (first
      | (go_at_call 33; ((with_reducible refine (glives_any W _ (by assumption)).mono ?_); rintro e w' ⟨rfl, hi⟩))
      | (go_at_call 36; first
        | ((with_reducible refine (H1.out _ (by assumption)).mono ?_); rintro e w1 ⟨rfl, hi1⟩)
        | ((with_reducible refine (H2.out _ (by assumption)).mono ?_); rintro e w1 ⟨rfl, hi1⟩))
      | (go_at_call 39; first
        | ((with_reducible refine (H3.out _ (by assumption)).mono ?_); rintro e w1 ⟨rfl, hi1⟩)
        | ((with_reducible refine (H4.out _ (by assumption)).mono ?_); rintro e w1 ⟨rfl, hi1⟩)
        | ((with_reducible refine (H5.out _ (by assumption)).mono ?_); rintro e w1 ⟨rfl, hi1⟩)))
    go_ret
    exact ⟨rfl, PI.bel (by assumption)⟩
end Go.Proofs.YtabadihainbbhaaDoor
