/-
  The walks of Part, of Literal and Covers at one path, and of the laws' own check.
-/
import Derived.Test.YtdgcmapmnkopaaaDoorGlMat
namespace Go.Proofs.YtdgcmapmnkopaaaDoor
open Go.RowKit

/-- No slash. -/
def noSl (l : List UInt8) : Bool := l.all (· != 47)
theorem noSl_iff (l : List UInt8) : noSl l = true ↔ ∀ c ∈ l, c ≠ 47 := by
  unfold noSl
  rw [List.all_eq_true]
  exact ⟨fun h c hc => bne_iff_ne.mp (h c hc), fun h c hc => bne_iff_ne.mpr (h c hc)⟩
theorem sl_index (l : List UInt8) : decide (0 ≤ Lib.indexByte l 47) = !noSl l := by
  have hge := Lib.indexByte_ge l 47
  by_cases h : Lib.indexByte l 47 = -1
  · have h2 := Lib.indexByte_none h
    have h3 : noSl l = true := (noSl_iff l).mpr fun c hc e => by
      obtain ⟨k, hk, rfl⟩ := List.mem_iff_getElem.mp hc
      exact h2 k (by rw [List.getElem?_eq_getElem hk, e])
    rw [h3, h]
    rfl
  · obtain ⟨o, ho⟩ : ∃ o : Nat, Lib.indexByte l 47 = o := ⟨(Lib.indexByte l 47).toNat, by omega⟩
    obtain ⟨h2, _⟩ := Lib.indexByte_some ho
    have h3 : noSl l = false := by
      rw [Bool.eq_false_iff]
      intro e
      exact (noSl_iff l).mp e 47 (List.mem_of_getElem? h2) rfl
    rw [h3, ho]
    exact decide_eq_true (by omega)
theorem prts_one {p : ByteArray} (h : noSl p.data.toList = true) (h0 : 0 < p.size) : prts p = [p.data.toList] := by
  unfold prts
  rw [if_neg (by omega), cut_none _ _ ((noSl_iff _).mp h)]
  rfl
/-- What Part answers. -/
def gPart (p s : ByteArray) : Bool := noSl p.data.toList && (noSl s.data.toList && (gIs p && partM p.data.toList s.data.toList))
set_option maxHeartbeats 2000000 in
set_option maxRecDepth 4000 in
theorem part_any (p s : ByteArray) (B : Bool) (w : World) (hs : p.size ≤ 1048576) (hs2 : s.size ≤ 1048576) (hP : PI w w) (hB : B = gPart p s) :
    Calls Tryd.prog 39 #[.string p, .string s] w fun e w' => e = .returned (.bool B) ∧ PI w w' := by
  obtain ⟨G, hG⟩ : ∃ G, G = gIs p := ⟨_, rfl⟩
  obtain ⟨N1, hN1⟩ : ∃ N1, N1 = noSl p.data.toList := ⟨_, rfl⟩
  obtain ⟨N2, hN2⟩ : ∃ N2, N2 = noSl s.data.toList := ⟨_, rfl⟩
  have HG : Hid (∀ w', PI w w' → Calls Tryd.prog 36 #[.string p] w' fun e w'' => e = .returned (.bool G) ∧ PI w w'') := fun w' h => by
    obtain ⟨m, hm⟩ := h.2
    exact (gis_any p m G w' (by omega) hm hG).mono fun _ _ x => ⟨x.1, h.step x.2⟩
  have HC1 : Hid (∀ w', Calls Tryd.prog 56 #[.string p, .string ⟨#[47]⟩] w' fun e w'' => e = .returned (.bool (!N1)) ∧ w' = w'') := fun w' =>
    (Tryd.strings_Contains_one p 47 w').mono fun _ _ x => ⟨by rw [x.1, sl_index, hN1], x.2.symm⟩
  have HC2 : Hid (∀ w', Calls Tryd.prog 56 #[.string s, .string ⟨#[47]⟩] w' fun e w'' => e = .returned (.bool (!N2)) ∧ w' = w'') := fun w' =>
    (Tryd.strings_Contains_one s 47 w').mono fun _ _ x => ⟨by rw [x.1, sl_index, hN2], x.2.symm⟩
  rw [gPart, ← hG, ← hN1, ← hN2] at hB
  rcases N1 with _ | _
  · have HX : Hid (B = false) := hB
    clear hB hG hN1 hN2
    go_enter Tryd.func39, Tryd.ntmps39
    go_wp2_with (go_at_call 56; ((refine (HC1.out _).mono ?_); rintro e w1 ⟨rfl, rfl⟩))
    go_ret
    exact ⟨by rw [HX.out]; rfl, hP⟩
  · rcases N2 with _ | _
    · have HX : Hid (B = false) := hB
      clear hB hG hN1 hN2
      go_enter Tryd.func39, Tryd.ntmps39
      go_wp2_with (go_at_call 56; first
        | ((with_reducible refine (HC1.out _).mono ?_); rintro e w1 ⟨rfl, rfl⟩)
        | ((with_reducible refine (HC2.out _).mono ?_); rintro e w1 ⟨rfl, rfl⟩))
      go_ret
      exact ⟨by rw [HX.out]; rfl, hP⟩
    · rcases G with _ | _
      · have HX : Hid (B = false) := hB
        clear hB hG hN1 hN2
        go_enter Tryd.func39, Tryd.ntmps39
        go_wp2_with (first
          | (go_at_call 56; first
            | ((with_reducible refine (HC1.out _).mono ?_); rintro e w1 ⟨rfl, rfl⟩)
            | ((with_reducible refine (HC2.out _).mono ?_); rintro e w1 ⟨rfl, rfl⟩))
          | (go_at_call 36; ((with_reducible refine (HG.out _ (by assumption)).mono ?_); rintro e w1 ⟨rfl, hp1⟩)))
        go_ret
        exact ⟨by rw [HX.out]; rfl, hp1⟩
      · obtain ⟨hp0, hp255, htk⟩ := gIs_parts hG.symm
        rw [prts_one hN1.symm hp0] at htk
        obtain ⟨L, hL⟩ := htk _ (List.mem_singleton_self _)
        have hB2 : B = wm tm L s.data.toList := by rw [hB, partM_some hL]; rfl
        have HF := Lib.hid (fun w => fitsPart_any p s L B w hs hs2 hL hB2)
        clear hB hG hN1 hN2 htk hL hB2
        go_enter Tryd.func39, Tryd.ntmps39
        go_wp2_with (first
          | (go_at_call 56; first
            | ((with_reducible refine (HC1.out _).mono ?_); rintro e w1 ⟨rfl, rfl⟩)
            | ((with_reducible refine (HC2.out _).mono ?_); rintro e w1 ⟨rfl, rfl⟩))
          | (go_at_call 36; ((with_reducible refine (HG.out _ (by assumption)).mono ?_); rintro e w1 ⟨rfl, hp1⟩))
          | (go_at_call 57; ((with_reducible refine (HF.out _).mono ?_); rintro e w2 ⟨rfl, hb2⟩)))
        go_ret
        exact ⟨rfl, hp1.step hb2⟩

def pX : ByteArray := ⟨#[120]⟩
theorem isx : isP ⟨#[120]⟩ = true := by decide +kernel
set_option maxHeartbeats 1000000 in
set_option maxRecDepth 4000 in
theorem literal_x (w : World) (hP : PI w w) : Calls Tryd.prog 34 #[.string ⟨#[120]⟩] w fun e w' => e = .returned (.tuple #[.string ⟨#[120]⟩, .bool true]) ∧ PI w w' := by
  have HI : Hid (∀ w', PI w w' → Calls Tryd.prog 16 #[.string ⟨#[120]⟩] w' fun e w'' => e = .returned (.bool true) ∧ PI w w'') := fun w' h => by
    obtain ⟨m, hm⟩ := h.2
    exact (isL_any _ m w' (by decide) hm).mono fun _ _ x => ⟨by rw [x.1, isx], h.step x.2⟩
  have HC : Hid (∀ w', PI w w' → Calls Tryd.prog 53 #[.string ⟨#[120]⟩, .string ⟨#[63, 42, 91, 92]⟩] w' fun e w'' => e = .returned (.bool false) ∧ PI w w'') := fun w' h =>
    (Tryd.strings_ContainsAny_laid ⟨#[120]⟩ ⟨#[63, 42, 91, 92]⟩ w' (by decide) (by decide) (fun j b hb => by
      rcases j with _ | j
      · simp at hb; subst hb; decide
      · simp at hb) (fun j b hb => by
      rcases j with _ | _ | _ | _ | j <;> simp at hb <;> subst hb <;> decide)).mono fun _ _ x => ⟨by rw [x.1]; exact ret_bool (by decide +kernel), h.step x.2⟩
  go_enter Tryd.func34, Tryd.ntmps34
  go_wp2_with (first
    | (go_at_call 16; ((with_reducible refine (HI.out _ (by assumption)).mono ?_); rintro e w1 ⟨rfl, hp1⟩))
    | (go_at_call 53; ((with_reducible refine (HC.out _ (by assumption)).mono ?_); rintro e w2 ⟨rfl, hp2⟩)))
  go_ret2
  exact ⟨rfl, hp2⟩
theorem mx : gMatch ⟨#[42]⟩ ⟨#[120]⟩ = true := by decide +kernel
set_option maxHeartbeats 1000000 in
set_option maxRecDepth 4000 in
theorem covers_x (w : World) (hP : PI w w) : Calls Tryd.prog 43 #[.string ⟨#[42]⟩, .string ⟨#[120]⟩] w fun e w' => e = .returned (.bool true) ∧ PI w w' := by
  have HL : Hid (∀ w', PI w w' → Calls Tryd.prog 34 #[.string ⟨#[120]⟩] w' fun e w'' => e = .returned (.tuple #[.string ⟨#[120]⟩, .bool true]) ∧ PI w w'') := fun w' h => (literal_x w' h.start).mono fun _ _ x => ⟨x.1, h.step x.2.1⟩
  have HM : Hid (∀ w', PI w w' → Calls Tryd.prog 41 #[.string ⟨#[42]⟩, .string ⟨#[120]⟩] w' fun e w'' => e = .returned (.bool true) ∧ PI w w'') := fun w' h => (match_any _ _ true w' (by decide) (by decide) h.start mx.symm).mono fun _ _ x => ⟨x.1, h.step x.2.1⟩
  go_enter Tryd.func43, Tryd.ntmps43
  go_wp2_with (first
    | (go_at_call 34; ((with_reducible refine (HL.out _ (by assumption)).mono ?_); rintro e w1 ⟨rfl, hp1⟩))
    | (go_at_call 41; ((with_reducible refine (HM.out _ (by assumption)).mono ?_); rintro e w2 ⟨rfl, hp2⟩)))
  go_ret
  exact ⟨rfl, hp2⟩
theorem mc (p s : ByteArray) (B : Bool) (hB : gMatch p s = B) (hs : p.size ≤ 1048576) (hs2 : s.size ≤ 1048576) {w0 w : World} (h : PI w0 w) : Calls Tryd.prog 41 #[.string p, .string s] w fun e w' => e = .returned (.bool B) ∧ PI w0 w' :=
  (match_any p s B w (by omega) (by omega) h.start hB.symm).mono fun _ _ x => ⟨x.1, h.step x.2.1⟩
set_option maxHeartbeats 2000000 in
set_option maxRecDepth 4000 in
theorem glives_any (w0 w : World) (h : PI w0 w) : Calls Tryd.prog 33 #[] w fun e w' => e = .returned (.bool true) ∧ PI w0 w' := by
  have H1 := Lib.hid (fun (w : World) (h : PI w0 w) => mc ⟨#[97, 47, 42, 42]⟩ ⟨#[97]⟩ true (by decide +kernel) (by decide) (by decide) h)
  have H2 := Lib.hid (fun (w : World) (h : PI w0 w) => mc ⟨#[97, 47, 42, 42]⟩ ⟨#[97, 47, 98, 47, 99]⟩ true (by decide +kernel) (by decide) (by decide) h)
  have H3 := Lib.hid (fun (w : World) (h : PI w0 w) => mc ⟨#[91, 97, 45, 99, 93, 63]⟩ ⟨#[98, 49]⟩ true (by decide +kernel) (by decide) (by decide) h)
  have H4 := Lib.hid (fun (w : World) (h : PI w0 w) => mc ⟨#[91, 33, 97, 93]⟩ ⟨#[97]⟩ false (by decide +kernel) (by decide) (by decide) h)
  have H5 := Lib.hid (fun (w : World) (h : PI w0 w) => mc ⟨#[97, 92, 42]⟩ ⟨#[97, 42]⟩ true (by decide +kernel) (by decide) (by decide) h)
  have H6 := Lib.hid (fun (w : World) (h : PI w0 w) => mc ⟨#[97, 92, 42]⟩ ⟨#[97, 98]⟩ false (by decide +kernel) (by decide) (by decide) h)
  have H7 := Lib.hid (fun (w : World) (h : PI w0 w) => (covers_x w h.start).mono fun e w' x => show e = .returned (.bool true) ∧ PI w0 w' from ⟨x.1, h.step x.2.1⟩)
  go_enter Tryd.func33, Tryd.ntmps33
  go_wp2_with (first
    | (go_at_call 41; first
      | ((with_reducible refine (H1.out _ (by assumption)).mono ?_); rintro e w1 ⟨rfl, hp1⟩)
      | ((with_reducible refine (H2.out _ (by assumption)).mono ?_); rintro e w1 ⟨rfl, hp1⟩)
      | ((with_reducible refine (H3.out _ (by assumption)).mono ?_); rintro e w1 ⟨rfl, hp1⟩)
      | ((with_reducible refine (H4.out _ (by assumption)).mono ?_); rintro e w1 ⟨rfl, hp1⟩)
      | ((with_reducible refine (H5.out _ (by assumption)).mono ?_); rintro e w1 ⟨rfl, hp1⟩)
      | ((with_reducible refine (H6.out _ (by assumption)).mono ?_); rintro e w1 ⟨rfl, hp1⟩))
    | (go_at_call 43; ((with_reducible refine (H7.out _ (by assumption)).mono ?_); rintro e w2 ⟨rfl, hp2⟩)))
  go_ret
  exact ⟨rfl, hp2⟩
end Go.Proofs.YtdgcmapmnkopaaaDoor
