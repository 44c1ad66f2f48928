/-
  The walks of the reference's Literal and of the law GlobTells.
-/
import Derived.Test.YtdgcmapmnkopaaaDoorGlRIs
namespace Go.Proofs.YtdgcmapmnkopaaaDoor
open Go.RowKit

def sgn (c : UInt8) : Bool := ([63, 42, 91, 92] : List UInt8).contains c
theorem sgn_cases (c : UInt8) :
    (sgn c = true ∧ (((c.toNat : Int) == 63) = true ∨ (((c.toNat : Int) == 63) = false ∧ ((c.toNat : Int) == 42) = true) ∨ (((c.toNat : Int) == 63) = false ∧ ((c.toNat : Int) == 42) = false ∧ ((c.toNat : Int) == 91) = true) ∨ (((c.toNat : Int) == 63) = false ∧ ((c.toNat : Int) == 42) = false ∧ ((c.toNat : Int) == 91) = false ∧ ((c.toNat : Int) == 92) = true))) ∨
    (sgn c = false ∧ ((c.toNat : Int) == 63) = false ∧ ((c.toNat : Int) == 42) = false ∧ ((c.toNat : Int) == 91) = false ∧ ((c.toNat : Int) == 92) = false) := by
  by_cases h1 : c = 63
  · subst h1; exact .inl ⟨rfl, .inl rfl⟩
  by_cases h2 : c = 42
  · subst h2; exact .inl ⟨rfl, .inr (.inl ⟨rfl, rfl⟩)⟩
  by_cases h3 : c = 91
  · subst h3; exact .inl ⟨rfl, .inr (.inr (.inl ⟨rfl, rfl, rfl⟩))⟩
  by_cases h4 : c = 92
  · subst h4; exact .inl ⟨rfl, .inr (.inr (.inr ⟨rfl, rfl, rfl, rfl⟩))⟩
  refine .inr ⟨?_, u8_not (n := 63) (by decide) h1, u8_not (n := 42) (by decide) h2, u8_not (n := 91) (by decide) h3, u8_not (n := 92) (by decide) h4⟩
  unfold sgn
  rw [Bool.eq_false_iff]
  intro e
  rw [List.contains_iff_mem] at e
  simp only [List.mem_cons, List.not_mem_nil, or_false] at e
  rcases e with e | e | e | e
  · exact h1 e
  · exact h2 e
  · exact h3 e
  · exact h4 e
def litS (p : ByteArray) : ByteArray := if lit p = true then p else ⟨#[]⟩
theorem lit_no {p : ByteArray} (h : gIs p = false ∨ isP p = false) : lit p = false := by
  rw [Bool.eq_false_iff]
  intro e
  rcases h with h | h
  · rw [lit_is e] at h; cases h
  · rw [(lit_facts e).1] at h; cases h

set_option maxHeartbeats 4000000 in
set_option maxRecDepth 4000 in
theorem rliteral_any (p : ByteArray) (B : Bool) (S : ByteArray) (w : World) (hs : p.size ≤ 1048576) (hB : B = lit p) (hS : S = litS p) :
    Calls Tryd.prog 35 #[.string p] w fun e w' => e = .returned (.tuple #[.string S, .bool B]) ∧ Below w.heap.size w w' := by
  obtain ⟨G, hG⟩ : ∃ G, G = gIs p := ⟨_, rfl⟩
  obtain ⟨I, hI⟩ : ∃ I, I = isP p := ⟨_, rfl⟩
  have H1 : Hid (∀ w, Calls Tryd.prog 37 #[.string p] w fun e w' => e = .returned (.bool G) ∧ Below w.heap.size w w') := fun w => rgis_any p G w (by omega) hG
  have H2 : Hid (∀ w, Calls Tryd.prog 17 #[.string p] w fun e w' => e = .returned (.bool I) ∧ Below w.heap.size w w') := fun w => by rw [hI]; exact ris_any p w hs
  cases G
  · have h := lit_no (.inl hG.symm)
    have HX : Hid (B = false ∧ S = ⟨#[]⟩) := by show _ ∧ _; rw [hB, hS, litS, h]; exact ⟨rfl, rfl⟩
    clear hB hS hG hI h
    go_enter Tryd.func35, Tryd.ntmps35
    go_wp2_with (go_at_call 37; ((with_reducible refine (H1.out _).mono ?_); rintro e w1 ⟨rfl, hb1⟩))
    go_ret2
    exact ⟨by rw [HX.out.1, HX.out.2]; rfl, hb1⟩
  cases I
  · have h := lit_no (.inr hI.symm)
    have HX : Hid (B = false ∧ S = ⟨#[]⟩) := by show _ ∧ _; rw [hB, hS, litS, h]; exact ⟨rfl, rfl⟩
    clear hB hS hG hI h
    go_enter Tryd.func35, Tryd.ntmps35
    go_wp2_with (first
      | (go_at_call 37; ((with_reducible refine (H1.out _).mono ?_); rintro e w1 ⟨rfl, hb1⟩))
      | (go_at_call 17; ((with_reducible refine (H2.out _).mono ?_); rintro e w2 ⟨rfl, hb2⟩)))
    go_ret2
    exact ⟨by rw [HX.out.1, HX.out.2]; rfl, hb1.trans (hb2.mono hb1.size)⟩
  have HX : Hid (lit p = !(p.data.toList.drop 0).any sgn) := by
    show _ = _
    rw [lit, ← hI, List.drop_zero]
    rfl
  have HB : Hid (B = lit p ∧ S = if lit p = true then p else ⟨#[]⟩) := ⟨hB, hS⟩
  clear hB hS hG hI
  go_enter Tryd.func35, Tryd.ntmps35
  go_wp2_with (first
    | (go_at_call 37; ((with_reducible refine (H1.out _).mono ?_); rintro e w1 ⟨rfl, hb1⟩))
    | (go_at_call 17; ((with_reducible refine (H2.out _).mono ?_); rintro e w2 ⟨rfl, hb2⟩)))
  have hb := hb1.trans (hb2.mono hb1.size)
  go_loopw [4] (fun iv wr => ∃ k : Nat, k ≤ p.size ∧ iv = .int .i64 k ∧ wr = w2 ∧ Hid (lit p = !(p.data.toList.drop k).any sgn)) (fun iv _ => p.size - (intOf iv).toNat)
  case atStart => exact ⟨0, by omega, rfl, rfl, HX⟩
  case round =>
    clear HX
    obtain ⟨k, hk, rfl, rfl, HX⟩ := hrel
    by_cases hlt : k < p.size
    · have hd : (p.data.toList.drop k).any sgn = (sgn (p[k]'hlt) || (p.data.toList.drop (k + 1)).any sgn) := by rw [pt_drop p k hlt, List.any_cons]
      have hcs := sgn_cases (p[k]'hlt)
      have hx := HX.out
      rw [hd] at hx
      clear hd HX
      rcases hcs with ⟨h0, hc⟩ | ⟨h0, a1, a2, a3, a4⟩
      · have HE : Hid (B = false ∧ S = ⟨#[]⟩) := by
          rw [h0] at hx
          have hl : lit p = false := hx
          obtain ⟨u, v⟩ := HB.out
          rw [hl] at u v
          exact ⟨u, v⟩
        clear hx h0 HB
        rcases hc with a1 | ⟨a1, a2⟩ | ⟨a1, a2, a3⟩ | ⟨a1, a2, a3, a4⟩ <;>
        · go_wp2
          go_ret2
          exact ⟨by rw [HE.out.1, HE.out.2]; rfl, hb⟩
      · have HX2 : Hid (lit p = !(p.data.toList.drop (k + 1)).any sgn) := by
          show _ = _
          rw [hx, h0, Bool.false_or]
        clear hx h0
        go_wp2
        go_roundw
        case rel => exact ⟨k + 1, by omega, by go_num, trivial, HX2⟩
        case measure => simp [intOf]; omega
    · have HE : Hid (B = true ∧ S = p) := by
        have hx := HX.out
        rw [List.drop_of_length_le (by rw [list_len]; omega)] at hx
        have hl : lit p = true := hx
        obtain ⟨u, v⟩ := HB.out
        rw [hl] at u v
        exact ⟨u, v⟩
      clear HX HB
      go_wp2
      go_ret2
      exact ⟨by rw [HE.out.1, HE.out.2]; rfl, hb⟩

set_option maxHeartbeats 4000000 in
set_option maxRecDepth 4000 in
theorem globTells_walk (p : ByteArray) (W : World) (hp0 : p.size ≤ 140737488355328) (h0 : PI W W) :
    Calls Tryd.prog 8 #[.string p] W fun e W' => e = .returned (.bool true) ∧ Below W.heap.size W W' := by
  by_cases hp : 600 < p.size
  · go_enter Tryd.func8, Tryd.ntmps8
    go_wp2_with (go_at_call 33; ((with_reducible refine (glives_any W _ (by assumption)).mono ?_); rintro e w' ⟨rfl, hi⟩))
    go_ret
    exact ⟨rfl, hi.1⟩
  obtain ⟨L, hL⟩ : ∃ L, L = lit p := ⟨_, rfl⟩
  obtain ⟨S, hS⟩ : ∃ S, S = litS p := ⟨_, rfl⟩
  obtain ⟨G, hG⟩ : ∃ G, G = gIs p := ⟨_, rfl⟩
  have H1 : Hid (∀ w, PI W w → Calls Tryd.prog 34 #[.string p] w fun e w' => e = .returned (.tuple #[.string S, .bool L]) ∧ PI W w') := fun w h => by
    have x := literal_any p W w hp0 h
    rw [show (if lit p = true then p else ⟨#[]⟩) = S from hS.symm, ← hL] at x
    exact x
  have H2 : Hid (∀ w, PI W w → Calls Tryd.prog 35 #[.string p] w fun e w' => e = .returned (.tuple #[.string S, .bool L]) ∧ PI W w') := fun w h => (rliteral_any p L S w (by omega) hL hS).mono fun _ _ x => ⟨x.1, h.step x.2⟩
  have H3 : Hid (∀ w, PI W w → Calls Tryd.prog 36 #[.string p] w fun e w' => e = .returned (.bool G) ∧ PI W w') := fun w h => by
    obtain ⟨m, hm⟩ := h.2
    exact (gis_any p m G w hp0 hm hG).mono fun _ _ x => ⟨x.1, h.step x.2⟩
  have H4 : Hid (∀ w, PI W w → Calls Tryd.prog 37 #[.string p] w fun e w' => e = .returned (.bool G) ∧ PI W w') := fun w h => (rgis_any p G w hp0 hG).mono fun _ _ x => ⟨x.1, h.step x.2⟩
  clear hL hS hG
  cases L <;> cases G <;>
  · go_enter Tryd.func8, Tryd.ntmps8
    go_wp2_with (first
      | (go_at_call 33; ((with_reducible refine (glives_any W _ (by assumption)).mono ?_); rintro e w' ⟨rfl, hi⟩))
      | (go_at_call 34; ((with_reducible refine (H1.out _ (by assumption)).mono ?_); rintro e w1 ⟨rfl, hi1⟩))
      | (go_at_call 35; ((with_reducible refine (H2.out _ (by assumption)).mono ?_); rintro e w1 ⟨rfl, hi2⟩))
      | (go_at_call 36; ((with_reducible refine (H3.out _ (by assumption)).mono ?_); rintro e w1 ⟨rfl, hi3⟩))
      | (go_at_call 37; ((with_reducible refine (H4.out _ (by assumption)).mono ?_); rintro e w1 ⟨rfl, hi4⟩)))
    go_ret
    exact ⟨rfl, hi.1⟩
end Go.Proofs.YtdgcmapmnkopaaaDoor
