/-
  The reference's class: where a class ends, by scanning; the walk.
-/
import Derived.Test.YtdgcmapmnkopaaaDoorGlChar
namespace Go.Proofs.YtdgcmapmnkopaaaDoor
open Go.RowKit

/-- How many bytes there are to behind the first bracket that is neither first nor escaped. -/
def sc (first : Bool) : List UInt8 → Option Nat
  | [] => none
  | c :: r => if c = 93 ∧ first = false then some 1 else (sc false ((c :: r).drop (ck c))).map (ck c + ·)
termination_by l => l.length
decreasing_by
  have := ck_pos c
  simp only [List.length_drop, List.length_cons]
  omega
theorem sc_nil (first : Bool) : sc first [] = none := by rw [sc]
theorem sc_end (r : List UInt8) : sc false (93 :: r) = some 1 := by rw [sc, if_pos ⟨rfl, rfl⟩]
theorem sc_on {first : Bool} {c : UInt8} {r : List UInt8} (h : ¬ (c = 93 ∧ first = false)) : sc first (c :: r) = (sc false ((c :: r).drop (ck c))).map (ck c + ·) := by rw [sc, if_neg h]
theorem sc_cl : ∀ (l : List UInt8) (first : Bool), sc first l = (cl first l).map (·.2)
  | [], first => by rw [sc_nil, cl_nil]; rfl
  | c :: r, first => by
    by_cases hc : c = 93 ∧ first = false
    · rw [sc, if_pos hc, cl, if_pos hc]
      rfl
    · rw [sc_on hc, cl_on hc]
      have hck := ck_pos c
      have hsimple : it (c :: r) = (cv (c :: r), cv (c :: r), ck c) → (sc false ((c :: r).drop (ck c))).map (ck c + ·) = ((cl false ((c :: r).drop (it (c :: r)).2.2)).map fun x => (((it (c :: r)).1, (it (c :: r)).2.1) :: x.1, (it (c :: r)).2.2 + x.2)).map (·.2) := fun e => by
        rw [e, sc_cl ((c :: r).drop (ck c)) false]
        cases cl false ((c :: r).drop (ck c)) <;> rfl
      rcases hd : (c :: r).drop (ck c) with _ | ⟨y, _ | ⟨z, t⟩⟩
      · rw [← hd]; exact hsimple (by rw [it, hd])
      · rw [← hd]; exact hsimple (by rw [it, hd])
      · by_cases hq : y = 45 ∧ z ≠ 93
        · have e : it (c :: r) = (cv (c :: r), cv (z :: t), ck c + 1 + ck z) := by rw [it, hd]; simp only; rw [if_pos hq]
          have hz := ck_pos z
          have hlen : t.length < r.length := by
            have h1 := congrArg List.length hd
            rw [List.length_drop] at h1
            simp only [List.length_cons] at h1
            omega
          have e2 : (c :: r).drop (ck c + 1 + ck z) = (z :: t).drop (ck z) := by
            rw [show ck c + 1 + ck z = ck c + (1 + ck z) by omega, ← List.drop_drop, hd, show 1 + ck z = ck z + 1 by omega, List.drop_succ_cons]
          have e3 : sc false (y :: z :: t) = (sc false (z :: t)).map (1 + ·) := by
            rw [sc_on (by rw [hq.1]; decide), ck, if_neg (by rw [hq.1]; decide)]
            rfl
          have ih := sc_cl ((z :: t).drop (ck z)) false
          rw [e3, sc_on (by simp [hq.2]), ih, e]
          simp only [e2]
          cases cl false ((z :: t).drop (ck z)) with
          | none => rfl
          | some x => simp [Nat.add_assoc]
        · rw [← hd]; exact hsimple (by rw [it, hd]; simp only; rw [if_neg hq])
termination_by l => l.length
decreasing_by
  all_goals simp only [List.length_drop, List.length_cons]
  all_goals omega

/-- What class answers: where the class ends, or -1. -/
def endR (first : Bool) (l : List UInt8) (i : Nat) : Int := match sc first l with
  | some m => ((i + m : Nat) : Int)
  | none => -1
theorem endR_nil (first : Bool) (i : Nat) : endR first [] i = -1 := by rw [endR, sc_nil]
theorem endR_end (r : List UInt8) (i : Nat) : endR false (93 :: r) i = ((i + 1 : Nat) : Int) := by rw [endR, sc_end]
theorem endR_on {first : Bool} {c : UInt8} {r : List UInt8} {i : Nat} (h : ¬ (c = 93 ∧ first = false)) : endR first (c :: r) i = endR false ((c :: r).drop (ck c)) (i + ck c) := by
  rw [endR, sc_on h, endR]
  cases sc false ((c :: r).drop (ck c)) with
  | none => rfl
  | some m => simp [Nat.add_assoc]

theorem rstep (p : ByteArray) (a F : Nat) (R : Int) (hx : R = endR (decide (a = F)) (p.data.toList.drop a) a) (haF : F ≤ a) (hlt : a < p.size) :
    ((((p[a]'hlt).toNat : Int) == 93) = true ∧ decide (F < a) = true ∧ Hid (R = ((a + 1 : Nat) : Int))) ∨
    (((((p[a]'hlt).toNat : Int) == 93) = false ∨ (((p[a]'hlt).toNat : Int) == 93) = true ∧ decide (F < a) = false) ∧
      (((((p[a]'hlt).toNat : Int) == 92) = false ∧ Hid (R = endR (decide (a + 1 = F)) (p.data.toList.drop (a + 1)) (a + 1))) ∨ ((((p[a]'hlt).toNat : Int) == 92) = true ∧ Hid (R = endR (decide (a + 2 = F)) (p.data.toList.drop (a + 2)) (a + 2))))) := by
  rw [pt_drop p a hlt] at hx
  by_cases hend : p[a]'hlt = 93 ∧ decide (a = F) = false
  · left
    rw [hend.1, hend.2, endR_end] at hx
    have hd := of_decide_eq_false hend.2
    exact ⟨by rw [beq_iff_eq, hend.1]; rfl, decide_eq_true (by omega), hx⟩
  · right
    rw [endR_on hend, ← pt_drop p a hlt, List.drop_drop] at hx
    refine ⟨?_, ?_⟩
    · by_cases h93 : p[a]'hlt = 93
      · right
        exact ⟨by rw [beq_iff_eq, h93]; rfl, decide_eq_false fun h => hend ⟨h93, decide_eq_false (by omega)⟩⟩
      · left
        exact u8_not (n := 93) (by decide) h93
    · by_cases h92 : p[a]'hlt = 92
      · right
        rw [ck, if_pos h92] at hx
        exact ⟨by rw [beq_iff_eq, h92]; rfl, by rw [decide_eq_false (p := a + 2 = F) (by omega)]; exact hx⟩
      · left
        rw [ck, if_neg h92] at hx
        exact ⟨u8_not (n := 92) (by decide) h92, by rw [decide_eq_false (p := a + 1 = F) (by omega)]; exact hx⟩

set_option maxHeartbeats 2000000 in
set_option maxRecDepth 4000 in
theorem rclass_any (p : ByteArray) (k : Nat) (R : Int) (w : World) (hk : k < p.size) (hs : p.size ≤ 1048576)
    (hR : R = endR true (p.data.toList.drop (k + 1 + ng (p.data.toList.drop (k + 1)))) (k + 1 + ng (p.data.toList.drop (k + 1)))) :
    Calls Tryd.prog 71 #[.string p, .int .i64 (k : Int)] w fun e w' => e = .returned (.int .i64 R) ∧ w = w' := by
  obtain ⟨F, hF⟩ : ∃ F, F = k + 1 + ng (p.data.toList.drop (k + 1)) := ⟨_, rfl⟩
  rw [← hF] at hR
  obtain ⟨q, hq⟩ : ∃ q, q = k + 1 := ⟨_, rfl⟩
  rw [← hq] at hF
  have HR : Hid (R = endR true (p.data.toList.drop F) F) := hR
  have i0 : IntKind.i64.wrap ((k : Int) + 1) = (q : Int) := by rw [IntWalk.i64_in _ (by omega)]; omega
  have hcases : (F = q + 1 ∧ ∃ h : q < p.size, p[q]'h = 33 ∨ p[q]'h = 94) ∨ (F = q ∧ ∃ h : q < p.size, p[q]'h ≠ 33 ∧ p[q]'h ≠ 94) ∨ (F = q ∧ q = p.size) := by
    by_cases h : q < p.size
    · rw [pt_drop p q h, ng] at hF
      by_cases h2 : p[q]'h = 33 ∨ p[q]'h = 94
      · rw [if_pos h2] at hF
        exact .inl ⟨hF, h, h2⟩
      · rw [if_neg h2] at hF
        exact .inr (.inl ⟨hF, h, fun e => h2 (.inl e), fun e => h2 (.inr e)⟩)
    · have e : p.data.toList.drop q = [] := List.drop_of_length_le (by rw [list_len]; omega)
      rw [e, ng] at hF
      exact .inr (.inr ⟨hF, by omega⟩)
  have hFl : F ≤ p.size ∧ q ≤ F := by
    rcases hcases with ⟨h1, h2, _⟩ | ⟨h1, h2, _⟩ | ⟨h1, h2⟩ <;> omega
  clear hR hF hq
  have hc2 : (∃ h : q < p.size, (((p[q]'h).toNat : Int) == 33) = true ∧ IntKind.i64.wrap ((q : Int) + 1) = (F : Int)) ∨ (∃ h : q < p.size, (((p[q]'h).toNat : Int) == 33) = false ∧ (((p[q]'h).toNat : Int) == 94) = true ∧ IntKind.i64.wrap ((q : Int) + 1) = (F : Int)) ∨ (∃ h : q < p.size, (((p[q]'h).toNat : Int) == 33) = false ∧ (((p[q]'h).toNat : Int) == 94) = false ∧ q = F) ∨ (q = p.size ∧ q = F) := by
    rcases hcases with ⟨h1, h2, h3⟩ | ⟨h1, h2, h3, h4⟩ | ⟨h1, h2⟩
    · have i1 : IntKind.i64.wrap ((q : Int) + 1) = (F : Int) := by rw [IntWalk.i64_in _ (by omega)]; omega
      by_cases h33 : p[q]'h2 = 33
      · exact .inl ⟨h2, by rw [beq_iff_eq, h33]; rfl, i1⟩
      · exact .inr (.inl ⟨h2, u8_not (n := 33) (by decide) h33, by rw [beq_iff_eq, h3.resolve_left h33]; rfl, i1⟩)
    · exact .inr (.inr (.inl ⟨h2, u8_not (n := 33) (by decide) h3, u8_not (n := 94) (by decide) h4, h1.symm⟩))
    · exact .inr (.inr (.inr ⟨h2, h1.symm⟩))
  clear hcases
  have hc3 : (∃ h : q < p.size, (((p[q]'h).toNat : Int) == 33) = true ∧ IntKind.i64.wrap ((q : Int) + 1) = (F : Int)) ∨ (∃ h : q < p.size, (((p[q]'h).toNat : Int) == 33) = false ∧ (((p[q]'h).toNat : Int) == 94) = true ∧ IntKind.i64.wrap ((q : Int) + 1) = (F : Int)) ∨ (∃ h : q < p.size, (((p[q]'h).toNat : Int) == 33) = false ∧ (((p[q]'h).toNat : Int) == 94) = false ∧ Hid (F = q)) ∨ (q = p.size ∧ Hid (F = q)) := by
    rcases hc2 with h | h | ⟨h1, h2, h3, h4⟩ | ⟨h1, h2⟩
    · exact .inl h
    · exact .inr (.inl h)
    · exact .inr (.inr (.inl ⟨h1, h2, h3, h4.symm⟩))
    · exact .inr (.inr (.inr ⟨h1, h2.symm⟩))
  clear hc2
  rcases hc3 with ⟨hqs, a1, i1⟩ | ⟨hqs, a1, a2, i1⟩ | ⟨hqs, a1, a2, HQ⟩ | ⟨hqs, HQ⟩
  · go_enter Tryd.func71, Tryd.ntmps71
    go_wp2
    go_loopw [5] (fun iv wr => ∃ a : Nat, iv = .int .i64 (a : Int) ∧ F ≤ a ∧ a ≤ p.size + 1 ∧ wr = w ∧ Hid (R = endR (decide (a = F)) (p.data.toList.drop a) a)) (fun iv _ => p.size + 1 - (intOf iv).toNat)
    case atStart => exact ⟨F, rfl, Nat.le_refl _, by omega, rfl, by rw [show decide (F = F) = true from decide_eq_true rfl]; exact HR.out⟩
    case round =>
      clear HR
      obtain ⟨a, rfl, haF, ha, rfl, HX⟩ := hrel
      by_cases hlt : a < p.size
      · have hround := rstep p a F R HX.out haF hlt
        clear HX
        rcases hround with ⟨b1, d1, HRR⟩ | ⟨hguard, h92⟩
        · go_wp2
          go_ret
          exact ⟨by rw [HRR.out]; go_num, rfl⟩
        · rcases hguard with b1 | ⟨b1, d1⟩
          · rcases h92 with ⟨b2, HX2⟩ | ⟨b2, HX2⟩
            · go_wp2
              go_roundw
              case rel => exact ⟨a + 1, by go_num, by omega, by omega, trivial, HX2⟩
              case measure => simp [intOf]; omega
            · go_wp2
              go_roundw
              case rel => exact ⟨a + 2, by go_num, by omega, by omega, trivial, HX2⟩
              case measure => simp [intOf]; omega
          · rcases h92 with ⟨b2, HX2⟩ | ⟨b2, HX2⟩
            · go_wp2
              go_roundw
              case rel => exact ⟨a + 1, by go_num, by omega, by omega, trivial, HX2⟩
              case measure => simp [intOf]; omega
            · go_wp2
              go_roundw
              case rel => exact ⟨a + 2, by go_num, by omega, by omega, trivial, HX2⟩
              case measure => simp [intOf]; omega
      · have HN : Hid (R = -1) := by show _ = _; rw [HX.out, List.drop_of_length_le (by rw [list_len]; omega), endR_nil]
        clear HX
        go_wp2
        go_ret
        exact ⟨by rw [HN.out]; rfl, rfl⟩
  · go_enter Tryd.func71, Tryd.ntmps71
    go_wp2
    go_loopw [5] (fun iv wr => ∃ a : Nat, iv = .int .i64 (a : Int) ∧ F ≤ a ∧ a ≤ p.size + 1 ∧ wr = w ∧ Hid (R = endR (decide (a = F)) (p.data.toList.drop a) a)) (fun iv _ => p.size + 1 - (intOf iv).toNat)
    case atStart => exact ⟨F, rfl, Nat.le_refl _, by omega, rfl, by rw [show decide (F = F) = true from decide_eq_true rfl]; exact HR.out⟩
    case round =>
      clear HR
      obtain ⟨a, rfl, haF, ha, rfl, HX⟩ := hrel
      by_cases hlt : a < p.size
      · have hround := rstep p a F R HX.out haF hlt
        clear HX
        rcases hround with ⟨b1, d1, HRR⟩ | ⟨hguard, h92⟩
        · go_wp2
          go_ret
          exact ⟨by rw [HRR.out]; go_num, rfl⟩
        · rcases hguard with b1 | ⟨b1, d1⟩
          · rcases h92 with ⟨b2, HX2⟩ | ⟨b2, HX2⟩
            · go_wp2
              go_roundw
              case rel => exact ⟨a + 1, by go_num, by omega, by omega, trivial, HX2⟩
              case measure => simp [intOf]; omega
            · go_wp2
              go_roundw
              case rel => exact ⟨a + 2, by go_num, by omega, by omega, trivial, HX2⟩
              case measure => simp [intOf]; omega
          · rcases h92 with ⟨b2, HX2⟩ | ⟨b2, HX2⟩
            · go_wp2
              go_roundw
              case rel => exact ⟨a + 1, by go_num, by omega, by omega, trivial, HX2⟩
              case measure => simp [intOf]; omega
            · go_wp2
              go_roundw
              case rel => exact ⟨a + 2, by go_num, by omega, by omega, trivial, HX2⟩
              case measure => simp [intOf]; omega
      · have HN : Hid (R = -1) := by show _ = _; rw [HX.out, List.drop_of_length_le (by rw [list_len]; omega), endR_nil]
        clear HX
        go_wp2
        go_ret
        exact ⟨by rw [HN.out]; rfl, rfl⟩
  · have HRq : Hid (R = endR true (p.data.toList.drop q) q) := by show _ = _; rw [← HQ.out]; exact HR.out
    have hFl2 : q ≤ p.size := by omega
    clear HR HQ hFl
    go_enter Tryd.func71, Tryd.ntmps71
    go_wp2
    go_loopw [5] (fun iv wr => ∃ a : Nat, iv = .int .i64 (a : Int) ∧ q ≤ a ∧ a ≤ p.size + 1 ∧ wr = w ∧ Hid (R = endR (decide (a = q)) (p.data.toList.drop a) a)) (fun iv _ => p.size + 1 - (intOf iv).toNat)
    case atStart => exact ⟨q, rfl, Nat.le_refl _, by omega, rfl, by rw [show decide (q = q) = true from decide_eq_true rfl]; exact HRq.out⟩
    case round =>
      clear HRq
      obtain ⟨a, rfl, haF, ha, rfl, HX⟩ := hrel
      by_cases hlt : a < p.size
      · have hround := rstep p a q R HX.out haF hlt
        clear HX
        rcases hround with ⟨b1, d1, HRR⟩ | ⟨hguard, h92⟩
        · go_wp2
          go_ret
          exact ⟨by rw [HRR.out]; go_num, rfl⟩
        · rcases hguard with b1 | ⟨b1, d1⟩
          · rcases h92 with ⟨b2, HX2⟩ | ⟨b2, HX2⟩
            · go_wp2
              go_roundw
              case rel => exact ⟨a + 1, by go_num, by omega, by omega, trivial, HX2⟩
              case measure => simp [intOf]; omega
            · go_wp2
              go_roundw
              case rel => exact ⟨a + 2, by go_num, by omega, by omega, trivial, HX2⟩
              case measure => simp [intOf]; omega
          · rcases h92 with ⟨b2, HX2⟩ | ⟨b2, HX2⟩
            · go_wp2
              go_roundw
              case rel => exact ⟨a + 1, by go_num, by omega, by omega, trivial, HX2⟩
              case measure => simp [intOf]; omega
            · go_wp2
              go_roundw
              case rel => exact ⟨a + 2, by go_num, by omega, by omega, trivial, HX2⟩
              case measure => simp [intOf]; omega
      · have HN : Hid (R = -1) := by show _ = _; rw [HX.out, List.drop_of_length_le (by rw [list_len]; omega), endR_nil]
        clear HX
        go_wp2
        go_ret
        exact ⟨by rw [HN.out]; rfl, rfl⟩
  · have HRq : Hid (R = endR true (p.data.toList.drop q) q) := by show _ = _; rw [← HQ.out]; exact HR.out
    have hFl2 : q ≤ p.size := by omega
    have hFl3 : p.size ≤ q := by omega
    clear HR HQ hFl hqs
    go_enter Tryd.func71, Tryd.ntmps71
    go_wp2
    go_loopw [5] (fun iv wr => iv = .int .i64 (q : Int) ∧ wr = w) (fun iv _ => 0)
    case atStart => exact ⟨rfl, rfl⟩
    case round =>
      obtain ⟨rfl, rfl⟩ := hrel
      have HN : Hid (R = -1) := by show _ = _; rw [HRq.out, List.drop_of_length_le (by rw [list_len]; omega), endR_nil]
      clear HRq
      go_wp2
      go_ret
      exact ⟨by rw [HN.out]; rfl, rfl⟩
end Go.Proofs.YtdgcmapmnkopaaaDoor
