/-
  The walks of char, item, class, element and isPart.
-/
import Derived.Test.YtdgcmapmnkopaaaDoorGlPlain
import Derived.Test.YtdgcmapmnkopaaaDoorPtParts
namespace Go.Proofs.YtdgcmapmnkopaaaDoor
open Go.RowKit

theorem u8_not {n : Nat} {c : UInt8} (h : n < 256) (hc : c ≠ UInt8.ofNat n) : ((c.toNat : Int) == (n : Int)) = false := by
  rw [beq_eq_false_iff_ne]
  intro e
  refine hc (UInt8.toNat_inj.mp ?_)
  rw [← Int.natCast_inj, u8nat h]
  exact e
theorem u8_notn {n : Nat} {c : UInt8} (h : n < 256) (hc : c ≠ UInt8.ofNat n) : ((c.toNat : Int) != (n : Int)) = true := by
  rw [bne, u8_not h hc]
  rfl
theorem cv_one {p : ByteArray} {k : Nat} (h : k < p.size) (hc : p[k] ≠ 92) : cv (p.data.toList.drop k) = p[k] := by
  rw [pt_drop p k h, cv, if_neg hc]
theorem cv_two {p : ByteArray} {k : Nat} (h : k + 1 < p.size) (hc : p[k] = 92) : cv (p.data.toList.drop k) = p[k + 1] := by
  rw [pt_drop p k (by omega), cv, if_pos hc, pt_drop p (k + 1) h]
  rfl
theorem cv_end {p : ByteArray} {k : Nat} (h : k + 1 = p.size) (hc : p[k] = 92) : cv (p.data.toList.drop k) = 0 := by
  rw [pt_drop p k (by omega), cv, if_pos hc, List.drop_of_length_le (by rw [list_len]; omega)]
  rfl

theorem tup2 {k k2 : IntKind} {a b c d : Int} (h : a = b) (h2 : c = d) : Ending.returned (.tuple #[.int k a, .int k2 c]) = .returned (.tuple #[.int k b, .int k2 d]) := by rw [h, h2]
theorem tup3 {k k2 k3 : IntKind} {a b c d x y : Int} (h : a = b) (h2 : c = d) (h3 : x = y) : Ending.returned (.tuple #[.int k a, .int k2 c, .int k3 x]) = .returned (.tuple #[.int k b, .int k2 d, .int k3 y]) := by rw [h, h2, h3]
theorem w32 (c : UInt8) : wrap32 (c.toNat : Int) = (c.toNat : Int) := by
  have := c.toNat_lt
  unfold wrap32
  omega
set_option maxHeartbeats 1000000 in
set_option maxRecDepth 4000 in
theorem char_any (p : ByteArray) (k : Nat) (V : UInt8) (N : Nat) (w : World) (hk : k < p.size) (hs : p.size ≤ 1048576) (hV : V = cv (p.data.toList.drop k)) (hN : N = k + ck p[k]) :
    Calls Tryd.prog 85 #[.string p, .int .i64 (k : Int)] w fun e w' => e = .returned (.tuple #[.int .i32 (V.toNat : Int), .int .i64 (N : Int)]) ∧ w = w' := by
  by_cases hc : p[k] = 92
  · rw [ck, if_pos hc] at hN
    by_cases h1 : k + 1 = p.size
    · have a1 : ((p[k].toNat : Int) != 92) = false := by rw [bne_eq_false_iff_eq, hc]; rfl
      obtain ⟨q, hq⟩ : ∃ q, q = k + 1 := ⟨_, rfl⟩
      have i1 : IntKind.i64.wrap ((k : Int) + 1) = (q : Int) := by rw [IntWalk.i64_in _ (by omega)]; omega
      have e1 : ((q : Int) == (p.size : Int)) = true := by rw [beq_iff_eq]; omega
      have i2 : IntKind.i64.wrap ((p.size : Int) + 1) = (N : Int) := by rw [IntWalk.i64_in _ (by omega)]; omega
      have HV : Hid (V = 0) := by show _ = _; rw [hV, cv_end h1 hc]
      clear hV hN hc h1 hq
      go_enter Tryd.func85, Tryd.ntmps85
      go_wp2
      go_ret2
      exact ⟨by rw [HV.out]; rfl, rfl⟩
    · have h2 : k + 1 < p.size := by omega
      have a1 : ((p[k].toNat : Int) != 92) = false := by rw [bne_eq_false_iff_eq, hc]; rfl
      have HV : Hid (V = p[k + 1]) := by show _ = _; rw [hV, cv_two h2 hc]
      have hne : ((k + 1 : Nat) : Int) ≠ (p.size : Int) := by omega
      have i1 : IntKind.i64.wrap ((k : Int) + 1) = ((k + 1 : Nat) : Int) := by rw [IntWalk.i64_in _ (by omega)]; omega
      have e1 : (((k + 1 : Nat) : Int) == (p.size : Int)) = false := by rw [beq_eq_false_iff_ne]; exact hne
      have i2 : IntKind.i64.wrap ((k : Int) + 2) = (N : Int) := by rw [IntWalk.i64_in _ (by omega)]; omega
      clear hV hN hc h1
      go_enter Tryd.func85, Tryd.ntmps85
      go_wp2
      go_ret2
      exact ⟨tup2 (by rw [HV.out]; exact w32 _) rfl, rfl⟩
  · rw [ck, if_neg hc] at hN
    have a1 : ((p[k].toNat : Int) != 92) = true := u8_notn (n := 92) (by decide) hc
    have HV : Hid (V = p[k]) := by show _ = _; rw [hV, cv_one hk hc]
    have i1 : IntKind.i64.wrap ((k : Int) + 1) = (N : Int) := by rw [IntWalk.i64_in _ (by omega)]; omega
    clear hV hN hc
    go_enter Tryd.func85, Tryd.ntmps85
    go_wp2
    go_ret2
    exact ⟨tup2 (by rw [HV.out]; exact w32 _) rfl, rfl⟩

theorem it_at (p : ByteArray) (k : Nat) (h : k < p.size) : it (p.data.toList.drop k) = match p.data.toList.drop (k + ck p[k]) with
    | x :: y :: t => if x = 45 ∧ y ≠ 93 then (cv (p.data.toList.drop k), cv (y :: t), ck p[k] + 1 + ck y) else (cv (p.data.toList.drop k), cv (p.data.toList.drop k), ck p[k])
    | _ => (cv (p.data.toList.drop k), cv (p.data.toList.drop k), ck p[k]) := by
  have e : p.data.toList.drop (k + ck p[k]) = (p[k] :: p.data.toList.drop (k + 1)).drop (ck p[k]) := by rw [← pt_drop p k h, List.drop_drop]
  rw [e, pt_drop p k h, it]
  rfl
theorem it_no {p : ByteArray} {k q : Nat} (h : k < p.size) (hq : q = k + ck p[k]) (hn : ∀ (h1 : q + 1 < p.size), p[q] = 45 → p[q + 1] = 93) : it (p.data.toList.drop k) = (cv (p.data.toList.drop k), cv (p.data.toList.drop k), ck p[k]) := by
  rw [it_at p k h, ← hq]
  by_cases h1 : q + 1 < p.size
  · rw [pt_drop p q (by omega), pt_drop p (q + 1) h1]
    simp only
    rw [if_neg (fun hc => hc.2 (hn h1 hc.1))]
  · by_cases h2 : q < p.size
    · rw [pt_drop p q h2, List.drop_of_length_le (by rw [list_len]; omega)]
    · rw [List.drop_of_length_le (by rw [list_len]; omega)]
theorem it_yes {p : ByteArray} {k q : Nat} (h : k < p.size) (hq : q = k + ck p[k]) (h1 : q + 1 < p.size) (hx : p[q] = 45) (hy : p[q + 1] ≠ 93) : it (p.data.toList.drop k) = (cv (p.data.toList.drop k), cv (p.data.toList.drop (q + 1)), ck p[k] + 1 + ck p[q + 1]) := by
  rw [it_at p k h, ← hq, pt_drop p q (by omega), pt_drop p (q + 1) h1]
  simp only
  rw [if_pos ⟨hx, hy⟩]

set_option maxHeartbeats 1000000 in
set_option maxRecDepth 4000 in
theorem item_any (p : ByteArray) (k : Nat) (L H : UInt8) (N : Nat) (w : World) (hk : k < p.size) (hs : p.size ≤ 1048576) (hI : it (p.data.toList.drop k) = (L, H, N)) :
    Calls Tryd.prog 97 #[.string p, .int .i64 (k : Int)] w fun e w' => e = .returned (.tuple #[.int .i32 (L.toNat : Int), .int .i32 (H.toNat : Int), .int .i64 ((k + N : Nat) : Int)]) ∧ w = w' := by
  obtain ⟨q, hq⟩ : ∃ q, q = k + ck p[k] := ⟨_, rfl⟩
  obtain ⟨V, hV⟩ : ∃ V, V = cv (p.data.toList.drop k) := ⟨_, rfl⟩
  have HC1 := Lib.hid (fun w => char_any p k V q w hk hs hV hq)
  have hcp := ck_pos p[k]
  have hq4 : q ≤ p.size + 1 := by omega
  have i1 : IntKind.i64.wrap ((q : Int) + 1) = ((q + 1 : Nat) : Int) := by rw [IntWalk.i64_in _ (by omega)]; omega
  by_cases hyes : ∃ h1 : q + 1 < p.size, p[q] = 45 ∧ p[q + 1] ≠ 93
  · obtain ⟨h1, hx, hy⟩ := hyes
    have h2 : q < p.size := Nat.lt_of_succ_lt h1
    rw [it_yes hk hq h1 hx hy] at hI
    simp only [Prod.mk.injEq] at hI
    obtain ⟨U, hU⟩ : ∃ U, U = cv (p.data.toList.drop (q + 1)) := ⟨_, rfl⟩
    obtain ⟨M, hM⟩ : ∃ M, M = q + 1 + ck p[q + 1] := ⟨_, rfl⟩
    have HC2 := Lib.hid (fun w => char_any p (q + 1) U M w h1 hs hU hM)
    have HL : Hid (L = V) := by show _ = _; rw [hV]; exact hI.1.symm
    have HH : Hid (H = U) := by show _ = _; rw [hU]; exact hI.2.1.symm
    have HM : Hid (((k + N : Nat) : Int) = (M : Int)) := by show _ = _; have := hI.2.2; omega
    have a1 : (((p[q]'h2).toNat : Int) != 45) = false := by rw [bne_eq_false_iff_eq, hx]; rfl
    have a2 : (((p[q + 1]'h1).toNat : Int) == 93) = false := u8_not (n := 93) (by decide) hy
    clear hI hU hM hV hq hx hy hcp
    go_enter Tryd.func97, Tryd.ntmps97
    go_wp2_with (go_at_call 85; first
      | ((with_reducible refine (HC1.out _).mono ?_); rintro e w' ⟨rfl, rfl⟩)
      | ((refine (HC2.out _).mono ?_); rintro e w' ⟨rfl, rfl⟩))
    go_ret3
    exact ⟨tup3 (by rw [HL.out]) (by rw [HH.out]) (by have := HM.out; omega), rfl⟩
  · have hno : ∀ (h1 : q + 1 < p.size), p[q] = 45 → p[q + 1] = 93 := fun h1 hx => by
      rcases Decidable.em (p[q + 1] = 93) with h | h
      · exact h
      · exact absurd ⟨h1, hx, h⟩ hyes
    rw [it_no hk hq hno] at hI
    simp only [Prod.mk.injEq] at hI
    have HL : Hid (L = V) := by show _ = _; rw [hV]; exact hI.1.symm
    have HH : Hid (H = V) := by show _ = _; rw [hV]; exact hI.2.1.symm
    have HM : Hid (((k + N : Nat) : Int) = (q : Int)) := by show _ = _; have := hI.2.2; omega
    have hc : (p.size ≤ q + 1) ∨ (∃ h1 : q + 1 < p.size, p[q] ≠ 45) ∨ (∃ h1 : q + 1 < p.size, p[q] = 45 ∧ p[q + 1] = 93) := by
      by_cases h1 : q + 1 < p.size
      · by_cases hx : p[q] = 45
        · exact .inr (.inr ⟨h1, hx, hno h1 hx⟩)
        · exact .inr (.inl ⟨h1, hx⟩)
      · exact .inl (by omega)
    clear hI hV hq hcp hyes hno
    rcases hc with h1 | ⟨h1, hx⟩ | ⟨h1, hx, hy⟩
    · have d1 : decide (p.size ≤ q + 1) = true := decide_eq_true h1
      go_enter Tryd.func97, Tryd.ntmps97
      go_wp2_with (go_at_call 85; ((with_reducible refine (HC1.out _).mono ?_); rintro e w' ⟨rfl, rfl⟩))
      go_ret3
      exact ⟨tup3 (by rw [HL.out]) (by rw [HH.out]) (by have := HM.out; omega), rfl⟩
    · have d1 : decide (p.size ≤ q + 1) = false := decide_eq_false (by omega)
      have h2 : q < p.size := Nat.lt_of_succ_lt h1
      have a1 : (((p[q]'h2).toNat : Int) != 45) = true := u8_notn (n := 45) (by decide) hx
      clear hx
      go_enter Tryd.func97, Tryd.ntmps97
      go_wp2_with (go_at_call 85; ((with_reducible refine (HC1.out _).mono ?_); rintro e w' ⟨rfl, rfl⟩))
      go_ret3
      exact ⟨tup3 (by rw [HL.out]) (by rw [HH.out]) (by have := HM.out; omega), rfl⟩
    · have d1 : decide (p.size ≤ q + 1) = false := decide_eq_false (by omega)
      have h2 : q < p.size := Nat.lt_of_succ_lt h1
      have a1 : (((p[q]'h2).toNat : Int) != 45) = false := by rw [bne_eq_false_iff_eq, hx]; rfl
      have a2 : (((p[q + 1]'h1).toNat : Int) == 93) = true := by rw [beq_iff_eq, hy]; rfl
      clear hx hy
      go_enter Tryd.func97, Tryd.ntmps97
      go_wp2_with (go_at_call 85; ((with_reducible refine (HC1.out _).mono ?_); rintro e w' ⟨rfl, rfl⟩))
      go_ret3
      exact ⟨tup3 (by rw [HL.out]) (by rw [HH.out]) (by have := HM.out; omega), rfl⟩

theorem it_le (c : UInt8) (r : List UInt8) : (it (c :: r)).2.2 ≤ (c :: r).length + 1 := by
  have h1 := ck_pos c
  rw [it]
  split
  · rename_i x y t h
    have h2 := congrArg List.length h
    simp only [List.length_drop, List.length_cons] at h2 ⊢
    have h3 := ck_pos y
    split <;> simp only <;> omega
  · simp only [List.length_cons]
    omega
/-- What class answers. -/
def classR (p : ByteArray) (k : Nat) (b : UInt8) : Bool × Nat := cg (decide (ng (p.data.toList.drop k) = 1)) b false true (p.data.toList.drop (k + ng (p.data.toList.drop k))) (k + ng (p.data.toList.drop k)) p.size
theorem bt2 {k2 : IntKind} {a b : Bool} {c d : Int} (h : a = b) (h2 : c = d) : Ending.returned (.tuple #[.bool a, .int k2 c]) = .returned (.tuple #[.bool b, .int k2 d]) := by rw [h, h2]

set_option maxHeartbeats 2000000 in
set_option maxRecDepth 4000 in
/-- The loop's walk: from the first place on. -/
theorem class_any (p : ByteArray) (k : Nat) (b : UInt8) (B : Bool) (N : Nat) (w : World) (hk : k ≤ p.size) (hs : p.size ≤ 1048576) (hR : classR p k b = (B, N)) :
    Calls Tryd.prog 84 #[.string p, .int .i64 (k : Int), .int .i32 (b.toNat : Int)] w fun e w' => e = .returned (.tuple #[.bool B, .int .i64 (N : Int)]) ∧ w = w' := by
  obtain ⟨G, hG⟩ : ∃ G, G = decide (ng (p.data.toList.drop k) = 1) := ⟨_, rfl⟩
  obtain ⟨F, hF⟩ : ∃ F, F = k + ng (p.data.toList.drop k) := ⟨_, rfl⟩
  have HR : Hid (cg G b false true (p.data.toList.drop F) F p.size = (B, N)) := by
    show _ = _
    rw [hG, hF]
    exact hR
  have HIT := Lib.hid (fun (a : Nat) (ha : a < p.size) (L H : UInt8) (M : Nat) (hI : it (p.data.toList.drop a) = (L, H, M)) (w : World) => item_any p a L H M w ha hs hI)
  have hcases : (G = true ∧ F = k + 1 ∧ ∃ h : k < p.size, p[k] = 33 ∨ p[k] = 94) ∨ (G = false ∧ F = k ∧ ∃ h : k < p.size, p[k] ≠ 33 ∧ p[k] ≠ 94) ∨ (G = false ∧ F = k ∧ k = p.size) := by
    by_cases h : k < p.size
    · rw [pt_drop p k h, ng] at hG hF
      by_cases h2 : p[k] = 33 ∨ p[k] = 94
      · rw [if_pos h2] at hG hF
        exact .inl ⟨hG, hF, h, h2⟩
      · rw [if_neg h2] at hG hF
        exact .inr (.inl ⟨hG, hF, h, fun e => h2 (.inl e), fun e => h2 (.inr e)⟩)
    · have e : p.data.toList.drop k = [] := List.drop_of_length_le (by rw [list_len]; omega)
      rw [e, ng] at hG hF
      exact .inr (.inr ⟨hG, hF, by omega⟩)
  have hFl : F ≤ p.size := by
    rcases hcases with ⟨_, h1, h2, _⟩ | ⟨_, h1, h2, _⟩ | ⟨_, h1, h2⟩ <;> omega
  clear hR hG hF
  rcases hcases with ⟨rfl, rfl, h, h33 | h94⟩ | ⟨rfl, rfl, h, h33, h94⟩ | ⟨rfl, rfl, rfl⟩
  · have a1 : (((p[k]'h).toNat : Int) == 33) = true := by rw [beq_iff_eq, h33]; rfl
    obtain ⟨F, hF⟩ : ∃ F, F = k + 1 := ⟨_, rfl⟩
    rw [← hF] at HR hFl
    have i0 : IntKind.i64.wrap ((k : Int) + 1) = (F : Int) := by rw [IntWalk.i64_in _ (by omega)]; omega
    clear h33 hF
    go_enter Tryd.func84, Tryd.ntmps84
    go_wp2
    go_loop [1, 9] (fun av fv => ∃ (a : Nat) (f : Bool), F ≤ a ∧ a ≤ p.size + 1 ∧ av = .int .i64 (a : Int) ∧ fv = .bool f ∧ Hid (cg true b f (decide (a = F)) (p.data.toList.drop a) a p.size = (B, N))) (fun av _ => p.size + 1 - (intOf av).toNat)
    case atStart => exact ⟨F, false, Nat.le_refl _, by omega, rfl, rfl, by rw [show decide (F = F) = true from decide_eq_true rfl]; exact HR.out⟩
    case round =>
      clear HR
      obtain ⟨a, f, haF, ha, rfl, rfl, HX⟩ := hrel
      by_cases hlt : a < p.size
      · have hX := HX.out
        rw [pt_drop p a hlt] at hX
        by_cases hend : p[a]'hlt = 93 ∧ decide (a = F) = false
        · rw [hend.1, hend.2, cg_end] at hX
          simp only [Prod.mk.injEq] at hX
          have a1 : (((p[a]'hlt).toNat : Int) == 93) = true := by rw [beq_iff_eq, hend.1]; rfl
          have hd := of_decide_eq_false hend.2
          have d1 : decide (F < a) = true := decide_eq_true (by omega)
          have i1 : IntKind.i64.wrap ((a : Int) + 1) = (N : Int) := by rw [IntWalk.i64_in _ (by omega)]; omega
          have HB : Hid (B = (f != true)) := hX.1.symm
          clear hX hend hd
          rcases f with _ | _
          all_goals go_wp2
          all_goals go_ret2
          all_goals exact ⟨bt2 HB.out.symm rfl, rfl⟩
        · rw [cg_on hend] at hX
          have hil := it_le (p[a]'hlt) (p.data.toList.drop (a + 1))
          rw [← pt_drop p a hlt] at hX hil
          have hip := it_pos (p.data.toList.drop a)
          obtain ⟨L, H, M, hI⟩ : ∃ L H M, it (p.data.toList.drop a) = (L, H, M) := ⟨_, _, _, rfl⟩
          rw [hI] at hX hip hil
          simp only [List.length_drop, list_len, List.drop_drop] at hX hip hil
          have HI := Lib.hid (HIT.out a hlt L H M hI)
          have haM : a + M ≤ p.size + 1 := by omega
          have hF2 : decide (a + M = F) = false := decide_eq_false (by omega)
          have HM := Lib.hid (And.intro haM hip)
          have hguard : (((p[a]'hlt).toNat : Int) == 93) = false ∨ (((p[a]'hlt).toNat : Int) == 93) = true ∧ decide (F < a) = false := by
            by_cases h93 : p[a]'hlt = 93
            · right
              refine ⟨by rw [beq_iff_eq, h93]; rfl, decide_eq_false fun h => hend ⟨h93, decide_eq_false (by omega)⟩⟩
            · left
              exact u8_not (n := 93) (by decide) h93
          have hf : f = true ∨ (f = false ∧ decide (L.toNat ≤ b.toNat) = false) ∨ (f = false ∧ decide (L.toNat ≤ b.toNat) = true ∧ decide (b.toNat ≤ H.toNat) = false) ∨ (f = false ∧ decide (L.toNat ≤ b.toNat) = true ∧ decide (b.toNat ≤ H.toNat) = true) := by
            rcases f with _ | _
            · right
              by_cases h1 : L.toNat ≤ b.toNat
              · right
                by_cases h2 : b.toNat ≤ H.toNat
                · exact .inr ⟨rfl, decide_eq_true h1, decide_eq_true h2⟩
                · exact .inl ⟨rfl, decide_eq_true h1, decide_eq_false h2⟩
              · exact .inl ⟨rfl, decide_eq_false h1⟩
            · exact .inl rfl
          have HX2 : Hid (cg true b (f || (decide (L.toNat ≤ b.toNat) && decide (b.toNat ≤ H.toNat))) (decide (a + M = F)) (p.data.toList.drop (a + M)) (a + M) p.size = (B, N)) := by
            show _ = _
            rw [hF2, ← Bool.decide_and]
            exact hX
          clear hX hI hend hil haM hF2 hip
          rcases hf with rfl | ⟨rfl, d1⟩ | ⟨rfl, d1, d2⟩ | ⟨rfl, d1, d2⟩ <;> rcases hguard with g1 | ⟨g1, g2⟩
          all_goals try rw [d1] at HX2
          all_goals try rw [d2] at HX2
          all_goals go_wp2_with (go_at_call 97; ((with_reducible refine (HI.out _).mono ?_); rintro e w' ⟨rfl, rfl⟩))
          all_goals go_round
          all_goals first
            | (case rel => exact ⟨a + M, _, by omega, HM.out.1, rfl, rfl, HX2.out⟩)
            | skip
          all_goals (have := HM.out; simp [intOf]; omega)
      · have hX := HX.out
        rw [List.drop_of_length_le (by rw [list_len]; omega), cg_nil] at hX
        simp only [Prod.mk.injEq] at hX
        have HB : Hid (B = false) := hX.1.symm
        have i1 : IntKind.i64.wrap ((p.size : Int) + 1) = (N : Int) := by rw [IntWalk.i64_in _ (by omega)]; omega
        clear hX
        go_wp2
        go_ret2
        exact ⟨bt2 HB.out.symm rfl, rfl⟩
  · have a1 : (((p[k]'h).toNat : Int) == 33) = false := by rw [h94]; rfl
    have a2 : (((p[k]'h).toNat : Int) == 94) = true := by rw [beq_iff_eq, h94]; rfl
    obtain ⟨F, hF⟩ : ∃ F, F = k + 1 := ⟨_, rfl⟩
    rw [← hF] at HR hFl
    have i0 : IntKind.i64.wrap ((k : Int) + 1) = (F : Int) := by rw [IntWalk.i64_in _ (by omega)]; omega
    clear h94 hF
    go_enter Tryd.func84, Tryd.ntmps84
    go_wp2
    go_loop [1, 9] (fun av fv => ∃ (a : Nat) (f : Bool), F ≤ a ∧ a ≤ p.size + 1 ∧ av = .int .i64 (a : Int) ∧ fv = .bool f ∧ Hid (cg true b f (decide (a = F)) (p.data.toList.drop a) a p.size = (B, N))) (fun av _ => p.size + 1 - (intOf av).toNat)
    case atStart => exact ⟨F, false, Nat.le_refl _, by omega, rfl, rfl, by rw [show decide (F = F) = true from decide_eq_true rfl]; exact HR.out⟩
    case round =>
      clear HR
      obtain ⟨a, f, haF, ha, rfl, rfl, HX⟩ := hrel
      by_cases hlt : a < p.size
      · have hX := HX.out
        rw [pt_drop p a hlt] at hX
        by_cases hend : p[a]'hlt = 93 ∧ decide (a = F) = false
        · rw [hend.1, hend.2, cg_end] at hX
          simp only [Prod.mk.injEq] at hX
          have a1 : (((p[a]'hlt).toNat : Int) == 93) = true := by rw [beq_iff_eq, hend.1]; rfl
          have hd := of_decide_eq_false hend.2
          have d1 : decide (F < a) = true := decide_eq_true (by omega)
          have i1 : IntKind.i64.wrap ((a : Int) + 1) = (N : Int) := by rw [IntWalk.i64_in _ (by omega)]; omega
          have HB : Hid (B = (f != true)) := hX.1.symm
          clear hX hend hd
          rcases f with _ | _
          all_goals go_wp2
          all_goals go_ret2
          all_goals exact ⟨bt2 HB.out.symm rfl, rfl⟩
        · rw [cg_on hend] at hX
          have hil := it_le (p[a]'hlt) (p.data.toList.drop (a + 1))
          rw [← pt_drop p a hlt] at hX hil
          have hip := it_pos (p.data.toList.drop a)
          obtain ⟨L, H, M, hI⟩ : ∃ L H M, it (p.data.toList.drop a) = (L, H, M) := ⟨_, _, _, rfl⟩
          rw [hI] at hX hip hil
          simp only [List.length_drop, list_len, List.drop_drop] at hX hip hil
          have HI := Lib.hid (HIT.out a hlt L H M hI)
          have haM : a + M ≤ p.size + 1 := by omega
          have hF2 : decide (a + M = F) = false := decide_eq_false (by omega)
          have HM := Lib.hid (And.intro haM hip)
          have hguard : (((p[a]'hlt).toNat : Int) == 93) = false ∨ (((p[a]'hlt).toNat : Int) == 93) = true ∧ decide (F < a) = false := by
            by_cases h93 : p[a]'hlt = 93
            · right
              refine ⟨by rw [beq_iff_eq, h93]; rfl, decide_eq_false fun h => hend ⟨h93, decide_eq_false (by omega)⟩⟩
            · left
              exact u8_not (n := 93) (by decide) h93
          have hf : f = true ∨ (f = false ∧ decide (L.toNat ≤ b.toNat) = false) ∨ (f = false ∧ decide (L.toNat ≤ b.toNat) = true ∧ decide (b.toNat ≤ H.toNat) = false) ∨ (f = false ∧ decide (L.toNat ≤ b.toNat) = true ∧ decide (b.toNat ≤ H.toNat) = true) := by
            rcases f with _ | _
            · right
              by_cases h1 : L.toNat ≤ b.toNat
              · right
                by_cases h2 : b.toNat ≤ H.toNat
                · exact .inr ⟨rfl, decide_eq_true h1, decide_eq_true h2⟩
                · exact .inl ⟨rfl, decide_eq_true h1, decide_eq_false h2⟩
              · exact .inl ⟨rfl, decide_eq_false h1⟩
            · exact .inl rfl
          have HX2 : Hid (cg true b (f || (decide (L.toNat ≤ b.toNat) && decide (b.toNat ≤ H.toNat))) (decide (a + M = F)) (p.data.toList.drop (a + M)) (a + M) p.size = (B, N)) := by
            show _ = _
            rw [hF2, ← Bool.decide_and]
            exact hX
          clear hX hI hend hil haM hF2 hip
          rcases hf with rfl | ⟨rfl, d1⟩ | ⟨rfl, d1, d2⟩ | ⟨rfl, d1, d2⟩ <;> rcases hguard with g1 | ⟨g1, g2⟩
          all_goals try rw [d1] at HX2
          all_goals try rw [d2] at HX2
          all_goals go_wp2_with (go_at_call 97; ((with_reducible refine (HI.out _).mono ?_); rintro e w' ⟨rfl, rfl⟩))
          all_goals go_round
          all_goals first
            | (case rel => exact ⟨a + M, _, by omega, HM.out.1, rfl, rfl, HX2.out⟩)
            | skip
          all_goals (have := HM.out; simp [intOf]; omega)
      · have hX := HX.out
        rw [List.drop_of_length_le (by rw [list_len]; omega), cg_nil] at hX
        simp only [Prod.mk.injEq] at hX
        have HB : Hid (B = false) := hX.1.symm
        have i1 : IntKind.i64.wrap ((p.size : Int) + 1) = (N : Int) := by rw [IntWalk.i64_in _ (by omega)]; omega
        clear hX
        go_wp2
        go_ret2
        exact ⟨bt2 HB.out.symm rfl, rfl⟩
  · have a1 : (((p[F]'h).toNat : Int) == 33) = false := u8_not (n := 33) (by decide) h33
    have a2 : (((p[F]'h).toNat : Int) == 94) = false := u8_not (n := 94) (by decide) h94
    clear h33 h94
    go_enter Tryd.func84, Tryd.ntmps84
    go_wp2
    go_loop [1, 9] (fun av fv => ∃ (a : Nat) (f : Bool), F ≤ a ∧ a ≤ p.size + 1 ∧ av = .int .i64 (a : Int) ∧ fv = .bool f ∧ Hid (cg false b f (decide (a = F)) (p.data.toList.drop a) a p.size = (B, N))) (fun av _ => p.size + 1 - (intOf av).toNat)
    case atStart => exact ⟨F, false, Nat.le_refl _, by omega, rfl, rfl, by rw [show decide (F = F) = true from decide_eq_true rfl]; exact HR.out⟩
    case round =>
      clear HR
      obtain ⟨a, f, haF, ha, rfl, rfl, HX⟩ := hrel
      by_cases hlt : a < p.size
      · have hX := HX.out
        rw [pt_drop p a hlt] at hX
        by_cases hend : p[a]'hlt = 93 ∧ decide (a = F) = false
        · rw [hend.1, hend.2, cg_end] at hX
          simp only [Prod.mk.injEq] at hX
          have a1 : (((p[a]'hlt).toNat : Int) == 93) = true := by rw [beq_iff_eq, hend.1]; rfl
          have hd := of_decide_eq_false hend.2
          have d1 : decide (F < a) = true := decide_eq_true (by omega)
          have i1 : IntKind.i64.wrap ((a : Int) + 1) = (N : Int) := by rw [IntWalk.i64_in _ (by omega)]; omega
          have HB : Hid (B = (f != false)) := hX.1.symm
          clear hX hend hd
          rcases f with _ | _
          all_goals go_wp2
          all_goals go_ret2
          all_goals exact ⟨bt2 HB.out.symm rfl, rfl⟩
        · rw [cg_on hend] at hX
          have hil := it_le (p[a]'hlt) (p.data.toList.drop (a + 1))
          rw [← pt_drop p a hlt] at hX hil
          have hip := it_pos (p.data.toList.drop a)
          obtain ⟨L, H, M, hI⟩ : ∃ L H M, it (p.data.toList.drop a) = (L, H, M) := ⟨_, _, _, rfl⟩
          rw [hI] at hX hip hil
          simp only [List.length_drop, list_len, List.drop_drop] at hX hip hil
          have HI := Lib.hid (HIT.out a hlt L H M hI)
          have haM : a + M ≤ p.size + 1 := by omega
          have hF2 : decide (a + M = F) = false := decide_eq_false (by omega)
          have HM := Lib.hid (And.intro haM hip)
          have hguard : (((p[a]'hlt).toNat : Int) == 93) = false ∨ (((p[a]'hlt).toNat : Int) == 93) = true ∧ decide (F < a) = false := by
            by_cases h93 : p[a]'hlt = 93
            · right
              refine ⟨by rw [beq_iff_eq, h93]; rfl, decide_eq_false fun h => hend ⟨h93, decide_eq_false (by omega)⟩⟩
            · left
              exact u8_not (n := 93) (by decide) h93
          have hf : f = true ∨ (f = false ∧ decide (L.toNat ≤ b.toNat) = false) ∨ (f = false ∧ decide (L.toNat ≤ b.toNat) = true ∧ decide (b.toNat ≤ H.toNat) = false) ∨ (f = false ∧ decide (L.toNat ≤ b.toNat) = true ∧ decide (b.toNat ≤ H.toNat) = true) := by
            rcases f with _ | _
            · right
              by_cases h1 : L.toNat ≤ b.toNat
              · right
                by_cases h2 : b.toNat ≤ H.toNat
                · exact .inr ⟨rfl, decide_eq_true h1, decide_eq_true h2⟩
                · exact .inl ⟨rfl, decide_eq_true h1, decide_eq_false h2⟩
              · exact .inl ⟨rfl, decide_eq_false h1⟩
            · exact .inl rfl
          have HX2 : Hid (cg false b (f || (decide (L.toNat ≤ b.toNat) && decide (b.toNat ≤ H.toNat))) (decide (a + M = F)) (p.data.toList.drop (a + M)) (a + M) p.size = (B, N)) := by
            show _ = _
            rw [hF2, ← Bool.decide_and]
            exact hX
          clear hX hI hend hil haM hF2 hip
          rcases hf with rfl | ⟨rfl, d1⟩ | ⟨rfl, d1, d2⟩ | ⟨rfl, d1, d2⟩ <;> rcases hguard with g1 | ⟨g1, g2⟩
          all_goals try rw [d1] at HX2
          all_goals try rw [d2] at HX2
          all_goals go_wp2_with (go_at_call 97; ((with_reducible refine (HI.out _).mono ?_); rintro e w' ⟨rfl, rfl⟩))
          all_goals go_round
          all_goals first
            | (case rel => exact ⟨a + M, _, by omega, HM.out.1, rfl, rfl, HX2.out⟩)
            | skip
          all_goals (have := HM.out; simp [intOf]; omega)
      · have hX := HX.out
        rw [List.drop_of_length_le (by rw [list_len]; omega), cg_nil] at hX
        simp only [Prod.mk.injEq] at hX
        have HB : Hid (B = false) := hX.1.symm
        have i1 : IntKind.i64.wrap ((p.size : Int) + 1) = (N : Int) := by rw [IntWalk.i64_in _ (by omega)]; omega
        clear hX
        go_wp2
        go_ret2
        exact ⟨bt2 HB.out.symm rfl, rfl⟩
  · go_enter Tryd.func84, Tryd.ntmps84
    go_wp2
    go_loop [1, 9] (fun av fv => ∃ (a : Nat) (f : Bool), p.size ≤ a ∧ a ≤ p.size + 1 ∧ av = .int .i64 (a : Int) ∧ fv = .bool f ∧ Hid (cg false b f (decide (a = p.size)) (p.data.toList.drop a) a p.size = (B, N))) (fun av _ => p.size + 1 - (intOf av).toNat)
    case atStart => exact ⟨p.size, false, Nat.le_refl _, by omega, rfl, rfl, by rw [show decide (p.size = p.size) = true from decide_eq_true rfl]; exact HR.out⟩
    case round =>
      clear HR
      obtain ⟨a, f, haF, ha, rfl, rfl, HX⟩ := hrel
      by_cases hlt : a < p.size
      · have hX := HX.out
        rw [pt_drop p a hlt] at hX
        by_cases hend : p[a]'hlt = 93 ∧ decide (a = p.size) = false
        · rw [hend.1, hend.2, cg_end] at hX
          simp only [Prod.mk.injEq] at hX
          have a1 : (((p[a]'hlt).toNat : Int) == 93) = true := by rw [beq_iff_eq, hend.1]; rfl
          have hd := of_decide_eq_false hend.2
          have d1 : decide (p.size < a) = true := decide_eq_true (by omega)
          have i1 : IntKind.i64.wrap ((a : Int) + 1) = (N : Int) := by rw [IntWalk.i64_in _ (by omega)]; omega
          have HB : Hid (B = (f != false)) := hX.1.symm
          clear hX hend hd
          rcases f with _ | _
          all_goals go_wp2
          all_goals go_ret2
          all_goals exact ⟨bt2 HB.out.symm rfl, rfl⟩
        · rw [cg_on hend] at hX
          have hil := it_le (p[a]'hlt) (p.data.toList.drop (a + 1))
          rw [← pt_drop p a hlt] at hX hil
          have hip := it_pos (p.data.toList.drop a)
          obtain ⟨L, H, M, hI⟩ : ∃ L H M, it (p.data.toList.drop a) = (L, H, M) := ⟨_, _, _, rfl⟩
          rw [hI] at hX hip hil
          simp only [List.length_drop, list_len, List.drop_drop] at hX hip hil
          have HI := Lib.hid (HIT.out a hlt L H M hI)
          have haM : a + M ≤ p.size + 1 := by omega
          have hF2 : decide (a + M = p.size) = false := decide_eq_false (by omega)
          have HM := Lib.hid (And.intro haM hip)
          have hguard : (((p[a]'hlt).toNat : Int) == 93) = false ∨ (((p[a]'hlt).toNat : Int) == 93) = true ∧ decide (p.size < a) = false := by
            by_cases h93 : p[a]'hlt = 93
            · right
              refine ⟨by rw [beq_iff_eq, h93]; rfl, decide_eq_false fun h => hend ⟨h93, decide_eq_false (by omega)⟩⟩
            · left
              exact u8_not (n := 93) (by decide) h93
          have hf : f = true ∨ (f = false ∧ decide (L.toNat ≤ b.toNat) = false) ∨ (f = false ∧ decide (L.toNat ≤ b.toNat) = true ∧ decide (b.toNat ≤ H.toNat) = false) ∨ (f = false ∧ decide (L.toNat ≤ b.toNat) = true ∧ decide (b.toNat ≤ H.toNat) = true) := by
            rcases f with _ | _
            · right
              by_cases h1 : L.toNat ≤ b.toNat
              · right
                by_cases h2 : b.toNat ≤ H.toNat
                · exact .inr ⟨rfl, decide_eq_true h1, decide_eq_true h2⟩
                · exact .inl ⟨rfl, decide_eq_true h1, decide_eq_false h2⟩
              · exact .inl ⟨rfl, decide_eq_false h1⟩
            · exact .inl rfl
          have HX2 : Hid (cg false b (f || (decide (L.toNat ≤ b.toNat) && decide (b.toNat ≤ H.toNat))) (decide (a + M = p.size)) (p.data.toList.drop (a + M)) (a + M) p.size = (B, N)) := by
            show _ = _
            rw [hF2, ← Bool.decide_and]
            exact hX
          clear hX hI hend hil haM hF2 hip
          rcases hf with rfl | ⟨rfl, d1⟩ | ⟨rfl, d1, d2⟩ | ⟨rfl, d1, d2⟩ <;> rcases hguard with g1 | ⟨g1, g2⟩
          all_goals try rw [d1] at HX2
          all_goals try rw [d2] at HX2
          all_goals go_wp2_with (go_at_call 97; ((with_reducible refine (HI.out _).mono ?_); rintro e w' ⟨rfl, rfl⟩))
          all_goals go_round
          all_goals first
            | (case rel => exact ⟨a + M, _, by omega, HM.out.1, rfl, rfl, HX2.out⟩)
            | skip
          all_goals (have := HM.out; simp [intOf]; omega)
      · have hX := HX.out
        rw [List.drop_of_length_le (by rw [list_len]; omega), cg_nil] at hX
        simp only [Prod.mk.injEq] at hX
        have HB : Hid (B = false) := hX.1.symm
        have i1 : IntKind.i64.wrap ((p.size : Int) + 1) = (N : Int) := by rw [IntWalk.i64_in _ (by omega)]; omega
        clear hX
        go_wp2
        go_ret2
        exact ⟨bt2 HB.out.symm rfl, rfl⟩
end Go.Proofs.YtdgcmapmnkopaaaDoor
