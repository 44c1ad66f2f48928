/-
  The walk of part.
-/
import Derived.Test.YtnmebnpldacngaaHsMid
namespace Go.Proofs.Ytnmebnpldacngaa
open Go.RowKit

section
variable {W : World} {K na nb ca cb : Nat} {pa pb : Option Addr} {la lb : List (List UInt8)} {f : List UInt8 → Nat}
set_option maxHeartbeats 2000000 in
set_option maxRecDepth 4000 in
theorem part_step (hw : Hw W K pa pb na nb ca cb la lb f) (k : Nat) (hmid : MidP W K na nb ca cb pa pb la lb f k) : PartP W K na nb ca cb pa pb la lb f (k + 1) := by
  intro X Y p q n m c d i j acc R wx hx hy h hl hk hR
  obtain ⟨hinj, hfx, hfy⟩ := hw.sub hx hy
  have hXl := hx.len
  have hYl := hy.len
  have hnc := hx.cap
  have hmd := hy.cap
  have hfew := hw.kl.few
  have hxle := hx.le
  have hyle := hy.le
  rw [← hw.kl.na] at hxle
  rw [← hw.kl.nb] at hyle
  obtain ⟨C, hC⟩ : ∃ C, C = cpre X Y := ⟨_, rfl⟩
  obtain ⟨T, hT⟩ : ∃ T, T = tl X Y := ⟨_, rfl⟩
  have hCle := cpre_le X Y
  have hTle := csuf_le (X.drop C) (Y.drop C)
  rw [List.length_drop, List.length_drop, hXl, hYl, show csuf (X.drop C) (Y.drop C) = T by rw [hT, tl, hC]] at hTle
  rw [hXl, hYl, ← hC] at hCle
  obtain ⟨nh, hnh⟩ : ∃ nh, n - C = nh := ⟨_, rfl⟩
  obtain ⟨mh, hmh⟩ : ∃ mh, m - C = mh := ⟨_, rfl⟩
  obtain ⟨ch, hch⟩ : ∃ ch, c - C = ch := ⟨_, rfl⟩
  obtain ⟨dh, hdh⟩ : ∃ dh, d - C = dh := ⟨_, rfl⟩
  rw [hnh, hmh] at hTle
  obtain ⟨xn, hxn⟩ : ∃ xn, xn = nh - T := ⟨_, rfl⟩
  obtain ⟨yn, hyn⟩ : ∃ yn, yn = mh - T := ⟨_, rfl⟩
  have hix : inr X Y X = (X.drop C).take xn := by rw [inr, hXl, ← hC, ← hT, hxn, ← hnh]
  have hiy : inr X Y Y = (Y.drop C).take yn := by rw [inr, hYl, ← hC, ← hT, hyn, ← hmh]
  obtain ⟨P, hP⟩ : ∃ P, (if c = C then p else p.map (·.add C)) = P := ⟨_, rfl⟩
  obtain ⟨Q, hQ⟩ : ∃ Q, (if d = C then q else q.map (·.add C)) = Q := ⟨_, rfl⟩
  obtain ⟨iC, hiC⟩ : ∃ iC, iC = i + C := ⟨_, rfl⟩
  obtain ⟨jC, hjC⟩ : ∃ jC, jC = j + C := ⟨_, rfl⟩
  have hx1 := hx.drop C hCle.1
  have hy1 := hy.drop C hCle.2
  rw [hP, hnh, hch, ← hiC] at hx1
  rw [hQ, hmh, hdh, ← hjC] at hy1
  have hx2 := hx1.take xn (by omega)
  have hy2 := hy1.take yn (by omega)
  rw [← hix] at hx2
  rw [← hiy] at hy2
  have hxl2 : (inr X Y X).length = xn := hx2.len
  have hyl2 : (inr X Y Y).length = yn := hy2.len
  obtain ⟨A1, hA1⟩ : ∃ A1, A1 = acc ++ kp (i : Int) (j : Int) (C : Int) := ⟨_, rfl⟩
  have hA1l : A1.length ≤ acc.length + 1 := by
    have := kp_len (i : Int) (j : Int) (C : Int)
    rw [hA1, List.length_append]
    omega
  obtain ⟨A2, hA2⟩ : ∃ A2, A2 = A1 ++ (if xn = 0 ∨ yn = 0 then [] else mid LSr (sp LSr k) (inr X Y X) (inr X Y Y) (iC : Int) (jC : Int)) := ⟨_, rfl⟩
  have hR2 : R = A2 ++ kp ((iC : Int) + xn) ((jC : Int) + yn) T := by
    rw [hR, sp, hxl2, hyl2, hA2, hA1, ← hC, ← hT, hiC, hjC, List.append_assoc, List.append_assoc]
    rfl
  have hA2l : A2.length ≤ 600000 := by
    rw [hA2, List.length_append]
    split
    · simp only [List.length_nil]; omega
    · have := mid_len (sp LSr k) (inr X Y X) (inr X Y Y) (iC : Int) (jC : Int) (fun X' Y' i j _ => sp_len k X' Y' i j) (by omega)
      omega
  have HK := Lib.hid h
  have HC1 : Hid (∀ w, W.grownBy w (some K) → Calls Try.prog 38 #[.slice p n c, .slice q m d] w fun e w' => e = .returned (.int .i64 (C : Nat)) ∧ ∃ k, w' = w.drewN k) := fun w hg => by
    have := hcpre_any (X.map f) (Y.map f) p q c d n m C w (by rw [List.length_map, hXl]) (by rw [List.length_map, hYl]) (hx.row w hg) (hy.row w hg) (by omega) (by omega) (by rw [cpre_map hinj, hC])
    exact this
  have HC2 : Hid (∀ w, W.grownBy w (some K) → Calls Try.prog 40 #[.slice P nh ch, .slice Q mh dh] w fun e w' => e = .returned (.int .i64 (T : Nat)) ∧ ∃ k, w' = w.drewN k) := fun w hg => by
    have hi2 : Inj f (X.drop C) (Y.drop C) := inj_sub hinj (fun x hx => List.mem_of_mem_drop hx) (fun x hx => List.mem_of_mem_drop hx)
    exact hcsuf_any ((X.drop C).map f) ((Y.drop C).map f) P Q ch dh nh mh T w (by rw [List.length_map, hx1.len]) (by rw [List.length_map, hy1.len]) (hx1.row w hg) (hy1.row w hg) (by omega) (by omega) (by rw [csuf_map hi2, hT, tl, hC])
  have HK1 : Hid (∀ w, Kp W K (.slice pa na ca) (.slice pb nb cb) acc w → Calls Try.prog 39 #[.pointer (some ⟨K, 0, none⟩), .int .i64 (i : Int), .int .i64 (j : Int), .int .i64 (C : Int)] w fun e w' => e = .returned (.tuple #[]) ∧ Kp W K (.slice pa na ca) (.slice pb nb cb) A1 w' ∧ Fz K (.slice pa na ca) (.slice pb nb cb) w w') := fun w hkp => hkeep_any W K _ _ acc A1 _ _ _ w hkp (by omega) hA1
  have HM1 : Hid (0 < xn → 0 < yn → ∀ w, Kp W K (.slice pa na ca) (.slice pb nb cb) A1 w → Calls Try.prog 41 #[.pointer (some ⟨K, 0, none⟩), .slice P xn ch, .slice Q yn dh, .int .i64 (iC : Int), .int .i64 (jC : Int)] w fun e w' => e = .returned (.tuple #[]) ∧ Kp W K (.slice pa na ca) (.slice pb nb cb) A2 w' ∧ Fz K (.slice pa na ca) (.slice pb nb cb) w w') := fun h1 h2 w hkp =>
    hmid (inr X Y X) (inr X Y Y) P Q xn yn ch dh iC jC A1 A2 w hx2 hy2 hkp (by omega) (by omega) (by rw [hA2, if_neg (by omega)])
  have HA0 : Hid ((xn = 0 ∨ yn = 0) → A2 = A1) := fun h => by rw [hA2, if_pos h, List.append_nil]
  have HK2 : Hid (∀ w (z1 z2 : Int), z1 = (iC : Int) + xn → z2 = (jC : Int) + yn → Kp W K (.slice pa na ca) (.slice pb nb cb) A2 w → Calls Try.prog 39 #[.pointer (some ⟨K, 0, none⟩), .int .i64 z1, .int .i64 z2, .int .i64 (T : Int)] w fun e w' => e = .returned (.tuple #[]) ∧ Kp W K (.slice pa na ca) (.slice pb nb cb) R w' ∧ Fz K (.slice pa na ca) (.slice pb nb cb) w w') := by
    rintro w z1 z2 rfl rfl hkp
    exact hkeep_any W K _ _ A2 R _ _ _ w hkp (by omega) hR2
  have hCn : (C : Int) ≤ (n : Int) := by omega
  have hCm : (C : Int) ≤ (m : Int) := by omega
  have hiCi : (i : Int) + (C : Int) = (iC : Int) := by omega
  have hjCi : (j : Int) + (C : Int) = (jC : Int) := by omega
  have hxni : (nh : Int) - (T : Int) = (xn : Int) := by omega
  have hyni : (mh : Int) - (T : Int) = (yn : Int) := by omega
  have hxnc : (xn : Int) ≤ (ch : Int) := by omega
  have hync : (yn : Int) ≤ (dh : Int) := by omega
  have hTn : T ≤ nh := hTle.1
  have hTm : T ≤ mh := hTle.2
  have hb1 : iC ≤ 4000 := by omega
  have hb2 : jC ≤ 4000 := by omega
  have hb3 : nh ≤ 2000 := by omega
  have hb4 : mh ≤ 2000 := by omega
  have hb5 : xn ≤ 2000 := by omega
  have hb6 : yn ≤ 2000 := by omega
  have hC1 : C ≤ n := hCle.1
  have hC2 : C ≤ m := hCle.2
  clear hR hR2 hA1 hA2 hA1l hA2l hx1 hy1 hx2 hy2 hix hiy hxl2 hyl2 hxn hyn hiC hjC hC hT hCle hTle hXl hYl hinj hfx hfy hx hy h hw hmid
  go_enter Try.func23, Try.ntmps23
  go_upto_region 2 with (first
    | (go_at_call 38; ((with_reducible refine (HC1.out _ HK.out.grown).mono ?_); rintro e w1 ⟨rfl, k1, rfl⟩; have HKa := Lib.hid (HK.out.below (below_drewN (Below.refl _ _) k1))))
    | (go_at_call 39; ((with_reducible refine (HK1.out _ HKa.out).mono ?_); rintro e w2 ⟨rfl, hkb, hfb⟩)))
  have HKb := Lib.hid hkb
  have HFb := Lib.hid (fz_trans (fz_below HK.out (below_drewN (Below.refl _ _) k1)) hfb)
  clear hkb hfb HKa
  go_quiet (fail)
  have HKc : Hid (Kp W K (.slice pa na ca) (.slice pb nb cb) A1 (w2.drewN nq)) := HKb.out.below (below_drewN (Below.refl _ _) nq)
  have HFc : Hid (Fz K (.slice pa na ca) (.slice pb nb cb) wx (w2.drewN nq)) := fz_trans HFb.out (fz_below HKb.out (below_drewN (Below.refl _ _) nq))
  generalize w2.drewN nq = w3 at HKc HFc ⊢
  go_upto_region 4 with (go_at_call 40; ((with_reducible refine (HC2.out _ HKc.out.grown).mono ?_); rintro e w4 ⟨rfl, k2, rfl⟩))
  have HKd : Hid (Kp W K (.slice pa na ca) (.slice pb nb cb) A1 (w3.drewN k2)) := HKc.out.below (below_drewN (Below.refl _ _) k2)
  have HFd : Hid (Fz K (.slice pa na ca) (.slice pb nb cb) wx (w3.drewN k2)) := fz_trans HFc.out (fz_below HKc.out (below_drewN (Below.refl _ _) k2))
  generalize w3.drewN k2 = w4 at HKd HFd ⊢
  go_quiet (fail)
  have HKe : Hid (Kp W K (.slice pa na ca) (.slice pb nb cb) A1 (w4.drewN nq)) := HKd.out.below (below_drewN (Below.refl _ _) nq)
  have HFe : Hid (Fz K (.slice pa na ca) (.slice pb nb cb) wx (w4.drewN nq)) := fz_trans HFd.out (fz_below HKd.out (below_drewN (Below.refl _ _) nq))
  generalize w4.drewN nq = w5 at HKe HFe ⊢
  clear HKb HFb HKc HFc HKd HFd HC1 HC2 HK1 HK hP hQ
  by_cases h0 : xn = 0 ∨ yn = 0
  · have HE := Lib.hid (HA0.out h0)
    have HKf : Hid (Kp W K (.slice pa na ca) (.slice pb nb cb) A2 w5) := by show Kp _ _ _ _ _ _; rw [HE.out]; exact HKe.out
    clear HM1 HA0 HE
    by_cases hx0 : xn = 0
    · subst hx0
      clear h0
      go_wp2_with (go_at_call 39; ((with_reducible refine (HK2.out _ _ _ ?hz1 ?hz2 HKf.out).mono ?_); (case hz1 => first | rfl | omega | simp | (rw [IntWalk.i64_in _ (by omega)])); (case hz2 => first | rfl | omega | simp | (rw [IntWalk.i64_in _ (by omega)])); rintro e w7 ⟨rfl, hk7, hf7⟩))
      refine bodyPost_end (results_none rfl _ _ _) rfl ?_
      exact ⟨rfl, hk7, fz_trans HFe.out hf7⟩
    · have hx1 : 0 < xn := by omega
      have hy0 : yn = 0 := by omega
      subst hy0
      clear h0 hx0
      go_wp2_with (go_at_call 39; ((with_reducible refine (HK2.out _ _ _ ?hz1 ?hz2 HKf.out).mono ?_); (case hz1 => first | rfl | omega | simp | (rw [IntWalk.i64_in _ (by omega)])); (case hz2 => first | rfl | omega | simp | (rw [IntWalk.i64_in _ (by omega)])); rintro e w7 ⟨rfl, hk7, hf7⟩))
      refine bodyPost_end (results_none rfl _ _ _) rfl ?_
      exact ⟨rfl, hk7, fz_trans HFe.out hf7⟩
  · have h1 : 0 < xn := by omega
    have h2 : 0 < yn := by omega
    have HMM := Lib.hid (HM1.out h1 h2)
    clear h0
    go_wp2_with (first
      | (go_at_call 41; ((with_reducible refine (HMM.out _ HKe.out).mono ?_); rintro e w6 ⟨rfl, hk6, hf6⟩))
      | (go_at_call 39; ((with_reducible refine (HK2.out _ _ _ ?hz1 ?hz2 hk6).mono ?_); (case hz1 => first | rfl | omega | (rw [IntWalk.i64_in _ (by omega)])); (case hz2 => first | rfl | omega | (rw [IntWalk.i64_in _ (by omega)])); rintro e w7 ⟨rfl, hk7, hf7⟩)))
    refine bodyPost_end (results_none rfl _ _ _) rfl ?_
    exact ⟨rfl, hk7, fz_trans (fz_trans HFe.out hf6) hf7⟩
end
end Go.Proofs.Ytnmebnpldacngaa
