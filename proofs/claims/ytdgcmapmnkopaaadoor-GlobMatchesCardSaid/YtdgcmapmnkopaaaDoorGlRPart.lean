/-
  The walk of the reference's Part.
-/
import Derived.Test.YtdgcmapmnkopaaaDoorGlWhole
import Derived.Test.YtdgcmapmnkopaaaDoorGlLawB
import Derived.Test.YtdgcmapmnkopaaaDoorGlLawC
namespace Go.Proofs.YtdgcmapmnkopaaaDoor
open Go.RowKit

theorem rt_len : ∀ (X : List UInt8) (L : List (List UInt8)), rt X = some L → L.length ≤ X.length ∧ ∀ x ∈ L, x.length ≤ X.length
  | [], L, h => by
    rw [rt_nil, Option.some.injEq] at h
    subst h
    exact ⟨Nat.le_refl _, fun _ h => absurd h (by simp)⟩
  | c :: r, L, h => by
    cases ht : tk (c :: r) with
    | none => rw [rt_bad ht] at h; cases h
    | some x =>
      obtain ⟨t, k⟩ := x
      have hk := tk_le ht
      rw [rt_on ht] at h
      obtain ⟨L', h1, h2⟩ := Option.map_eq_some_iff.mp h
      obtain ⟨h3, h4⟩ := rt_len _ _ h1
      rw [List.length_drop] at h3 h4
      rw [← h2]
      refine ⟨by rw [List.length_cons]; omega, fun y hy => ?_⟩
      rcases List.mem_cons.mp hy with rfl | hy
      · rw [List.length_take]; omega
      · have := h4 y hy; omega
termination_by X => X.length
decreasing_by
  have := tk_le ht
  simp only [List.length_drop, List.length_cons]
  omega
theorem noSl_cons2 (c : UInt8) (r : List UInt8) : noSl (c :: r) = (c != 47 && noSl r) := by unfold noSl; rw [List.all_cons]
theorem gPart_no {p s : ByteArray} (h : isPt p.data.toList = false ∨ gIs p = false ∨ (prts p).length ≠ 1) : gPart p s = false := by
  rw [Bool.eq_false_iff]
  intro e
  obtain ⟨h1, h2, h3, h4⟩ := gPart_one e
  obtain ⟨g1, g2, g3⟩ := gIs_parts h3
  have hp := prts_one h1 g1
  rcases h with h | h | h
  · obtain ⟨L, hL⟩ := g3 _ (by rw [hp]; exact List.mem_singleton_self _)
    unfold isPt at h
    rw [hL] at h
    have : p.data.toList.isEmpty = false := by
      cases hd : p.data.toList with
      | nil => have := congrArg List.length hd; rw [list_len, List.length_nil] at this; omega
      | cons a r => rfl
    rw [this] at h
    cases h
  · rw [h] at h3; cases h3
  · exact h (by rw [hp]; rfl)
set_option maxHeartbeats 2000000 in
set_option maxRecDepth 4000 in
theorem rgpart_any (p s : ByteArray) (B : Bool) (w : World) (hs : p.size ≤ 1048576) (hs2 : s.size ≤ 1048576) (hB : B = gPart p s) :
    Calls Tryd.prog 40 #[.string p, .string s] w fun e w' => e = .returned (.bool B) ∧ Below w.heap.size w w' := by
  obtain ⟨L, hL⟩ : ∃ L, L = (sg p).1 := ⟨_, rfl⟩
  obtain ⟨P, hP⟩ : ∃ P, P = isPt p.data.toList := ⟨_, rfl⟩
  obtain ⟨G, hG⟩ : ∃ G, G = gIs p := ⟨_, rfl⟩
  obtain ⟨n, hn⟩ : ∃ n, n = L.length := ⟨_, rfl⟩
  obtain ⟨k, hk⟩ : ∃ k, k = (prts p).length := ⟨_, rfl⟩
  have hsg := sg_pt p.data.toList
  rw [pt_self] at hsg
  have H1 := Lib.hid (fun (w : World) => rsigns_any p L P n w hs (by rw [hL, hP, ← hsg]) hn)
  have H2 := Lib.hid (fun (w : World) => rgis_any p G w (by omega) hG)
  have H3 : Hid (∀ w, Calls Tryd.prog 20 #[.string p] w fun e w' => (∃ q cap, e = .returned (.slice q k cap)) ∧ Below w.heap.size w w') := fun w => (rparts_any p w hs).mono fun e w' ⟨⟨q, cap, x, _⟩, y⟩ => ⟨⟨q, cap, by rw [x, hk]⟩, y⟩
  rcases P with _ | _
  · have HX : Hid (B = false) := by show _ = _; rw [hB]; exact gPart_no (.inl hP.symm)
    clear hB hL hP hG hn hk hsg
    go_enter Tryd.func40, Tryd.ntmps40
    go_wp2_with (go_at_call 55; ((refine (H1.out _).mono ?_); rintro e w1 ⟨⟨q1, cap1, rfl, hc1, hr1⟩, hb1⟩))
    go_ret
    exact ⟨by rw [HX.out]; rfl, hb1⟩
  rcases G with _ | _
  · have HX : Hid (B = false) := by show _ = _; rw [hB]; exact gPart_no (.inr (.inl hG.symm))
    clear hB hL hP hG hn hk hsg
    go_enter Tryd.func40, Tryd.ntmps40
    go_wp2_with (first
      | (go_at_call 55; ((refine (H1.out _).mono ?_); rintro e w1 ⟨⟨q1, cap1, rfl, hc1, hr1⟩, hb1⟩; have HR1 := Lib.hid hr1; clear hr1))
      | (go_at_call 37; ((refine (H2.out _).mono ?_); rintro e w2 ⟨rfl, hb2⟩)))
    go_ret
    exact ⟨by rw [HX.out]; rfl, hb1.trans (hb2.mono hb1.size)⟩
  by_cases hk1 : k = 1
  · obtain ⟨a, b⟩ := prts_single (hk.symm.trans hk1)
    have hx : ((k : Int) != 1) = false := by rw [hk1]; rfl
    have hsome : (rt p.data.toList).isSome = true := by
      rw [rt_tks]
      unfold isPt at hP
      cases ht : (tks p.data.toList).isSome with
      | true => rfl
      | false => rw [ht, Bool.and_false] at hP; cases hP
    obtain ⟨L0, hL0⟩ := Option.isSome_iff_exists.mp hsome
    have hLL : L = L0 := by rw [hL, sg, hL0]
    subst hLL
    obtain ⟨K, hK, hA⟩ := rt_all _ _ hL0
    obtain ⟨hll, hle⟩ := rt_len _ _ hL0
    rw [list_len] at hll hle
    obtain ⟨M, hM⟩ : ∃ M, M = wm tm K s.data.toList := ⟨_, rfl⟩
    have HB : Hid (B = (noSl (s.data.toList.drop 0) && M)) := by
      show _ = _
      rw [hB, gPart, b, ← hG, partM_some hK, hM, List.drop_zero]
      simp
    have HW := Lib.hid (rwhole_any (L.length + s.size) L K s)
    have HA := Lib.hid hA
    have HN := Lib.hid hn
    have HE : Hid (∀ x ∈ L, x.length ≤ 1048576) := fun x hx => Nat.le_trans (hle x hx) hs
    have HMM := Lib.hid hM
    have hnl : n ≤ 1048576 := by omega
    clear hB hL hP hG hn hk hsg a b hk1 hsome hL0 hK hA hll hle hM
    go_enter Tryd.func40, Tryd.ntmps40
    go_wp2_with (first
      | (go_at_call 55; ((refine (H1.out _).mono ?_); rintro e w1 ⟨⟨q1, cap1, rfl, hc1, hr1⟩, hb1⟩; have HR1 := Lib.hid hr1; clear hr1))
      | (go_at_call 37; ((refine (H2.out _).mono ?_); rintro e w2 ⟨rfl, hb2⟩))
      | (go_at_call 20; ((refine (H3.out _).mono ?_); rintro e w3 ⟨⟨q3, cap3, rfl⟩, hb3⟩)))
    have hb := (hb1.trans (hb2.mono hb1.size)).trans (hb3.mono (Nat.le_trans hb1.size hb2.size))
    have HR3 := Lib.hid ((HR1.out.below hb2).below hb3)
    clear hb1 hb2 hb3 HR1
    go_loopw [7] (fun iv wr => ∃ i : Nat, i ≤ s.size ∧ iv = .int .i64 i ∧ wr = w3 ∧ Hid (B = (noSl (s.data.toList.drop i) && M))) (fun iv _ => s.size - (intOf iv).toNat)
    case atStart => exact ⟨0, by omega, rfl, rfl, HB⟩
    case round =>
      clear HB
      obtain ⟨i, hi, rfl, rfl, HB⟩ := hrel
      by_cases hlt : i < s.size
      · have hd := HB.out
        rw [pt_drop s i hlt, noSl_cons2] at hd
        by_cases h47 : (s[i]'hlt) = 47
        · have a1 : (((s[i]'hlt).toNat : Int) == 47) = true := by rw [beq_iff_eq, h47]; rfl
          have HX : Hid (B = false) := by show _ = _; rw [hd, h47]; rfl
          clear hd HB h47
          go_wp2
          go_ret
          exact ⟨by rw [HX.out]; rfl, hb⟩
        · have a1 : (((s[i]'hlt).toNat : Int) == 47) = false := u8_not (n := 47) (by decide) h47
          have HX : Hid (B = (noSl (s.data.toList.drop (i + 1)) && M)) := by
            show _ = _
            rw [hd, bne_iff_ne.mpr h47, Bool.true_and]
          clear hd HB h47
          go_wp2
          go_roundw
          case rel => exact ⟨i + 1, by omega, by go_num, trivial, HX⟩
          case measure => simp [intOf]; omega
      · have HX : Hid (B = M) := by
          show _ = _
          rw [HB.out, List.drop_of_length_le (by rw [list_len]; omega)]
          rfl
        clear HB
        go_wp2_with (go_at_call 58; ((refine (HW.out q1 cap1 n wr M (Nat.le_refl _) HA.out HR3.out HN.out hc1 HE.out hnl hs2 HMM.out).mono ?_); rintro e w4 ⟨rfl, d, rfl⟩))
        go_ret
        exact ⟨by rw [HX.out]; rfl, below_drewN hb d⟩
  · have HX : Hid (B = false) := by show _ = _; rw [hB]; exact gPart_no (.inr (.inr (by omega)))
    have hx : ((k : Int) != 1) = true := bne_iff_ne.mpr (by omega)
    clear hB hL hP hG hn hk hsg
    go_enter Tryd.func40, Tryd.ntmps40
    go_wp2_with (first
      | (go_at_call 55; ((refine (H1.out _).mono ?_); rintro e w1 ⟨⟨q1, cap1, rfl, hc1, hr1⟩, hb1⟩; have HR1 := Lib.hid hr1; clear hr1))
      | (go_at_call 37; ((refine (H2.out _).mono ?_); rintro e w2 ⟨rfl, hb2⟩))
      | (go_at_call 20; ((refine (H3.out _).mono ?_); rintro e w3 ⟨⟨q3, cap3, rfl⟩, hb3⟩)))
    go_ret
    exact ⟨by rw [HX.out]; rfl, (hb1.trans (hb2.mono hb1.size)).trans (hb3.mono (Nat.le_trans hb1.size hb2.size))⟩
end Go.Proofs.YtdgcmapmnkopaaaDoor
