/-
  The walks of the reference's Is and Literal.
-/
import Derived.Test.YtdgcmapmnkopaaaDoorGlRSigns
import Derived.Test.YtdgcmapmnkopaaaDoorGlLawE
namespace Go.Proofs.YtdgcmapmnkopaaaDoor
open Go.RowKit

theorem sg_pt (l : List UInt8) : (sg (str l)).2 = isPt l := by
  unfold sg isPt
  rw [str_self]
  cases l with
  | nil => rw [rt_nil]; rfl
  | cons c r =>
    have h := rt_tks (c :: r)
    cases ht : tk (c :: r) with
    | none => rw [rt_bad ht, tks_bad ht]; rfl
    | some x =>
      obtain ⟨t, k⟩ := x
      rw [rt_on ht] at h ⊢
      rw [← h]
      cases rt ((c :: r).drop k) with
      | none => rfl
      | some y => simp
set_option maxHeartbeats 2000000 in
set_option maxRecDepth 4000 in
theorem rgis_any (p : ByteArray) (B : Bool) (w : World) (hs : p.size ≤ 140737488355328) (hB : B = gIs p) :
    Calls Tryd.prog 37 #[.string p] w fun e w' => e = .returned (.bool B) ∧ Below w.heap.size w w' := by
  by_cases h0 : p.size < 1
  · have HX : Hid (B = false) := by show _ = _; rw [hB, gIs, decide_eq_false (by omega)]; rfl
    clear hB
    go_enter Tryd.func37, Tryd.ntmps37
    go_wp2
    go_ret
    exact ⟨by rw [HX.out]; rfl, Below.refl _ _⟩
  by_cases h1 : 255 < p.size
  · have HX : Hid (B = false) := by show _ = _; rw [hB, gIs, decide_eq_false (p := p.size ≤ 255) (by omega)]; simp
    clear hB
    go_enter Tryd.func37, Tryd.ntmps37
    go_wp2
    go_ret
    exact ⟨by rw [HX.out]; rfl, Below.refl _ _⟩
  obtain ⟨ls, hls⟩ : ∃ ls, ls = prts p := ⟨_, rfl⟩
  obtain ⟨n, hn⟩ : ∃ n, n = ls.length := ⟨_, rfl⟩
  have hnl : n ≤ 256 := by rw [hn, hls]; exact Nat.le_trans (prts_count p) (by omega)
  have hlen : Hid (∀ x ∈ ls, x.length ≤ 1048576) := fun x hx => Nat.le_trans (prts_len (by rw [← hls]; exact hx)) (by omega)
  have HP : Hid (Calls Tryd.prog 20 #[.string p] w fun e w' => (∃ q cap, e = .returned (.slice q n cap) ∧ SRw w' q ls) ∧ Below w.heap.size w w') := rparts_inv p ls n (by omega) hls hn
  have HR : Hid (B = (ls.drop 0).all isPt) := by
    show _ = _
    rw [hB, gIs, decide_eq_true (by omega), decide_eq_true (p := p.size ≤ 255) (by omega), hls, List.drop_zero]
    rfl
  have HN : Hid (n = ls.length) := hn
  clear hB hls hn
  go_enter Tryd.func37, Tryd.ntmps37
  go_wp2_with (go_at_call 20; refine HP.out.mono ?_; rintro e w1 ⟨⟨q, cap, rfl, hsr⟩, hb⟩)
  go_loopw [4, 5, 6, 23] (fun iv _ _ _ wr => ∃ k : Nat, k ≤ n ∧ iv = .int .i64 k ∧ Below w1.heap.size w1 wr ∧ Hid (B = (ls.drop k).all isPt)) (fun iv _ _ _ _ => n - (intOf iv).toNat)
  case atStart => exact ⟨0, by omega, rfl, Below.refl _ _, HR⟩
  case round =>
    clear HR
    obtain ⟨k, hk, rfl, hbk, HX⟩ := hrel
    by_cases hlt : k < n
    · have hkl : k < ls.length := by rw [← HN.out]; exact hlt
      obtain ⟨g, o, rfl, hg, hc⟩ := (hsr.below hbk) k hkl
      have hd : (ls.drop k).all isPt = (isPt ls[k] && (ls.drop (k + 1)).all isPt) := by rw [List.drop_eq_getElem_cons hkl, List.all_cons]
      obtain ⟨L, hL⟩ : ∃ L, L = (sg (str ls[k])).1 := ⟨_, rfl⟩
      have hx := sg_pt ls[k]
      obtain ⟨P, hP⟩ : ∃ P, P = isPt ls[k] := ⟨_, rfl⟩
      have hcall := Lib.hid (fun w => rsigns_any (str ls[k]) L P L.length w (by rw [str_size]; exact hlen.out _ (List.getElem_mem hkl)) (by rw [hL, hP, ← hx]) rfl)
      rw [← hP] at hd
      obtain ⟨t, ht⟩ : ∃ t, t = str (ls[k]'hkl) := ⟨_, rfl⟩
      rw [← ht] at hcall hc
      cases P
      · have HX2 : Hid (B = false) := by show _ = _; rw [HX.out, hd]; rfl
        clear hd hL hx hP ht HX hkl
        go_wp2_with (go_at_call 55; ((refine (hcall.out _).mono ?_); rintro e w2 ⟨⟨q2, cap2, rfl, -⟩, hb2⟩))
        go_ret
        exact ⟨by rw [HX2.out]; rfl, hb.trans ((hbk.trans (hb2.mono hbk.size)).mono hb.size)⟩
      · have HX2 : Hid (B = (ls.drop (k + 1)).all isPt) := by show _ = _; rw [HX.out, hd]; rfl
        clear hd hL hx hP ht HX hkl
        go_wp2_with (go_at_call 55; ((refine (hcall.out _).mono ?_); rintro e w2 ⟨⟨q2, cap2, rfl, -⟩, hb2⟩))
        go_roundw
        case rel => exact ⟨k + 1, by omega, by go_num, hbk.trans (hb2.mono hbk.size), HX2⟩
        case measure => simp [intOf]; omega
    · have HX2 : Hid (B = true) := by
        show _ = _
        rw [HX.out, List.drop_of_length_le (by rw [← HN.out]; omega)]
        rfl
      clear HX
      go_wp2
      go_ret
      exact ⟨by rw [HX2.out]; rfl, hb.trans (hbk.mono hb.size)⟩
end Go.Proofs.YtdgcmapmnkopaaaDoor
