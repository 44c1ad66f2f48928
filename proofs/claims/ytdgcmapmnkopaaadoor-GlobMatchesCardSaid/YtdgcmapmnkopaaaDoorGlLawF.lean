/-
  The walks of the reference's Match and Covers, and of the law GlobMatches.
-/
import Derived.Test.YtdgcmapmnkopaaaDoorGlRParts
import Derived.Test.YtdgcmapmnkopaaaDoorGlLawD
namespace Go.Proofs.YtdgcmapmnkopaaaDoor
open Go.RowKit

set_option maxHeartbeats 2000000 in
set_option maxRecDepth 4000 in
theorem rmatch_any (p s : ByteArray) (B : Bool) (w : World) (hs : p.size ≤ 1048576) (hs2 : s.size ≤ 1048576) (hB : B = gMatch p s) :
    Calls Tryd.prog 42 #[.string p, .string s] w fun e w' => e = .returned (.bool B) ∧ Below w.heap.size w w' := by
  obtain ⟨G, hG⟩ : ∃ G, G = gIs p := ⟨_, rfl⟩
  obtain ⟨I, hI⟩ : ∃ I, I = isP s := ⟨_, rfl⟩
  have H1 := Lib.hid (fun (w : World) => rgis_any p G w (by omega) hG)
  have H2 : Hid (∀ w, Calls Tryd.prog 17 #[.string s] w fun e w' => e = .returned (.bool I) ∧ Below w.heap.size w w') := fun w => by rw [hI]; exact ris_any s w hs2
  rw [gMatch, ← hG, ← hI] at hB
  rcases G with _ | _
  · have HX : Hid (B = false) := hB
    clear hB hG hI
    go_enter Tryd.func42, Tryd.ntmps42
    go_wp2_with (go_at_call 37; ((refine (H1.out _).mono ?_); rintro e w1 ⟨rfl, hb1⟩))
    go_ret
    exact ⟨by rw [HX.out]; rfl, hb1⟩
  rcases I with _ | _
  · have HX : Hid (B = false) := hB
    clear hB hG hI
    go_enter Tryd.func42, Tryd.ntmps42
    go_wp2_with (first
      | (go_at_call 37; ((refine (H1.out _).mono ?_); rintro e w1 ⟨rfl, hb1⟩))
      | (go_at_call 17; ((refine (H2.out _).mono ?_); rintro e w2 ⟨rfl, hb2⟩)))
    go_ret
    exact ⟨by rw [HX.out]; rfl, hb1.trans (hb2.mono hb1.size)⟩
  have hgood := good_of hG.symm
  have hsz := (gIs_parts hG.symm).2.1
  have hs3 := isP_size hI.symm
  obtain ⟨L, hL⟩ : ∃ L, L = prts p := ⟨_, rfl⟩
  obtain ⟨M, hM⟩ : ∃ M, M = prts s := ⟨_, rfl⟩
  obtain ⟨n, hn⟩ : ∃ n, n = L.length := ⟨_, rfl⟩
  obtain ⟨m, hm⟩ : ∃ m, m = M.length := ⟨_, rfl⟩
  have hnl : n ≤ 256 := by rw [hn, hL]; exact Nat.le_trans (prts_count p) (by omega)
  have hml : m ≤ 256 := by rw [hm, hM]; exact Nat.le_trans (prts_count s) (by omega)
  have H3 : Hid (∀ w, Calls Tryd.prog 20 #[.string p] w fun e w' => (∃ q c, e = .returned (.slice q n c) ∧ n ≤ c ∧ SRw w' q L) ∧ Below w.heap.size w w') := fun w => by have := rparts_cap p w hs; rw [← hL, ← hn] at this; exact this
  have H4 : Hid (∀ w, Calls Tryd.prog 20 #[.string s] w fun e w' => (∃ q c, e = .returned (.slice q m c) ∧ m ≤ c ∧ SRw w' q M) ∧ Below w.heap.size w w') := fun w => by have := rparts_cap s w hs2; rw [← hM, ← hm] at this; exact this
  rw [← hL, ← hM, Bool.true_and, Bool.true_and] at hB
  have H5 : Hid (∀ (q1 q2 : Option Addr) (c1 c2 : Nat) (w : World), n ≤ c1 → m ≤ c2 → SRw w q1 L → SRw w q2 M → Calls Tryd.prog 62 #[.slice q1 n c1, .slice q2 m c2] w fun e w' => e = .returned (.bool B) ∧ Below w.heap.size w w') := fun q1 q2 c1 c2 w h1 h2 h3 h4 =>
    rps_any (L.length + M.length) L M q1 q2 c1 c2 n m w B (Nat.le_refl _) h3 h4 hn hm h1 h2 (by rw [hL]; exact hgood) (by rw [hM]; exact fun y hy => ⟨noSl_prts y hy, Nat.le_trans (prts_len hy) (by omega)⟩) (by omega) (by omega) hB
  clear hB hG hI hgood hsz hs3 hL hM hn hm
  go_enter Tryd.func42, Tryd.ntmps42
  go_wp2_with (first
    | (go_at_call 37; ((refine (H1.out _).mono ?_); rintro e w1 ⟨rfl, hb1⟩))
    | (go_at_call 17; ((refine (H2.out _).mono ?_); rintro e w2 ⟨rfl, hb2⟩))
    | (go_at_call 20; first
      | ((with_reducible refine (H3.out _).mono ?_); rintro e w3 ⟨⟨q1, c1, rfl, hc1, hr1⟩, hb3⟩; have HR1 := Lib.hid hr1; clear hr1)
      | ((with_reducible refine (H4.out _).mono ?_); rintro e w4 ⟨⟨q2, c2, rfl, hc2, hr2⟩, hb4⟩; have HR2 := Lib.hid hr2; clear hr2))
    | (go_at_call 62; ((refine (H5.out q1 q2 c1 c2 _ hc1 hc2 (HR1.out.below hb4) HR2.out).mono ?_); rintro e w5 ⟨rfl, hb5⟩)))
  go_ret
  have hb12 := hb1.trans (hb2.mono hb1.size)
  have hb123 := hb12.trans (hb3.mono hb12.size)
  have hb1234 := hb123.trans (hb4.mono hb123.size)
  exact ⟨rfl, hb1234.trans (hb5.mono hb1234.size)⟩
set_option maxHeartbeats 2000000 in
set_option maxRecDepth 4000 in
theorem gcovers_any (p q : ByteArray) (B : Bool) (w0 w : World) (hs : p.size ≤ 1048576) (hs2 : q.size ≤ 1048576) (hB : B = (lit q && gMatch p q)) (hP : PI w0 w) :
    Calls Tryd.prog 43 #[.string p, .string q] w fun e w' => e = .returned (.bool B) ∧ PI w0 w' := by
  obtain ⟨L, hL⟩ : ∃ L, L = lit q := ⟨_, rfl⟩
  obtain ⟨M, hM⟩ : ∃ M, M = gMatch p q := ⟨_, rfl⟩
  have HL : Hid (∀ w', PI w0 w' → Calls Tryd.prog 34 #[.string q] w' fun e w'' => e = .returned (.tuple #[.string (if lit q = true then q else ⟨#[]⟩), .bool L]) ∧ PI w0 w'') := fun w' h => by rw [hL]; exact literal_any q w0 w' (by omega) h
  have HM : Hid (∀ w', PI w0 w' → Calls Tryd.prog 41 #[.string p, .string q] w' fun e w'' => e = .returned (.bool M) ∧ PI w0 w'') := fun w' h => mcl p q M hM.symm (by omega) (by omega) h
  rw [← hL] at HL
  rw [← hL, ← hM] at hB
  have HB := Lib.hid hB
  clear hB hM hL
  cases L with
  | false =>
    go_enter Tryd.func43, Tryd.ntmps43
    go_wp2_with (go_at_call 34; ((refine (HL.out _ (by assumption)).mono ?_); rintro e w1 ⟨rfl, hp1⟩))
    go_ret
    exact ⟨by rw [HB.out]; rfl, hp1⟩
  | true =>
    rw [if_pos rfl] at HL
    go_enter Tryd.func43, Tryd.ntmps43
    go_wp2_with (first
      | (go_at_call 34; ((refine (HL.out _ (by assumption)).mono ?_); rintro e w1 ⟨rfl, hp1⟩))
      | (go_at_call 41; ((refine (HM.out _ (by assumption)).mono ?_); rintro e w2 ⟨rfl, hp2⟩)))
    go_ret
    exact ⟨by rw [HB.out]; rfl, hp2⟩
set_option maxHeartbeats 2000000 in
set_option maxRecDepth 4000 in
theorem rcovers_any (p q : ByteArray) (B : Bool) (w : World) (hs : p.size ≤ 1048576) (hs2 : q.size ≤ 1048576) (hB : B = (lit q && gMatch p q)) :
    Calls Tryd.prog 44 #[.string p, .string q] w fun e w' => e = .returned (.bool B) ∧ Below w.heap.size w w' := by
  obtain ⟨L, hL⟩ : ∃ L, L = lit q := ⟨_, rfl⟩
  obtain ⟨M, hM⟩ : ∃ M, M = gMatch p q := ⟨_, rfl⟩
  have HL : Hid (∀ w, Calls Tryd.prog 35 #[.string q] w fun e w' => e = .returned (.tuple #[.string (if lit q = true then q else ⟨#[]⟩), .bool L]) ∧ Below w.heap.size w w') := fun w => rliteral_any q L (litS q) w (by omega) hL rfl
  have HM : Hid (∀ w, Calls Tryd.prog 42 #[.string p, .string q] w fun e w' => e = .returned (.bool M) ∧ Below w.heap.size w w') := fun w => rmatch_any p q M w hs hs2 hM
  rw [← hL] at HL
  rw [← hL, ← hM] at hB
  have HB := Lib.hid hB
  clear hB hM hL
  cases L with
  | false =>
    go_enter Tryd.func44, Tryd.ntmps44
    go_wp2_with (go_at_call 35; ((refine (HL.out _).mono ?_); rintro e w1 ⟨rfl, hb1⟩))
    go_ret
    exact ⟨by rw [HB.out]; rfl, hb1⟩
  | true =>
    rw [if_pos rfl] at HL
    go_enter Tryd.func44, Tryd.ntmps44
    go_wp2_with (first
      | (go_at_call 35; ((refine (HL.out _).mono ?_); rintro e w1 ⟨rfl, hb1⟩))
      | (go_at_call 42; ((refine (HM.out _).mono ?_); rintro e w2 ⟨rfl, hb2⟩)))
    go_ret
    exact ⟨by rw [HB.out]; rfl, hb1.trans (hb2.mono hb1.size)⟩
set_option maxHeartbeats 4000000 in
set_option maxRecDepth 4000 in
theorem globMatches_walk (p s : ByteArray) (W : World) (_hp0 : p.size ≤ 140737488355328) (_hs0 : s.size ≤ 140737488355328) (h0 : PI W W) :
    Calls Tryd.prog 10 #[.string p, .string s] W fun e W' => e = .returned (.bool true) ∧ Below W.heap.size W W' := by
  obtain ⟨F, hF⟩ : ∃ F, F = (decide (p.size ≤ 14) && decide (s.size ≤ 14)) := ⟨_, rfl⟩
  have HF := Lib.hid (fun (w : World) => gfew_any p s F w hF)
  cases F with
  | false =>
    clear hF
    go_enter Tryd.func10, Tryd.ntmps10
    go_wp2_with (first
      | (go_at_call 38; ((with_reducible refine (HF.out _).mono ?_); rintro e w1 ⟨rfl, rfl⟩))
      | (go_at_call 33; ((with_reducible refine (glives_any W _ (by assumption)).mono ?_); rintro e w' ⟨rfl, hi⟩)))
    go_ret
    exact ⟨rfl, hi.1⟩
  | true =>
    have hF2 := hF.symm
    rw [Bool.and_eq_true, decide_eq_true_iff, decide_eq_true_iff] at hF2
    obtain ⟨h1, h2⟩ := hF2
    obtain ⟨B, hB⟩ : ∃ B, B = gMatch p s := ⟨_, rfl⟩
    obtain ⟨C, hC⟩ : ∃ C, C = (lit s && gMatch p s) := ⟨_, rfl⟩
    have H1 := Lib.hid (fun (w : World) (h : PI W w) => mcl p s B hB.symm (by omega) (by omega) h)
    have H2 : Hid (∀ w, PI W w → Calls Tryd.prog 42 #[.string p, .string s] w fun e w' => e = .returned (.bool B) ∧ PI W w') := fun w h => (rmatch_any p s B w (by omega) (by omega) hB).mono fun _ _ x => ⟨x.1, h.step x.2⟩
    have H3 := Lib.hid (fun (w : World) (h : PI W w) => gcovers_any p s C W w (by omega) (by omega) hC h)
    have H4 : Hid (∀ w, PI W w → Calls Tryd.prog 44 #[.string p, .string s] w fun e w' => e = .returned (.bool C) ∧ PI W w') := fun w h => (rcovers_any p s C w (by omega) (by omega) hC).mono fun _ _ x => ⟨x.1, h.step x.2⟩
    clear hF hB hC
    cases B <;> cases C <;>
    · go_enter Tryd.func10, Tryd.ntmps10
      go_wp2_with (first
        | (go_at_call 38; ((with_reducible refine (HF.out _).mono ?_); rintro e w1 ⟨rfl, rfl⟩))
        | (go_at_call 41; ((with_reducible refine (H1.out _ (by assumption)).mono ?_); rintro e w1 ⟨rfl, hi1⟩))
        | (go_at_call 42; ((with_reducible refine (H2.out _ (by assumption)).mono ?_); rintro e w1 ⟨rfl, hi2⟩))
        | (go_at_call 43; ((with_reducible refine (H3.out _ (by assumption)).mono ?_); rintro e w1 ⟨rfl, hi3⟩))
        | (go_at_call 44; ((with_reducible refine (H4.out _ (by assumption)).mono ?_); rintro e w1 ⟨rfl, hi4⟩))
        | (go_at_call 33; ((with_reducible refine (glives_any W _ (by assumption)).mono ?_); rintro e w' ⟨rfl, hi⟩)))
      go_ret
      exact ⟨rfl, hi.1⟩
end Go.Proofs.YtdgcmapmnkopaaaDoor
