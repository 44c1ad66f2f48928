/-
  The walks of Match and of Part.
-/
import Derived.Test.YtdgcmapmnkopaaaDoorGlMatch
import Derived.Lib.IndexLaws
namespace Go.Proofs.YtdgcmapmnkopaaaDoor
open Go.RowKit

theorem PI.start {w0 w : World} (h : PI w0 w) : PI w w := ⟨Below.refl _ _, h.2⟩
theorem isL_any (s : ByteArray) (m : Int) (w : World) (hs : s.size ≤ 140737488355328) (hm : w.cell? ⟨0, 0, none⟩ = some (.int .i64 m)) :
    Calls Tryd.prog 16 #[.string s] w fun e w' => e = .returned (.bool (isP s)) ∧ Below w.heap.size w w' := by
  by_cases h1 : s.size ≤ 1048576
  · exact is_any s m w h1 hm
  · have hk : isP s = false := by unfold isP; rw [decide_eq_false (by omega)]; rfl
    rw [hk]
    clear hk
    have h2 : 255 < s.size := by omega
    go_enter Tryd.func16, Tryd.ntmps16
    go_wp2
    go_ret
    exact ⟨rfl, Below.refl _ _⟩
/-- What Match answers. -/
def gMatch (p s : ByteArray) : Bool := gIs p && (isP s && wm partM ((prts p).map starP) (prts s))
theorem gIs_parts {p : ByteArray} (h : gIs p = true) : 0 < p.size ∧ p.size ≤ 255 ∧ ∀ x ∈ prts p, ∃ L, tks x = some L := by
  unfold gIs at h
  rw [Bool.and_eq_true, Bool.and_eq_true] at h
  refine ⟨of_decide_eq_true h.1, of_decide_eq_true h.2.1, fun x hx => ?_⟩
  have h2 := List.all_eq_true.mp h.2.2 x hx
  unfold isPt at h2
  rw [Bool.and_eq_true] at h2
  exact Option.isSome_iff_exists.mp h2.2
theorem isP_size {s : ByteArray} (h : isP s = true) : s.size ≤ 255 := by
  unfold isP at h
  rw [Bool.and_eq_true] at h
  exact of_decide_eq_true h.1

def AtP (ls : List (List UInt8)) (i : Nat) (L : List (Option (List UInt8))) : Prop := i ≤ ls.length ∧ L = (ls.drop i).map starP
theorem atP_cons {ls : List (List UInt8)} {i : Nat} {x : Option (List UInt8)} {L : List (Option (List UInt8))} (h : AtP ls i (x :: L)) : ∃ hi : i < ls.length, x = starP ls[i] ∧ AtP ls (i + 1) L := by
  have hi : i < ls.length := by
    rcases Nat.lt_or_ge i ls.length with h1 | h1
    · exact h1
    · have h2 := h.2
      rw [List.drop_of_length_le h1] at h2
      cases h2
  have h2 := h.2
  rw [List.drop_eq_getElem_cons hi, List.map_cons, List.cons.injEq] at h2
  exact ⟨hi, h2.1, hi, h2.2⟩
theorem atP_nil {ls : List (List UInt8)} {i : Nat} (h : AtP ls i []) : i = ls.length := by
  have h2 := congrArg List.length h.2
  rw [List.length_map, List.length_drop, List.length_nil] at h2
  have := h.1
  omega
theorem starP_none {x : List UInt8} : (starP x).isNone = decide (x = [42, 42]) := by
  unfold starP
  by_cases h : x = [42, 42]
  · rw [if_pos h, decide_eq_true h]; rfl
  · rw [if_neg h, decide_eq_false h]; rfl
theorem starP_some {x f : List UInt8} (h : some f = starP x) : f = x := by
  unfold starP at h
  split at h
  · cases h
  · cases h; rfl

set_option maxHeartbeats 2000000 in
set_option maxRecDepth 4000 in
theorem match_any (p s : ByteArray) (B : Bool) (w : World) (hs : p.size ≤ 140737488355328) (hs2 : s.size ≤ 140737488355328) (hP : PI w w) (hB : B = gMatch p s) :
    Calls Tryd.prog 41 #[.string p, .string s] w fun e w' => e = .returned (.bool B) ∧ PI w w' := by
  have hmf := make_fun Tryd.prog
  obtain ⟨G, hG⟩ : ∃ G, G = gIs p := ⟨_, rfl⟩
  obtain ⟨I, hI⟩ : ∃ I, I = isP s := ⟨_, rfl⟩
  have HG : Hid (∀ w', PI w w' → Calls Tryd.prog 36 #[.string p] w' fun e w'' => e = .returned (.bool G) ∧ PI w w'') := fun w' h => by
    obtain ⟨m, hm⟩ := h.2
    exact (gis_any p m G w' hs hm hG).mono fun _ _ x => ⟨x.1, h.step x.2⟩
  have HI : Hid (∀ w', PI w w' → Calls Tryd.prog 16 #[.string s] w' fun e w'' => e = .returned (.bool I) ∧ PI w w'') := fun w' h => by
    obtain ⟨m, hm⟩ := h.2
    exact (isL_any s m w' hs2 hm).mono fun _ _ x => ⟨by rw [x.1, hI], h.step x.2⟩
  rw [gMatch, ← hG, ← hI] at hB
  rcases G with _ | _
  · have HX : Hid (B = false) := hB
    clear hB hG hI
    go_enter Tryd.func41, Tryd.ntmps41
    go_wp2_with (go_at_call 36; ((with_reducible refine (HG.out _ (by assumption)).mono ?_); rintro e w1 ⟨rfl, hp1⟩))
    go_ret
    exact ⟨by rw [HX.out]; rfl, hp1⟩
  · rcases I with _ | _
    · have HX : Hid (B = false) := hB
      clear hB hG hI
      go_enter Tryd.func41, Tryd.ntmps41
      go_wp2_with (first
        | (go_at_call 36; ((with_reducible refine (HG.out _ (by assumption)).mono ?_); rintro e w1 ⟨rfl, hp1⟩))
        | (go_at_call 16; ((with_reducible refine (HI.out _ (by assumption)).mono ?_); rintro e w2 ⟨rfl, hp2⟩)))
      go_ret
      exact ⟨by rw [HX.out]; rfl, hp2⟩
    · obtain ⟨hp0, hp255, htk⟩ := gIs_parts hG.symm
      have hs255 := isP_size hI.symm
      obtain ⟨ls, hls⟩ : ∃ ls, ls = prts p := ⟨_, rfl⟩
      obtain ⟨ms, hms⟩ : ∃ ms, ms = prts s := ⟨_, rfl⟩
      obtain ⟨n, hn⟩ : ∃ n, n = ls.length := ⟨_, rfl⟩
      obtain ⟨m, hm⟩ : ∃ m, m = ms.length := ⟨_, rfl⟩
      have hnl : n ≤ 256 := by rw [hn, hls]; exact Nat.le_trans (prts_count p) (by omega)
      have hml : m ≤ 256 := by rw [hm, hms]; exact Nat.le_trans (prts_count s) (by omega)
      have hlen1 : ∀ x ∈ ls, x.length ≤ 1048576 := fun x hx => Nat.le_trans (prts_len (by rw [← hls]; exact hx)) (by omega)
      have hlen2 : ∀ x ∈ ms, x.length ≤ 1048576 := fun x hx => Nat.le_trans (prts_len (by rw [← hms]; exact hx)) (by omega)
      rw [← hls] at htk hB
      rw [← hms] at hB
      simp only [Bool.true_and] at hB
      have HP1 : Hid (∀ w', PI w w' → Calls Tryd.prog 19 #[.string p] w' fun e w'' => (∃ q cap, e = .returned (.slice q n cap) ∧ n ≤ cap ∧ SRw w'' q ls) ∧ Below w'.heap.size w' w'') := fun w' h => parts_inv h p ls n (by omega) hls hn
      have HP2 : Hid (∀ w', PI w w' → Calls Tryd.prog 19 #[.string s] w' fun e w'' => (∃ q cap, e = .returned (.slice q m cap) ∧ m ≤ cap ∧ SRw w'' q ms) ∧ Below w'.heap.size w' w'') := fun w' h => parts_inv h s ms m (by omega) hms hm
      have HFIT : Hid (∀ (W2 : World) (b1 b2 cap1 cap2 : Nat) (q1 q2 : Option Addr), W2.cell? ⟨b1, 0, none⟩ = some (.slice q1 n cap1) → SRw W2 q1 ls → W2.cell? ⟨b2, 0, none⟩ = some (.slice q2 m cap2) → SRw W2 q2 ms →
          Calls Tryd.prog 61 #[.int .i64 (n : Int), .int .i64 (m : Int), .func (.func 59) #[] #[.pointer (some ⟨b1, 0, none⟩)], .func (.func 60) #[] #[.pointer (some ⟨b1, 0, none⟩), .pointer (some ⟨b2, 0, none⟩)]] W2 fun e w' => e = .returned (.bool B) ∧ Below W2.heap.size W2 w') := fun W2 b1 b2 cap1 cap2 q1 q2 hc1 hr1 hc2 hr2 =>
        fits_parts partM (AtP ls) ms B n m b1 b2 W2 (Below W2.heap.size W2) hm (by omega) (by omega)
          ⟨fun i h => by rw [hn]; exact atP_nil h, fun i x L h => by rw [hn]; exact (atP_cons h).1, fun i L h => (atP_cons h).2.2⟩
          (fun i x L w' hj hat => by
            obtain ⟨hi, hx, hL⟩ := atP_cons hat
            refine (star3_any ls q1 cap1 n b1 i w' x.isNone (by omega) hn ((hj.cell (p := ⟨b1, 0, none⟩) (World.block_lt_of_cell? W2 _ hc1)).trans hc1) (hr1.below hj) (by rw [hx, starP_none])).mono fun e w'' h => ⟨h.1, h.2 ▸ hj⟩)
          (fun i j f L c hat hjt hcj => by
            obtain ⟨hi, hx, hL⟩ := atP_cons hat
            have hf := starP_some hx
            obtain ⟨K, hK⟩ := htk ls[i] (List.getElem_mem hi)
            refine ⟨((i + 1 : Nat) : Int), fun w' hj => ?_, fun _ => ⟨i + 1, rfl, hL⟩⟩
            refine (match4_any ls ms q1 q2 cap1 cap2 n m b1 b2 i j w' (partM f c) (by omega) hn (by omega) hm (by omega) ((hj.cell (p := ⟨b1, 0, none⟩) (World.block_lt_of_cell? W2 _ hc1)).trans hc1) (hr1.below hj) ((hj.cell (p := ⟨b2, 0, none⟩) (World.block_lt_of_cell? W2 _ hc2)).trans hc2) (hr2.below hj) K hK (by rw [hf, hcj, partM_some hK]) (hlen1 _ (List.getElem_mem hi)) (hlen2 _ (List.getElem_mem hjt))).mono fun e w'' h => ⟨h.1, hj.trans (h.2.mono hj.size)⟩)
          (Below.refl _ _) (ls.map starP) ⟨Nat.zero_le _, by rw [List.drop_zero]⟩ hB
      clear hB hG hI hp0 hp255 htk hs255 hls hms hn hm hlen1 hlen2
      go_enter Tryd.func41, Tryd.ntmps41
      go_upto_region 6 with (first
        | (go_at_call 36; ((with_reducible refine (HG.out _ (by assumption)).mono ?_); rintro e w1 ⟨rfl, hp1⟩))
        | (go_at_call 16; ((with_reducible refine (HI.out _ (by assumption)).mono ?_); rintro e w2 ⟨rfl, hp2⟩))
        | (go_at_call 19; first
          | ((with_reducible refine (HP1.out _ (by assumption)).mono ?_); rintro e w3 ⟨⟨q1, cap1, rfl, hcap1, hr1⟩, hb3⟩; have hp3 := hp2.step hb3; have HR1 := Lib.hid hr1; clear hr1)
          | ((with_reducible refine (HP2.out _ (by assumption)).mono ?_); rintro e w4 ⟨⟨q2, cap2, rfl, hcap2, hr2⟩, hb4⟩; have hp4 := hp3.step hb4; have HR2 := Lib.hid hr2; clear hr2)))
      obtain ⟨W5, hW5⟩ : ∃ W5, W5 = (w4.alloc (.cells #[.slice q1 n cap1] 25)).alloc (.cells #[.slice q2 m cap2] 25) := ⟨_, rfl⟩
      obtain ⟨r1, r2, hs3, hb5⟩ := box2 w4 _ _ hW5
      rw [← hW5]
      have k1 : W5.cell? ⟨w4.heap.size, 0, none⟩ = some (.slice q1 n cap1) := cell_of_row W5 _ 0 _ _ _ r1
      have k2 : W5.cell? ⟨w4.heap.size + 1, 0, none⟩ = some (.slice q2 m cap2) := cell_of_row W5 _ 0 _ _ _ r2
      have HB5 := Lib.hid (hp4.step hb5)
      have HF := Lib.hid (HFIT.out W5 w4.heap.size (w4.heap.size + 1) cap1 cap2 q1 q2 k1 ((HR1.out.below hb4).below hb5) k2 (HR2.out.below hb5))
      clear hW5 r1 r2 hs3 hb5 HFIT
      go_wp2_with (go_at_call 61; ((refine HF.out.mono ?_); rintro e w6 ⟨rfl, hb6⟩))
      go_ret
      exact ⟨rfl, HB5.out.step hb6⟩
end Go.Proofs.YtdgcmapmnkopaaaDoor
