/-
  Which lines of a list are kept, and where: the walk of the reference's places.
-/
import Derived.Test.YtidghjalfbklnaaThKept
namespace Go.Proofs.Ytidghjalfbklnaa
open Go.RowKit

theorem fill_set (x : Value) {m n : Nat} (h : m < n) : (fillV x m n).toArray.setIfInBounds m x = (fillV x (m + 1) n).toArray := by
  apply Array.ext'
  simp only [Array.toList_setIfInBounds, fillV]
  rw [List.set_append_right _ _ (by simp), List.length_replicate, Nat.sub_self, show n - m = (n - (m + 1)) + 1 by omega, List.replicate_succ, List.set_cons_zero, List.replicate_succ', List.append_assoc]
  rfl
theorem fill_full (n : Nat) : fillV (.int .i64 (-1)) n n = ints (List.replicate n (-1)) := by simp [fillV, ints]

set_option maxHeartbeats 4000000 in
set_option maxRecDepth 8000 in
theorem places_any (X Y : List (List UInt8)) (p q : Option Addr) (c d n m : Nat) (w : World) (hn : n = X.length) (hm : m = Y.length) (hp : SRw w p X) (hq : SRw w q Y) (hnc : n ≤ c) (hmd : m ≤ d) (hl : n ≤ 2000) (hl2 : m ≤ 2000) :
    Calls Try.prog 46 #[.slice p n c, .slice q m d] w fun e w' => (∃ G, e = .returned (.slice (some ⟨G, 0, none⟩) n n) ∧ w.heap.size ≤ G ∧ w'.heap[G]? = some (.cells (ints (kpL X Y)).toArray 3 (0, 0))) ∧ Below w.heap.size w w' := by
  obtain ⟨S, hS⟩ : ∃ S, S = stL wrap64 (n : Int) (leastL X Y) 0 0 [] := ⟨_, rfl⟩
  have hin : ∀ r ∈ S, ∃ a b x : Nat, r = ⟨a, b, x⟩ ∧ 1 ≤ x ∧ a + x ≤ n ∧ b + x ≤ m := by
    rw [hS, hn, hm]
    exact st_in (by omega) (by omega)
  obtain ⟨K, hK⟩ : ∃ K, K = kpL X Y := ⟨_, rfl⟩
  have hKS : K = setRuns (List.replicate n (-1)) (S.drop 0) := by rw [hK, kpL, ← hn, ← hS]; rfl
  have hll := leastL_len X Y
  have hSl : S.length ≤ 1000000 := by rw [hS]; have := stL_len wrap64 (n : Int) (leastL X Y) 0 0 []; simp at this; omega
  have HLE : Hid (∀ w', Below w.heap.size w w' → Calls Try.prog 79 #[.slice p n c, .slice q m d] w' fun e w'' => (∃ v L cap, e = .returned (.slice v L cap) ∧ L = (leastL X Y).length ∧ ERw w'' v (leastL X Y)) ∧ Below w'.heap.size w' w'') := fun w' hb =>
    (rleast_any X Y p q c d n m w' hn hm (hp.below hb) (hq.below hb) hnc hmd (by omega) (by omega)).mono fun e w'' ⟨⟨v, he, hr⟩, hb2⟩ => by
      obtain ⟨p2, cap2, rfl, hr2⟩ := hr.rw
      exact ⟨⟨p2, _, cap2, he, rfl, hr2⟩, hb2⟩
  have HUN : Hid (∀ w' v L cap, L = (leastL X Y).length → ERw w' v (leastL X Y) → Calls Try.prog 78 #[.slice v L cap, .int .i64 (n : Int)] w' fun e w'' => (∃ v L2 cap, e = .returned (.slice v L2 cap) ∧ L2 = S.length ∧ RRw w'' v S ∧ ∀ g o, v = some ⟨g, o, none⟩ → w'.heap.size ≤ g) ∧ Below w'.heap.size w' w'') := fun w' v L cap hL hr =>
    (stay_any (leastL X Y) v cap L (n : Int) w' hL hr (by omega)).mono fun e w'' ⟨⟨v2, he, ho⟩, hb2⟩ => by
      rw [← hS] at ho
      obtain ⟨p2, cap2, rfl, hr2⟩ := ho.rw
      have ho' : w''.ownsRow w'.heap.size 48 3 (.slice p2 S.length cap2) S.length (rcells S) := ho
      exact ⟨⟨p2, _, cap2, he, rfl, hr2, fun g o e => by subst e; exact (ho'.lt g rfl).1⟩, hb2⟩
  have hmk := make_intsT n (by omega)
  have HKS := Lib.hid hKS
  have HIN := Lib.hid hin
  rw [← hK]
  clear hn hm hp hq hS hin hK hKS hll hnc hmd
  go_enter Try.func46, Try.ntmps46
  go_upto_region 2 with fail
  obtain ⟨G, hG⟩ : ∃ G, G = w.heap.size := ⟨_, rfl⟩
  obtain ⟨w1, hw1⟩ : ∃ w1, w1 = w.alloc (.cells (madeCells #[.int .i64 0] n) 3) := ⟨_, rfl⟩
  have hr1 : w1.heap[G]? = some (.cells (fillV (.int .i64 (-1)) 0 n).toArray 3 (0, 0)) := by rw [hw1, hG, ← made_fill]; exact heap_alloc_new _ _
  have hb1 : Below w.heap.size w w1 := by rw [hw1]; exact below_new (Below.refl _ _) _
  rw [← hw1, ← hG]
  have HG := Lib.hid hG
  have HR1 := Lib.hid hr1
  have HB1 := Lib.hid hb1
  clear hw1 hG hmk hr1 hb1
  go_wp2
  go_loopw [6] (fun mv wr => ∃ k : Nat, k ≤ n ∧ mv = .int .i64 (k : Int) ∧ Hid (wr.heap[G]? = some (.cells (fillV (.int .i64 (-1)) k n).toArray 3 (0, 0))) ∧ Hid (Below w.heap.size w wr)) (fun mv _ => n - (intOf mv).toNat)
  case atStart => exact ⟨0, Nat.zero_le _, rfl, HR1.out, HB1.out⟩
  case round =>
    clear HR1 HB1
    obtain ⟨k, hk, rfl, HR, HB⟩ := hrel
    by_cases hlt : k < n
    · have f0 := frozen_of_row wr G k _ _ HR.out
      obtain ⟨v0, c0⟩ : ∃ v, wr.cell? ⟨G, k, none⟩ = some v := ⟨_, (cell_of_row wr G k _ _ _ HR.out).trans (by rw [List.getElem?_toArray]; exact List.getElem?_eq_getElem (by rw [fill_len _ hk]; exact hlt))⟩
      have hst := heap_setCell_same wr G k _ 3 (.int .i64 (-1)) HR.out
      rw [fill_set _ hlt] at hst
      have HST := Lib.hid hst
      have HGN : Hid (w.heap.size ≤ G) := by show _ ≤ _; rw [HG.out]; exact Nat.le_refl _
      clear hst
      go_wp2
      go_roundw
      case rel => exact ⟨k + 1, hlt, by go_num, HST.out, HB.out.setCell (p := ⟨G, k, none⟩) HGN.out _⟩
      case measure => simp [intOf]; omega
    · obtain rfl : k = n := by omega
      have hrow := HR.out
      rw [fill_full] at hrow
      have HROW := Lib.hid hrow
      have hG3 : G < wr.heap.size := row_lt hrow
      clear hrow HR
      go_wp2_with (first
        | (go_at_call 79; ((with_reducible refine (HLE.out _ HB.out).mono ?_); rintro e w2 ⟨⟨v2, L2, cap2, rfl, hL2, hr2⟩, hb2⟩; have HL2 := Lib.hid hL2; clear hL2))
        | (go_at_call 78; ((with_reducible refine (HUN.out _ _ _ _ HL2.out hr2).mono ?_); rintro e w3 ⟨⟨v3, L3, cap3, rfl, hL3, hr3, hv3⟩, hb3⟩; have HL3 := Lib.hid hL3; clear hL3)))
      have hb13 := hb2.trans (hb3.mono hb2.size)
      have HR0 : Hid (w3.heap[G]? = some (.cells (ints (List.replicate k (-1))).toArray 3 (0, 0))) := (hb13.block G hG3).trans HROW.out
      have hGw : w.heap.size ≤ G := by have := HG.out; omega
      have HB0 := Lib.hid (HB.out.trans (hb13.mono HB.out.size))
      have HV := Lib.hid hr3
      have HVG : Hid (∀ g o, v3 = some ⟨g, o, none⟩ → g ≠ G) := fun g o e => by have := hv3 g o e; have := hb2.size; omega
      have hG33 : G < w3.heap.size := Nat.lt_of_lt_of_le hG3 hb13.size
      clear hr2 hr3 hb2 hb3 hb13 hG3 hv3 HROW HB
      have HLS := Lib.hid hSl
      go_loopw [8] (fun iv wr => ∃ (j : Nat) (l : List Int), j ≤ L3 ∧ iv = .int .i64 (j : Int) ∧ Hid (l.length = k) ∧ Hid (K = setRuns l (S.drop j)) ∧ Hid (wr.heap[G]? = some (.cells (ints l).toArray 3 (0, 0))) ∧ Hid (w3.grownBy wr (some G))) (fun iv _ => L3 - (intOf iv).toNat)
      case atStart => exact ⟨0, List.replicate k (-1), by omega, rfl, List.length_replicate, HKS.out, HR0.out, ⟨rfl, rfl, rfl, Nat.le_refl _, fun _ _ _ => rfl⟩⟩
      case round =>
        clear HKS HR0
        obtain ⟨j, l, hj, rfl, HLN, HKS, HR, HGR⟩ := hrel
        have hL3l : L3 ≤ 1000000 := by rw [HL3.out]; exact HLS.out
        by_cases hlt : j < L3
        · have hkS : j < S.length := by rw [← HL3.out]; exact hlt
          obtain ⟨a, b, x, he, h1, h2, h3⟩ := HIN.out S[j] (List.getElem_mem hkS)
          obtain ⟨g, o, rfl, hg, a0, a1, a2⟩ := HV.out j hkS
          have hgG := HVG.out g o rfl
          rw [he] at a0 a1 a2
          simp only at a0 a1 a2
          have HAT : Hid (∀ wy, w3.grownBy wy (some G) → wy.cell? ⟨g, o + j * 3, none⟩ = some (.int .i64 (a : Int)) ∧ wy.cell? ⟨g, o + j * 3 + 1, none⟩ = some (.int .i64 (b : Int)) ∧ wy.cell? ⟨g, o + j * 3 + 2, none⟩ = some (.int .i64 (x : Int))) := fun wy hy => by
            have hfar : ∀ i, wy.cell? ⟨g, i, none⟩ = w3.cell? ⟨g, i, none⟩ := fun i => World.cell?_of_block (hy.block g hg (by simpa using hgG))
            rw [hfar, hfar, hfar]
            exact ⟨a0, a1, a2⟩
          have hks := HKS.out
          rw [setRuns_drop l S j hkS, he] at hks
          simp only [Int.toNat_natCast] at hks
          have HKS2 := Lib.hid hks
          clear he hkS hks hg HKS a0 a1 a2
          go_wp2
          go_loopw [9] (fun jv wx => ∃ y : Nat, y ≤ x ∧ jv = .int .i64 (y : Int) ∧ Hid (wx.heap[G]? = some (.cells (ints (setRun l a b y)).toArray 3 (0, 0))) ∧ Hid (w3.grownBy wx (some G))) (fun jv _ => x - (intOf jv).toNat)
          case atStart => exact ⟨0, by omega, rfl, HR.out, HGR.out⟩
          case round =>
            clear HR HGR
            obtain ⟨y, hy, rfl, HR, HGR⟩ := hrel
            obtain ⟨r0, r1, r2⟩ := HAT.out _ HGR.out
            by_cases hyx : y < x
            · obtain ⟨A, hA⟩ : ∃ A, A = a + y := ⟨_, rfl⟩
              obtain ⟨B, hB⟩ : ∃ B, B = b + y := ⟨_, rfl⟩
              have i1 : IntKind.i64.wrap ((a : Int) + (y : Int)) = (A : Int) := by rw [IntWalk.i64_in _ (by omega)]; omega
              have i2 : IntKind.i64.wrap ((b : Int) + (y : Int)) = (B : Int) := by rw [IntWalk.i64_in _ (by omega)]; omega
              have hAn : A < k := by omega
              have hlen : (setRun l a b y).length = k := by rw [setRun_len, HLN.out]
              have f0 := frozen_of_row wr G A _ _ HR.out
              obtain ⟨v0, c0⟩ : ∃ v, wr.cell? ⟨G, A, none⟩ = some v := ⟨_, (cell_of_row wr G A _ _ _ HR.out).trans (ints_at _ _ (by omega))⟩
              have hst := heap_setCell_same wr G A _ 3 (.int .i64 (B : Int)) HR.out
              rw [ints_set, hA, hB, ← setRun, ← hA, ← hB] at hst
              have HST := Lib.hid hst
              have HGX : Hid (w3.grownBy (wr.setCell ⟨G, A, none⟩ (.int .i64 (B : Int))) (some G)) := ⟨HGR.out.os, HGR.out.tape, HGR.out.output, by simp; exact HGR.out.size, fun k hk hkG => (Below.heap_setCell wr ⟨G, A, none⟩ _ k (fun e => hkG (by rw [e]))).trans (HGR.out.block k hk hkG)⟩
              clear hst hA hB hlen HR HGR
              go_wp2
              go_region
              go_wp2
              go_roundw
              case rel => exact ⟨y + 1, hyx, by go_num, HST.out, ⟨HGX.out.os, HGX.out.tape, HGX.out.output, HGX.out.size, HGX.out.block⟩⟩
              case measure => simp [intOf]; omega
            · obtain rfl : y = x := by omega
              go_wp2
              go_roundw
              case rel => exact ⟨j + 1, setRun l a b y, hlt, by go_num, by show _ = _; rw [setRun_len, HLN.out], HKS2.out, HR.out, HGR.out⟩
              case measure => simp [intOf]; omega
        · obtain rfl : j = L3 := by omega
          have hks := HKS.out
          rw [List.drop_of_length_le (by have := HL3.out; omega), setRuns] at hks
          subst hks
          go_wp2
          go_ret
          exact ⟨⟨G, rfl, hGw, HR.out⟩, HB0.out.grown HGR.out HB0.out.size (fun i hi => by cases hi; exact hGw)⟩
end Go.Proofs.Ytidghjalfbklnaa
