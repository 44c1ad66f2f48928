/-
  Which lines of a list are kept, and where: the walk of three's kept.
-/
import Derived.Test.YtidghjalfbklnaaThRep
import Derived.Test.YtidghjalfbklnaaHsSpec
import Derived.Test.YtidghjalfbklnaaDfStay
import Derived.Test.YtidghjalfbklnaaDfRLst
namespace Go.Proofs.Ytidghjalfbklnaa
open Go.RowKit

/-- Numbers as cells. -/
def ints (l : List Int) : List Value := l.map fun x => Value.int .i64 x
theorem ints_set (l : List Int) (i : Nat) (x : Int) : (ints l).toArray.setIfInBounds i (.int .i64 x) = (ints (l.set i x)).toArray := by
  apply Array.ext'
  simp [ints, List.map_set]
theorem ints_at (l : List Int) (i : Nat) (h : i < l.length) : (ints l).toArray[i]? = some (.int .i64 l[i]) := by
  simp [ints, List.getElem?_map, List.getElem?_eq_getElem h]
/-- The first k lines of a run, laid down. -/
def setRun (l : List Int) (a b : Nat) : Nat → List Int
  | 0 => l
  | k + 1 => (setRun l a b k).set (a + k) ((b + k : Nat) : Int)
theorem setRun_len (l : List Int) (a b : Nat) : ∀ k, (setRun l a b k).length = l.length
  | 0 => rfl
  | k + 1 => by rw [setRun, List.length_set, setRun_len l a b k]
def setRuns (l : List Int) : List Rn → List Int
  | [] => l
  | r :: rs => setRuns (setRun l r.a.toNat r.b.toNat r.n.toNat) rs
/-- For each line of X its place in Y, or -1 if the least script doesn't keep it. -/
def kpL (X Y : List (List UInt8)) : List Int := setRuns (List.replicate X.length (-1)) (stL wrap64 X.length (leastL X Y) 0 0 [])
theorem st_in {X Y : List (List UInt8)} (hx : X.length ≤ 4096) (hy : Y.length ≤ 4096) : ∀ r ∈ stL wrap64 X.length (leastL X Y) 0 0 [], ∃ a b n : Nat, r = ⟨a, b, n⟩ ∧ 1 ≤ n ∧ a + n ≤ X.length ∧ b + n ≤ Y.length :=
  (stL_ch X Y wrap64 (fun z h1 h2 => wrap_small h1 (by omega)) (leastL X Y) true 0 0 (leastL_val ⟨hx, hy⟩) (Nat.zero_le _) (Nat.zero_le _)).all
theorem grown_belowT {W w w' : World} {r : Option Nat} (h : W.grownBy w r) (hb : Below w.heap.size w w') : W.grownBy w' r := ⟨hb.os.trans h.os, hb.tape.trans h.tape, hb.output.trans h.output, Nat.le_trans h.size hb.size, fun k hk hkr => (hb.block k (Nat.lt_of_lt_of_le hk h.size)).trans (h.block k hk hkr)⟩
theorem setRuns_len : ∀ (rs : List Rn) (l : List Int), (setRuns l rs).length = l.length
  | [], _ => rfl
  | r :: rs, l => by rw [setRuns, setRuns_len rs, setRun_len]
theorem setRuns_drop (l : List Int) (rs : List Rn) (k : Nat) (h : k < rs.length) : setRuns l (rs.drop k) = setRuns (setRun l rs[k].a.toNat rs[k].b.toNat rs[k].n.toNat) (rs.drop (k + 1)) := by rw [List.drop_eq_getElem_cons h, setRuns]

set_option maxHeartbeats 4000000 in
set_option maxRecDepth 8000 in
theorem kept_any (X Y : List (List UInt8)) (p q : Option Addr) (c d n m : Nat) (w : World) (hn : n = X.length) (hm : m = Y.length) (hp : SRw w p X) (hq : SRw w q Y) (hnc : n ≤ c) (hmd : m ≤ d) (hl : n ≤ 2000) (hl2 : m ≤ 2000) (hs : ∀ t ∈ X, t.length ≤ 140737488355328) (hs2 : ∀ t ∈ Y, t.length ≤ 140737488355328) :
    Calls Try.prog 43 #[.slice p n c, .slice q m d] w fun e w' => (∃ G, e = .returned (.slice (some ⟨G, 0, none⟩) n n) ∧ w.heap.size ≤ G ∧ w'.heap[G]? = some (.cells (ints (kpL X Y)).toArray 3 (0, 0))) ∧ Below w.heap.size w w' := by
  obtain ⟨S, hS⟩ : ∃ S, S = stL wrap64 (n : Int) (leastL X Y) 0 0 [] := ⟨_, rfl⟩
  have hin : ∀ r ∈ S, ∃ a b x : Nat, r = ⟨a, b, x⟩ ∧ 1 ≤ x ∧ a + x ≤ n ∧ b + x ≤ m := by
    rw [hS, hn, hm]
    exact st_in (by omega) (by omega)
  obtain ⟨K, hK⟩ : ∃ K, K = kpL X Y := ⟨_, rfl⟩
  have hKS : K = setRuns (List.replicate n (-1)) (S.drop 0) := by rw [hK, kpL, ← hn, ← hS]; rfl
  have hll := leastL_len X Y
  have hSl : S.length ≤ 1000000 := by rw [hS]; have := stL_len wrap64 (n : Int) (leastL X Y) 0 0 []; simp at this; omega
  have HLE : Hid (∀ w', Below w.heap.size w w' → Calls Try.prog 15 #[.slice p n c, .slice q m d] w' fun e w'' => (∃ v L cap, e = .returned (.slice v L cap) ∧ L = (leastL X Y).length ∧ ERw w'' v (leastL X Y)) ∧ Below w'.heap.size w' w'') := fun w' hb =>
    (least_any X Y p q c d n m w' hn hm (hp.below hb) (hq.below hb) hnc hmd (by omega) (by omega) hs hs2).mono fun e w'' ⟨⟨v, he, hr⟩, hb2⟩ => by
      obtain ⟨p2, cap2, rfl, hr2⟩ := hr.rw
      exact ⟨⟨p2, _, cap2, he, rfl, hr2⟩, hb2⟩
  have HUN : Hid (∀ w' v L cap, L = (leastL X Y).length → ERw w' v (leastL X Y) → Calls Try.prog 75 #[.slice v L cap, .int .i64 (n : Int)] w' fun e w'' => (∃ v L2 cap, e = .returned (.slice v L2 cap) ∧ L2 = S.length ∧ RRw w'' v S ∧ ∀ g o, v = some ⟨g, o, none⟩ → w'.heap.size ≤ g) ∧ Below w'.heap.size w' w'') := fun w' v L cap hL hr =>
    (unchanged_any (leastL X Y) v cap L (n : Int) w' hL hr (by omega)).mono fun e w'' ⟨⟨v2, he, ho⟩, hb2⟩ => by
      rw [← hS] at ho
      obtain ⟨p2, cap2, rfl, hr2⟩ := ho.rw
      have ho' : w''.ownsRow w'.heap.size 48 3 (.slice p2 S.length cap2) S.length (rcells S) := ho
      exact ⟨⟨p2, _, cap2, he, rfl, hr2, fun g o e => by subst e; exact (ho'.lt g rfl).1⟩, hb2⟩
  have HRP : Hid (∀ w', Calls Try.prog 74 #[.slice (some ⟨w'.heap.size, 0, none⟩) 1 1, .int .i64 (n : Int)] (w'.alloc (.cells #[.int .i64 (-1)] 3)) fun e w'' => e = .returned (.slice (some ⟨w'.heap.size + 1, 0, none⟩) n n) ∧ w''.heap[w'.heap.size + 1]? = some (.cells (ints (List.replicate n (-1))).toArray 3 (0, 0)) ∧ Below w'.heap.size w' w'') := fun w' => by
    have hx := heap_alloc_new w' (.cells #[.int .i64 (-1)] 3)
    have h := repeat_any n w'.heap.size 0 1 (w'.alloc (.cells #[.int .i64 (-1)] 3)) (by omega) (cell_of_row _ _ 0 _ _ _ hx)
    rw [World.size_alloc] at h
    refine h.mono fun e w'' ⟨he, hr, hb⟩ => ⟨he, ?_, (below_new (Below.refl _ _) _).trans (hb.mono (by omega))⟩
    rw [hr]
    simp [ints]
  have HKS := Lib.hid hKS
  have HIN := Lib.hid hin
  rw [← hK]
  clear hn hm hp hq hS hin hK hKS hll hs hs2 hnc hmd
  go_enter Try.func43, Try.ntmps43
  go_upto_region 2 with (go_at_call 74; ((with_reducible refine (HRP.out _).mono ?_); rintro e w1 ⟨rfl, hr1, hb1⟩))
  obtain ⟨G, hG⟩ : ∃ G, G = w.heap.size + 1 := ⟨_, rfl⟩
  rw [← hG] at hr1 ⊢
  have HG := Lib.hid hG
  clear hG
  have hGl : G < w1.heap.size := row_lt hr1
  go_wp2_with (first
    | (go_at_call 15; ((with_reducible refine (HLE.out _ hb1).mono ?_); rintro e w2 ⟨⟨v2, L2, cap2, rfl, hL2, hr2⟩, hb2⟩; have HL2 := Lib.hid hL2; clear hL2))
    | (go_at_call 75; ((with_reducible refine (HUN.out _ _ _ _ HL2.out hr2).mono ?_); rintro e w3 ⟨⟨v3, L3, cap3, rfl, hL3, hr3, hv3⟩, hb3⟩; have HL3 := Lib.hid hL3; clear hL3)))
  have hb13 := hb2.trans (hb3.mono hb2.size)
  have HR0 : Hid (w3.heap[G]? = some (.cells (ints (List.replicate n (-1))).toArray 3 (0, 0))) := (hb13.block G hGl).trans hr1
  have HB0 := Lib.hid (hb1.trans (hb13.mono hb1.size))
  have HV := Lib.hid hr3
  have hG3 : G < w3.heap.size := Nat.lt_of_lt_of_le hGl hb13.size
  have HVG : Hid (∀ g o, v3 = some ⟨g, o, none⟩ → g ≠ G) := fun g o e => by have := hv3 g o e; have := hb2.size; omega
  have hGw : w.heap.size ≤ G := by have := HG.out; omega
  clear hr1 hr2 hr3 hb1 hb2 hb3 hb13 hGl hv3
  have HLS := Lib.hid hSl
  go_loopw [20] (fun iv wr => ∃ (k : Nat) (l : List Int), k ≤ L3 ∧ iv = .int .i64 (k : Int) ∧ Hid (l.length = n) ∧ Hid (K = setRuns l (S.drop k)) ∧ Hid (wr.heap[G]? = some (.cells (ints l).toArray 3 (0, 0))) ∧ Hid (w3.grownBy wr (some G))) (fun iv _ => L3 - (intOf iv).toNat)
  case atStart => exact ⟨0, List.replicate n (-1), by omega, rfl, List.length_replicate, HKS.out, HR0.out, ⟨rfl, rfl, rfl, Nat.le_refl _, fun _ _ _ => rfl⟩⟩
  case round =>
    clear HKS HR0
    obtain ⟨k, l, hk, rfl, HLN, HKS, HR, HGR⟩ := hrel
    have hL3l : L3 ≤ 1000000 := by rw [HL3.out]; exact HLS.out
    by_cases hlt : k < L3
    · have hkS : k < S.length := by rw [← HL3.out]; exact hlt
      obtain ⟨a, b, x, he, h1, h2, h3⟩ := HIN.out S[k] (List.getElem_mem hkS)
      obtain ⟨g, o, rfl, hg, a0, a1, a2⟩ := HV.out k hkS
      have hgG := HVG.out g o rfl
      have hfar : ∀ i, wr.cell? ⟨g, i, none⟩ = w3.cell? ⟨g, i, none⟩ := fun i => World.cell?_of_block (HGR.out.block g hg (by simpa using hgG))
      rw [← hfar] at a0 a1 a2
      rw [he] at a0 a1 a2
      simp only at a0 a1 a2
      have hks := HKS.out
      rw [setRuns_drop l S k hkS, he] at hks
      simp only [Int.toNat_natCast] at hks
      have HKS2 := Lib.hid hks
      have hws := HGR.out.size
      clear he hkS hks hfar hg HKS
      go_upto_region 5 with fail
      obtain ⟨E, hE⟩ : ∃ E, E = wr.heap.size := ⟨_, rfl⟩
      obtain ⟨w4, hw4⟩ : ∃ w4, w4 = wr.alloc (.cells #[.int .i64 (a : Int), .int .i64 (b : Int), .int .i64 (x : Int)] 48) := ⟨_, rfl⟩
      have HBX : Hid (w4.heap[E]? = some (.cells #[.int .i64 (a : Int), .int .i64 (b : Int), .int .i64 (x : Int)] 48 (0, 0))) := by show _ = _; rw [hw4, hE]; exact heap_alloc_new _ _
      have HR4 : Hid (w4.heap[G]? = some (.cells (ints l).toArray 3 (0, 0))) := by show _ = _; rw [hw4]; exact row_alloc HR.out (row_lt HR.out)
      have HG4 : Hid (w3.grownBy w4 (some G)) := by rw [hw4]; exact grown_belowT HGR.out (below_new (Below.refl _ _) _)
      have hEG : E ≠ G := by omega
      rw [← hw4, ← hE]
      have hE4 : E < w4.heap.size := row_lt HBX.out
      clear hw4 hE a0 a1 a2 HR HGR
      have r2 := cell_of_row w4 E 2 _ _ _ HBX.out
      go_wp2
      clear r2
      go_loopw [26] (fun jv wx => ∃ j : Nat, j ≤ x ∧ jv = .int .i64 (j : Int) ∧ Hid (wx.heap[E]? = some (.cells #[.int .i64 (a : Int), .int .i64 (b : Int), .int .i64 (x : Int)] 48 (0, 0))) ∧ Hid (wx.heap[G]? = some (.cells (ints (setRun l a b j)).toArray 3 (0, 0))) ∧ Hid (w3.grownBy wx (some G))) (fun jv _ => x - (intOf jv).toNat)
      case atStart => exact ⟨0, by omega, rfl, HBX.out, HR4.out, HG4.out⟩
      case round =>
        clear HBX HR4 HG4
        obtain ⟨j, hj, rfl, HBX, HR, HGR⟩ := hrel
        have r0 := cell_of_row wr E 0 _ _ _ HBX.out
        have r1 := cell_of_row wr E 1 _ _ _ HBX.out
        have r2 := cell_of_row wr E 2 _ _ _ HBX.out
        by_cases hjx : j < x
        · obtain ⟨A, hA⟩ : ∃ A, A = a + j := ⟨_, rfl⟩
          obtain ⟨B, hB⟩ : ∃ B, B = b + j := ⟨_, rfl⟩
          have i1 : IntKind.i64.wrap ((a : Int) + (j : Int)) = (A : Int) := by rw [IntWalk.i64_in _ (by omega)]; omega
          have i2 : IntKind.i64.wrap ((b : Int) + (j : Int)) = (B : Int) := by rw [IntWalk.i64_in _ (by omega)]; omega
          have hAn : A < n := by omega
          have hlen : (setRun l a b j).length = n := by rw [setRun_len, HLN.out]
          have f0 := frozen_of_row wr G A _ _ HR.out
          obtain ⟨v0, c0⟩ : ∃ v, wr.cell? ⟨G, A, none⟩ = some v := ⟨_, (cell_of_row wr G A _ _ _ HR.out).trans (ints_at _ _ (by omega))⟩
          have hst := heap_setCell_same wr G A _ 3 (.int .i64 (B : Int)) HR.out
          rw [ints_set, hA, hB, ← setRun, ← hA, ← hB] at hst
          have HST := Lib.hid hst
          clear hst hA hB hlen
          go_wp2
          go_roundw
          case rel => exact ⟨j + 1, hjx, by go_num, (Below.heap_setCell wr ⟨G, A, none⟩ _ E hEG).trans HBX.out, HST.out, ⟨HGR.out.os, HGR.out.tape, HGR.out.output, by simp; exact HGR.out.size, fun k hk hkG => (Below.heap_setCell wr ⟨G, A, none⟩ _ k (fun e => hkG (by rw [e]))).trans (HGR.out.block k hk hkG)⟩⟩
          case measure => simp [intOf]; omega
        · obtain rfl : j = x := by omega
          go_wp2
          go_roundw
          case rel => exact ⟨k + 1, setRun l a b j, hlt, by go_num, by show _ = _; rw [setRun_len, HLN.out], HKS2.out, HR.out, HGR.out⟩
          case measure => simp [intOf]; omega
    · obtain rfl : k = L3 := by omega
      have hks := HKS.out
      rw [List.drop_of_length_le (by have := HL3.out; omega), setRuns] at hks
      subst hks
      go_wp2
      go_ret
      exact ⟨⟨G, rfl, hGw, HR.out⟩, HB0.out.grown HGR.out HB0.out.size (fun i hi => by cases hi; exact hGw)⟩
end Go.Proofs.Ytidghjalfbklnaa
