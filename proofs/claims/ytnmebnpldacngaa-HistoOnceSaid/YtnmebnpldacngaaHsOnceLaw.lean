/-
  The walk of the law HistoOnce.
-/
import Derived.Test.YtnmebnpldacngaaHsLives
import Derived.Test.YtnmebnpldacngaaHsOnceP
import Derived.Test.YtnmebnpldacngaaDfCost
import Derived.Test.YtnmebnpldacngaaDfSA
import Derived.Maps.AppendAt
namespace Go.Proofs.Ytnmebnpldacngaa
open Go.RowKit

theorem EOw.rwO {w : World} {base : Nat} {v : Value} {l : List Ed} (h : EOw w base v l) : ∃ g L cap, v = .slice g L cap ∧ L = l.length ∧ ERw w g l := by
  obtain ⟨g, cap, rfl, hr⟩ := h.rw
  exact ⟨g, _, cap, rfl, rfl, hr⟩
theorem one_conv (w : World) (z : UInt8) (b : Nat) (hb : z.toNat = b) : (convert 41 9 (.slice (some ⟨w.heap.size, 0, none⟩) 1 1)).run Try.prog (w.alloc (.cells #[.int .u8 (b : Int)] 5)) = .ok (.string (str [z])) (w.alloc (.cells #[.int .u8 (b : Int)] 5)) := by
  subst hb
  refine conv_owned (P := Try.prog) (base := w.heap.size) (n := 1) 41 9 5 Try.underlying41 Try.underlying5 Try.underlying9 ⟨rfl, .inr ⟨w.heap.size, 1, #[.int .u8 (z.toNat : Int)], rfl, Nat.le_refl _, heap_alloc_new w _, Nat.le_refl _, by unfold maxLen; omega, rfl, rfl⟩⟩
/-- A line's first byte. -/
def key (x : List UInt8) : Nat := (x.headD 0).toNat
/-- Lines of one byte each, in order, below m. -/
def UpB (X : List (List UInt8)) (m : Nat) : Prop := Up key X ∧ ∀ x ∈ X, key x < m ∧ x.length = 1
theorem UpB.nil (m : Nat) : UpB [] m := ⟨List.Pairwise.nil, by simp⟩
theorem UpB.more {X : List (List UInt8)} {m : Nat} (h : UpB X m) : UpB X (m + 1) := ⟨h.1, fun x hx => ⟨by have := (h.2 x hx).1; omega, (h.2 x hx).2⟩⟩
theorem UpB.snoc {X : List (List UInt8)} {m : Nat} {z : UInt8} (h : UpB X m) (hz : z.toNat = m) : UpB (X ++ [[z]]) (m + 1) := by
  refine ⟨List.pairwise_append.2 ⟨h.1, List.pairwise_singleton _ _, fun a ha b hb => ?_⟩, fun x hx => ?_⟩
  · rw [List.mem_singleton] at hb
    subst hb
    have := (h.2 a ha).1
    show key a < (z : UInt8).toNat
    omega
  · rcases List.mem_append.1 hx with hx | hx
    · exact ⟨by have := (h.2 x hx).1; omega, (h.2 x hx).2⟩
    · rw [List.mem_singleton] at hx
      subst hx
      exact ⟨by show z.toNat < m + 1; omega, rfl⟩
/-- Two rows of the call's own, of strings, that share nothing. -/
structure Two (w0 w : World) (v1 v2 : Value) (n1 n2 : Nat) (X Y : List (List UInt8)) : Prop where
  o1 : w.ownsRow w0.heap.size 9 1 v1 n1 (strs X)
  o2 : w.ownsRow w0.heap.size 9 1 v2 n2 (strs Y)
  ne : ∀ g, v1.ownBlock = some g → v2.ownBlock ≠ some g
  bel : Below w0.heap.size w0 w
theorem Two.put1 {w0 w w' : World} {v1 v2 v1' : Value} {n1 n2 : Nat} {X Y : List (List UInt8)} {o : Obj} {x : List UInt8} (h : Two w0 w v1 v2 n1 n2 X Y) (ho : w'.ownsRow w0.heap.size 9 1 v1' (n1 + 1) (strs X ++ [.string (str x)])) (hg : (w.alloc o).grownBy w' v1.ownBlock) (hat : v1'.ownBlock = v1.ownBlock ∨ v1'.ownBlock = some (w.alloc o).heap.size) : Two w0 w' v1' v2 (n1 + 1) n2 (X ++ [x]) Y := by
  have o2' : w'.ownsRow w0.heap.size 9 1 v2 n2 (strs Y) := (h.o2.alloc o).kept hg (by
    cases hv : v2.ownBlock with
    | none => exact .inl rfl
    | some g => exact .inr (fun e => h.ne g e.symm hv))
  refine ⟨by rw [strs_append]; exact ho, o2', fun g hv1 hv2 => ?_, (below_new h.bel o).grown hg (by have := h.bel.size; simp; omega) (fun k hk => (h.o1.lt k hk).1)⟩
  rcases hat with e | e
  · exact h.ne g (e ▸ hv1) hv2
  · rw [e] at hv1
    cases hv1
    have := (h.o2.lt _ hv2).2
    simp at this
    omega
theorem Two.put2 {w0 w w' : World} {v1 v2 v2' : Value} {n1 n2 : Nat} {X Y : List (List UInt8)} {o : Obj} {x : List UInt8} (h : Two w0 w v1 v2 n1 n2 X Y) (ho : w'.ownsRow w0.heap.size 9 1 v2' (n2 + 1) (strs Y ++ [.string (str x)])) (hg : (w.alloc o).grownBy w' v2.ownBlock) (hat : v2'.ownBlock = v2.ownBlock ∨ v2'.ownBlock = some (w.alloc o).heap.size) : Two w0 w' v1 v2' n1 (n2 + 1) X (Y ++ [x]) := by
  have h2 : Two w0 w v2 v1 n2 n1 Y X := ⟨h.o2, h.o1, fun g h1 h3 => h.ne g h3 h1, h.bel⟩
  have h3 := h2.put1 ho hg hat
  exact ⟨h3.o2, h3.o1, fun g h1 h4 => h3.ne g h4 h1, h3.bel⟩
theorem Two.alloc {w0 w : World} {v1 v2 : Value} {n1 n2 : Nat} {X Y : List (List UInt8)} (h : Two w0 w v1 v2 n1 n2 X Y) (o : Obj) : Two w0 (w.alloc o) v1 v2 n1 n2 X Y := ⟨h.o1.alloc o, h.o2.alloc o, h.ne, below_new h.bel o⟩
theorem own_slice {w : World} {base n : Nat} {e : TypeId} {v : Value} {xs : List Value} (h : w.ownsRow base e 1 v n xs) : ∃ p cap, v = .slice p n cap := by
  rcases h.2 with ⟨rfl, rfl⟩ | ⟨g, cap, cur, rfl, _⟩
  · exact ⟨_, _, rfl⟩
  · exact ⟨_, _, rfl⟩
theorem one_strO (l : List UInt8) : ∀ u ∈ [Value.string (str l)], u.oneCell' = true := by intro u hu; simp at hu; subst hu; rfl

theorem own_srw {w : World} {base n c : Nat} {p : Option Addr} {X : List (List UInt8)} (h : w.ownsRow base 9 1 (.slice p n c) n (strs X)) (hn : n = X.length) : SRw w p X ∧ n ≤ c := by
  subst hn
  obtain ⟨p2, c2, e, hs⟩ := srw_of h
  simp only [Value.slice.injEq] at e
  obtain ⟨rfl, _, rfl⟩ := e
  refine ⟨hs, ?_⟩
  rcases h.2 with ⟨_, h0⟩ | ⟨g, cap, cur, hv, _, _, hle, _⟩
  · omega
  · simp only [Value.slice.injEq] at hv
    rw [hv.2.2]
    exact hle
theorem UpB.short {X : List (List UInt8)} {m : Nat} (h : UpB X m) : ∀ t ∈ X, t.length ≤ 140737488355328 := fun t ht => by rw [(h.2 t ht).2]; decide

set_option maxHeartbeats 4000000 in
set_option maxRecDepth 8000 in
theorem hsOnce_walk (n0 : Nat) (a b : Int) (W : World) (hn0 : n0 < 256) (ha : (Lit.int .u64 a).wf = true) (hb : (Lit.int .u64 b).wf = true) : Calls Try.prog 6 #[.int .u8 (n0 : Int), .int .u64 a, .int .u64 b] W fun e W' => e = .returned (.bool true) ∧ Below W.heap.size W W' := by
  obtain ⟨i0, hif, hz0, hz1, hz2⟩ := info_parts Try.infoStr
  obtain ⟨N, hN⟩ : ∃ N, N = n0 % 60 := ⟨_, rfl⟩
  have hN1 : N < 60 := by omega
  have r1 : (n0 : Int) % 60 = (N : Int) := by omega
  have r2 : Int.tmod (n0 : Int) 60 = (N : Int) := by rw [Int.tmod_eq_emod_of_nonneg (by omega)]; exact r1
  have r3 : IntKind.i64.wrap (N : Int) = (N : Int) := IntWalk.i64_in _ (by omega)
  clear hN
  go_enter Try.func6, Try.ntmps6
  go_wp2
  go_loopw [7, 8, 9] (fun xv yv iv wr => ∃ (k n1 n2 : Nat) (p1 p2 : Option Addr) (c1 c2 : Nat) (X Y : List (List UInt8)), k ≤ N ∧ n1 ≤ k ∧ n2 ≤ k ∧ xv = .slice p1 n1 c1 ∧ yv = .slice p2 n2 c2 ∧ iv = .int .i64 k ∧ Hid (n1 = X.length) ∧ Hid (n2 = Y.length) ∧ Hid (UpB X (33 + k)) ∧ Hid (UpB Y (33 + k)) ∧ Hid (Two W wr (.slice p1 n1 c1) (.slice p2 n2 c2) n1 n2 X Y)) (fun _ _ iv _ => N - (intOf iv).toNat)
  case atStart => exact ⟨0, 0, 0, none, none, 0, 0, [], [], by omega, by omega, by omega, rfl, rfl, rfl, rfl, rfl, UpB.nil _, UpB.nil _, ⟨World.ownsRow_nil _ _ _ _, World.ownsRow_nil _ _ _ _, fun g h => (by cases h), Below.refl _ _⟩⟩
  case round =>
    obtain ⟨k, n1, n2, p1, p2, c1, c2, X, Y, hk, hn1, hn2, rfl, rfl, rfl, HL1, HL2, HU1, HU2, HT⟩ := hrel
    by_cases hlt : k < N
    · obtain ⟨b0, hb0⟩ : ∃ b0, b0 = 33 + k := ⟨_, rfl⟩
      have s1 : (33 : Int) + (k : Int) = (b0 : Int) := by omega
      have s2 : IntKind.i64.wrap (b0 : Int) = (b0 : Int) := IntWalk.i64_in _ (by omega)
      have s3 : IntKind.u8.wrap (b0 : Int) = (b0 : Int) := by rw [IntKind.wrap]; simp [IntKind.bits, IntKind.signed]; omega
      obtain ⟨z, hz⟩ : ∃ z : UInt8, z = UInt8.ofNat b0 := ⟨_, rfl⟩
      have hzn : z.toNat = b0 := by rw [hz]; simp; omega
      have hcv := one_conv wr z b0 hzn
      obtain ⟨t, ht⟩ : ∃ t, t = str [z] := ⟨_, rfl⟩
      rw [← ht] at hcv
      have HTT := Lib.hid ht
      have HUa : Hid (UpB X (33 + (k + 1))) := HU1.out.more
      have HUb : Hid (UpB Y (33 + (k + 1))) := HU2.out.more
      have HUa2 : Hid (UpB (X ++ [[z]]) (33 + (k + 1))) := HU1.out.snoc (by omega)
      have HUb2 : Hid (UpB (Y ++ [[z]]) (33 + (k + 1))) := HU2.out.snoc (by omega)
      clear hb0 hz hzn ht HU1 HU2
      go_upto_region 6 with fail
      obtain ⟨w1, hw1⟩ : ∃ w1, w1 = wr.alloc (.cells #[.int .u8 (b0 : Int)] 5) := ⟨_, rfl⟩
      have HT1 : Hid (Two W w1 (.slice p1 n1 c1) (.slice p2 n2 c2) n1 n2 X Y) := by rw [hw1]; exact HT.out.alloc _
      rw [← hw1]
      clear hw1 hcv HT
      go_cut [27] from 23 to 27 (fun v wx => ∃ B : Bool, v = .bool B ∧ wx = w1)
      case first =>
        go_wp2_with fail
        go_meet
        exact ⟨_, rfl, rfl⟩
      case rest =>
        obtain ⟨B, rfl, rfl⟩ := hcut
        have ho := HT1.out.o1
        have hws := HT1.out.bel.size
        cases B with
        | true =>
          go_upto_region 8 with (at_builtin; refine wpList_append_own_at _ rfl _ _ 22 rfl W.heap.size 9 i0 (.string ⟨#[]⟩) 1 16 Try.underlying22 hif hz0 hz1 hz2 rfl (by decide) _ _ _ rfl (ho.alloc _) ⟨wc.heap.size, 0, none⟩ 1 1 [.string t] rfl rfl (new_cell wc _ _) (by intro u hu; simp at hu; subst hu; rfl) (by unfold maxLen; omega) (by omega) (by simp; omega) ?_; intro v3 w3 ho3 hg3 _ hat3)
          rw [HTT.out] at ho3
          have h2 := HT1.out.put1 ho3 hg3 hat3
          obtain ⟨p3, c3, rfl⟩ := own_slice h2.o1
          have HT2 : Hid (Two W w3 (.slice p3 (n1 + 1) c3) (.slice p2 n2 c2) (n1 + 1) n2 (X ++ [[z]]) Y) := h2
          have HL3 : Hid (n1 + 1 = (X ++ [[z]]).length) := by show _ = _; rw [List.length_append, List.length_singleton, ← HL1.out]
          clear ho3 hg3 hat3 h2 ho hws
          go_cut [36] from 32 to 36 (fun v wx => ∃ B : Bool, v = .bool B ∧ wx = w3)
          case first =>
            go_wp2_with fail
            go_meet
            exact ⟨_, rfl, rfl⟩
          case rest =>
            obtain ⟨B, rfl, rfl⟩ := hcut
            have ho2 := HT2.out.o2
            have hws := HT2.out.bel.size
            cases B with
            | true =>
              go_wp2_with (at_builtin; refine wpList_append_own_at _ rfl _ _ 22 rfl W.heap.size 9 i0 (.string ⟨#[]⟩) 1 16 Try.underlying22 hif hz0 hz1 hz2 rfl (by decide) _ _ _ rfl (ho2.alloc _) ⟨wc.heap.size, 0, none⟩ 1 1 [.string t] rfl rfl (new_cell wc _ _) (by intro u hu; simp at hu; subst hu; rfl) (by unfold maxLen; omega) (by omega) (by simp; omega) ?_; intro v4 w4 ho4 hg4 _ hat4; rw [HTT.out] at ho4; have h4 := HT2.out.put2 ho4 hg4 hat4; obtain ⟨p4, c4, rfl⟩ := own_slice h4.o2; have HT4 := Lib.hid h4; clear ho4 hg4 hat4 h4)
              go_roundw
              case rel => exact ⟨k + 1, (n1 + 1), n2 + 1, p3, p4, c3, c4, X ++ [[z]], Y ++ [[z]], by omega, by omega, by omega, rfl, rfl, by go_num, HL3.out, by show _ = _; rw [List.length_append, List.length_singleton, ← HL2.out], HUa2.out, HUb2.out, HT4.out⟩
              case measure => simp [intOf]; omega
            | false =>
              clear ho2 hws
              go_wp2_with fail
              go_roundw
              case rel => exact ⟨k + 1, (n1 + 1), n2, p3, p2, c3, c2, X ++ [[z]], Y, by omega, by omega, by omega, rfl, rfl, by go_num, HL3.out, HL2.out, HUa2.out, HUb.out, HT2.out⟩
              case measure => simp [intOf]; omega
        | false =>
          go_upto_region 8 with fail
          have HT2 := HT1
          have HL3 := HL1
          clear ho hws
          go_cut [36] from 32 to 36 (fun v wx => ∃ B : Bool, v = .bool B ∧ wx = wc)
          case first =>
            go_wp2_with fail
            go_meet
            exact ⟨_, rfl, rfl⟩
          case rest =>
            obtain ⟨B, rfl, rfl⟩ := hcut
            have ho2 := HT2.out.o2
            have hws := HT2.out.bel.size
            cases B with
            | true =>
              go_wp2_with (at_builtin; refine wpList_append_own_at _ rfl _ _ 22 rfl W.heap.size 9 i0 (.string ⟨#[]⟩) 1 16 Try.underlying22 hif hz0 hz1 hz2 rfl (by decide) _ _ _ rfl (ho2.alloc _) ⟨wc.heap.size, 0, none⟩ 1 1 [.string t] rfl rfl (new_cell wc _ _) (by intro u hu; simp at hu; subst hu; rfl) (by unfold maxLen; omega) (by omega) (by simp; omega) ?_; intro v4 w4 ho4 hg4 _ hat4; rw [HTT.out] at ho4; have h4 := HT2.out.put2 ho4 hg4 hat4; obtain ⟨p4, c4, rfl⟩ := own_slice h4.o2; have HT4 := Lib.hid h4; clear ho4 hg4 hat4 h4)
              go_roundw
              case rel => exact ⟨k + 1, n1, n2 + 1, p1, p4, c1, c4, X, Y ++ [[z]], by omega, by omega, by omega, rfl, rfl, by go_num, HL3.out, by show _ = _; rw [List.length_append, List.length_singleton, ← HL2.out], HUa.out, HUb2.out, HT4.out⟩
              case measure => simp [intOf]; omega
            | false =>
              clear ho2 hws
              go_wp2_with fail
              go_roundw
              case rel => exact ⟨k + 1, n1, n2, p1, p2, c1, c2, X, Y, by omega, by omega, by omega, rfl, rfl, by go_num, HL3.out, HL2.out, HUa.out, HUb.out, HT2.out⟩
              case measure => simp [intOf]; omega
    · obtain rfl : k = N := by omega
      obtain ⟨hs1, hc1⟩ := own_srw HT.out.o1 HL1.out
      obtain ⟨hs2, hc2⟩ := own_srw HT.out.o2 HL2.out
      have hxl : X.length ≤ 60 := by rw [← HL1.out]; omega
      have hyl : Y.length ≤ 60 := by rw [← HL2.out]; omega
      have hSL := scL_len X Y (by omega) (by omega)
      have hLL := leastL_len X Y
      have hcost := once_cost (K := key) (la := X) (lb := Y) (by omega) (by omega) HU1.out.1 HU2.out.1
      have hnn := least_nn (la := X) (lb := Y) (by omega) (by omega)
      obtain ⟨C, hC⟩ : ∃ C, C = csum (leastL X Y) := ⟨_, rfl⟩
      rw [← hC] at hcost hnn
      have HSC := Lib.hid (fun (w : World) (hb : Below wr.heap.size wr w) => hscript_any X Y p1 p2 c1 c2 n1 n2 w HL1.out HL2.out (hs1.below hb) (hs2.below hb) hc1 hc2 (by omega) (by omega) HU1.out.short HU2.out.short)
      have HLE := Lib.hid (fun (w : World) (hb : Below wr.heap.size wr w) => least_any X Y p1 p2 c1 c2 n1 n2 w HL1.out HL2.out (hs1.below hb) (hs2.below hb) hc1 hc2 (by omega) (by omega) HU1.out.short HU2.out.short)
      have HC1 := Lib.hid (fun (w : World) (g : Option Addr) (l ce : Nat) (h1 : l = (scL X Y).length) (h2 : ERw w g (scL X Y)) => cost_any (scL X Y) g ce l C w h1 h2 (by omega) (by rw [hcost]; exact (wrap_small (by omega) (by omega)).symm))
      have HC2 := Lib.hid (fun (w : World) (g : Option Addr) (l ce : Nat) (h1 : l = (leastL X Y).length) (h2 : ERw w g (leastL X Y)) => cost_any (leastL X Y) g ce l C w h1 h2 (by omega) (by rw [← hC]; exact (wrap_small (by omega) (by omega)).symm))
      have HLV := Lib.hid (fun w => hlives_any w)
      obtain ⟨R, hR⟩ : ∃ R, R = scL X Y := ⟨_, rfl⟩
      obtain ⟨R2, hR2⟩ : ∃ R2, R2 = leastL X Y := ⟨_, rfl⟩
      rw [← hR] at HSC HC1
      rw [← hR2] at HLE HC2
      have HBW := Lib.hid HT.out.bel
      clear hs1 hs2 hc1 hc2 hxl hyl hSL hLL hcost hnn hC hR hR2 HT HL1 HL2 HU1 HU2
      go_wp2_with (first
        | (go_at_call 9; ((with_reducible refine (HLV.out _).mono ?_); rintro e w1 ⟨rfl, hb1⟩))
        | (go_at_call 11; ((with_reducible refine (HSC.out _ hb1).mono ?_); rintro e w2 ⟨⟨v2, rfl, ho2⟩, hb2⟩; obtain ⟨g2, L2, cap2, rfl, hL2', hr2⟩ := ho2.rwO; have hL2 := Lib.hid hL2'; clear ho2 hL2'; have hi2 := hb1.trans (hb2.mono hb1.size)))
        | (go_at_call 20; first
          | ((with_reducible refine (HC1.out _ _ _ _ hL2.out hr2).mono ?_); rintro e w3 ⟨rfl, hb3⟩; have hi3 := hi2.trans (hb3.mono hi2.size))
          | ((with_reducible refine (HC2.out _ _ _ _ hL4.out hr4).mono ?_); rintro e w5 ⟨rfl, hb5⟩))
        | (go_at_call 21; ((with_reducible refine (HLE.out _ hi3).mono ?_); rintro e w4 ⟨⟨v4, rfl, ho4⟩, hb4⟩; obtain ⟨g4, L4, cap4, rfl, hL4', hr4⟩ := ho4.rwO; have hL4 := Lib.hid hL4'; clear ho4 hL4'; have hi4 := hi3.trans (hb4.mono hi3.size))))
      go_ret
      have hi5 := hi4.trans (hb5.mono hi4.size)
      exact ⟨rfl, HBW.out.trans (hi5.mono HBW.out.size)⟩

theorem hsOnce_any (a0 a b : Int) (W : World) (h0 : (Lit.int .u8 a0).wf = true) (ha : (Lit.int .u64 a).wf = true) (hb : (Lit.int .u64 b).wf = true) : Calls Try.prog 6 #[.int .u8 a0, .int .u64 a, .int .u64 b] W fun e W' => e = .returned (.bool true) ∧ Below W.heap.size W W' := by
  have h : 0 ≤ a0 ∧ a0 < 256 := by
    simp [Lit.wf, IntKind.min, IntKind.max, IntKind.signed, IntKind.bits] at h0
    omega
  obtain ⟨n0, rfl⟩ : ∃ n : Nat, a0 = n := ⟨a0.toNat, by omega⟩
  exact hsOnce_walk n0 a b W (by omega) ha hb
end Go.Proofs.Ytnmebnpldacngaa
