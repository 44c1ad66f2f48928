/-
  The walk of the reference's Same.
-/
import Derived.Test.YtbleabfgekeneaaGreatDoorCmPBox
import Derived.BigQuiet
import Derived.Deep.QuietTactic
namespace Go.Proofs.YtbleabfgekeneaaGreatDoor
open Go Go.RowKit Go.Maps Go.WideMaps

theorem drop_eq_iffC {X Y : List (List UInt8)} {k : Nat} (hx : k < X.length) (hy : k < Y.length) : decide (X.drop k = Y.drop k) = (decide (X[k] = Y[k]) && decide (X.drop (k + 1) = Y.drop (k + 1))) := by
  rw [List.drop_eq_getElem_cons hx, List.drop_eq_getElem_cons hy, Bool.eq_iff_iff]
  simp only [decide_eq_true_eq, Bool.and_eq_true, List.cons.injEq]
theorem str_neC {a b : List UInt8} (h : a ≠ b) : ((str a).toList == (str b).toList) = false := by
  rw [ByteArray.toList_eq, ByteArray.toList_eq, str_list, str_list]
  simpa using h

set_option maxHeartbeats 1000000 in
set_option maxRecDepth 4000 in
theorem rsame6C_any (X Y : List (List UInt8)) (p q : Option Addr) (c d n m : Nat) (w : World) (hn : n = X.length) (hm : m = Y.length) (hp : SRw w p X) (hq : SRw w q Y) (hl : n ≤ 1099511627776) :
    Calls Tryz.prog 32 #[.slice p n c, .slice q m d] w fun e w' => e = .returned (.bool (decide (X = Y))) ∧ ∃ k, w' = w.drewN k := by
  obtain ⟨R, hR⟩ : ∃ R, R = decide (X = Y) := ⟨_, rfl⟩
  rw [← hR]
  by_cases hnm : n = m
  · subst hnm
    have HN : Hid (n = X.length) := hn
    have HM : Hid (n = Y.length) := hm
    have HB : Hid (R = decide (X.drop 0 = Y.drop 0)) := hR
    clear hn hm hR
    go_enter Tryz.func32, Tryz.ntmps32
    go_wp2
    go_loopw [5] (fun i wr => ∃ (k m : Nat), k ≤ n ∧ i = .int .i64 k ∧ Hid (R = decide (X.drop k = Y.drop k)) ∧ wr = w.drewN m) (fun i _ => n - (intOf i).toNat)
    case atStart => exact ⟨0, 0, by omega, rfl, HB.out, rfl⟩
    case round =>
      clear HB
      obtain ⟨k, m, hk, rfl, HB, rfl⟩ := hrel
      by_cases hlt : k < n
      · have hx : k < X.length := by rw [← HN.out]; exact hlt
        have hy : k < Y.length := by rw [← HM.out]; exact hlt
        obtain ⟨g, o, rfl, hg, a0⟩ := hp k hx
        obtain ⟨h, o2, rfl, hh, b0⟩ := hq k hy
        have hb := HB.out
        rw [drop_eq_iffC hx hy] at hb
        by_cases he : X[k] = Y[k]
        · rw [decide_eq_true he, Bool.true_and] at hb
          have HR := Lib.hid hb
          obtain ⟨t, ht⟩ : ∃ t, t = str X[k] := ⟨_, rfl⟩
          rw [← he, ← ht] at b0
          rw [← ht] at a0
          clear ht hg hh he hb HB
          go_wp2
          go_quiet (fail)
          go_wp2
          go_roundw
          case rel => exact ⟨k + 1, _, by omega, by go_num, HR.out, rfl⟩
          case measure => simp [intOf]; omega
        · rw [decide_eq_false he, Bool.false_and] at hb
          have HR := Lib.hid hb
          have hne := str_neC he
          obtain ⟨t, ht⟩ : ∃ t, t = str X[k] := ⟨_, rfl⟩
          obtain ⟨u, hu⟩ : ∃ u, u = str Y[k] := ⟨_, rfl⟩
          rw [← hu] at b0 hne
          rw [← ht] at a0 hne
          clear ht hu hg hh he hb HB
          go_wp2
          go_quiet (fail)
          go_wp2
          go_ret
          exact ⟨by rw [HR.out]; rfl, _, World.drewN_drewN _ _ _⟩
      · obtain rfl : k = n := by omega
        have hb := HB.out
        rw [List.drop_of_length_le (by have := HN.out; omega), List.drop_of_length_le (by have := HM.out; omega)] at hb
        have HR : Hid (R = true) := by show _ = _; rw [hb]; simp
        clear hb HB
        go_wp2
        go_ret
        exact ⟨by rw [HR.out]; rfl, m, rfl⟩
  · have HR : Hid (R = false) := by
      show _ = _
      rw [hR]
      exact decide_eq_false fun e => hnm (by rw [hn, hm, e])
    have hnmi : ¬ (n : Int) = (m : Int) := by omega
    clear hR hn hm
    go_enter Tryz.func32, Tryz.ntmps32
    go_wp2
    go_ret
    exact ⟨by rw [HR.out]; rfl, 0, rfl⟩


theorem bal {a b : ByteArray} : a.toList = b.toList ↔ a = b := by
  rw [ByteArray.toList_eq, ByteArray.toList_eq]
  exact ⟨ba_ext, fun h => by rw [h]⟩
set_option maxHeartbeats 4000000 in
set_option maxRecDepth 4000 in
theorem csame_any (c d : Cm) (ap bp : Option Addr) (aN ac bN bc : Nat) (w : World) (ha : aN = c.ps.length) (hb : bN = d.ps.length) (hp : SRw w ap c.ps) (hq : SRw w bp d.ps) (hl : aN ≤ 1099511627776) :
    Calls Tryz.prog 15 #[.agg #[.string c.t, .slice ap aN ac, .string c.a.n, .string c.a.m, .int .i64 c.a.t, .int .i64 c.a.z, .string c.c.n, .string c.c.m, .int .i64 c.c.t, .int .i64 c.c.z, .string c.x], .agg #[.string d.t, .slice bp bN bc, .string d.a.n, .string d.a.m, .int .i64 d.a.t, .int .i64 d.a.z, .string d.c.n, .string d.c.m, .int .i64 d.c.t, .int .i64 d.c.z, .string d.x]] w
      fun e w' => ∃ R, e = .returned (.bool R) ∧ (R = true ↔ c = d) ∧ Below w.heap.size w w' := by
  obtain ⟨aat, aps, ⟨aan, aam, aaT, aaz⟩, ⟨acn, acm, acT, acz⟩, ax⟩ := c
  obtain ⟨bt, bps, ⟨ban, bam, baT, baz⟩, ⟨bcn, bcm, bcT, bcz⟩, bx⟩ := d
  simp only at ha hb hp hq ⊢
  obtain ⟨R, hR⟩ : ∃ R : Bool, R = true ↔ ((⟨aat, aps, ⟨aan, aam, aaT, aaz⟩, ⟨acn, acm, acT, acz⟩, ax⟩ : Cm) = ⟨bt, bps, ⟨ban, bam, baT, baz⟩, ⟨bcn, bcm, bcT, bcz⟩, bx⟩) := by
    by_cases h : ((⟨aat, aps, ⟨aan, aam, aaT, aaz⟩, ⟨acn, acm, acT, acz⟩, ax⟩ : Cm) = ⟨bt, bps, ⟨ban, bam, baT, baz⟩, ⟨bcn, bcm, bcT, bcz⟩, bx⟩)
    · exact ⟨true, by simp [h]⟩
    · exact ⟨false, by simp [h]⟩
  refine Calls.mono (?_ : Calls _ _ _ _ fun e w' => e = .returned (.bool R) ∧ Below w.heap.size w w') fun e w' ⟨h1, h2⟩ => ⟨R, h1, hR, h2⟩
  obtain ⟨D, hD⟩ : ∃ D, D = decide (aps = bps) := ⟨_, rfl⟩
  have HF : Hid ((¬ aat.toList = bt.toList ∨ ¬ aan.toList = ban.toList ∨ ¬ aam.toList = bam.toList ∨ ¬ aaT = baT ∨ ¬ aaz = baz ∨ ¬ acn.toList = bcn.toList ∨ ¬ acm.toList = bcm.toList ∨ ¬ acT = bcT ∨ ¬ acz = bcz ∨ ¬ ax.toList = bx.toList) → R = false) := fun h => by
    rw [← Bool.not_eq_true, hR]
    intro he
    simp only [Cm.mk.injEq, Pn.mk.injEq] at he
    obtain ⟨e1, e2, ⟨e3, e4, e5, e6⟩, ⟨e7, e8, e9, e10⟩, e11⟩ := he
    simp [e1, e3, e4, e5, e6, e7, e8, e9, e10, e11] at h
  have HT : Hid (aat.toList = bt.toList → aan.toList = ban.toList → aam.toList = bam.toList → aaT = baT → aaz = baz → acn.toList = bcn.toList → acm.toList = bcm.toList → acT = bcT → acz = bcz → ax.toList = bx.toList → R = D) := fun e1 e3 e4 e5 e6 e7 e8 e9 e10 e11 => by
    rw [Bool.eq_iff_iff, hR, hD, decide_eq_true_eq]
    rw [bal] at e1 e3 e4 e7 e8 e11
    simp [e1, e3, e4, e5, e6, e7, e8, e9, e10, e11]
  obtain ⟨wA, hwA⟩ : ∃ wA, wA = w.alloc (.cells #[.string aat, .slice ap aN ac, .string aan, .string aam, .int .i64 aaT, .int .i64 aaz, .string acn, .string acm, .int .i64 acT, .int .i64 acz, .string ax] 26) := ⟨_, rfl⟩
  obtain ⟨w1, hw1⟩ : ∃ w1, w1 = wA.alloc (.cells #[.string bt, .slice bp bN bc, .string ban, .string bam, .int .i64 baT, .int .i64 baz, .string bcn, .string bcm, .int .i64 bcT, .int .i64 bcz, .string bx] 26) := ⟨_, rfl⟩
  obtain ⟨A, hA⟩ : ∃ A, A = w.heap.size := ⟨_, rfl⟩
  obtain ⟨B, hB⟩ : ∃ B, B = w.heap.size + 1 := ⟨_, rfl⟩
  have hx : w1.heap[B]? = some (.cells #[.string bt, .slice bp bN bc, .string ban, .string bam, .int .i64 baT, .int .i64 baz, .string bcn, .string bcm, .int .i64 bcT, .int .i64 bcz, .string bx] 26 (0, 0)) := by rw [hw1, hB, show w.heap.size + 1 = wA.heap.size by rw [hwA]; simp]; exact heap_alloc_new wA _
  have hya : wA.heap[A]? = some (.cells #[.string aat, .slice ap aN ac, .string aan, .string aam, .int .i64 aaT, .int .i64 aaz, .string acn, .string acm, .int .i64 acT, .int .i64 acz, .string ax] 26 (0, 0)) := by rw [hwA, hA]; exact heap_alloc_new w _
  have hy : w1.heap[A]? = some (.cells #[.string aat, .slice ap aN ac, .string aan, .string aam, .int .i64 aaT, .int .i64 aaz, .string acn, .string acm, .int .i64 acT, .int .i64 acz, .string ax] 26 (0, 0)) := by rw [hw1]; exact row_alloc hya (row_lt hya)
  have hbx : Below w.heap.size w w1 := by rw [hw1, hwA]; exact below_new (below_new (Below.refl _ _) _) _
  obtain ⟨x0, x1, x2, x3, x4, x5, x6, x7, x8, x9, x10⟩ := cm_at hx
  obtain ⟨y0, y1, y2, y3, y4, y5, y6, y7, y8, y9, y10⟩ := cm_at hy
  have HS : Hid (Calls Tryz.prog 32 #[.slice ap aN ac, .slice bp bN bc] w1 fun e w' => e = .returned (.bool D) ∧ Below w1.heap.size w1 w') :=
    (rsame6C_any aps bps ap bp ac bc aN bN w1 ha hb (hp.below hbx) (hq.below hbx) hl).mono fun e w' ⟨h1, k, h2⟩ => ⟨by rw [h1, hD], by rw [h2]; exact below_drewN (Below.refl _ _) k⟩
  have HBX := Lib.hid hbx
  have HWA := Lib.hid hwA
  have HW1 := Lib.hid hw1
  have HA := Lib.hid hA
  have HB := Lib.hid hB
  clear hx hy hw1 hwA hA hB hya hR hD ha hb hp hq hbx
  go_enter Tryz.func15, Tryz.ntmps15
  go_upto_region 1 with fail
  rw [← HB.out, ← HA.out, ← HWA.out, ← HW1.out]
  go_wp2_with (go_at_call 32; ((with_reducible refine (HS.out).mono ?_); rintro e w2 ⟨rfl, hb2⟩))
  all_goals go_ret
  all_goals first
    | exact ⟨by rw [HT.out (by assumption) (by assumption) (by assumption) (by assumption) (by assumption) (by assumption) (by assumption) (by assumption) (by assumption) (by assumption)]; rfl, HBX.out.trans (hb2.mono HBX.out.size)⟩
    | exact ⟨by rw [show R = false by (first | exact HF.out (.inl (by assumption)) | exact HF.out (.inr (.inl (by assumption))) | exact HF.out (.inr (.inr (.inl (by assumption)))) | exact HF.out (.inr (.inr (.inr (.inl (by assumption))))) | exact HF.out (.inr (.inr (.inr (.inr (.inl (by assumption)))))) | exact HF.out (.inr (.inr (.inr (.inr (.inr (.inl (by assumption))))))) | exact HF.out (.inr (.inr (.inr (.inr (.inr (.inr (.inl (by assumption)))))))) | exact HF.out (.inr (.inr (.inr (.inr (.inr (.inr (.inr (.inl (by assumption))))))))) | exact HF.out (.inr (.inr (.inr (.inr (.inr (.inr (.inr (.inr (.inl (by assumption)))))))))) | exact HF.out (.inr (.inr (.inr (.inr (.inr (.inr (.inr (.inr (.inr (by assumption)))))))))))]; rfl, HBX.out⟩
end Go.Proofs.YtbleabfgekeneaaGreatDoor
