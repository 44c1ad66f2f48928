/-
  The walks of fitsPart, of the functions that it makes, and of Part.
-/
import Derived.Test.YtdgcmapmnkopaaaDoorGlFits
import Derived.Test.YtdgcmapmnkopaaaDoorShelf
import Derived.Test.YtdgcmapmnkopaaaDoorPtLives
namespace Go.Proofs.YtdgcmapmnkopaaaDoor
open Go.RowKit

/-- What is left of a part pattern at a place. -/
def AtB (p : ByteArray) (i : Nat) (L : List (Option Tok)) : Prop := i ≤ p.size ∧ tks (p.data.toList.drop i) = some L
theorem atB_cons {p : ByteArray} {i : Nat} {x : Option Tok} {L : List (Option Tok)} (h : AtB p i (x :: L)) :
    ∃ (hi : i < p.size) (t : Tok) (k : Nat), tk (p.data.toList.drop i) = some (t, k) ∧ x = (if p[i] = 42 then none else some t) ∧ AtB p (i + k) L := by
  have hi : i < p.size := by
    rcases Nat.lt_or_ge i p.size with h1 | h1
    · exact h1
    · have h2 := h.2
      rw [List.drop_of_length_le (by rw [list_len]; exact h1), tks_nil] at h2
      cases h2
  have h2 := h.2
  have hd := pt_drop p i hi
  cases ht : tk (p.data.toList.drop i) with
  | none =>
    rw [hd] at h2 ht
    rw [tks_bad ht] at h2
    cases h2
  | some y =>
    obtain ⟨t, k⟩ := y
    have hle := tk_le ht
    rw [List.length_drop, list_len] at hle
    have ht' := ht
    rw [hd] at h2 ht'
    rw [tks_on ht', ← hd, List.drop_drop] at h2
    obtain ⟨L', h3, h4⟩ := Option.map_eq_some_iff.mp h2
    simp only [List.cons.injEq] at h4
    exact ⟨hi, t, k, rfl, h4.1.symm, by omega, by rw [h3, h4.2]⟩
theorem atB_nil {p : ByteArray} {i : Nat} (h : AtB p i []) : i = p.size := by
  rcases Nat.lt_or_ge i p.size with h1 | h1
  · have h2 := h.2
    cases ht : tk (p.data.toList.drop i) with
    | none =>
      rw [pt_drop p i h1] at h2 ht
      rw [tks_bad ht] at h2
      cases h2
    | some y =>
      obtain ⟨t, k⟩ := y
      rw [pt_drop p i h1] at h2 ht
      rw [tks_on ht] at h2
      obtain ⟨L', _, h4⟩ := Option.map_eq_some_iff.mp h2
      cases h4
  · have := h.1
    omega
theorem atB_star {p : ByteArray} {i : Nat} {L : List (Option Tok)} (h : AtB p i (none :: L)) : AtB p (i + 1) L := by
  obtain ⟨hi, t, k, ht, hx, hL⟩ := atB_cons h
  have h42 : p[i] = 42 := by
    rcases Decidable.em (p[i] = 42) with h | h
    · exact h
    · rw [if_neg h] at hx
      cases hx
  have h3 (r : List UInt8) : tk (42 :: r) = some (.chr 42, 1) := by simp [tk, ck, cv]
  rw [pt_drop p i hi, h42, h3, Option.some.injEq, Prod.mk.injEq] at ht
  rw [← ht.2] at hL
  exact hL
theorem w32' (c : UInt8) : IntKind.i32.wrap (c.toNat : Int) = (c.toNat : Int) := by
  have := c.toNat_lt
  exact IntWalk.i32_in _ (by omega)

set_option maxHeartbeats 1000000 in
set_option maxRecDepth 4000 in
theorem star1_any (p : ByteArray) (b1 i : Nat) (w : World) (hi : i < p.size) (hc : w.cell? ⟨b1, 0, none⟩ = some (.string p)) (B : Bool) (hB : B = decide (p[i] = 42)) :
    Calls Tryd.prog 73 #[.int .i64 (i : Int), .pointer (some ⟨b1, 0, none⟩)] w fun e w' => e = .returned (.bool B) ∧ w = w' := by
  have HB : Hid (B = (((p[i]'hi).toNat : Int) == 42)) := by
    show _ = _
    rw [hB, Bool.eq_iff_iff, decide_eq_true_iff, beq_iff_eq]
    constructor
    · intro h; rw [h]; rfl
    · intro h; exact UInt8.toNat_inj.mp (by have : (42 : UInt8).toNat = 42 := rfl; omega)
  clear hB
  go_enter Tryd.func73, Tryd.ntmps73
  go_wp2
  go_ret
  exact ⟨ret_bool HB.out.symm, rfl⟩
set_option maxHeartbeats 1000000 in
set_option maxRecDepth 4000 in
theorem match2_any (p s : ByteArray) (b1 b2 i j : Nat) (w : World) (hi : i < p.size) (hj : j < s.size) (hs : p.size ≤ 1048576) (hc1 : w.cell? ⟨b1, 0, none⟩ = some (.string p)) (hc2 : w.cell? ⟨b2, 0, none⟩ = some (.string s)) (t : Tok) (k : Nat) (ht : tk (p.data.toList.drop i) = some (t, k)) :
    Calls Tryd.prog 74 #[.int .i64 (i : Int), .int .i64 (j : Int), .pointer (some ⟨b1, 0, none⟩), .pointer (some ⟨b2, 0, none⟩)] w fun e w' => e = .returned (.tuple #[.bool (tm t s[j]), .int .i64 ((i + k : Nat) : Int)]) ∧ ∃ n, w' = w.drewN n := by
  obtain ⟨c, hcc⟩ : ∃ c, c = s[j] := ⟨_, rfl⟩
  have HE := Lib.hid (fun w => element_any p i c (tm t c) (i + k) w hi hs (el_some hi ht))
  have w1 := w32 c
  have w2 := w32' c
  rw [← hcc]
  obtain ⟨M, hM⟩ : ∃ M, M = tm t c := ⟨_, rfl⟩
  obtain ⟨K, hK⟩ : ∃ K, K = i + k := ⟨_, rfl⟩
  rw [← hM, ← hK] at HE ⊢
  have hcc2 : (s[j]'hj) = c := hcc.symm
  clear ht hcc hM hK
  go_enter Tryd.func74, Tryd.ntmps74
  go_wp2
  go_quiet ((go_at_call 70; go_loud (exact Calls.quiet_of ((HE.out _).mono fun e w' h => ⟨h.1, 0, h.2.symm⟩))))
  go_wp2
  go_ret2
  exact ⟨rfl, _, rfl⟩

theorem box2 (w : World) (o1 o2 : Obj) {W : World} (h : W = (w.alloc o1).alloc o2) : W.heap[w.heap.size]? = some o1 ∧ W.heap[w.heap.size + 1]? = some o2 ∧ W.heap.size = w.heap.size + 2 ∧ Below w.heap.size w W := by
  subst h
  have h1 := heap_alloc_new w o1
  have h2 := heap_alloc_new (w.alloc o1) o2
  rw [show (w.alloc o1).heap.size = w.heap.size + 1 by simp] at h2
  exact ⟨row_alloc h1 (row_lt h1), h2, by simp, below_new (below_new (Below.refl _ _) _) _⟩
set_option maxHeartbeats 1000000 in
set_option maxRecDepth 4000 in
theorem fitsPart_any (p s : ByteArray) (L : List (Option Tok)) (B : Bool) (w : World) (hs : p.size ≤ 1048576) (hs2 : s.size ≤ 1048576) (hL : tks p.data.toList = some L) (hB : B = wm tm L s.data.toList) :
    Calls Tryd.prog 57 #[.string p, .string s] w fun e w' => e = .returned (.bool B) ∧ Below w.heap.size w w' := by
  have hmf := make_fun Tryd.prog
  obtain ⟨W2, hW2⟩ : ∃ W2, W2 = (w.alloc (.cells #[.string p] 9)).alloc (.cells #[.string s] 9) := ⟨_, rfl⟩
  obtain ⟨r1, r2, hs3, hb2⟩ := box2 w _ _ hW2
  have hfit := fits_bytes tm (AtB p) s.data.toList B p.size s.size w.heap.size (w.heap.size + 1) W2 (Below W2.heap.size W2) (list_len s).symm hs hs2
    ⟨fun i h => atB_nil h, fun i x L h => (atB_cons h).1, fun i L h => atB_star h⟩
    (fun i x L w' hj hat => by
      obtain ⟨hi, t, k, ht, hx, hL⟩ := atB_cons hat
      have hc : w'.cell? ⟨w.heap.size, 0, none⟩ = some (.string p) := cell_of_row w' _ 0 _ _ _ ((hj.block _ (by omega)).trans r1)
      refine (star1_any p w.heap.size i w' hi hc x.isNone ?_).mono fun e w'' h => ⟨h.1, h.2 ▸ hj⟩
      rw [hx]
      by_cases h42 : p[i] = 42
      · rw [if_pos h42, decide_eq_true h42]; rfl
      · rw [if_neg h42, decide_eq_false h42]; rfl)
    (fun i j f L c hat hjt hcj => by
      obtain ⟨hi, t, k, ht, hx, hL⟩ := atB_cons hat
      have htf : t = f := by
        by_cases h42 : p[i] = 42
        · rw [if_pos h42] at hx; cases hx
        · rw [if_neg h42] at hx; cases hx; rfl
      have hjs : j < s.size := by rw [list_len] at hjt; exact hjt
      refine ⟨((i + k : Nat) : Int), fun w' hj => ?_, fun _ => ⟨i + k, rfl, hL⟩⟩
      have hc1 : w'.cell? ⟨w.heap.size, 0, none⟩ = some (.string p) := cell_of_row w' _ 0 _ _ _ ((hj.block _ (by omega)).trans r1)
      have hc2 : w'.cell? ⟨w.heap.size + 1, 0, none⟩ = some (.string s) := cell_of_row w' _ 0 _ _ _ ((hj.block _ (by omega)).trans r2)
      refine (match2_any p s w.heap.size (w.heap.size + 1) i j w' hi hjs hs hc1 hc2 t k ht).mono fun e w'' ⟨he, n, hw⟩ => ⟨?_, ?_⟩
      · rw [he, htf, hcj]
        rfl
      · rw [hw]
        exact below_drewN hj n)
    (Below.refl _ _) L ⟨Nat.zero_le _, by rw [List.drop_zero]; exact hL⟩ hB
  have HF := Lib.hid hfit
  have HB2 := Lib.hid hb2
  have HW := Lib.hid hW2
  clear hfit r1 r2 hs3 hb2 hL hB hW2
  go_enter Tryd.func57, Tryd.ntmps57
  go_upto_region 3 with fail
  rw [← HW.out]
  have k1 : W2.cell? ⟨w.heap.size, 0, none⟩ = some (.string p) := by
    have := (box2 w _ _ HW.out).1
    exact cell_of_row W2 _ 0 _ _ _ this
  have k2 : W2.cell? ⟨w.heap.size + 1, 0, none⟩ = some (.string s) := by
    have := (box2 w _ _ HW.out).2.1
    exact cell_of_row W2 _ 0 _ _ _ this
  go_wp2_with (go_at_call 61; ((refine HF.out.mono ?_); rintro e w3 ⟨rfl, hb3⟩))
  go_ret
  exact ⟨rfl, HB2.out.trans (hb3.mono HB2.out.size)⟩
end Go.Proofs.YtdgcmapmnkopaaaDoor
