/-
  What the laws of three look at, worked out.
-/
import Derived.Test.YtidghjalfbklnaaThParse
import Derived.Test.YtidghjalfbklnaaThMarkT
import Derived.Test.YtidghjalfbklnaaThLines
namespace Go.Proofs.Ytidghjalfbklnaa
open Go.RowKit

deriving instance DecidableEq for Rg
def la : List (List UInt8) := [[97, 10], [98, 10], [99, 10]]
def lb : List (List UInt8) := [[97, 10], [120, 10], [99, 10]]
def lc : List (List UInt8) := [[97, 10], [98, 10], [99, 10], [100, 10]]
def ld : List (List UInt8) := [[97, 10], [120, 10], [99, 10], [100, 10]]
def lp : List (List UInt8) := [[112, 10], [120, 10], [113, 10]]
def lq : List (List UInt8) := [[112, 10], [121, 10], [113, 10]]
def mtx : List UInt8 := [60, 60, 60, 60, 60, 60, 60, 32, 111, 10, 98, 10, 61, 61, 61, 61, 61, 61, 61, 10, 99, 10, 62, 62, 62, 62, 62, 62, 62, 32, 116, 10]
def g1 : List Rg := [⟨1, ld, [], [], []⟩]
def g2 : List Rg := [⟨2, [], [[98, 10]], [[97, 10]], [[99, 10]]⟩]
def g3 : List Rg := [⟨1, [[112, 10]], [], [], []⟩, ⟨2, [], [[120, 10]], [], [[121, 10]]⟩, ⟨1, [[113, 10]], [], [], []⟩]
theorem mv1 : mergeL la lb lc = g1 := by decide +kernel
theorem mv2 : mergeL [[97, 10]] [[98, 10]] [[99, 10]] = g2 := by decide +kernel
theorem mv3 : mergeL [] lp lq = g3 := by decide +kernel
theorem pv1 : parL (split mtx) = some [⟨2, [], [[98, 10]], [], [[99, 10]]⟩] := by decide +kernel
theorem pv2 : parL (split [61, 61, 61, 61, 61, 61, 61, 10]) = none := by decide +kernel
theorem kv1 : markAcc [111] [116] false 1 g2 0 = [[60, 60, 60, 60, 60, 60, 60, 32, 111, 10], [98, 10], [61, 61, 61, 61, 61, 61, 61, 10], [99, 10], [62, 62, 62, 62, 62, 62, 62, 32, 116, 10]] := by decide +kernel
theorem kv2 : join (markAcc [111] [116] false 1 g2 0) = mtx := by decide +kernel
theorem dv1 : mkdL (split [120, 10, 61, 61, 61, 61, 61, 61, 61]) = true := by decide +kernel
theorem dv2 : mkdL (split [120, 61, 61, 61, 61, 61, 61, 10]) = false := by decide +kernel
theorem cv1 : cleanB g1 = true := by decide +kernel
theorem cv3 : cleanB g3 = false := by decide +kernel
theorem lv1 : linesL 0 g1 = ld := by decide +kernel
end Go.Proofs.Ytidghjalfbklnaa
/-
  The walk of lives.
-/
namespace Go.Proofs.Ytidghjalfbklnaa
open Go.RowKit

theorem srw_lit {w : World} {b : Nat} {cs : Array Value} {l : List (List UInt8)} (h : w.heap[b]? = some (.cells cs 9 (0, 0))) (hl : cs = (strs l).toArray) : SRw w (some ⟨b, 0, none⟩) l := fun k hk => by
  refine ⟨b, 0, rfl, row_lt h, ?_⟩
  rw [Nat.zero_add, cell_of_row w b k _ _ _ h, hl]
  simp [strs, List.getElem?_map, List.getElem?_eq_getElem hk]
theorem merge3 (X Y Z : List (List UInt8)) (G : List Rg) (A B C : Array Value) (nx ny nz ng : Nat) (w : World) (hG : mergeL X Y Z = G) (hA : A = (strs X).toArray) (hB : B = (strs Y).toArray) (hC : C = (strs Z).toArray) (ex : nx = X.length) (ey : ny = Y.length) (ez : nz = Z.length) (eg : ng = G.length)
    (bx : nx ≤ 2000) (bY : ny ≤ 2000) (bz : nz ≤ 2000) (sx : ∀ s ∈ X, s.length ≤ 1000) (sy : ∀ s ∈ Y, s.length ≤ 1000) (sz : ∀ s ∈ Z, s.length ≤ 1000) :
    Calls Try.prog 18 #[.slice (some ⟨w.heap.size, 0, none⟩) nx nx, .slice (some ⟨w.heap.size + 1, 0, none⟩) ny ny, .slice (some ⟨w.heap.size + 1 + 1, 0, none⟩) nz nz] (((w.alloc (.cells A 9)).alloc (.cells B 9)).alloc (.cells C 9)) fun e w' => (∃ p cap, e = .returned (.slice p ng cap) ∧ GRw w' p G) ∧ Below w.heap.size w w' := by
  have hb1 : Below w.heap.size w (w.alloc (.cells A 9)) := below_new (Below.refl _ _) _
  have hb2 := below_new hb1 (.cells B 9)
  have hb3 := below_new hb2 (.cells C 9)
  have r1 : (((w.alloc (.cells A 9)).alloc (.cells B 9)).alloc (.cells C 9)).heap[w.heap.size]? = some (.cells A 9 (0, 0)) := row_alloc (row_alloc (heap_alloc_new w _) (by simp)) (by simp; omega)
  have r2 : (((w.alloc (.cells A 9)).alloc (.cells B 9)).alloc (.cells C 9)).heap[w.heap.size + 1]? = some (.cells B 9 (0, 0)) := by
    have := heap_alloc_new (w.alloc (.cells A 9)) (.cells B 9)
    rw [World.size_alloc] at this
    exact row_alloc this (by simp)
  have r3 : (((w.alloc (.cells A 9)).alloc (.cells B 9)).alloc (.cells C 9)).heap[w.heap.size + 1 + 1]? = some (.cells C 9 (0, 0)) := by
    have := heap_alloc_new ((w.alloc (.cells A 9)).alloc (.cells B 9)) (.cells C 9)
    rw [World.size_alloc, World.size_alloc] at this
    exact this
  refine (merge_any X Y Z nx nx ny ny nz nz _ _ _ _ ex ey ez (srw_lit r1 hA) (srw_lit r2 hB) (srw_lit r3 hC) (Nat.le_refl _) (Nat.le_refl _) (Nat.le_refl _) bx bY bz (fun s hs => by have := sx s hs; omega) (fun s hs => by have := sy s hs; omega) (fun s hs => by have := sz s hs; omega)).mono fun e w' ⟨⟨p, n, cap, he, hn, hc, hg⟩, hb⟩ => ⟨⟨p, cap, ?_, ?_⟩, hb3.trans (hb.mono hb3.size)⟩
  · rw [he, hn, hG, eg]
  · rw [← hG]; exact hg
theorem merge2 (Y Z : List (List UInt8)) (G : List Rg) (B C : Array Value) (ny nz ng : Nat) (w : World) (hG : mergeL [] Y Z = G) (hB : B = (strs Y).toArray) (hC : C = (strs Z).toArray) (ey : ny = Y.length) (ez : nz = Z.length) (eg : ng = G.length)
    (bY : ny ≤ 2000) (bz : nz ≤ 2000) (sy : ∀ s ∈ Y, s.length ≤ 1000) (sz : ∀ s ∈ Z, s.length ≤ 1000) :
    Calls Try.prog 18 #[.slice none 0 0, .slice (some ⟨w.heap.size, 0, none⟩) ny ny, .slice (some ⟨w.heap.size + 1, 0, none⟩) nz nz] ((w.alloc (.cells B 9)).alloc (.cells C 9)) fun e w' => (∃ p cap, e = .returned (.slice p ng cap) ∧ GRw w' p G) ∧ Below w.heap.size w w' := by
  have hb1 : Below w.heap.size w (w.alloc (.cells B 9)) := below_new (Below.refl _ _) _
  have hb2 := below_new hb1 (.cells C 9)
  have r1 : ((w.alloc (.cells B 9)).alloc (.cells C 9)).heap[w.heap.size]? = some (.cells B 9 (0, 0)) := row_alloc (heap_alloc_new w _) (by simp)
  have r2 : ((w.alloc (.cells B 9)).alloc (.cells C 9)).heap[w.heap.size + 1]? = some (.cells C 9 (0, 0)) := by
    have := heap_alloc_new (w.alloc (.cells B 9)) (.cells C 9)
    rw [World.size_alloc] at this
    exact this
  refine (merge_any [] Y Z 0 0 ny ny nz nz _ _ _ _ rfl ey ez (SRw.none _ _) (srw_lit r1 hB) (srw_lit r2 hC) (Nat.le_refl _) (Nat.le_refl _) (Nat.le_refl _) (by omega) bY bz (fun s hs => by simp at hs) (fun s hs => by have := sy s hs; omega) (fun s hs => by have := sz s hs; omega)).mono fun e w' ⟨⟨p, n, cap, he, hn, hc, hg⟩, hb⟩ => ⟨⟨p, cap, ?_, ?_⟩, hb2.trans (hb.mono hb2.size)⟩
  · rw [he, hn, hG, eg]
  · rw [← hG]; exact hg
theorem lives_p1 (w : World) : Calls Try.prog 23 #[.string ⟨#[60, 60, 60, 60, 60, 60, 60, 32, 111, 10, 98, 10, 61, 61, 61, 61, 61, 61, 61, 10, 99, 10, 62, 62, 62, 62, 62, 62, 62, 32, 116, 10]⟩] w fun e w' => (∃ p cap, e = .returned (.tuple #[.slice p 1 cap, .int .i64 0]) ∧ GRw w' p [⟨2, [], [[98, 10]], [], [[99, 10]]⟩]) ∧ Below w.heap.size w w' := by
  refine (parse_any _ w (by decide)).mono fun e w' ⟨hb, hr⟩ => ⟨?_, hb⟩
  have h2 : parL (split (⟨#[60, 60, 60, 60, 60, 60, 60, 32, 111, 10, 98, 10, 61, 61, 61, 61, 61, 61, 61, 10, 99, 10, 62, 62, 62, 62, 62, 62, 62, 32, 116, 10]⟩ : ByteArray).data.toList) = some [⟨2, [], [[98, 10]], [], [[99, 10]]⟩] := pv1
  rw [h2] at hr
  obtain ⟨p, n, cap, he, hn, _, hg⟩ := hr
  exact ⟨p, cap, by rw [he, hn]; rfl, hg⟩
theorem lives_p2 (w : World) : Calls Try.prog 23 #[.string ⟨#[61, 61, 61, 61, 61, 61, 61, 10]⟩] w fun e w' => e = .returned (.tuple #[.slice none 0 0, .int .i64 2]) ∧ Below w.heap.size w w' := by
  refine (parse_any _ w (by decide)).mono fun e w' ⟨hb, hr⟩ => ⟨?_, hb⟩
  have h2 : parL (split (⟨#[61, 61, 61, 61, 61, 61, 61, 10]⟩ : ByteArray).data.toList) = none := pv2
  rw [h2] at hr
  exact hr
theorem lives_k (w : World) (p : Option Addr) (cap : Nat) (hp : GRw w p g2) : Calls Try.prog 31 #[.slice p 1 cap, .string ⟨#[111]⟩, .string ⟨#[116]⟩, .int .i64 1] w fun e w' => e = .returned (.string ⟨#[60, 60, 60, 60, 60, 60, 60, 32, 111, 10, 98, 10, 61, 61, 61, 61, 61, 61, 61, 10, 99, 10, 62, 62, 62, 62, 62, 62, 62, 32, 116, 10]⟩) ∧ Below w.heap.size w w' := by
  refine mark_any g2 p cap 1 1 false ⟨#[111]⟩ ⟨#[116]⟩ _ w rfl hp (by decide) rfl ?_ ?_ ?_ ?_ (by decide) (by decide)
  · show (markAcc [111] [116] false 1 g2 0).length ≤ _; rw [kv1]; decide
  · show ∀ x ∈ markAcc [111] [116] false 1 g2 0, _; rw [kv1]; decide
  · show (join (markAcc [111] [116] false 1 g2 0)).length ≤ _; rw [kv2]; decide
  · show _ = str (join (markAcc [111] [116] false 1 g2 0)); rw [kv2]; rfl

set_option maxHeartbeats 4000000 in
set_option maxRecDepth 8000 in
theorem lives_inv {W w : World} (h : Below W.heap.size W w) : Calls Try.prog 17 #[] w fun e w' => e = .returned (.bool true) ∧ Below W.heap.size W w' := by
  have H := Lib.hid h
  have M1 := Lib.hid (fun (w : World) => merge3 la lb lc g1 #[.string ⟨#[97, 10]⟩, .string ⟨#[98, 10]⟩, .string ⟨#[99, 10]⟩] #[.string ⟨#[97, 10]⟩, .string ⟨#[120, 10]⟩, .string ⟨#[99, 10]⟩] #[.string ⟨#[97, 10]⟩, .string ⟨#[98, 10]⟩, .string ⟨#[99, 10]⟩, .string ⟨#[100, 10]⟩] 3 3 4 1 w mv1 rfl rfl rfl rfl rfl rfl rfl (by decide) (by decide) (by decide) (by decide) (by decide) (by decide))
  have M2 := Lib.hid (fun (w : World) => merge3 [[97, 10]] [[98, 10]] [[99, 10]] g2 #[.string ⟨#[97, 10]⟩] #[.string ⟨#[98, 10]⟩] #[.string ⟨#[99, 10]⟩] 1 1 1 1 w mv2 rfl rfl rfl rfl rfl rfl rfl (by decide) (by decide) (by decide) (by decide) (by decide) (by decide))
  have M3 := Lib.hid (fun (w : World) => merge2 lp lq g3 #[.string ⟨#[112, 10]⟩, .string ⟨#[120, 10]⟩, .string ⟨#[113, 10]⟩] #[.string ⟨#[112, 10]⟩, .string ⟨#[121, 10]⟩, .string ⟨#[113, 10]⟩] 3 3 3 w mv3 rfl rfl rfl rfl rfl (by decide) (by decide) (by decide) (by decide))
  clear h
  go_enter Try.func17, Try.ntmps17
  go_upto_region 2 with (go_at_call 18; ((with_reducible refine (M1.out w).mono ?_); rintro e w1 ⟨⟨p1, c1, rfl, hg1⟩, hb1⟩))
  go_upto_region 3 with (go_at_call 18; ((with_reducible refine (M2.out w1).mono ?_); rintro e w2 ⟨⟨p2, c2, rfl, hg2⟩, hb2⟩))
  go_upto_region 4 with (go_at_call 18; ((with_reducible refine (M3.out w2).mono ?_); rintro e w3 ⟨⟨p3, c3, rfl, hg3⟩, hb3⟩))
  go_upto_region 5 with (go_at_call 23; ((with_reducible refine (lives_p1 w3).mono ?_); rintro e w4 ⟨⟨p4, c4, rfl, hg4⟩, hb4⟩))
  go_upto_region 6 with (go_at_call 23; ((with_reducible refine (lives_p2 w4).mono ?_); rintro e w5 ⟨rfl, hb5⟩))
  have G4 := hg4.below hb5
  have G3 := (hg3.below hb4).below hb5
  have G2 := ((hg2.below hb3).below hb4).below hb5
  have G1 := (((hg1.below hb2).below hb3).below hb4).below hb5
  have HB5 : Hid (Below W.heap.size W w5) := by
    have t1 := H.out.trans (hb1.mono H.out.size)
    have t2 := t1.trans (hb2.mono t1.size)
    have t3 := t2.trans (hb3.mono t2.size)
    have t4 := t3.trans (hb4.mono t3.size)
    exact t4.trans (hb5.mono t4.size)
  obtain ⟨g, o, v0, u1, u2, u3, u4, rfl, hg, a0, _, _, _, _, hr⟩ := G4 0 (by decide)
  obtain rfl : v0 = .int .i64 2 := hr.kind
  rw [Nat.zero_mul, Nat.add_zero] at a0
  have HC1 : Hid (∀ w', Below w5.heap.size w5 w' → Calls Try.prog 21 #[.slice p1 1 c1] w' fun e w'' => e = .returned (.bool true) ∧ Below w5.heap.size w5 w'') := fun w' hb => (clean_any g1 p1 c1 1 w' rfl (G1.below hb) (by decide)).mono fun e w'' ⟨h1, h2⟩ => ⟨by rw [h1, cv1], hb.trans (h2.mono hb.size)⟩
  have HC3 : Hid (∀ w', Below w5.heap.size w5 w' → Calls Try.prog 21 #[.slice p3 3 c3] w' fun e w'' => e = .returned (.bool false) ∧ Below w5.heap.size w5 w'') := fun w' hb => (clean_any g3 p3 c3 3 w' rfl (G3.below hb) (by decide)).mono fun e w'' ⟨h1, h2⟩ => ⟨by rw [h1, cv3], hb.trans (h2.mono hb.size)⟩
  have HL : Hid (∀ w', Below w5.heap.size w5 w' → Calls Try.prog 28 #[.slice p1 1 c1, .int .i64 0] w' fun e w'' => (∃ p cap, e = .returned (.slice p 4 cap) ∧ SRw w'' p ld) ∧ Below w5.heap.size w5 w'') := fun w' hb => (lines_any g1 p1 c1 1 0 w' rfl (G1.below hb) (by decide) (.inr (.inr (.inr rfl))) (by rw [lv1]; decide)).mono fun e w'' ⟨⟨v, he, ht⟩, h2⟩ => by
    rw [lv1] at ht
    obtain ⟨p, cap, hv, hs⟩ := ht.shapeN (n := 4) rfl
    exact ⟨⟨p, cap, by rw [he, hv], hs⟩, hb.trans (h2.mono hb.size)⟩
  have HS : Hid (∀ (w' : World) (p : Option Addr) (cap : Nat), Below w5.heap.size w5 w' → SRw w' p ld → Calls Try.prog 27 #[.slice p 4 cap, .slice (some ⟨w'.heap.size, 0, none⟩) 4 4] (w'.alloc (.cells #[.string ⟨#[97, 10]⟩, .string ⟨#[120, 10]⟩, .string ⟨#[99, 10]⟩, .string ⟨#[100, 10]⟩] 9)) fun e w'' => e = .returned (.bool true) ∧ Below w5.heap.size w5 w'') := fun w' p cap hb hp => by
    have hn := below_new (Below.refl w'.heap.size w') (.cells #[.string ⟨#[97, 10]⟩, .string ⟨#[120, 10]⟩, .string ⟨#[99, 10]⟩, .string ⟨#[100, 10]⟩] 9)
    refine (rsame6_any ld ld p _ cap 4 4 4 _ rfl rfl (hp.below hn) (srw_lit (heap_alloc_new w' _) rfl) (by decide)).mono fun e w'' ⟨h1, k, h2⟩ => ⟨by rw [h1, decide_eq_true rfl], ?_⟩
    rw [h2]
    exact below_drewN (hb.trans (hn.mono hb.size)) k
  have HK : Hid (∀ w', Below w5.heap.size w5 w' → Calls Try.prog 31 #[.slice p2 1 c2, .string ⟨#[111]⟩, .string ⟨#[116]⟩, .int .i64 1] w' fun e w'' => e = .returned (.string ⟨#[60, 60, 60, 60, 60, 60, 60, 32, 111, 10, 98, 10, 61, 61, 61, 61, 61, 61, 61, 10, 99, 10, 62, 62, 62, 62, 62, 62, 62, 32, 116, 10]⟩) ∧ Below w5.heap.size w5 w'') := fun w' hb => (lives_k w' p2 c2 (G2.below hb)).mono fun e w'' ⟨h1, h2⟩ => ⟨h1, hb.trans (h2.mono hb.size)⟩
  have HD : Hid (∀ w', Below w5.heap.size w5 w' → (Calls Try.prog 25 #[.string ⟨#[120, 10, 61, 61, 61, 61, 61, 61, 61]⟩] w' fun e w'' => e = .returned (.bool true) ∧ Below w5.heap.size w5 w'') ∧ Calls Try.prog 25 #[.string ⟨#[120, 61, 61, 61, 61, 61, 61, 10]⟩] w' fun e w'' => e = .returned (.bool false) ∧ Below w5.heap.size w5 w'') := fun w' hb =>
    ⟨(marked_any _ true w' (by decide) dv1.symm).mono fun e w'' ⟨h1, h2⟩ => ⟨h1, hb.trans (h2.mono hb.size)⟩, (marked_any _ false w' (by decide) dv2.symm).mono fun e w'' ⟨h1, h2⟩ => ⟨h1, hb.trans (h2.mono hb.size)⟩⟩
  clear hg1 hg2 hg3 hg4 hb1 hb2 hb3 hb4 hb5 G1 G2 G3 G4 hr H
  have h5 : Below w5.heap.size w5 w5 := Below.refl _ _
  go_wp2_with (first
    | (go_at_call 21; first
      | ((with_reducible refine (HC1.out _ h5).mono ?_); rintro e w6 ⟨rfl, h6⟩)
      | ((with_reducible refine (HC3.out _ h9).mono ?_); rintro e w10 ⟨rfl, h10⟩; have k0 := (h10.cell (p := ⟨g, o, none⟩) hg).trans a0))
    | (go_at_call 28; ((with_reducible refine (HL.out _ h6).mono ?_); rintro e w7 ⟨⟨p7, c7, rfl, hs7⟩, h7⟩))
    | (go_at_call 27; ((with_reducible refine (HS.out _ _ _ h7 hs7).mono ?_); rintro e w8 ⟨rfl, h8⟩))
    | (go_at_call 31; ((with_reducible refine (HK.out _ h8).mono ?_); rintro e w9 ⟨rfl, h9⟩))
    | (go_at_call 25; first
      | ((with_reducible refine (HD.out _ h10).1.mono ?_); rintro e w11 ⟨rfl, h11⟩)
      | ((with_reducible refine (HD.out _ h11).2.mono ?_); rintro e w12 ⟨rfl, h12⟩)))
  go_ret
  exact ⟨rfl, HB5.out.trans (h12.mono HB5.out.size)⟩
end Go.Proofs.Ytidghjalfbklnaa
