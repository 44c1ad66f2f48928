/-
  The walks of Script, Anchor and Count.
-/
import Derived.Test.YtnmebnpldacngaaHsNum
import Derived.Test.YtnmebnpldacngaaDfFrom
namespace Go.Proofs.Ytnmebnpldacngaa
open Go.RowKit

/-- What Script answers. -/
def scL (la lb : List (List UInt8)) : List Ed := fromL la.length lb.length (sp LSr (la.length + lb.length + 1) la lb 0 0)
theorem part_any {W : World} {K na nb ca cb : Nat} {pa pb : Option Addr} {la lb : List (List UInt8)} {f : List UInt8 → Nat} (hw : Hw W K pa pb na nb ca cb la lb f) : ∀ k, PartP W K na nb ca cb pa pb la lb f k
  | 0 => fun _ _ _ _ _ _ _ _ _ _ _ _ _ _ _ _ _ h _ => absurd h (Nat.not_lt_zero _)
  | k + 1 => part_step hw k (middle_any hw k (part_any hw k))
theorem srw_stay {w W w' : World} {p : Option Addr} {ls : List (List UInt8)} (h : SRw w p ls) (hb : Below w.heap.size w W) (hg : W.grownBy w' (some w.heap.size)) : SRw w' p ls := fun k hk => by
  obtain ⟨g, o, rfl, hgs, h0⟩ := h k hk
  have h1 := hb.size
  have h2 := hg.size
  exact ⟨g, o, rfl, by omega, (World.cell?_of_block (a := ⟨g, o + k, none⟩) (hg.block g (by omega) (by simp; omega))).trans ((hb.cell (p := ⟨g, o + k, none⟩) hgs).trans h0)⟩
theorem irw_stay {W w' : World} {g K : Nat} {ns : List Nat} (h : IRw W g ns) (hK : g ≠ K) (hg : W.grownBy w' (some K)) : NRw w' (some ⟨g, 0, none⟩) ns :=
  IRw.row fun k hk => (World.cell?_of_block (a := ⟨g, k, none⟩) (hg.block g (World.block_lt_of_cell? W _ (h k hk)) (by simpa using hK))).trans (h k hk)
set_option maxHeartbeats 2000000 in
set_option maxRecDepth 4000 in
theorem hscript_any (la lb : List (List UInt8)) (p q : Option Addr) (c d n m : Nat) (w : World) (hn : n = la.length) (hm : m = lb.length) (hp : SRw w p la) (hq : SRw w q lb) (hc : n ≤ c) (hd : m ≤ d)
    (hl : n ≤ 2000) (hl2 : m ≤ 2000) (hs : ∀ t ∈ la, t.length ≤ 140737488355328) (hs2 : ∀ t ∈ lb, t.length ≤ 140737488355328) :
    Calls Try.prog 11 #[.slice p n c, .slice q m d] w fun e w' => (∃ v, e = .returned v ∧ EOw w' w.heap.size v (scL la lb)) ∧ Below w.heap.size w w' := by
  obtain ⟨w1, hw1⟩ : ∃ w1, w1 = w.alloc (.cells #[.slice p n c, .slice q m d, .slice none 0 0] 47) := ⟨_, rfl⟩
  obtain ⟨K, hK⟩ : ∃ K, K = w.heap.size := ⟨_, rfl⟩
  have hb1 : Below w.heap.size w w1 := by rw [hw1]; exact below_new (Below.refl _ _) _
  have hs1 : w1.heap.size = w.heap.size + 1 := by rw [hw1]; simp
  have hbox : w1.heap[K]? = some (.cells #[.slice p n c, .slice q m d, .slice none 0 0] 47 (0, 0)) := by rw [hw1, hK]; exact heap_alloc_new _ _
  have HNUM := Lib.hid (hnumbered_any la lb p q c d n m w1 hn hm (hp.below hb1) (hq.below hb1) (by omega) (by omega) hs hs2)
  obtain ⟨R, hR⟩ : ∃ R, R = sp LSr (la.length + lb.length + 1) la lb 0 0 := ⟨_, rfl⟩
  have hRl : R.length ≤ 20000 := by
    have := sp_len (la.length + lb.length + 1) la lb 0 0
    rw [hR]
    omega
  have hsc : scL la lb = fromL n m R := by rw [scL, hR, hn, hm]
  rw [hsc]
  have HPART : Hid (∀ (w2 : World) (g1 g2 : Nat) (f : List UInt8 → Nat), IRw w2 g1 (la.map f) → IRw w2 g2 (lb.map f) → w1.heap.size ≤ g1 → w1.heap.size ≤ g2 → Inj f la lb → (∀ x ∈ la ++ lb, f x ≤ 1048576) → Below w1.heap.size w1 w2 →
      Calls Try.prog 23 #[.pointer (some ⟨K, 0, none⟩), .slice (some ⟨g1, 0, none⟩) n n, .slice (some ⟨g2, 0, none⟩) m m, .int .i64 0, .int .i64 0] w2 fun e w' => e = .returned (.tuple #[]) ∧ Kp w2 K (.slice p n c) (.slice q m d) R w') := fun w2 g1 g2 f i1 i2 hg1 hg2 hinj hfew hb2 => by
    have hb02 := hb1.trans (hb2.mono hb1.size)
    have hbx2 := (hb2.block _ (row_lt hbox)).trans hbox
    have hw : Hw w2 K p q n m c d la lb f := ⟨⟨fun w' hg => srw_stay hp hb02 (by rw [← hK]; exact hg), fun w' hg => srw_stay hq hb02 (by rw [← hK]; exact hg), hn, hm, hc, hd, ⟨hl, hl2⟩, hs, hs2⟩, hinj, hfew⟩
    have hx : Pr w2 K la f la (some ⟨g1, 0, none⟩) n n 0 := ⟨by rw [List.drop_zero, List.take_of_length_le (by omega)], by omega, Nat.le_refl _, fun w' hg => irw_stay i1 (by omega) hg⟩
    have hy : Pr w2 K lb f lb (some ⟨g2, 0, none⟩) m m 0 := ⟨by rw [List.drop_zero, List.take_of_length_le (by omega)], by omega, Nat.le_refl _, fun w' hg => irw_stay i2 (by omega) hg⟩
    have hkp : Kp w2 K (.slice p n c) (.slice q m d) [] w2 := ⟨World.grownBy.refl _ _, row_lt hbx2, _, hbx2, ROw.nil _ _⟩
    exact (part_any hw (la.length + lb.length + 1) la lb _ _ n m n m 0 0 [] R w2 hx hy hkp (by simp only [List.length_nil]; omega) (by omega) (by rw [hR]; rfl)).mono fun e w' h => ⟨h.1, h.2.1⟩
  have HW1 := Lib.hid hw1
  have HK := Lib.hid hK
  have HB1 := Lib.hid hb1
  have HS1 := Lib.hid hs1
  have HFR : Hid (∀ (w3 : World) (p3 : Option Addr) (c3 l3 : Nat), l3 = R.length → RRw w3 p3 R → Calls Try.prog 24 #[.int .i64 (n : Int), .int .i64 (m : Int), .slice p3 l3 c3] w3 fun e w' => (∃ v, e = .returned v ∧ EOw w' w3.heap.size v (fromL n m R)) ∧ Below w3.heap.size w3 w') := fun w3 p3 c3 l3 h1 h2 =>
    from_any R p3 c3 l3 (n : Int) (m : Int) _ w3 h1 h2 (by omega) (by omega) (by omega) rfl
  clear hn hm hp hq hs hs2 hw1 hK hb1 hs1 hbox hR hsc
  go_enter Try.func11, Try.ntmps11
  go_upto_region 2 with fail
  rw [← HW1.out, ← HK.out]
  go_upto_region 3 with (go_at_call 22; ((with_reducible refine HNUM.out.mono ?_); rintro e w2 ⟨g1, g2, f, rfl, i1, i2, hg1, hg2, _, _, hinj, hfew, hb2⟩; have HP2 := Lib.hid (HPART.out w2 g1 g2 f i1 i2 hg1 hg2 hinj hfew hb2); have HB2 := Lib.hid hb2; clear i1 i2 hg1 hg2 hinj hfew hb2))
  go_upto_region 4 with (go_at_call 23; ((with_reducible refine HP2.out.mono ?_); rintro e w3 ⟨rfl, hkp⟩))
  obtain ⟨v3, hbx3, ho3⟩ := hkp.box
  obtain ⟨p3, c3, rfl, hr3⟩ := ho3.rw
  have cc := cell_of_row w3 K 2 _ _ _ hbx3
  obtain ⟨l3, hl3⟩ : ∃ l3, l3 = R.length := ⟨_, rfl⟩
  rw [← hl3] at cc
  have HF3 := Lib.hid (HFR.out w3 p3 c3 l3 hl3 hr3)
  have HB3 : Hid (Below w.heap.size w w3) := (HB1.out.trans (HB2.out.mono HB1.out.size)).grown hkp.grown (by have := HB1.out.size; have := HB2.out.size; omega) (fun j hj => by cases hj; rw [HK.out]; exact Nat.le_refl _)
  clear hbx3 ho3 hr3 hkp hl3
  go_wp2_with (go_at_call 24; ((with_reducible refine HF3.out.mono ?_); rintro e w4 ⟨⟨v4, rfl, ho4⟩, hb4⟩))
  go_ret
  exact ⟨⟨_, rfl, ho4.lower HB3.out.size⟩, HB3.out.trans (hb4.mono HB3.out.size)⟩
set_option maxHeartbeats 2000000 in
set_option maxRecDepth 4000 in
theorem hAnchor_any (la lb : List (List UInt8)) (p q : Option Addr) (c d n m : Nat) (w : World) (hn : n = la.length) (hm : m = lb.length) (hp : SRw w p la) (hq : SRw w q lb)
    (hl : n ≤ 2000) (hl2 : m ≤ 2000) (hs : ∀ t ∈ la, t.length ≤ 140737488355328) (hs2 : ∀ t ∈ lb, t.length ≤ 140737488355328) :
    Calls Try.prog 13 #[.slice p n c, .slice q m d] w fun e w' => e = .returned (ancV (anc la lb)) ∧ Below w.heap.size w w' := by
  obtain ⟨w1, hw1⟩ : ∃ w1, w1 = w.alloc (.cells #[.int .i64 0, .int .i64 0, .int .i64 0] 30) := ⟨_, rfl⟩
  obtain ⟨S, hS⟩ : ∃ S, S = w.heap.size := ⟨_, rfl⟩
  have hb1 : Below w.heap.size w w1 := by rw [hw1]; exact below_new (Below.refl _ _) _
  have hrow : w1.heap[S]? = some (.cells #[.int .i64 0, .int .i64 0, .int .i64 0] 30 (0, 0)) := by rw [hw1, hS]; exact heap_alloc_new _ _
  have HNUM := Lib.hid (hnumbered_any la lb p q c d n m w1 hn hm (hp.below hb1) (hq.below hb1) (by omega) (by omega) hs hs2)
  obtain ⟨o, ho⟩ : ∃ o, o = anc la lb := ⟨_, rfl⟩
  have HANC : Hid (∀ (w2 : World) (g1 g2 : Nat) (f : List UInt8 → Nat), IRw w2 g1 (la.map f) → IRw w2 g2 (lb.map f) → Inj f la lb → (∀ x ∈ la ++ lb, f x ≤ 1048576) →
      Calls Try.prog 28 #[.slice (some ⟨g1, 0, none⟩) n n, .slice (some ⟨g2, 0, none⟩) m m] w2 fun e w' => e = .returned (ancV o) ∧ Below w2.heap.size w2 w') := fun w2 g1 g2 f i1 i2 hinj hfew => by
    have := anchor_any (la.map f) (lb.map f) _ _ n m n m w2 (by rw [List.length_map, hn]) (by rw [List.length_map, hm]) i1.row i2.row (Nat.le_refl _) (Nat.le_refl _) (by omega) (by omega)
      (fun u hu => by obtain ⟨x, h1, rfl⟩ := List.mem_map.mp hu; exact hfew x (List.mem_append.mpr (.inl h1))) (fun u hu => by obtain ⟨x, h1, rfl⟩ := List.mem_map.mp hu; exact hfew x (List.mem_append.mpr (.inr h1)))
    rw [anc_map hinj, ← ho] at this
    exact this
  rw [← ho]
  have HW1 := Lib.hid hw1
  have HS := Lib.hid hS
  have HB1 := Lib.hid hb1
  have HRW := Lib.hid hrow
  clear hn hm hp hq hs hs2 hw1 hS hb1 hrow ho
  go_enter Try.func13, Try.ntmps13
  go_upto_region 1 with fail
  rw [← HW1.out, ← HS.out]
  go_upto_region 2 with (go_at_call 22; ((with_reducible refine HNUM.out.mono ?_); rintro e w2 ⟨g1, g2, f, rfl, i1, i2, hg1, hg2, _, _, hinj, hfew, hb2⟩; have HA2 := Lib.hid (HANC.out w2 g1 g2 f i1 i2 hinj hfew); have HB2 := Lib.hid hb2; clear i1 i2 hg1 hg2 hinj hfew hb2))
  have HRES : Hid (∀ w3, Below w2.heap.size w2 w3 → w3.heap[S]? = some (.cells #[.int .i64 0, .int .i64 0, .int .i64 0] 30 (0, 0)) ∧ Below w.heap.size w w3) := fun w3 h3 => by
    have h23 := HB2.out.trans (h3.mono HB2.out.size)
    exact ⟨(h23.block _ (row_lt HRW.out)).trans HRW.out, HB1.out.trans (h23.mono HB1.out.size)⟩
  cases o with
  | none =>
    simp only [ancV] at HA2
    go_wp2_with (go_at_call 28; ((refine HA2.out.mono ?_); rintro e w3 ⟨rfl, hb3⟩; obtain ⟨hr3, hb03⟩ := HRES.out w3 hb3; have z0 := cell_of_row w3 S 0 _ _ _ hr3; have z1 := cell_of_row w3 S 1 _ _ _ hr3; have z2 := cell_of_row w3 S 2 _ _ _ hr3; have y0 := frozen_of_row w3 S 0 _ _ hr3; have y1 := frozen_of_row w3 S 1 _ _ hr3; have y2 := frozen_of_row w3 S 2 _ _ hr3; have HR3 := Lib.hid hr3; have HB3 := Lib.hid hb03; clear hr3 hb03 hb3))
    obtain ⟨w4, hw4⟩ : ∃ w4, w4 = ((w3.setCell ⟨S, 0, none⟩ (.int .i64 0)).setCell ⟨S, 1, none⟩ (.int .i64 0)).setCell ⟨S, 2, none⟩ (.int .i64 0) := ⟨_, rfl⟩
    obtain ⟨k0, k1, k2, kb⟩ := fin3 HR3.out HS.out HB3.out hw4
    rw [← hw4]
    clear z0 z1 z2 y0 y1 y2 hw4
    refine bodyPost_ret (v := ancV none) (by simp [results, Try.results13, go_sem, ancV, k0, k1, k2]) rfl ⟨rfl, kb⟩
  | some r =>
    obtain ⟨ra, rb, rn⟩ := r
    simp only [ancV, Ru.val] at HA2
    go_wp2_with (go_at_call 28; ((refine HA2.out.mono ?_); rintro e w3 ⟨rfl, hb3⟩; obtain ⟨hr3, hb03⟩ := HRES.out w3 hb3; have z0 := cell_of_row w3 S 0 _ _ _ hr3; have z1 := cell_of_row w3 S 1 _ _ _ hr3; have z2 := cell_of_row w3 S 2 _ _ _ hr3; have y0 := frozen_of_row w3 S 0 _ _ hr3; have y1 := frozen_of_row w3 S 1 _ _ hr3; have y2 := frozen_of_row w3 S 2 _ _ hr3; have HR3 := Lib.hid hr3; have HB3 := Lib.hid hb03; clear hr3 hb03 hb3))
    obtain ⟨w4, hw4⟩ : ∃ w4, w4 = ((w3.setCell ⟨S, 0, none⟩ (.int .i64 (ra : Int))).setCell ⟨S, 1, none⟩ (.int .i64 (rb : Int))).setCell ⟨S, 2, none⟩ (.int .i64 (rn : Int)) := ⟨_, rfl⟩
    obtain ⟨k0, k1, k2, kb⟩ := fin3 HR3.out HS.out HB3.out hw4
    rw [← hw4]
    clear z0 z1 z2 y0 y1 y2 hw4
    refine bodyPost_ret (v := ancV (some ⟨ra, rb, rn⟩)) (by simp [results, Try.results13, go_sem, ancV, Ru.val, k0, k1, k2]) rfl ⟨rfl, kb⟩
end Go.Proofs.Ytnmebnpldacngaa
