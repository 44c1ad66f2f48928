/-
  The walk of (*parser).mark where a conflict is closed.
-/
import Derived.Test.YtidghjalfbklnaaThTextPk
import Derived.Test.YtidghjalfbklnaaThConf
namespace Go.Proofs.Ytidghjalfbklnaa
open Go.RowKit

/-- The conflict laid behind the regions. -/
theorem close_row {w0 wX wE w2 : World} {base B R : Nat} {S : Nat → Prop} {gs : List Rg} {v : Value} {xs : List Value} {g cap n n3 n4 n5 : Nat} {co cb ct : Value} {o b t : List (List UInt8)} {cs : Array Value} {ty : TypeId} (hn : n = gs.length)
    (h0 : RS w0 base R S gs v xs) (hc : Chg (fun k => k = R) w0 wX) (hbs : B ≤ w0.heap.size ∧ base ≤ B ∧ ∀ b, S b → B ≤ b) (hbox : wX.heap[R]? = some (.cells cs ty (0, 0))) (hv : cs[0]? = some v) (ht1 : ty ≠ 9) (ht2 : ty ≠ 43)
    (hco : wX.ownsRow w0.heap.size 9 1 co n3 (strs o)) (hcb : wX.ownsRow w0.heap.size 9 1 cb n4 (strs b)) (hct : wX.ownsRow w0.heap.size 9 1 ct n5 (strs t)) (e3 : n3 = o.length) (e4 : n4 = b.length) (e5 : n5 = t.length)
    (hE : Below wX.heap.size wX wE) (ho : w2.ownsRow base 43 5 (.slice (some ⟨g, 0, none⟩) (n + 1) cap) (n + 1) (xs ++ [.int .i64 2, .slice none 0 0, co, cb, ct])) (hg : wE.grownBy w2 v.ownBlock) (hat : v.ownBlock = some g ∨ g = wE.heap.size) :
    w2.heap[R]? = some (.cells cs ty (0, 0)) ∧
    RS (w2.setCell ⟨R, 0, none⟩ (.slice (some ⟨g, 0, none⟩) (n + 1) cap)) base R (fun b => b = g) (gs ++ [⟨2, [], o, b, t⟩]) (.slice (some ⟨g, 0, none⟩) (n + 1) cap) (xs ++ [.int .i64 2, .slice none 0 0, co, cb, ct]) ∧
    (w2.setCell ⟨R, 0, none⟩ (.slice (some ⟨g, 0, none⟩) (n + 1) cap)).heap[R]? = some (.cells (cs.setIfInBounds 0 (.slice (some ⟨g, 0, none⟩) (n + 1) cap)) ty (0, 0)) ∧ Chg (fun k => k = R ∨ B ≤ k) wX (w2.setCell ⟨R, 0, none⟩ (.slice (some ⟨g, 0, none⟩) (n + 1) cap)) ∧ B ≤ g := by
  subst hn
  have hbase := Nat.le_trans hbs.2.1 hbs.1
  have hX : RS wX base R S gs v xs := h0.re hc hbox hv ht1 ht2
  have hbX : base ≤ wX.heap.size := Nat.le_trans hbase hc.size
  have hvR : v.ownBlock ≠ some R := own_ty hX.own hbox ht2
  have hv0 : ∀ k, v.ownBlock = some k → k < w0.heap.size := fun k hk => (h0.own.lt k hk).2
  have hR0 : R < w0.heap.size := by
    obtain ⟨_, _, h, _⟩ := h0.box
    exact row_lt h
  have hR2 : w2.heap[R]? = some (.cells cs ty (0, 0)) := (hg.block R (by have := hE.size; have := row_lt hbox; omega) (fun e => hvR e.symm)).trans ((hE.block R (row_lt hbox)).trans hbox)
  obtain ⟨a1, a2, a3⟩ := hX.push hE ho hg hat hbX (r := ⟨2, [], o, b, t⟩) (.inl ⟨by simp, fun w' hw' => ⟨rfl, SlW.nil _, slw_push hco e3 (Nat.le_refl _) hE hg hv0 hat hR0 hw', slw_push hcb e4 (Nat.le_refl _) hE hg hv0 hat hR0 hw', slw_push hct e5 (Nat.le_refl _) hE hg hv0 hat hR0 hw'⟩⟩)
  refine ⟨hR2, a1, heap_setCell_same w2 R 0 cs ty _ hR2, a2.mono (fun b hb => ?_), ?_⟩
  · rcases hb with hb | hb
    · exact .inr (hbs.2.2 b hb)
    · exact .inl hb
  · rcases a3 with h | h
    · exact hbs.2.2 g h
    · exact Nat.le_trans (Nat.le_trans hbs.1 hc.size) h

set_option maxHeartbeats 4000000 in
set_option maxRecDepth 8000 in
theorem markCl_any (gs : List Rg) (o b t : List (List UInt8)) (base B R : Nat) (w : World) (h : PSt w base B R gs o b t 3) (hgn : gs.length ≤ 90000) :
    Calls Try.prog 54 #[.pointer (some ⟨R, 0, none⟩), .int .i64 4] w (PStR w base B R (gs ++ [⟨2, [], o, b, t⟩]) [] [] [] 0 (.bool true)) := by
  obtain ⟨w0, S, v, xs, co, cb, ct, hrs, hc, hbase, hbox, hco, hcb, hct, hd1, hd2, hz⟩ := h
  obtain ⟨n3, hn3⟩ : ∃ n, n = o.length := ⟨_, rfl⟩
  obtain ⟨n4, hn4⟩ : ∃ n, n = b.length := ⟨_, rfl⟩
  obtain ⟨n5, hn5⟩ : ∃ n, n = t.length := ⟨_, rfl⟩
  obtain ⟨n, hn⟩ : ∃ n, n = gs.length := ⟨_, rfl⟩
  obtain ⟨p3, c3, rfl, _⟩ := hco.shapeN hn3
  obtain ⟨p4, c4, rfl, _⟩ := hcb.shapeN hn4
  obtain ⟨p5, c5, rfl, _⟩ := hct.shapeN hn5
  have hown := hrs.own
  rw [← hn] at hown
  obtain ⟨pv, cv, rfl⟩ : ∃ pv cv, v = .slice pv n cv := by
    rcases hown.2 with ⟨h', h0⟩ | ⟨g', cap', cur, h', _⟩
    · exact ⟨_, 0, by rw [h', h0]⟩
    · exact ⟨_, _, h'⟩
  have b6 := cell_of_row w R 6 _ _ _ hbox
  have f6 := frozen_of_row w R 6 _ _ hbox
  have HN : Hid (∀ w, Calls Try.prog 85 #[.int .i64 4, .int .i64 3] w fun e w' => e = .returned (.bool true) ∧ w = w') := fun w => (nests_any 4 3 w (by omega) (by omega)).mono fun e w' ⟨h1, h2⟩ => ⟨h1, h2.symm⟩
  have hb1 := heap_setCell_same w R 6 _ _ (.int .i64 4) hbox
  have hb2 := heap_setCell_same _ R 1 _ _ (.int .i64 2) hb1
  have b1 := cell_of_row _ R 1 _ _ _ hb1
  have f1 := frozen_of_row _ R 1 _ _ hb1
  have hcX : Chg (fun k => k = R) w ((w.setCell ⟨R, 6, none⟩ (.int .i64 4)).setCell ⟨R, 1, none⟩ (.int .i64 2)) := (Chg.set (S := fun k => k = R) _ rfl).trans' (Chg.set (S := fun k => k = R) _ rfl)
  have keep : ∀ (u : Value) (l : List (List UInt8)), TOw w w0.heap.size u l → TOw ((w.setCell ⟨R, 6, none⟩ (.int .i64 4)).setCell ⟨R, 1, none⟩ (.int .i64 2)) w0.heap.size u l := fun u l hu => own_same hu fun k hk => hcX.block k (World.ownsRow.lt hu k hk).2 fun e => own_ty hu hbox (by decide) (by subst e; exact hk)
  have HO3 := Lib.hid (keep _ _ hco)
  have HO4 := Lib.hid (keep _ _ hcb)
  have HO5 := Lib.hid (keep _ _ hct)
  have HRS := Lib.hid hrs
  have HC := Lib.hid (hc.trans' hcX)
  have HBW : Hid (Chg (fun k => k = R ∨ B ≤ k) w ((w.setCell ⟨R, 6, none⟩ (.int .i64 4)).setCell ⟨R, 1, none⟩ (.int .i64 2))) := hcX.mono fun b hb => .inl hb
  have HBASE := Lib.hid hbase
  have HN3 := Lib.hid hn3
  have HN4 := Lib.hid hn4
  have HN5 := Lib.hid hn5
  have HNN := Lib.hid hn
  have HB2 : Hid (((w.setCell ⟨R, 6, none⟩ (.int .i64 4)).setCell ⟨R, 1, none⟩ (.int .i64 2)).heap[R]? = some (.cells #[.slice pv n cv, .int .i64 2, .slice none 0 0, .slice p3 n3 c3, .slice p4 n4 c4, .slice p5 n5 c5, .int .i64 4] 78 (0, 0))) := hb2
  have hnb : n ≤ 90000 := by omega
  clear hrs hc hbase hbox hco hcb hct hd1 hd2 hz hn3 hn4 hn5 hn hown hb2 hb1 hcX keep hgn
  go_enter Try.func54, Try.ntmps54
  go_upto_region 6 with (go_at_call 85; ((with_reducible refine (HN.out _).mono ?_); rintro e w2 ⟨rfl, rfl⟩))
  clear b1 f1 b6 f6
  generalize (w.setCell ⟨R, 6, none⟩ (.int .i64 4)).setCell ⟨R, 1, none⟩ (.int .i64 2) = wX at HO3 HO4 HO5 HC HBW HB2 ⊢
  have k0 := cell_of_row wX R 0 _ _ _ HB2.out
  have k1 := cell_of_row wX R 1 _ _ _ HB2.out
  have k2 := cell_of_row wX R 2 _ _ _ HB2.out
  have k3 := cell_of_row wX R 3 _ _ _ HB2.out
  have k4 := cell_of_row wX R 4 _ _ _ HB2.out
  have k5 := cell_of_row wX R 5 _ _ _ HB2.out
  obtain ⟨i0, hi, hz0, hz1, hz2⟩ := info_parts Try.infoRg
  have k0a : ∀ ob, (wX.alloc ob).cell? ⟨R, 0, none⟩ = some (.slice pv n cv) := fun ob => cell_belT k0 (below_new (Below.refl wX.heap.size wX) ob)
  have k0b : ∀ ob, (wX.alloc ob).drew.cell? ⟨R, 0, none⟩ = some (.slice pv n cv) := fun ob => k0a ob
  have k0c : ∀ ob, (wX.drew.alloc ob).cell? ⟨R, 0, none⟩ = some (.slice pv n cv) := fun ob => k0a ob
  have HOW : Hid (wX.ownsRow base 43 5 (.slice pv n cv) n xs) := by
    have := (HRS.out.re HC.out HB2.out rfl (by decide) (by decide)).own
    rw [← HNN.out] at this
    exact this
  have HX3 : Hid (wX.ownsRow w0.heap.size 9 1 (.slice p3 n3 c3) n3 (strs o)) := HO3.out.of HN3.out
  have HX4 : Hid (wX.ownsRow w0.heap.size 9 1 (.slice p4 n4 c4) n4 (strs b)) := HO4.out.of HN4.out
  have HX5 : Hid (wX.ownsRow w0.heap.size 9 1 (.slice p5 n5 c5) n5 (strs t)) := HO5.out.of HN5.out
  have HSX : Hid (base ≤ wX.heap.size) := Nat.le_trans (Nat.le_trans HBASE.out.2.1 HBASE.out.1) HC.out.size
  have HCL : Hid (∀ (wE w6 : World) (g6 c6 : Nat), Below wX.heap.size wX wE → w6.ownsRow base 43 5 (.slice (some ⟨g6, 0, none⟩) (n + 1) c6) (n + 1) (xs ++ [.int .i64 2, .slice none 0 0, .slice p3 n3 c3, .slice p4 n4 c4, .slice p5 n5 c5]) → wE.grownBy w6 (Value.slice pv n cv).ownBlock → ((Value.slice pv n cv).ownBlock = some g6 ∨ g6 = wE.heap.size) → _) := fun wE w6 g6 c6 hE ho6 hg6 hat6 => close_row HNN.out HRS.out HC.out HBASE.out HB2.out rfl (by decide) (by decide) HX3.out HX4.out HX5.out HN3.out HN4.out HN5.out hE ho6 hg6 hat6
  go_cut [] (fun wy => ∃ wx g6 c6 xs6, wx = wy ∧ Hid (RS wx base R (fun b => b = g6) (gs ++ [⟨2, [], o, b, t⟩]) (.slice (some ⟨g6, 0, none⟩) (n + 1) c6) xs6) ∧ Hid (wx.heap[R]? = some (.cells #[.slice (some ⟨g6, 0, none⟩) (n + 1) c6, .int .i64 2, .slice none 0 0, .slice p3 n3 c3, .slice p4 n4 c4, .slice p5 n5 c5, .int .i64 4] 78 (0, 0))) ∧ Hid (Chg (fun k => k = R ∨ B ≤ k) wX wx) ∧ B ≤ g6)
  case first =>
    go_region_law (first
      | (refine step_append_lies _ (by rfl) _ _ _ (by rfl) base 43 i0 (.agg #[.int .i64 0, .slice none 0 0, .slice none 0 0, .slice none 0 0, .slice none 0 0]) 5 104 Try.underlying70 hi hz0 hz1 hz2 rfl (by omega) _ n xs (by rfl) (own_below HOW.out (below_new (Below.refl wX.heap.size wX) _).drew) ⟨wX.heap.size, 0, none⟩ 1 1 [.int .i64 2, .slice none 0 0, .slice p3 n3 c3, .slice p4 n4 c4, .slice p5 n5 c5] (by rfl) (by rfl) (World.news_of_block (heap_alloc_new _ _)) (by simp [Value.oneCell']) (by omega) (by unfold maxLen; omega) (by omega) (by have := HSX.out; simp; omega) _ rfl ?_; intro g6 c6 w6 ho6 hg6 hat6 hlt6; obtain ⟨q0, q1, q2, q3, q4⟩ := HCL.out _ w6 g6 c6 (below_new (Below.refl wX.heap.size wX) _).drew ho6 hg6 hat6; have y6 := cell_of_row w6 R 0 _ _ _ q0; have z6 := frozen_of_row w6 R 0 _ _ q0))
    all_goals go_wp2_with fail
    all_goals go_meet
    all_goals exact ⟨_, _, _, _, rfl, q1, q2, q3, q4⟩
  case rest =>
    obtain ⟨wx, g6, c6, xs6, rfl, HR7, HB7, HW7, hg7⟩ := hcut
    have HG7 := Lib.hid hg7
    clear hg7
    clear k0 k1 k2 k3 k4 k5 k0a k0b k0c hi hz0 hz1 hz2
    have y1 := cell_of_row wx R 1 _ _ _ HB7.out
    have y2 := cell_of_row wx R 2 _ _ _ HB7.out
    have y3 := cell_of_row wx R 3 _ _ _ HB7.out
    have y4 := cell_of_row wx R 4 _ _ _ HB7.out
    have y5 := cell_of_row wx R 5 _ _ _ HB7.out
    have y6 := cell_of_row wx R 6 _ _ _ HB7.out
    have z1 := frozen_of_row wx R 1 _ _ HB7.out
    have z2 := frozen_of_row wx R 2 _ _ HB7.out
    have z3 := frozen_of_row wx R 3 _ _ HB7.out
    have z4 := frozen_of_row wx R 4 _ _ HB7.out
    have z5 := frozen_of_row wx R 5 _ _ HB7.out
    have z6 := frozen_of_row wx R 6 _ _ HB7.out
    have hq1 := heap_setCell_same wx R 1 _ _ (.int .i64 0) HB7.out
    have hq2 := heap_setCell_same (wx.setCell ⟨R, 1, none⟩ (.int .i64 0)) R 2 _ _ (.slice none 0 0) hq1
    have hq3 := heap_setCell_same ((wx.setCell ⟨R, 1, none⟩ (.int .i64 0)).setCell ⟨R, 2, none⟩ (.slice none 0 0)) R 3 _ _ (.slice none 0 0) hq2
    have hq4 := heap_setCell_same (((wx.setCell ⟨R, 1, none⟩ (.int .i64 0)).setCell ⟨R, 2, none⟩ (.slice none 0 0)).setCell ⟨R, 3, none⟩ (.slice none 0 0)) R 4 _ _ (.slice none 0 0) hq3
    have hq5 := heap_setCell_same ((((wx.setCell ⟨R, 1, none⟩ (.int .i64 0)).setCell ⟨R, 2, none⟩ (.slice none 0 0)).setCell ⟨R, 3, none⟩ (.slice none 0 0)).setCell ⟨R, 4, none⟩ (.slice none 0 0)) R 5 _ _ (.slice none 0 0) hq4
    have hq6 := heap_setCell_same (((((wx.setCell ⟨R, 1, none⟩ (.int .i64 0)).setCell ⟨R, 2, none⟩ (.slice none 0 0)).setCell ⟨R, 3, none⟩ (.slice none 0 0)).setCell ⟨R, 4, none⟩ (.slice none 0 0)).setCell ⟨R, 5, none⟩ (.slice none 0 0)) R 6 _ _ (.int .i64 0) hq5
    have HF : Hid (PStR w base B R (gs ++ [⟨2, [], o, b, t⟩]) [] [] [] 0 (.bool true) (.returned (.bool true)) ((((((wx.setCell ⟨R, 1, none⟩ (.int .i64 0)).setCell ⟨R, 2, none⟩ (.slice none 0 0)).setCell ⟨R, 3, none⟩ (.slice none 0 0)).setCell ⟨R, 4, none⟩ (.slice none 0 0)).setCell ⟨R, 5, none⟩ (.slice none 0 0)).setCell ⟨R, 6, none⟩ (.int .i64 0))) := by
      have hch : Chg (fun k => k = R) wx ((((((wx.setCell ⟨R, 1, none⟩ (.int .i64 0)).setCell ⟨R, 2, none⟩ (.slice none 0 0)).setCell ⟨R, 3, none⟩ (.slice none 0 0)).setCell ⟨R, 4, none⟩ (.slice none 0 0)).setCell ⟨R, 5, none⟩ (.slice none 0 0)).setCell ⟨R, 6, none⟩ (.int .i64 0)) := (((((Chg.set (S := fun k => k = R) _ rfl).trans' (Chg.set (S := fun k => k = R) _ rfl)).trans' (Chg.set (S := fun k => k = R) _ rfl)).trans' (Chg.set (S := fun k => k = R) _ rfl)).trans' (Chg.set (S := fun k => k = R) _ rfl)).trans' (Chg.set (S := fun k => k = R) _ rfl)
      have hbx : B ≤ wx.heap.size := Nat.le_trans (Nat.le_trans HBASE.out.1 HC.out.size) HW7.out.size
      refine ⟨rfl, ⟨wx, _, _, _, .slice none 0 0, .slice none 0 0, .slice none 0 0, HR7.out, hch, ⟨hbx, HBASE.out.2.1, fun b hb => by rw [hb]; exact HG7.out⟩, hq6, TOw.nil _ _, TOw.nil _ _, TOw.nil _ _, fun g hg => by simp [Value.ownBlock] at hg, fun g hg => by simp [Value.ownBlock] at hg, fun _ => ⟨rfl, rfl, rfl⟩⟩, (HBW.out.trans' HW7.out).trans' (hch.mono fun b hb => .inl hb)⟩
    clear hq1 hq2 hq3 hq4 hq5 hq6
    go_wp2_with fail
    go_ret
    exact HF.out
end Go.Proofs.Ytidghjalfbklnaa
