/-
  The walk of (*parser).text.
-/
import Derived.Test.YtidghjalfbklnaaThJoinPk
namespace Go.Proofs.Ytidghjalfbklnaa
open Go.RowKit

theorem below_tow {w w' : World} {base : Nat} {v : Value} {l : List (List UInt8)} (h : TOw w base v l) (hb : Below w.heap.size w w') : TOw w' base v l := h.below hb
theorem str_selfB (s : ByteArray) : str s.data.toList = s := ba_ext rfl

set_option maxHeartbeats 4000000 in
set_option maxRecDepth 8000 in
theorem text1_any (gs : List Rg) (o b t : List (List UInt8)) (last : Nat) (s : ByteArray) (base B R : Nat) (w : World) (h : PSt w base B R gs o b t last) (hl : last = 1) (hb : o.length ≤ 1000000) :
    Calls Try.prog 53 #[.pointer (some ⟨R, 0, none⟩), .string s] w (PStR w base B R gs (o ++ [s.data.toList]) b t last (.tuple #[])) := by
  obtain ⟨w0, S, v, xs, co, cb, ct, hrs, hc, hbase, hbox, hco, hcb, hct, hd1, hd2, hz⟩ := h
  obtain ⟨L, hL⟩ : ∃ L, L = o.length := ⟨_, rfl⟩
  obtain ⟨pv, cv, rfl, hsv⟩ := hco.shapeN hL
  have hR0 : R < w0.heap.size := by
    obtain ⟨cs, t', h1, _⟩ := hrs.box
    exact row_lt h1
  have e1 : ((last : Int) == 1) = true := by rw [hl]; rfl
  have e2 : ((last : Int) == 2) = false := by rw [hl]; rfl
  have e3 : ((last : Int) == 3) = false := by rw [hl]; rfl
  have c6 := cell_of_row w R 6 _ _ _ hbox
  have c3 := cell_of_row w R 3 _ _ _ hbox
  have HL := Lib.hid hL
  have HL0 : Hid (last ≠ 0) := by show _ ≠ _; omega
  have HRS := Lib.hid hrs
  have HBASE := Lib.hid hbase
  have HU : Hid (Try.prog.underlying 22 = some (.slice 9)) := Try.underlying22
  have HO5 : Hid (∀ ob, (w.alloc ob).ownsRow w0.heap.size 9 1 (.slice pv L cv) L (strs o)) := fun ob => own_below (hco.of hL) (below_new (Below.refl _ _) ob)
  have HSR : Hid (SRw (w.alloc (.cells #[.string s] 9)) (some ⟨w.heap.size, 0, none⟩) [s.data.toList]) := fun k hk => by
    have hk0 : k = 0 := by simpa using hk
    subst hk0
    refine ⟨_, 0, rfl, by simp, ?_⟩
    rw [cell_of_row _ _ _ _ _ _ (heap_alloc_new w (.cells #[.string s] 9))]
    exact congrArg (fun x => some (Value.string x)) (str_selfB s).symm
  have HSZ : Hid (∀ ob, w0.heap.size ≤ (w.alloc ob).heap.size) := fun ob => by show _ ≤ _; have := hc.size; simp; omega
  have HLAY : Hid (∀ (g6 c6 : Nat) (w6 : World), w6.ownsRow w0.heap.size 9 1 (.slice (some ⟨g6, 0, none⟩) (L + 1) c6) (L + 1) (strs o ++ strs [s.data.toList]) → (w.alloc (.cells #[.string s] 9)).grownBy w6 (Value.slice pv L cv).ownBlock → ((Value.slice pv L cv).ownBlock = some g6 ∨ g6 = (w.alloc (.cells #[.string s] 9)).heap.size) → _) := fun g6 c6 w6 ho6 hg6 hat6 => lay_row (i := 3) (B := B) hc hbase.1 hR0 hbox (by decide) hco hcb hct (fun g hg => (hd1 g hg).1) (fun g hg => (hd1 g hg).2) (TOw.app (m := 1) hL rfl ho6) hg6 hat6
  have HD1 := Lib.hid hd1
  have HD2 := Lib.hid hd2
  have hLb : L ≤ 1000000 := by omega
  clear hrs hc hbase hbox hco hcb hct hd1 hd2 hz hL hl hsv hb
  go_enter Try.func53, Try.ntmps53
  go_wp2_with (at_builtin; refine app_srwL _ rfl _ _ 22 rfl HU.out w0.heap.size _ L _ rfl (HO5.out _) _ 1 _ [s.data.toList] rfl rfl HSR.out (by omega) (by omega) (HSZ.out _) ?_; intro g6 c6 w6 ho6 hg6 hat6; obtain ⟨q0, q1⟩ := HLAY.out g6 c6 w6 ho6 hg6 hat6; have x6 := cell_of_row w6 R 3 _ _ _ q0; have z6 := frozen_of_row w6 R 3 _ _ q0; have HQ := Lib.hid q1; clear q0 q1 ho6 hg6 hat6)
  refine bodyPost_end (results_none rfl _ _ _) rfl ?_
  exact ⟨rfl, ⟨w0, S, v, xs, (.slice (some ⟨g6, 0, none⟩) (L + 1) c6), cb, ct, HRS.out, HQ.out.2.2.2.2.2.1, HBASE.out, HQ.out.2.2.2.2.2.2.1, HQ.out.1, HQ.out.2.1, HQ.out.2.2.1, fun g hg => by
      have hg' : g6 = g := by simpa [Value.ownBlock] using hg
      rw [← hg']
      exact ⟨HQ.out.2.2.2.1, HQ.out.2.2.2.2.1⟩, HD2.out, fun e => absurd e HL0.out⟩, HQ.out.2.2.2.2.2.2.2⟩

set_option maxHeartbeats 4000000 in
set_option maxRecDepth 8000 in
theorem text2_any (gs : List Rg) (o b t : List (List UInt8)) (last : Nat) (s : ByteArray) (base B R : Nat) (w : World) (h : PSt w base B R gs o b t last) (hl : last = 2) (hb : b.length ≤ 1000000) :
    Calls Try.prog 53 #[.pointer (some ⟨R, 0, none⟩), .string s] w (PStR w base B R gs o (b ++ [s.data.toList]) t last (.tuple #[])) := by
  obtain ⟨w0, S, v, xs, co, cb, ct, hrs, hc, hbase, hbox, hco, hcb, hct, hd1, hd2, hz⟩ := h
  obtain ⟨L, hL⟩ : ∃ L, L = b.length := ⟨_, rfl⟩
  obtain ⟨pv, cv, rfl, hsv⟩ := hcb.shapeN hL
  have hR0 : R < w0.heap.size := by
    obtain ⟨cs, t', h1, _⟩ := hrs.box
    exact row_lt h1
  have e1 : ((last : Int) == 1) = false := by rw [hl]; rfl
  have e2 : ((last : Int) == 2) = true := by rw [hl]; rfl
  have e3 : ((last : Int) == 3) = false := by rw [hl]; rfl
  have c6 := cell_of_row w R 6 _ _ _ hbox
  have c4 := cell_of_row w R 4 _ _ _ hbox
  have HL := Lib.hid hL
  have HL0 : Hid (last ≠ 0) := by show _ ≠ _; omega
  have HRS := Lib.hid hrs
  have HBASE := Lib.hid hbase
  have HU : Hid (Try.prog.underlying 22 = some (.slice 9)) := Try.underlying22
  have HO5 : Hid (∀ ob, (w.alloc ob).ownsRow w0.heap.size 9 1 (.slice pv L cv) L (strs b)) := fun ob => own_below (hcb.of hL) (below_new (Below.refl _ _) ob)
  have HSR : Hid (SRw (w.alloc (.cells #[.string s] 9)) (some ⟨w.heap.size, 0, none⟩) [s.data.toList]) := fun k hk => by
    have hk0 : k = 0 := by simpa using hk
    subst hk0
    refine ⟨_, 0, rfl, by simp, ?_⟩
    rw [cell_of_row _ _ _ _ _ _ (heap_alloc_new w (.cells #[.string s] 9))]
    exact congrArg (fun x => some (Value.string x)) (str_selfB s).symm
  have HSZ : Hid (∀ ob, w0.heap.size ≤ (w.alloc ob).heap.size) := fun ob => by show _ ≤ _; have := hc.size; simp; omega
  have HLAY : Hid (∀ (g6 c6 : Nat) (w6 : World), w6.ownsRow w0.heap.size 9 1 (.slice (some ⟨g6, 0, none⟩) (L + 1) c6) (L + 1) (strs b ++ strs [s.data.toList]) → (w.alloc (.cells #[.string s] 9)).grownBy w6 (Value.slice pv L cv).ownBlock → ((Value.slice pv L cv).ownBlock = some g6 ∨ g6 = (w.alloc (.cells #[.string s] 9)).heap.size) → _) := fun g6 c6 w6 ho6 hg6 hat6 => lay_row (i := 4) (B := B) hc hbase.1 hR0 hbox (by decide) hcb hco hct (fun g hg e => (hd1 g e).1 hg) (fun g hg => hd2 g hg) (TOw.app (m := 1) hL rfl ho6) hg6 hat6
  have HD1 := Lib.hid hd1
  have HD2 := Lib.hid hd2
  have hLb : L ≤ 1000000 := by omega
  clear hrs hc hbase hbox hco hcb hct hd1 hd2 hz hL hl hsv hb
  go_enter Try.func53, Try.ntmps53
  go_wp2_with (at_builtin; refine app_srwL _ rfl _ _ 22 rfl HU.out w0.heap.size _ L _ rfl (HO5.out _) _ 1 _ [s.data.toList] rfl rfl HSR.out (by omega) (by omega) (HSZ.out _) ?_; intro g6 c6 w6 ho6 hg6 hat6; obtain ⟨q0, q1⟩ := HLAY.out g6 c6 w6 ho6 hg6 hat6; have x6 := cell_of_row w6 R 4 _ _ _ q0; have z6 := frozen_of_row w6 R 4 _ _ q0; have HQ := Lib.hid q1; clear q0 q1 ho6 hg6 hat6)
  refine bodyPost_end (results_none rfl _ _ _) rfl ?_
  exact ⟨rfl, ⟨w0, S, v, xs, co, (.slice (some ⟨g6, 0, none⟩) (L + 1) c6), ct, HRS.out, HQ.out.2.2.2.2.2.1, HBASE.out, HQ.out.2.2.2.2.2.2.1, HQ.out.2.1, HQ.out.1, HQ.out.2.2.1, fun g hg => ⟨fun e => by
      have hg' : g6 = g := by simpa [Value.ownBlock] using e
      rw [← hg'] at hg
      exact HQ.out.2.2.2.1 hg, (HD1.out g hg).2⟩, fun g hg => by
      have hg' : g6 = g := by simpa [Value.ownBlock] using hg
      rw [← hg']
      exact HQ.out.2.2.2.2.1, fun e => absurd e HL0.out⟩, HQ.out.2.2.2.2.2.2.2⟩

set_option maxHeartbeats 4000000 in
set_option maxRecDepth 8000 in
theorem text3_any (gs : List Rg) (o b t : List (List UInt8)) (last : Nat) (s : ByteArray) (base B R : Nat) (w : World) (h : PSt w base B R gs o b t last) (hl : last = 3) (hb : t.length ≤ 1000000) :
    Calls Try.prog 53 #[.pointer (some ⟨R, 0, none⟩), .string s] w (PStR w base B R gs o b (t ++ [s.data.toList]) last (.tuple #[])) := by
  obtain ⟨w0, S, v, xs, co, cb, ct, hrs, hc, hbase, hbox, hco, hcb, hct, hd1, hd2, hz⟩ := h
  obtain ⟨L, hL⟩ : ∃ L, L = t.length := ⟨_, rfl⟩
  obtain ⟨pv, cv, rfl, hsv⟩ := hct.shapeN hL
  have hR0 : R < w0.heap.size := by
    obtain ⟨cs, t', h1, _⟩ := hrs.box
    exact row_lt h1
  have e1 : ((last : Int) == 1) = false := by rw [hl]; rfl
  have e2 : ((last : Int) == 2) = false := by rw [hl]; rfl
  have e3 : ((last : Int) == 3) = true := by rw [hl]; rfl
  have c6 := cell_of_row w R 6 _ _ _ hbox
  have c5 := cell_of_row w R 5 _ _ _ hbox
  have HL := Lib.hid hL
  have HL0 : Hid (last ≠ 0) := by show _ ≠ _; omega
  have HRS := Lib.hid hrs
  have HBASE := Lib.hid hbase
  have HU : Hid (Try.prog.underlying 22 = some (.slice 9)) := Try.underlying22
  have HO5 : Hid (∀ ob, (w.alloc ob).ownsRow w0.heap.size 9 1 (.slice pv L cv) L (strs t)) := fun ob => own_below (hct.of hL) (below_new (Below.refl _ _) ob)
  have HSR : Hid (SRw (w.alloc (.cells #[.string s] 9)) (some ⟨w.heap.size, 0, none⟩) [s.data.toList]) := fun k hk => by
    have hk0 : k = 0 := by simpa using hk
    subst hk0
    refine ⟨_, 0, rfl, by simp, ?_⟩
    rw [cell_of_row _ _ _ _ _ _ (heap_alloc_new w (.cells #[.string s] 9))]
    exact congrArg (fun x => some (Value.string x)) (str_selfB s).symm
  have HSZ : Hid (∀ ob, w0.heap.size ≤ (w.alloc ob).heap.size) := fun ob => by show _ ≤ _; have := hc.size; simp; omega
  have HLAY : Hid (∀ (g6 c6 : Nat) (w6 : World), w6.ownsRow w0.heap.size 9 1 (.slice (some ⟨g6, 0, none⟩) (L + 1) c6) (L + 1) (strs t ++ strs [s.data.toList]) → (w.alloc (.cells #[.string s] 9)).grownBy w6 (Value.slice pv L cv).ownBlock → ((Value.slice pv L cv).ownBlock = some g6 ∨ g6 = (w.alloc (.cells #[.string s] 9)).heap.size) → _) := fun g6 c6 w6 ho6 hg6 hat6 => lay_row (i := 5) (B := B) hc hbase.1 hR0 hbox (by decide) hct hco hcb (fun g hg e => (hd1 g e).2 hg) (fun g hg e => hd2 g e hg) (TOw.app (m := 1) hL rfl ho6) hg6 hat6
  have HD1 := Lib.hid hd1
  have HD2 := Lib.hid hd2
  have hLb : L ≤ 1000000 := by omega
  clear hrs hc hbase hbox hco hcb hct hd1 hd2 hz hL hl hsv hb
  go_enter Try.func53, Try.ntmps53
  go_wp2_with (at_builtin; refine app_srwL _ rfl _ _ 22 rfl HU.out w0.heap.size _ L _ rfl (HO5.out _) _ 1 _ [s.data.toList] rfl rfl HSR.out (by omega) (by omega) (HSZ.out _) ?_; intro g6 c6 w6 ho6 hg6 hat6; obtain ⟨q0, q1⟩ := HLAY.out g6 c6 w6 ho6 hg6 hat6; have x6 := cell_of_row w6 R 5 _ _ _ q0; have z6 := frozen_of_row w6 R 5 _ _ q0; have HQ := Lib.hid q1; clear q0 q1 ho6 hg6 hat6)
  refine bodyPost_end (results_none rfl _ _ _) rfl ?_
  exact ⟨rfl, ⟨w0, S, v, xs, co, cb, (.slice (some ⟨g6, 0, none⟩) (L + 1) c6), HRS.out, HQ.out.2.2.2.2.2.1, HBASE.out, HQ.out.2.2.2.2.2.2.1, HQ.out.2.1, HQ.out.2.2.1, HQ.out.1, fun g hg => ⟨(HD1.out g hg).1, fun e => by
      have hg' : g6 = g := by simpa [Value.ownBlock] using e
      rw [← hg'] at hg
      exact HQ.out.2.2.2.1 hg⟩, fun g hg e => by
      have hg' : g6 = g := by simpa [Value.ownBlock] using e
      rw [← hg'] at hg
      exact HQ.out.2.2.2.2.1 hg, fun e => absurd e HL0.out⟩, HQ.out.2.2.2.2.2.2.2⟩

end Go.Proofs.Ytidghjalfbklnaa
