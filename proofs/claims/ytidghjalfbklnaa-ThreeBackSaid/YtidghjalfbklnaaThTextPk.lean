/-
  The walk of (*parser).text.
-/
import Derived.Test.YtidghjalfbklnaaThJoinPk
namespace Go.Proofs.Ytidghjalfbklnaa
open Go.RowKit

theorem below_tow {w w' : World} {base : Nat} {v : Value} {l : List (List UInt8)} (h : TOw w base v l) (hb : Below w.heap.size w w') : TOw w' base v l := h.below hb
theorem str_selfB (s : ByteArray) : str s.data.toList = s := ba_ext rfl

set_option maxHeartbeats 4000000 in
set_option maxRecDepth 8000 in
theorem text1_any (gs : List Rg) (o b t : List (List UInt8)) (last : Nat) (s : ByteArray) (base B R : Nat) (w : World) (h : PSt w base B R gs o b t last) (hl : last = 1) (hb : o.length ≤ 1000000) :
    Calls Try.prog 53 #[.pointer (some ⟨R, 0, none⟩), .string s] w (PStR w base B R gs (o ++ [s.data.toList]) b t last (.tuple #[])) := by
  obtain ⟨w0, S, v, xs, co, cb, ct, hrs, hc, hbase, hbox, hco, hcb, hct, hd1, hd2, hz⟩ := h
  obtain ⟨L, hL⟩ : ∃ L, L = o.length := ⟨_, rfl⟩
  obtain ⟨pv, cv, rfl, hsv⟩ := hco.shapeN hL
  have hR0 : R < w0.heap.size := by
    obtain ⟨cs, t', h1, _⟩ := hrs.box
    exact row_lt h1
  have e1 : ((last : Int) == 1) = true := by rw [hl]; rfl
  have e2 : ((last : Int) == 2) = false := by rw [hl]; rfl
  have e3 : ((last : Int) == 3) = false := by rw [hl]; rfl
  have c6 := cell_of_row w R 6 _ _ _ hbox
  have c3 := cell_of_row w R 3 _ _ _ hbox
  have HL := Lib.hid hL
  have HL0 : Hid (last ≠ 0) := by show _ ≠ _; omega
  have HRS := Lib.hid hrs
  have HBASE := Lib.hid hbase
  have HU : Hid (Try.prog.underlying 22 = some (.slice 9)) := Try.underlying22
  have HO5 : Hid (∀ ob, (w.alloc ob).ownsRow w0.heap.size 9 1 (.slice pv L cv) L (strs o)) := fun ob => own_below (hco.of hL) (below_new (Below.refl _ _) ob)
  have HSR : Hid (SRw (w.alloc (.cells #[.string s] 9)) (some ⟨w.heap.size, 0, none⟩) [s.data.toList]) := fun k hk => by
    have hk0 : k = 0 := by simpa using hk
    subst hk0
    refine ⟨_, 0, rfl, by simp, ?_⟩
    rw [cell_of_row _ _ _ _ _ _ (heap_alloc_new w (.cells #[.string s] 9))]
    exact congrArg (fun x => some (Value.string x)) (str_selfB s).symm
  have HSZ : Hid (∀ ob, w0.heap.size ≤ (w.alloc ob).heap.size) := fun ob => by show _ ≤ _; have := hc.size; simp; omega
  have HLAY : Hid (∀ (g6 c6 : Nat) (w6 : World), w6.ownsRow w0.heap.size 9 1 (.slice (some ⟨g6, 0, none⟩) (L + 1) c6) (L + 1) (strs o ++ strs [s.data.toList]) → (w.alloc (.cells #[.string s] 9)).grownBy w6 (Value.slice pv L cv).ownBlock → ((Value.slice pv L cv).ownBlock = some g6 ∨ g6 = (w.alloc (.cells #[.string s] 9)).heap.size) → _) := fun g6 c6 w6 ho6 hg6 hat6 => lay_row (i := 3) (B := B) hc hbase.1 hR0 hbox (by decide) hco hcb hct (fun g hg => (hd1 g hg).1) (fun g hg => (hd1 g hg).2) (TOw.app (m := 1) hL rfl ho6) hg6 hat6
  have HD1 := Lib.hid hd1
  have HD2 := Lib.hid hd2
  have hLb : L ≤ 1000000 := by omega
  clear hrs hc hbase hbox hco hcb hct hd1 hd2 hz hL hl hsv hb
  go_enter Try.func53, Try.ntmps53
  go_wp2_with (at_builtin; refine app_srwL _ rfl _ _ 22 rfl HU.out w0.heap.size _ L _ rfl (HO5.out _) _ 1 _ [s.data.toList] rfl rfl HSR.out (by omega) (by omega) (HSZ.out _) ?_; intro g6 c6 w6 ho6 hg6 hat6; obtain ⟨q0, q1⟩ := HLAY.out g6 c6 w6 ho6 hg6 hat6; have x6 := cell_of_row w6 R 3 _ _ _ q0; have z6 := frozen_of_row w6 R 3 _ _ q0; have HQ := Lib.hid q1; clear q0 q1 ho6 hg6 hat6)
  refine bodyPost_end (results_none rfl _ _ _) rfl ?_
  exact ⟨rfl, ⟨w0, S, v, xs, (.slice (some ⟨g6, 0, none⟩) (L + 1) c6), cb, ct, HRS.out, HQ.out.2.2.2.2.2.1, HBASE.out, HQ.out.2.2.2.2.2.2.1, HQ.out.1, HQ.out.2.1, HQ.out.2.2.1, fun g hg => by
      have hg' : g6 = g := by simpa [Value.ownBlock] using hg
      rw [← hg']
      exact ⟨HQ.out.2.2.2.1, HQ.out.2.2.2.2.1⟩, HD2.out, fun e => absurd e HL0.out⟩, HQ.out.2.2.2.2.2.2.2⟩

set_option maxHeartbeats 4000000 in
set_option maxRecDepth 8000 in
theorem text2_any (gs : List Rg) (o b t : List (List UInt8)) (last : Nat) (s : ByteArray) (base B R : Nat) (w : World) (h : PSt w base B R gs o b t last) (hl : last = 2) (hb : b.length ≤ 1000000) :
    Calls Try.prog 53 #[.pointer (some ⟨R, 0, none⟩), .string s] w (PStR w base B R gs o (b ++ [s.data.toList]) t last (.tuple #[])) := by
  obtain ⟨w0, S, v, xs, co, cb, ct, hrs, hc, hbase, hbox, hco, hcb, hct, hd1, hd2, hz⟩ := h
  obtain ⟨L, hL⟩ : ∃ L, L = b.length := ⟨_, rfl⟩
  obtain ⟨pv, cv, rfl, hsv⟩ := hcb.shapeN hL
  have hR0 : R < w0.heap.size := by
    obtain ⟨cs, t', h1, _⟩ := hrs.box
    exact row_lt h1
  have e1 : ((last : Int) == 1) = false := by rw [hl]; rfl
  have e2 : ((last : Int) == 2) = true := by rw [hl]; rfl
  have e3 : ((last : Int) == 3) = false := by rw [hl]; rfl
  have c6 := cell_of_row w R 6 _ _ _ hbox
  have c4 := cell_of_row w R 4 _ _ _ hbox
  have HL := Lib.hid hL
  have HL0 : Hid (last ≠ 0) := by show _ ≠ _; omega
  have HRS := Lib.hid hrs
  have HBASE := Lib.hid hbase
  have HU : Hid (Try.prog.underlying 22 = some (.slice 9)) := Try.underlying22
  have HO5 : Hid (∀ ob, (w.alloc ob).ownsRow w0.heap.size 9 1 (.slice pv L cv) L (strs b)) := fun ob => own_below (hcb.of hL) (below_new (Below.refl _ _) ob)
  have HSR : Hid (SRw (w.alloc (.cells #[.string s] 9)) (some ⟨w.heap.size, 0, none⟩) [s.data.toList]) := fun k hk => by
    have hk0 : k = 0 := by simpa using hk
    subst hk0
    refine ⟨_, 0, rfl, by simp, ?_⟩
    rw [cell_of_row _ _ _ _ _ _ (heap_alloc_new w (.cells #[.string s] 9))]
    exact congrArg (fun x => some (Value.string x)) (str_selfB s).symm
  have HSZ : Hid (∀ ob, w0.heap.size ≤ (w.alloc ob).heap.size) := fun ob => by show _ ≤ _; have := hc.size; simp; omega
  have HLAY : Hid (∀ (g6 c6 : Nat) (w6 : World), w6.ownsRow w0.heap.size 9 1 (.slice (some ⟨g6, 0, none⟩) (L + 1) c6) (L + 1) (strs b ++ strs [s.data.toList]) → (w.alloc (.cells #[.string s] 9)).grownBy w6 (Value.slice pv L cv).ownBlock → ((Value.slice pv L cv).ownBlock = some g6 ∨ g6 = (w.alloc (.cells #[.string s] 9)).heap.size) → _) := fun g6 c6 w6 ho6 hg6 hat6 => lay_row (i := 4) (B := B) hc hbase.1 hR0 hbox (by decide) hcb hco hct (fun g hg e => (hd1 g e).1 hg) (fun g hg => hd2 g hg) (TOw.app (m := 1) hL rfl ho6) hg6 hat6
  have HD1 := Lib.hid hd1
  have HD2 := Lib.hid hd2
  have hLb : L ≤ 1000000 := by omega
  clear hrs hc hbase hbox hco hcb hct hd1 hd2 hz hL hl hsv hb
  go_enter Try.func53, Try.ntmps53
  go_wp2_with (at_builtin; refine app_srwL _ rfl _ _ 22 rfl HU.out w0.heap.size _ L _ rfl (HO5.out _) _ 1 _ [s.data.toList] rfl rfl HSR.out (by omega) (by omega) (HSZ.out _) ?_; intro g6 c6 w6 ho6 hg6 hat6; obtain ⟨q0, q1⟩ := HLAY.out g6 c6 w6 ho6 hg6 hat6; have x6 := cell_of_row w6 R 4 _ _ _ q0; have z6 := frozen_of_row w6 R 4 _ _ q0; have HQ := Lib.hid q1; clear q0 q1 ho6 hg6 hat6)
  refine bodyPost_end (results_none rfl _ _ _) rfl ?_
  exact ⟨rfl, ⟨w0, S, v, xs, co, (.slice (some ⟨g6, 0, none⟩) (L + 1) c6), ct, HRS.out, HQ.out.2.2.2.2.2.1, HBASE.out, HQ.out.2.2.2.2.2.2.1, HQ.out.2.1, HQ.out.1, HQ.out.2.2.1, fun g hg => ⟨fun e => by
      have hg' : g6 = g := by simpa [Value.ownBlock] using e
      rw [← hg'] at hg
      exact HQ.out.2.2.2.1 hg, (HD1.out g hg).2⟩, fun g hg => by
      have hg' : g6 = g := by simpa [Value.ownBlock] using hg
      rw [← hg']
      exact HQ.out.2.2.2.2.1, fun e => absurd e HL0.out⟩, HQ.out.2.2.2.2.2.2.2⟩

set_option maxHeartbeats 4000000 in
set_option maxRecDepth 8000 in
theorem text3_any (gs : List Rg) (o b t : List (List UInt8)) (last : Nat) (s : ByteArray) (base B R : Nat) (w : World) (h : PSt w base B R gs o b t last) (hl : last = 3) (hb : t.length ≤ 1000000) :
    Calls Try.prog 53 #[.pointer (some ⟨R, 0, none⟩), .string s] w (PStR w base B R gs o b (t ++ [s.data.toList]) last (.tuple #[])) := by
  obtain ⟨w0, S, v, xs, co, cb, ct, hrs, hc, hbase, hbox, hco, hcb, hct, hd1, hd2, hz⟩ := h
  obtain ⟨L, hL⟩ : ∃ L, L = t.length := ⟨_, rfl⟩
  obtain ⟨pv, cv, rfl, hsv⟩ := hct.shapeN hL
  have hR0 : R < w0.heap.size := by
    obtain ⟨cs, t', h1, _⟩ := hrs.box
    exact row_lt h1
  have e1 : ((last : Int) == 1) = false := by rw [hl]; rfl
  have e2 : ((last : Int) == 2) = false := by rw [hl]; rfl
  have e3 : ((last : Int) == 3) = true := by rw [hl]; rfl
  have c6 := cell_of_row w R 6 _ _ _ hbox
  have c5 := cell_of_row w R 5 _ _ _ hbox
  have HL := Lib.hid hL
  have HL0 : Hid (last ≠ 0) := by show _ ≠ _; omega
  have HRS := Lib.hid hrs
  have HBASE := Lib.hid hbase
  have HU : Hid (Try.prog.underlying 22 = some (.slice 9)) := Try.underlying22
  have HO5 : Hid (∀ ob, (w.alloc ob).ownsRow w0.heap.size 9 1 (.slice pv L cv) L (strs t)) := fun ob => own_below (hct.of hL) (below_new (Below.refl _ _) ob)
  have HSR : Hid (SRw (w.alloc (.cells #[.string s] 9)) (some ⟨w.heap.size, 0, none⟩) [s.data.toList]) := fun k hk => by
    have hk0 : k = 0 := by simpa using hk
    subst hk0
    refine ⟨_, 0, rfl, by simp, ?_⟩
    rw [cell_of_row _ _ _ _ _ _ (heap_alloc_new w (.cells #[.string s] 9))]
    exact congrArg (fun x => some (Value.string x)) (str_selfB s).symm
  have HSZ : Hid (∀ ob, w0.heap.size ≤ (w.alloc ob).heap.size) := fun ob => by show _ ≤ _; have := hc.size; simp; omega
  have HLAY : Hid (∀ (g6 c6 : Nat) (w6 : World), w6.ownsRow w0.heap.size 9 1 (.slice (some ⟨g6, 0, none⟩) (L + 1) c6) (L + 1) (strs t ++ strs [s.data.toList]) → (w.alloc (.cells #[.string s] 9)).grownBy w6 (Value.slice pv L cv).ownBlock → ((Value.slice pv L cv).ownBlock = some g6 ∨ g6 = (w.alloc (.cells #[.string s] 9)).heap.size) → _) := fun g6 c6 w6 ho6 hg6 hat6 => lay_row (i := 5) (B := B) hc hbase.1 hR0 hbox (by decide) hct hco hcb (fun g hg e => (hd1 g e).2 hg) (fun g hg e => hd2 g e hg) (TOw.app (m := 1) hL rfl ho6) hg6 hat6
  have HD1 := Lib.hid hd1
  have HD2 := Lib.hid hd2
  have hLb : L ≤ 1000000 := by omega
  clear hrs hc hbase hbox hco hcb hct hd1 hd2 hz hL hl hsv hb
  go_enter Try.func53, Try.ntmps53
  go_wp2_with (at_builtin; refine app_srwL _ rfl _ _ 22 rfl HU.out w0.heap.size _ L _ rfl (HO5.out _) _ 1 _ [s.data.toList] rfl rfl HSR.out (by omega) (by omega) (HSZ.out _) ?_; intro g6 c6 w6 ho6 hg6 hat6; obtain ⟨q0, q1⟩ := HLAY.out g6 c6 w6 ho6 hg6 hat6; have x6 := cell_of_row w6 R 5 _ _ _ q0; have z6 := frozen_of_row w6 R 5 _ _ q0; have HQ := Lib.hid q1; clear q0 q1 ho6 hg6 hat6)
  refine bodyPost_end (results_none rfl _ _ _) rfl ?_
  exact ⟨rfl, ⟨w0, S, v, xs, co, cb, (.slice (some ⟨g6, 0, none⟩) (L + 1) c6), HRS.out, HQ.out.2.2.2.2.2.1, HBASE.out, HQ.out.2.2.2.2.2.2.1, HQ.out.2.1, HQ.out.2.2.1, HQ.out.1, fun g hg => ⟨(HD1.out g hg).1, fun e => by
      have hg' : g6 = g := by simpa [Value.ownBlock] using e
      rw [← hg'] at hg
      exact HQ.out.2.2.2.1 hg⟩, fun g hg e => by
      have hg' : g6 = g := by simpa [Value.ownBlock] using e
      rw [← hg'] at hg
      exact HQ.out.2.2.2.2.1 hg, fun e => absurd e HL0.out⟩, HQ.out.2.2.2.2.2.2.2⟩

end Go.Proofs.Ytidghjalfbklnaa
/-
  The walk of (*parser).text outside of a conflict; the markers that don't close.
-/
namespace Go.Proofs.Ytidghjalfbklnaa
open Go.RowKit

theorem box7 {cs : Array Value} {v v' a b c d e f : Value} (h0 : cs[0]? = some v') (hk : ∀ i, i ≠ 0 → cs[i]? = (#[v, a, b, c, d, e, f] : Array Value)[i]?) : cs = #[v', a, b, c, d, e, f] := by
  apply Array.ext_getElem?
  intro i
  rcases i with _ | i
  · rw [h0]; rfl
  · rw [hk (i + 1) (by omega)]
    simp only [← Array.getElem?_toList, List.getElem?_cons_succ]

set_option maxHeartbeats 4000000 in
set_option maxRecDepth 8000 in
theorem text0_any (gs : List Rg) (o b t : List (List UInt8)) (last : Nat) (s : ByteArray) (base B R : Nat) (w : World) (h : PSt w base B R gs o b t last) (hl : last = 0) (hg : gs.length ≤ 100000) (hb : lastN gs ≤ 500000) :
    Calls Try.prog 53 #[.pointer (some ⟨R, 0, none⟩), .string s] w (PStR w base B R (clG gs [s.data.toList]) [] [] [] last (.tuple #[])) := by
  obtain ⟨w0, S, v, xs, co, cb, ct, hrs, hc, hbase, hbox, hco, hcb, hct, hd1, hd2, hz⟩ := h
  obtain ⟨rfl, rfl, rfl⟩ := hz hl
  have HBB := Lib.hid hbase.2.1
  replace hbase0 := hbase
  replace hbase := Nat.le_trans hbase0.2.1 hbase0.1
  have HBS := Lib.hid hbase0.2.2
  have hbR := hrs.rb
  have hr1 : RS w base R S gs v xs := hrs.re hc hbox rfl (by decide) (by decide)
  have e1 : ((last : Int) == 1) = false := by rw [hl]; rfl
  have e2 : ((last : Int) == 2) = false := by rw [hl]; rfl
  have e3 : ((last : Int) == 3) = false := by rw [hl]; rfl
  have c6 := cell_of_row w R 6 _ _ _ hbox
  have hbs : base ≤ w.heap.size := Nat.le_trans hbase hc.size
  have HBW : Hid (Chg (fun k => k = R ∨ B ≤ k) w (w.alloc (.cells #[.string s] 9))) := Chg.below (below_new (Below.refl w.heap.size w) _)
  have hr2 : RS (w.alloc (.cells #[.string s] 9)) base R S gs v xs := hr1.keep (below_new (Below.refl _ _) _)
  have hbox2 : (w.alloc (.cells #[.string s] 9)).heap[R]? = some (.cells #[v, .int .i64 0, .slice none 0 0, .slice none 0 0, .slice none 0 0, .slice none 0 0, .int .i64 (last : Int)] 78 (0, 0)) := row_alloc hbox (row_lt hbox)
  have HB2 := Lib.hid hbox2
  have HC : Hid (Calls Try.prog 45 #[.pointer (some ⟨R, 0, none⟩), .slice (some ⟨w.heap.size, 0, none⟩) 1 1] (w.alloc (.cells #[.string s] 9)) (PCl (w.alloc (.cells #[.string s] 9)) base R S (clG gs [s.data.toList]))) := by
    refine pclean_any gs [s.data.toList] base R 1 1 (some ⟨w.heap.size, 0, none⟩) S v xs _ hr2 rfl (fun w' hw' k hk => ?_) hg (fun r hr => by rw [lastN_of hr]; omega) (by omega) (by simp; omega)
    have hk0 : k = 0 := by simpa using hk
    subst hk0
    have hrow := heap_alloc_new w (.cells #[.string s] 9)
    have hRl := row_lt hbox
    have hk2 := (hw'.block w.heap.size (row_lt hrow) (fun x => by
      rcases x with x | x
      · have := (hr1.low _ x).2; omega
      · omega)).trans hrow
    refine ⟨_, 0, rfl, row_lt hk2, ?_⟩
    rw [cell_of_row w' _ _ _ _ _ hk2]
    exact congrArg (fun x => some (Value.string x)) (str_selfB s).symm
  have HSZ : Hid (B ≤ (w.alloc (.cells #[.string s] 9)).heap.size) := by show _ ≤ _; have := hbase0.1; have := hc.size; simp; omega
  have HL := Lib.hid hl
  clear hrs hc hbase hbase0 hbox hco hcb hct hd1 hd2 hz hl hr1 hr2 hbox2 hg hb hbs
  go_enter Try.func53, Try.ntmps53
  go_wp2_with (go_at_call 45; ((with_reducible refine HC.out.mono ?_); rintro e w2 ⟨rfl, S2, v2, xs2, hr2, hc2, hs2, hk2⟩))
  refine bodyPost_end (results_none rfl _ _ _) rfl ?_
  have hb2 : Chg (fun k => k = R ∨ B ≤ k) (w.alloc (.cells #[.string s] 9)) w2 := hc2.mono fun b hb => by
    rcases hb with hb | hb
    · exact .inr (HBS.out b hb)
    · exact .inl hb
  obtain ⟨cs, tt, hbx, hcs, _, _⟩ := hr2.box
  obtain ⟨cs', hbx', hsz', hkk⟩ := hk2 _ _ HB2.out
  rw [hbx] at hbx'
  simp only [Option.some.injEq, Obj.cells.injEq] at hbx'
  obtain ⟨rfl, rfl, _⟩ := hbx'
  have hcs7 := box7 hcs hkk
  rw [hcs7] at hbx
  exact ⟨rfl, ⟨w2, S2, v2, xs2, _, _, _, hr2, Chg.refl _ _, ⟨Nat.le_trans HSZ.out hb2.size, HBB.out, fun b hb => (hs2 b hb).elim (HBS.out b) (Nat.le_trans HSZ.out)⟩, hbx, TOw.nil _ _, TOw.nil _ _, TOw.nil _ _, fun g hg => by simp [Value.ownBlock] at hg, fun g hg => by simp [Value.ownBlock] at hg, fun _ => ⟨rfl, rfl, rfl⟩⟩, HBW.out.trans' hb2⟩

set_option maxHeartbeats 4000000 in
set_option maxRecDepth 8000 in
/-- A marker that may not stand here. -/
theorem markNo_any (gs : List Rg) (o b t : List (List UInt8)) (kind last : Nat) (base B R : Nat) (w : World) (h : PSt w base B R gs o b t last) (hk : kind ≤ 4) (hl : last ≤ 4) (hn : nestB kind last = false) :
    Calls Try.prog 54 #[.pointer (some ⟨R, 0, none⟩), .int .i64 (kind : Int)] w fun e w' => e = .returned (.bool false) ∧ w = w' := by
  obtain ⟨w0, S, v, xs, co, cb, ct, hrs, hc, hbase, hbox, hco, hcb, hct, hd1, hd2, hz⟩ := h
  have c6 := cell_of_row w R 6 _ _ _ hbox
  have HN : Hid (∀ w, Calls Try.prog 85 #[.int .i64 (kind : Int), .int .i64 (last : Int)] w fun e w' => e = .returned (.bool false) ∧ w = w') := fun w => (nests_any kind last w hk hl).mono fun e w' ⟨h1, h2⟩ => ⟨by rw [h1, hn], h2.symm⟩
  clear hrs hc hbase hbox hco hcb hct hd1 hd2 hz hk hl hn
  go_enter Try.func54, Try.ntmps54
  go_wp2_with (go_at_call 85; ((with_reducible refine (HN.out _).mono ?_); rintro e w2 ⟨rfl, rfl⟩))
  go_ret
  exact ⟨rfl, rfl⟩

set_option maxHeartbeats 4000000 in
set_option maxRecDepth 8000 in
/-- A marker that opens a part. -/
theorem markOp_any (gs : List Rg) (o b t : List (List UInt8)) (kind last : Nat) (base B R : Nat) (w : World) (h : PSt w base B R gs o b t last) (hk : kind ≤ 3) (hk0 : kind ≠ 0) (hl : last ≤ 4) (hn : nestB kind last = true) :
    Calls Try.prog 54 #[.pointer (some ⟨R, 0, none⟩), .int .i64 (kind : Int)] w (PStR w base B R gs o b t kind (.bool true)) := by
  obtain ⟨w0, S, v, xs, co, cb, ct, hrs, hc, hbase, hbox, hco, hcb, hct, hd1, hd2, hz⟩ := h
  have c6 := cell_of_row w R 6 _ _ _ hbox
  have f6 := frozen_of_row w R 6 _ _ hbox
  have HN : Hid (∀ w, Calls Try.prog 85 #[.int .i64 (kind : Int), .int .i64 (last : Int)] w fun e w' => e = .returned (.bool true) ∧ w = w') := fun w => (nests_any kind last w (by omega) hl).mono fun e w' ⟨h1, h2⟩ => ⟨by rw [h1, hn], h2.symm⟩
  have e4 : ((kind : Int) == 4) = false := by rw [beq_eq_false_iff_ne]; omega
  have hb2 := heap_setCell_same w R 6 _ _ (.int .i64 (kind : Int)) hbox
  have keep : ∀ (u : Value) (l : List (List UInt8)), TOw w w0.heap.size u l → TOw (w.setCell ⟨R, 6, none⟩ (.int .i64 (kind : Int))) w0.heap.size u l := fun u l hu => own_same hu fun k hk => Below.heap_setCell w ⟨R, 6, none⟩ _ k fun e => own_ty hu hbox (by decide) (by subst e; exact hk)
  have HX : Hid (PStR w base B R gs o b t kind (.bool true) (.returned (.bool true)) (w.setCell ⟨R, 6, none⟩ (.int .i64 (kind : Int)))) := ⟨rfl, ⟨w0, S, v, xs, co, cb, ct, hrs, hc.trans' (Chg.set _ rfl), hbase, hb2, keep _ _ hco, keep _ _ hcb, keep _ _ hct, hd1, hd2, fun e => absurd e hk0⟩, Chg.set _ (.inl rfl)⟩
  clear hrs hc hbase hbox hco hcb hct hd1 hd2 hz hk hl hn hb2 keep hk0
  go_enter Try.func54, Try.ntmps54
  go_wp2_with (go_at_call 85; ((with_reducible refine (HN.out _).mono ?_); rintro e w2 ⟨rfl, rfl⟩))
  go_ret
  exact HX.out
end Go.Proofs.Ytidghjalfbklnaa
