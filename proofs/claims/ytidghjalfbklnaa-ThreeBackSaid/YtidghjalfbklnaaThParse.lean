/-
  The walk of three's Parse.
-/
import Derived.Test.YtidghjalfbklnaaThClose
namespace Go.Proofs.Ytidghjalfbklnaa
open Go.RowKit

/-- What is read of a marked text. -/
structure Ps where
  gs : List Rg
  o : List (List UInt8)
  b : List (List UInt8)
  t : List (List UInt8)
  last : Nat
def txS (st : Ps) (x : List UInt8) : Ps := if st.last = 1 then ⟨st.gs, st.o ++ [x], st.b, st.t, st.last⟩ else if st.last = 2 then ⟨st.gs, st.o, st.b ++ [x], st.t, st.last⟩ else if st.last = 3 then ⟨st.gs, st.o, st.b, st.t ++ [x], st.last⟩ else ⟨clG st.gs [x], [], [], [], st.last⟩
def mkS (st : Ps) (k : Nat) : Ps := if k = 4 then ⟨st.gs ++ [⟨2, [], st.o, st.b, st.t⟩], [], [], [], 0⟩ else ⟨st.gs, st.o, st.b, st.t, k⟩
def goP : List (List UInt8) → Ps → Option Ps
  | [], st => some st
  | x :: l, st => if mkL x = 0 then goP l (txS st x) else if nestB (mkL x) st.last = true then goP l (mkS st (mkL x)) else none
def fin0 : Option Ps → Option (List Rg)
  | some st => if st.last = 0 then some st.gs else none
  | none => none
def parL (ls : List (List UInt8)) : Option (List Rg) := fin0 (goP ls ⟨[], [], [], [], 0⟩)
/-- How far it has come. -/
structure PIn (st : Ps) (k : Nat) : Prop where
  l : st.last ≤ 3
  g : st.gs.length ≤ k
  n : lastN st.gs ≤ k
  o : st.o.length ≤ k
  b : st.b.length ≤ k
  t : st.t.length ≤ k
theorem PIn.text {st : Ps} {k : Nat} (h : PIn st k) (x : List UInt8) : PIn (txS st x) (k + 1) := by
  obtain ⟨h1, h2, h3, h4, h5, h6⟩ := h
  have hc := lastN_cl st.gs [x]
  rw [List.length_singleton] at hc
  unfold txS
  split
  · exact ⟨h1, by simp only; omega, by simp only; omega, by simp; omega, by simp only; omega, by simp only; omega⟩
  split
  · exact ⟨h1, by simp only; omega, by simp only; omega, by simp only; omega, by simp; omega, by simp only; omega⟩
  split
  · exact ⟨h1, by simp only; omega, by simp only; omega, by simp only; omega, by simp only; omega, by simp; omega⟩
  · exact ⟨h1, by simp only; omega, by simp only; omega, by simp, by simp, by simp⟩
theorem PIn.mark {st : Ps} {k m : Nat} (h : PIn st k) (hm : m ≤ 4) : PIn (mkS st m) (k + 1) := by
  obtain ⟨h1, h2, h3, h4, h5, h6⟩ := h
  unfold mkS
  split
  · exact ⟨by simp, by simp; omega, by simp [lastN], by simp, by simp, by simp⟩
  · exact ⟨by simp only; omega, by simp only; omega, by simp only; omega, by simp only; omega, by simp only; omega, by simp only; omega⟩
/-- The parser, as it lies. -/
def PQ (w : World) (base B R : Nat) (st : Ps) : Prop := PSt w base B R st.gs st.o st.b st.t st.last
def PQR (w : World) (base B R : Nat) (st : Ps) (r : Value) (e : Ending) (w' : World) : Prop := e = .returned r ∧ PQ w' base B R st ∧ Chg (fun k => k = R ∨ B ≤ k) w w'
theorem ptext_any (st : Ps) (k : Nat) (s : ByteArray) (base B R : Nat) (w : World) (h : PQ w base B R st) (hi : PIn st k) (hk : k ≤ 90000) :
    Calls Try.prog 53 #[.pointer (some ⟨R, 0, none⟩), .string s] w (PQR w base B R (txS st s.data.toList) (.tuple #[])) := by
  obtain ⟨h1, h2, h3, h4, h5, h6⟩ := hi
  unfold txS
  split
  · rename_i hl
    exact text1_any _ _ _ _ _ s base B R w h hl (by omega)
  split
  · rename_i _ hl
    exact text2_any _ _ _ _ _ s base B R w h hl (by omega)
  split
  · rename_i _ _ hl
    exact text3_any _ _ _ _ _ s base B R w h hl (by omega)
  · have hl0 : st.last = 0 := by omega
    exact text0_any _ _ _ _ _ s base B R w h hl0 (by omega) (by omega)
theorem nest4 {l : Nat} (hl : l ≤ 3) (h : nestB 4 l = true) : l = 3 := by
  simpa [nestB] using h
theorem pmark_any (st : Ps) (k m : Nat) (base B R : Nat) (w : World) (h : PQ w base B R st) (hi : PIn st k) (hk : k ≤ 90000) (hm : m ≤ 4) (hm0 : m ≠ 0) (hn : nestB m st.last = true) :
    Calls Try.prog 54 #[.pointer (some ⟨R, 0, none⟩), .int .i64 (m : Int)] w (PQR w base B R (mkS st m) (.bool true)) := by
  obtain ⟨h1, h2, h3, h4, h5, h6⟩ := hi
  unfold mkS
  split
  · rename_i h4m
    subst h4m
    have hl := nest4 h1 hn
    unfold PQ at h
    rw [hl] at h
    exact markCl_any _ _ _ _ base B R w h (by omega)
  · exact markOp_any _ _ _ _ m _ base B R w h (by omega) hm0 (by omega) hn
theorem PSt.below {w w' : World} {base B R : Nat} {gs : List Rg} {o b t : List (List UInt8)} {last : Nat} (h : PSt w base B R gs o b t last) (hb : Below w.heap.size w w') : PSt w' base B R gs o b t last := by
  obtain ⟨w0, S, v, xs, co, cb, ct, hrs, hc, hbase, hbox, hco, hcb, hct, r⟩ := h
  exact ⟨w0, S, v, xs, co, cb, ct, hrs, hc.trans' (Chg.below hb), hbase, (hb.block R (row_lt hbox)).trans hbox, hco.below hb, hcb.below hb, hct.below hb, r⟩
/-- What Parse answers. -/
def ParR (r : Option (List Rg)) (w : World) (e : Ending) (w' : World) : Prop := Below w.heap.size w w' ∧ match r with
  | none => e = .returned (.tuple #[.slice none 0 0, .int .i64 2])
  | some gs => ∃ p n cap, e = .returned (.tuple #[.slice p n cap, .int .i64 0]) ∧ n = gs.length ∧ n ≤ cap ∧ GRw w' p gs
theorem goP_step {L : List (List UInt8)} {k : Nat} (h : k < L.length) (st : Ps) : goP (L.drop k) st = if mkL L[k] = 0 then goP (L.drop (k + 1)) (txS st L[k]) else if nestB (mkL L[k]) st.last = true then goP (L.drop (k + 1)) (mkS st (mkL L[k])) else none := by
  rw [List.drop_eq_getElem_cons h]
  rfl

set_option maxHeartbeats 4000000 in
set_option maxRecDepth 8000 in
theorem parse_any (s : ByteArray) (w : World) (hs : s.size ≤ 80000) :
    Calls Try.prog 23 #[.string s] w (ParR (parL (split s.data.toList)) w) := by
  obtain ⟨L, hL⟩ : ∃ L, L = split s.data.toList := ⟨_, rfl⟩
  obtain ⟨n, hn⟩ : ∃ n, n = L.length := ⟨_, rfl⟩
  have hn1 : n ≤ 80001 := by rw [hn, hL]; have := split_cnt s.data.toList []; rw [list_len] at this; show (spl [] _).length ≤ _; omega
  have HX : Hid (∀ x ∈ L, x.length ≤ 1000000) := fun x hx => by rw [hL] at hx; have := split_pos s x hx; omega
  have HSP : Hid (∀ W, Calls Try.prog 51 #[.string s] W fun e w' => (∃ p cap, e = .returned (.slice p n cap) ∧ SRw w' p L) ∧ Below W.heap.size W w') := fun W => by
    have h := split_any s W (by omega) n (by rw [hn, hL])
    rw [← hL] at h
    exact h
  rw [← hL]
  obtain ⟨V, hV⟩ : ∃ V, V = parL L := ⟨_, rfl⟩
  have HV : Hid (V = fin0 (goP (L.drop 0) ⟨[], [], [], [], 0⟩)) := hV
  rw [← hV]
  have HN := Lib.hid hn
  clear hL hn hV
  go_enter Try.func23, Try.ntmps23
  go_upto_region 2 with fail
  obtain ⟨R, hR⟩ : ∃ R, R = w.heap.size := ⟨_, rfl⟩
  obtain ⟨w1, hw1⟩ : ∃ w1, w1 = w.alloc (.cells #[.slice none 0 0, .int .i64 0, .slice none 0 0, .slice none 0 0, .slice none 0 0, .slice none 0 0, .int .i64 0] 78) := ⟨_, rfl⟩
  have hrow : w1.heap[R]? = some (.cells #[.slice none 0 0, .int .i64 0, .slice none 0 0, .slice none 0 0, .slice none 0 0, .slice none 0 0, .int .i64 0] 78 (0, 0)) := by rw [hw1, hR]; exact heap_alloc_new _ _
  have HB1 : Hid (Below w.heap.size w w1) := by rw [hw1]; exact below_new (Below.refl _ _) _
  rw [← hw1, ← hR]
  have HR := Lib.hid hR
  have HROW := Lib.hid hrow
  clear hw1 hR hrow
  go_upto_region 3 with (go_at_call 51; ((with_reducible refine (HSP.out _).mono ?_); rintro e w2 ⟨⟨p, cap, rfl, hp⟩, hb2⟩))
  have hrow2 := (hb2.block R (row_lt HROW.out)).trans HROW.out
  have HP := Lib.hid hp
  have HB2 := Lib.hid (HB1.out.trans (hb2.mono HB1.out.size))
  have hRl : w.heap.size = R := HR.out.symm
  have HPQ0 : Hid (PQ w2 w.heap.size w2.heap.size R ⟨[], [], [], [], 0⟩) := by
    refine ⟨w2, fun _ => False, .slice none 0 0, [], .slice none 0 0, .slice none 0 0, .slice none 0 0, ⟨⟨_, _, hrow2, rfl, by decide, by decide⟩, World.ownsRow_nil _ _ _ _, fun g hg => by simp [Value.ownBlock] at hg, fun k hk => absurd hk (Nat.not_lt_zero _), fun k hk => absurd hk (Nat.not_lt_zero _), fun b hb => hb.elim, Nat.le_of_eq hRl⟩, Chg.refl _ _, ⟨Nat.le_refl _, HB2.out.size, fun b hb => hb.elim⟩, hrow2, TOw.nil _ _, TOw.nil _ _, TOw.nil _ _, fun g hg => by simp [Value.ownBlock] at hg, fun g hg => by simp [Value.ownBlock] at hg, fun _ => ⟨rfl, rfl, rfl⟩⟩
  have HRP : Hid (∀ w', Chg (fun k => k = R ∨ w2.heap.size ≤ k) w2 w' → SRw w' p L) := fun w' hw' k hk => by
    obtain ⟨g, o, rfl, hg, hcell⟩ := HP.out k hk
    refine ⟨g, o, rfl, Nat.lt_of_lt_of_le hg hw'.size, (World.cell?_of_block (hw'.block g hg fun hx => ?_)).trans hcell⟩
    rcases hx with hx | hx
    · rw [hx, cell_of_row w2 R _ _ _ _ hrow2] at hcell
      have := Array.mem_of_getElem? hcell
      simp at this
    · omega
  clear hp hb2 hrow2 HROW HB1 HP
  go_wp2
  go_loopw [11] (fun iv wr => ∃ (k : Nat) (st : Ps), k ≤ n ∧ iv = .int .i64 (k : Int) ∧ Hid (PQ wr w.heap.size w2.heap.size R st) ∧ Hid (PIn st k) ∧ Hid (V = fin0 (goP (L.drop k) st)) ∧ Hid (Chg (fun k => k = R ∨ w2.heap.size ≤ k) w2 wr)) (fun iv _ => n - (intOf iv).toNat)
  case atStart => exact ⟨0, _, Nat.zero_le _, rfl, HPQ0.out, ⟨by simp, by simp, by simp [lastN], by simp, by simp, by simp⟩, HV.out, Chg.refl _ _⟩
  case round =>
    clear HPQ0 HV
    obtain ⟨k, st, hk, rfl, HPQ, HIN, HV, HW⟩ := hrel
    by_cases hlt : k < n
    · have hkl : k < L.length := by rw [← HN.out]; exact hlt
      obtain ⟨g, o, rfl, hg, a0⟩ := HRP.out wr HW.out k hkl
      obtain ⟨t, ht⟩ : ∃ t, t = str L[k] := ⟨_, rfl⟩
      have hts : t.size ≤ 1000000 := by rw [ht, str_size]; exact HX.out _ (List.getElem_mem hkl)
      rw [← ht] at a0
      have htl : L[k] = t.data.toList := by rw [ht, str_list]
      have hgo := goP_step hkl st
      rw [htl] at hgo
      obtain ⟨m, hm⟩ : ∃ m, m = mkL t.data.toList := ⟨_, rfl⟩
      rw [← hm] at hgo
      have hm4 : m ≤ 4 := by rw [hm]; exact mkL_le _
      have HM : Hid (∀ w, Calls Try.prog 52 #[.string t] w fun e w' => e = .returned (.int .i64 (m : Int)) ∧ w = w') := fun w => (marker_any t m w (by omega) hm).mono fun e w' ⟨h1, h2⟩ => ⟨h1, h2.symm⟩
      by_cases h0 : m = 0
      · have HV2 : Hid (V = fin0 (goP (L.drop (k + 1)) (txS st t.data.toList))) := by show _ = _; rw [HV.out, hgo, if_pos h0]
        have d0 : ((m : Int) == 0) = true := by rw [h0]; rfl
        have HT : Hid (Calls Try.prog 53 #[.pointer (some ⟨R, 0, none⟩), .string t] wr (PQR wr w.heap.size w2.heap.size R (txS st t.data.toList) (.tuple #[]))) := ptext_any st k t _ _ R wr HPQ.out HIN.out (by omega)
        have HI2 := Lib.hid (HIN.out.text t.data.toList)
        clear ht htl hgo hm h0 hg HV hts hm4
        go_wp2_with (first
          | (go_at_call 52; ((with_reducible refine (HM.out _).mono ?_); rintro e w4 ⟨rfl, rfl⟩))
          | (go_at_call 53; ((with_reducible refine HT.out.mono ?_); rintro e w5 ⟨rfl, hq5, hc5⟩)))
        have HQ5 := Lib.hid hq5
        have HC5 := Lib.hid (HW.out.trans' hc5)
        clear hq5 hc5
        go_roundw
        case rel => exact ⟨k + 1, _, hlt, by go_num, HQ5.out, HI2.out, HV2.out, HC5.out⟩
        case measure => simp [intOf]; omega
      · have d0 : ((m : Int) == 0) = false := by rw [beq_eq_false_iff_ne]; omega
        by_cases hnb : nestB m st.last = true
        · have HV2 : Hid (V = fin0 (goP (L.drop (k + 1)) (mkS st m))) := by show _ = _; rw [HV.out, hgo, if_neg h0, if_pos hnb]
          have HT : Hid (Calls Try.prog 54 #[.pointer (some ⟨R, 0, none⟩), .int .i64 (m : Int)] wr (PQR wr w.heap.size w2.heap.size R (mkS st m) (.bool true))) := pmark_any st k m _ _ R wr HPQ.out HIN.out (by omega) hm4 h0 hnb
          have HI2 := Lib.hid (HIN.out.mark hm4)
          clear ht htl hgo hm h0 hg HV hts hm4 hnb
          go_wp2_with (first
            | (go_at_call 52; ((with_reducible refine (HM.out _).mono ?_); rintro e w4 ⟨rfl, rfl⟩))
            | (go_at_call 54; ((with_reducible refine HT.out.mono ?_); rintro e w5 ⟨rfl, hq5, hc5⟩)))
          have HQ5 := Lib.hid hq5
          have HC5 := Lib.hid (HW.out.trans' hc5)
          clear hq5 hc5
          go_roundw
          case rel => exact ⟨k + 1, _, hlt, by go_num, HQ5.out, HI2.out, HV2.out, HC5.out⟩
          case measure => simp [intOf]; omega
        · have HV2 : Hid (V = none) := by show _ = _; rw [HV.out, hgo, if_neg h0, if_neg hnb]; rfl
          have HT : Hid (Calls Try.prog 54 #[.pointer (some ⟨R, 0, none⟩), .int .i64 (m : Int)] wr fun e w' => e = .returned (.bool false) ∧ wr = w') := markNo_any _ _ _ _ m _ _ _ R wr HPQ.out hm4 (by have := HIN.out.l; omega) (by simpa using hnb)
          have HWF : Hid (Below w.heap.size w wr) := HB2.out.trans (HW.out.toBelow (fun b hb => by
            rcases hb with hb | hb
            · rw [hb]; exact Nat.le_of_eq hRl
            · exact Nat.le_trans HB2.out.size hb) HB2.out.size)
          clear ht htl hgo hm h0 hg HV hts hm4 hnb
          go_wp2_with (first
            | (go_at_call 52; ((with_reducible refine (HM.out _).mono ?_); rintro e w4 ⟨rfl, rfl⟩))
            | (go_at_call 54; ((with_reducible refine HT.out.mono ?_); rintro e w5 ⟨rfl, rfl⟩)))
          go_ret2
          rw [HV2.out]
          exact ⟨HWF.out, rfl⟩
    · have HV2 : Hid (V = fin0 (some st)) := by show _ = _; rw [HV.out, List.drop_of_length_le (by have := HN.out; omega)]; rfl
      have HWF : Hid (Below w.heap.size w wr) := HB2.out.trans (HW.out.toBelow (fun b hb => by
        rcases hb with hb | hb
        · rw [hb]; exact Nat.le_of_eq hRl
        · exact Nat.le_trans HB2.out.size hb) HB2.out.size)
      obtain ⟨w0, S, v, xs, co, cb, ct, hrs, hc, hbase, hbox, _⟩ := HPQ.out
      obtain ⟨pv, cv, rfl, hcv, hgr⟩ := (hrs.re hc hbox rfl (by decide) (by decide)).grw
      have k0 := cell_of_row wr R 0 _ _ _ hbox
      have k6 := cell_of_row wr R 6 _ _ _ hbox
      have HG := Lib.hid hgr
      have HCV := Lib.hid hcv
      obtain ⟨q, hq⟩ : ∃ q, q = st.last := ⟨_, rfl⟩
      obtain ⟨z, hz⟩ : ∃ z, z = st.gs.length := ⟨_, rfl⟩
      rw [← hq] at k6
      rw [← hz] at k0
      have HZ := Lib.hid hz
      by_cases hl : st.last = 0
      · have HV3 : Hid (V = some st.gs) := by show _ = _; rw [HV2.out, fin0, if_pos hl]
        have d0 : ((q : Int) != 0) = false := by rw [hq, hl]; rfl
        clear hrs hc hbase hbox hgr hcv hq hl hz HV
        go_wp2
        go_ret2
        rw [HV3.out]
        exact ⟨HWF.out, _, _, _, rfl, HZ.out, by rw [HZ.out]; exact HCV.out, HG.out⟩
      · have HV3 : Hid (V = none) := by show _ = _; rw [HV2.out, fin0, if_neg hl]
        have d0 : ((q : Int) != 0) = true := bne_iff_ne.mpr (by omega)
        clear hrs hc hbase hbox hgr hcv hq hl hz HV
        go_wp2
        go_ret2
        rw [HV3.out]
        exact ⟨HWF.out, rfl⟩
end Go.Proofs.Ytidghjalfbklnaa
