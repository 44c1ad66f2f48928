/-
  The walk of Parse.
-/
import Derived.Test.YtjholoajgnpodaaDoorTrTake
import Derived.Test.YtjholoajgnpodaaDoorTrOw
namespace Go.Proofs.YtjholoajgnpodaaDoor
open Go.RowKit

theorem BSl.back {w w' : World} {b : Nat} {v : Value} {l : List UInt8} (h : BSl w' b v l) (hb : Below w.heap.size w w') (hl : b < w.heap.size) : BSl w b v l := by
  obtain ⟨o, c, hv, hc, _, hx⟩ := h
  exact ⟨o, c, hv, hc, hl, fun k hk => (hb.cell (p := ⟨b, o + k, none⟩) hl).symm.trans (hx k hk)⟩
theorem oneT_len {l : List UInt8} (h : (oneT l).1 = 0) : (oneT l).2.2.length + 21 ≤ l.length ∧ (oneT l).2.1.n.size ≤ l.length ∧ (oneT l).2.1.i.size ≤ 40 := by
  unfold oneT restT at h ⊢
  split at h
  · rename_i h0
    exact absurd h (by
      have : (modeT l).2 ≠ 0 := by
        intro e
        unfold modeT at h0 e
        repeat' split at h0
        all_goals try cases h0
        simp_all
        have := errTo_le l 5
        omega
      exact this)
  · rename_i h0
    rw [if_neg h0]
    split at h
    · cases h
    · rename_i h1
      rw [if_neg h1]
      simp only [List.length_drop, str_size, List.length_take, hexL_len]
      rw [List.length_drop] at h1
      omega
theorem parFrom_nil (es : List En) : parFrom [] es = if chkT es = 0 then (0, es) else (chkT es, []) := by rw [parFrom, if_pos rfl]
theorem parFrom_bad {l : List UInt8} {es : List En} (h : l ≠ []) (h0 : (oneT l).1 ≠ 0) : parFrom l es = ((oneT l).1, []) := by rw [parFrom, if_neg h, if_pos h0]
theorem parFrom_step {l : List UInt8} {es : List En} (h : l ≠ []) (h0 : (oneT l).1 = 0) : parFrom l es = parFrom (oneT l).2.2 (es ++ [(oneT l).2.1]) := by
  rw [parFrom, if_neg h, if_neg (by rw [h0]; decide), if_pos (by have := oneT_len h0; omega)]
/-- The length of a slice. -/
def slnT : Value → Nat
  | .slice _ n _ => n
  | _ => 0
/-- What Parse answers. -/
def ParT (R : Nat × List En) (w : World) (e : Ending) (w' : World) : Prop := (∃ v, e = .returned (.tuple #[v, .int .i64 (R.1 : Int)]) ∧ ∃ p c, v = .slice p R.2.length c ∧ R.2.length ≤ c ∧ NRw w' p R.2) ∧ Below w.heap.size w w'
theorem parT_bad {R : Nat × List En} {w w' : World} {c : Nat} (h : R = (c, [])) (hb : Below w.heap.size w w') : ParT R w (.returned (.tuple #[.slice none 0 0, .int .i64 (c : Int)])) w' := by
  subst h
  exact ⟨⟨_, rfl, none, 0, rfl, Nat.le_refl _, NRw.nil _ _⟩, hb⟩
theorem parT_ok {R : Nat × List En} {w w' : World} {es : List En} {base : Nat} {v : Value} (h : R = (0, es)) (hv : NOw w' base v es) (hb : Below w.heap.size w w') : ParT R w (.returned (.tuple #[v, .int .i64 0])) w' := by
  subst h
  obtain ⟨p, cap, rfl, hc, hr⟩ := hv.rw
  exact ⟨⟨_, rfl, p, cap, rfl, hc, hr⟩, hb⟩

set_option maxHeartbeats 4000000 in
set_option maxRecDepth 4000 in
theorem tparse_any (s : ByteArray) (w : World) (hT : TrTab w) (hs : s.size ≤ 1000000) :
    Calls Tryd.prog 15 #[.string s] w (ParT (parE s.data.toList) w) := by
  obtain ⟨R, hR⟩ : ∃ R, R = parE s.data.toList := ⟨_, rfl⟩
  rw [← hR]
  have HR0 : Hid (R = parFrom s.data.toList []) := hR
  obtain ⟨cap, w1, hcv, hcap, hb1, hbs1, hcx⟩ := to_bytes s w (by omega)
  have HBS : Hid (BSl w1 w.heap.size (.slice (some ⟨w.heap.size, 0, none⟩) s.size cap) s.data.toList) := ⟨0, cap, by rw [list_len], by rw [list_len]; exact hcap, hbs1, fun k hk => by rw [Nat.zero_add]; exact hcx k hk⟩
  have HB1 := Lib.hid hb1
  have HT1 := Lib.hid (hT.below hb1)
  have hsl : s.data.toList.length ≤ 1000000 := by rw [list_len]; exact hs
  obtain ⟨L, hL⟩ : ∃ L, L = s.data.toList := ⟨_, rfl⟩
  rw [← hL] at HR0 HBS hsl
  obtain ⟨B, hB⟩ : ∃ B, B = w.heap.size := ⟨_, rfl⟩
  rw [← hB] at HBS hbs1
  have HBW := Lib.hid hB
  have HLS : Hid (s.size = L.length) := by show _ = _; rw [hL, list_len]
  clear hR hb1 hcx hT hL hB
  go_enter Tryd.func15, Tryd.ntmps15
  go_wp2_with fail
  rw [← HBW.out]
  go_loopw [5, 4] (fun rv lv wr => ∃ (o n c : Nat) (r : List UInt8) (es : List En), rv = .slice (some ⟨B, o, none⟩) n c ∧ Hid (n = r.length) ∧ n + 21 * es.length ≤ 1000000 ∧ Hid (BSl w1 B rv r) ∧ Hid (NOw wr w1.heap.size lv es) ∧ Hid (R = parFrom r es) ∧ Hid (∀ e ∈ es, e.n.size ≤ 1000000 ∧ e.i.size ≤ 40) ∧ Hid (Below w1.heap.size w1 wr)) (fun rv _ _ => slnT rv)
  case atStart => exact ⟨0, s.size, cap, L, [], rfl, HLS.out, by simpa using hs, HBS.out, NOw.nil _ _, HR0.out, fun e he => by simp at he, Below.refl _ _⟩
  case round =>
    clear HBS HR0
    obtain ⟨o, n, c, r, es, rfl, HN, hlen, HRV, HLV, HR, HSZ, HB⟩ := hrel
    have HBw := Lib.hid (HB1.out.trans (HB.out.mono HB1.out.size))
    have hws := HB.out.size
    by_cases hn0 : 0 < n
    · have hrn : r ≠ [] := by
        intro h
        have := HN.out
        rw [h] at this
        simp at this
        omega
      have HTK := Lib.hid (take_any r B _ wr (HRV.out.below HB.out) (HT1.out.below HB.out) (by rw [← HN.out]; omega))
      by_cases he : (oneT r).1 = 0
      · obtain ⟨e, hee⟩ : ∃ e, e = (oneT r).2.1 := ⟨_, rfl⟩
        obtain ⟨r2, hr2⟩ : ∃ r2, r2 = (oneT r).2.2 := ⟨_, rfl⟩
        have hol := oneT_len he
        rw [← hee, ← hr2] at hol
        have HX : Hid (R = parFrom r2 (es ++ [e])) := by show _ = _; rw [HR.out, parFrom_step hrn he, ← hee, ← hr2]
        have HTK2 : Hid (Calls Tryd.prog 32 #[.slice (some ⟨B, o, none⟩) n c] wr fun x w' => (∃ o2 n2 c2, x = .returned (.tuple #[.agg #[.int .i64 e.m, .string e.n, .string e.i], .slice (some ⟨B, o2, none⟩) n2 c2, .int .i64 0]) ∧ Hid (n2 = r2.length) ∧ Hid (BSl w' B (.slice (some ⟨B, o2, none⟩) n2 c2) r2)) ∧ Below wr.heap.size wr w') :=
          HTK.out.mono fun x w' ⟨⟨v, hx, hv⟩, hb⟩ => by
            have h := hv he
            rw [← hr2] at h
            have h' := h
            obtain ⟨o2, c2, rfl, _⟩ := h
            exact ⟨⟨o2, r2.length, c2, by rw [hx, he, ← hee]; rfl, rfl, h'⟩, hb⟩
        have hrl2 : r2.length + 21 ≤ n := by rw [HN.out]; exact hol.1
        have HSZ2 : Hid (∀ x ∈ es ++ [e], x.n.size ≤ 1000000 ∧ x.i.size ≤ 40) := fun x hx => by
          rw [List.mem_append, List.mem_singleton] at hx
          rcases hx with hx | rfl
          · exact HSZ.out x hx
          · exact ⟨by have := HN.out; omega, hol.2.2⟩
        clear HTK hrn he hee hr2 hol HR HSZ
        go_upto_region 7 with (go_at_call 32; ((with_reducible refine HTK2.out.mono ?_); rintro x w3 ⟨⟨o2, n2, c2, rfl, HN2, HV2⟩, hb3⟩; have hbs3 := hb3.size))
        obtain ⟨wb, hwb⟩ : ∃ wb, wb = w3.alloc (.cells #[.int .i64 e.m, .string e.n, .string e.i] 34) := ⟨_, rfl⟩
        obtain ⟨E, hE⟩ : ∃ E, E = w3.heap.size := ⟨_, rfl⟩
        have hbb : Below w3.heap.size w3 wb := by rw [hwb]; exact below_new (Below.refl _ _) _
        have hrow : wb.heap[E]? = some (.cells #[.int .i64 e.m, .string e.n, .string e.i] 34 (0, 0)) := by rw [hwb, hE]; exact heap_alloc_new _ _
        have e0 : wb.cell? ⟨E, 0, none⟩ = some (.int .i64 e.m) := cell_of_row wb _ 0 _ _ _ hrow
        have e1 : wb.cell? ⟨E, 1, none⟩ = some (.string e.n) := cell_of_row wb _ 1 _ _ _ hrow
        have e2 : wb.cell? ⟨E, 2, none⟩ = some (.string e.i) := cell_of_row wb _ 2 _ _ _ hrow
        have HB3 := Lib.hid (HB.out.trans (hb3.mono HB.out.size))
        have HBb := Lib.hid (HB3.out.trans (hbb.mono HB3.out.size))
        have HV3 := Lib.hid (HV2.out.back HB3.out hbs1)
        have ho4 := (HLV.out.below hb3).below hbb
        have hsb := HBb.out.size
        rw [← hwb, ← hE]
        clear hwb hE hbb hrow hb3 HV2 HLV HB3 HB
        go_upto_region 8 with (at_builtin; refine wp_no_one rfl _ _ rfl rfl ho4 e _ _ _ rfl rfl (by omega) hsb ?_; intro v4 w4 ho5 hg4)
        have HB4 := Lib.hid (ho4.bel1 HBb.out (Nat.le_refl _) hsb hg4)
        have HO5 := Lib.hid ho5
        have hl5 : n2 + 21 * (es ++ [e]).length ≤ 1000000 := by rw [List.length_append, List.length_singleton, HN2.out]; omega
        have hn2 : n2 < n := by rw [HN2.out]; omega
        clear hg4 ho5 ho4 e0 e1 e2
        go_wp2_with fail
        go_roundw
        case rel => exact ⟨o2, n2, c2, r2, es ++ [e], rfl, HN2.out, hl5, HV3.out, HO5.out, HX.out, HSZ2.out, HB4.out⟩
        case measure => simp [slnT]; omega
      · obtain ⟨d, hd⟩ : ∃ d, d = (oneT r).1 := ⟨_, rfl⟩
        have HX : Hid (R = (d, [])) := by show _ = _; rw [HR.out, parFrom_bad hrn he, ← hd]
        rw [← hd] at he
        have hdb : ((d : Int) != 0) = true := by simp; omega
        have HTK2 : Hid (Calls Tryd.prog 32 #[.slice (some ⟨B, o, none⟩) n c] wr fun x w' => (∃ m N I v2, x = .returned (.tuple #[.agg #[.int .i64 m, .string N, .string I], v2, .int .i64 (d : Int)])) ∧ Below wr.heap.size wr w') :=
          HTK.out.mono fun x w' ⟨⟨v, hx, _⟩, hb⟩ => ⟨⟨(oneT r).2.1.m, (oneT r).2.1.n, (oneT r).2.1.i, v, by rw [hx, hd]⟩, hb⟩
        clear HTK hrn he hd HR HSZ HLV HRV
        go_wp2_with (go_at_call 32; ((with_reducible refine HTK2.out.mono ?_); rintro x w3 ⟨⟨m, N, I, v2, rfl⟩, hb3⟩; have hbs3 := hb3.size))
        go_ret2
        exact parT_bad HX.out (below_new (HBw.out.trans (hb3.mono HBw.out.size)) _)
    · have hr0 : r = [] := by
        have := HN.out
        cases r with
        | nil => rfl
        | cons a l => simp at this; omega
      have HR2 : Hid (R = if chkT es = 0 then (0, es) else (chkT es, [])) := by show _ = _; rw [HR.out, hr0, parFrom_nil]
      obtain ⟨p, cp, rfl, hcp, hrw⟩ := HLV.out.rw
      obtain ⟨N, hN⟩ : ∃ N, N = es.length := ⟨_, rfl⟩
      have HCK := Lib.hid (tcheck_any es p cp N wr hN hrw (HT1.out.below HB.out) (fun _ e he => by have := HSZ.out e he; omega) (by omega))
      obtain ⟨C, hC⟩ : ∃ C, C = chkT es := ⟨_, rfl⟩
      rw [← hC] at HCK HR2
      rw [← hN] at HLV hcp ⊢
      have HNN := Lib.hid hN
      by_cases h0 : C = 0
      · have HX : Hid (R = (0, es)) := by show _ = _; rw [HR2.out, if_pos h0]
        have hcb : ((C : Int) != 0) = false := by simp [h0]
        clear hr0 hrw hN hC h0 HR HR2 HSZ HRV
        go_wp2_with (go_at_call 13; ((with_reducible refine HCK.out.mono ?_); rintro x w3 ⟨rfl, hb3⟩))
        go_ret2
        exact parT_ok HX.out (HLV.out.below hb3) (HBw.out.trans (hb3.mono HBw.out.size))
      · have HX : Hid (R = (C, [])) := by show _ = _; rw [HR2.out, if_neg h0]
        have hcb : ((C : Int) != 0) = true := by simp; omega
        clear hr0 hrw hN hC h0 HR HR2 HSZ HRV
        go_wp2_with (go_at_call 13; ((with_reducible refine HCK.out.mono ?_); rintro x w3 ⟨rfl, hb3⟩))
        go_ret2
        exact parT_bad HX.out (HBw.out.trans (hb3.mono HBw.out.size))
end Go.Proofs.YtjholoajgnpodaaDoor
