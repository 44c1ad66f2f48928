/-
  The walks of the reference's Parse and Same.
-/
import Derived.Test.YtddmnibioacelaaGreatDoorTrROne
import Derived.Test.YtddmnibioacelaaGreatDoorTrOwPk
import Derived.Test.YtddmnibioacelaaGreatDoorPtSplitPk
import Derived.Test.YtddmnibioacelaaGreatDoorIdHexPk
namespace Go.Proofs.YtddmnibioacelaaGreatDoor
open Go.RowKit

theorem str_none {s : ByteArray} (h : s.size = 0) : s.toList.isEmpty = true ∧ (s.toList == []) = true := by
  rw [ByteArray.toList_eq]
  have : s.data.toList = [] := List.eq_nil_of_length_eq_zero (by rw [list_len]; exact h)
  rw [this]
  exact ⟨rfl, rfl⟩
theorem str_some {s : ByteArray} (h : 0 < s.size) : s.toList.isEmpty = false ∧ (s.toList == []) = false := by
  rw [ByteArray.toList_eq]
  cases hx : s.data.toList with
  | nil => have := list_len s; rw [hx] at this; simp at this; omega
  | cons a l => exact ⟨rfl, rfl⟩
theorem oneT_rest {l : List UInt8} (h : (oneT l).1 = 0) : (oneT l).2.2 = l.drop (l.length - (oneT l).2.2.length) := by
  unfold oneT restT at h ⊢
  split at h
  · rename_i h0
    rcases modeT_no h0 with e | e
    · exact absurd (h.symm.trans e) (by decide)
    · exact absurd (h.symm.trans e) (by decide)
  · rename_i h0
    rw [if_neg h0]
    split at h
    · cases h
    · rename_i h1
      rw [if_neg h1]
      simp only [List.length_drop, List.drop_drop]
      rw [List.length_drop] at h1
      congr 1
      omega

set_option maxHeartbeats 4000000 in
set_option maxRecDepth 4000 in
theorem trparse_any (s : ByteArray) (w : World) (hs : s.size ≤ 1000000) :
    Calls Tryz.prog 70 #[.string s] w (ParT (parE s.data.toList) w) := by
  obtain ⟨R, hR⟩ : ∃ R, R = parE s.data.toList := ⟨_, rfl⟩
  rw [← hR]
  have HR0 : Hid (R = parFrom s.data.toList []) := hR
  clear hR
  go_enter Tryz.func70, Tryz.ntmps70
  go_wp2_with fail
  go_loopw [0, 4] (fun sv lv wr => ∃ (r : ByteArray) (es : List En), sv = .string r ∧ r.size + 21 * es.length ≤ 1000000 ∧ Hid (NOw wr w.heap.size lv es) ∧ Hid (R = parFrom r.data.toList es) ∧ Hid (∀ e ∈ es, e.n.size ≤ 1000000 ∧ e.i.size ≤ 40) ∧ Hid (Below w.heap.size w wr)) (fun sv _ _ => match sv with | .string r => r.size | _ => 0)
  case atStart => exact ⟨s, [], rfl, by simpa using hs, NOw.nil _ _, HR0.out, fun e he => by simp at he, Below.refl _ _⟩
  case round =>
    clear HR0
    obtain ⟨r, es, rfl, hlen, HLV, HR, HSZ, HB⟩ := hrel
    have hws := HB.out.size
    by_cases hn0 : 0 < r.size
    · obtain ⟨z1, z2⟩ := str_some hn0
      have hrn : r.data.toList ≠ [] := by
        intro h
        have := list_len r
        rw [h] at this
        simp at this
        omega
      have HTK := Lib.hid (rone_any r wr (by omega))
      by_cases he : (oneT r.data.toList).1 = 0
      · obtain ⟨e, hee⟩ : ∃ e, e = (oneT r.data.toList).2.1 := ⟨_, rfl⟩
        obtain ⟨r2, hr2⟩ : ∃ r2, r2 = (oneT r.data.toList).2.2 := ⟨_, rfl⟩
        have hol := oneT_len he
        have hrest := oneT_rest he
        rw [← hee, ← hr2, list_len] at hol
        rw [← hr2, list_len] at hrest
        obtain ⟨k, hk⟩ : ∃ k, k = r.size - r2.length := ⟨_, rfl⟩
        have HX : Hid (R = parFrom (r.extract k r.size).data.toList (es ++ [e])) := by
          show _ = _
          rw [HR.out, parFrom_step hrn he, ← hee, ← hr2, ext_bytes, List.take_of_length_le (by rw [List.length_drop, list_len]; exact Nat.le_refl _), hk, ← hrest]
        have HTK2 : Hid (Calls Tryz.prog 88 #[.string r] wr fun x w' => x = .returned (.tuple #[.agg #[.int .i64 e.m, .string e.n, .string e.i], .int .i64 (k : Int), .int .i64 0]) ∧ Below wr.heap.size wr w') :=
          HTK.out.mono fun x w' ⟨⟨z, hx, hv⟩, hb⟩ => by
            obtain ⟨k2, hz, hk2⟩ := hv he
            rw [← hr2] at hk2
            have hkk : k2 = k := (Nat.eq_sub_of_add_eq hk2).trans hk.symm
            rw [hkk] at hz
            exact ⟨by rw [hx, he, hz, ← hee]; rfl, hb⟩
        have hkr : k ≤ r.size := by omega
        have hk0 : (0 : Int) ≤ (k : Int) := by omega
        have hk1 : (k : Int) ≤ (r.size : Int) := by omega
        have HSZ2 : Hid (∀ x ∈ es ++ [e], x.n.size ≤ 1000000 ∧ x.i.size ≤ 40) := fun x hx => by
          rw [List.mem_append, List.mem_singleton] at hx
          rcases hx with hx | rfl
          · exact HSZ.out x hx
          · exact ⟨by omega, hol.2.2⟩
        have hsz2 : (r.extract k r.size).size + 21 ≤ r.size := by rw [ByteArray.size_extract]; omega
        have HK := Lib.hid hk
        clear HTK hrn he hee hr2 hol hrest HR HSZ hk
        go_upto_region 6 with (go_at_call 88; ((with_reducible refine HTK2.out.mono ?_); rintro x w3 ⟨rfl, hb3⟩; have hbs3 := hb3.size))
        obtain ⟨wb, hwb⟩ : ∃ wb, wb = w3.alloc (.cells #[.int .i64 e.m, .string e.n, .string e.i] 85) := ⟨_, rfl⟩
        obtain ⟨E, hE⟩ : ∃ E, E = w3.heap.size := ⟨_, rfl⟩
        have hbb : Below w3.heap.size w3 wb := by rw [hwb]; exact below_new (Below.refl _ _) _
        have hrow : wb.heap[E]? = some (.cells #[.int .i64 e.m, .string e.n, .string e.i] 85 (0, 0)) := by rw [hwb, hE]; exact heap_alloc_new _ _
        have e0 : wb.cell? ⟨E, 0, none⟩ = some (.int .i64 e.m) := cell_of_row wb _ 0 _ _ _ hrow
        have e1 : wb.cell? ⟨E, 1, none⟩ = some (.string e.n) := cell_of_row wb _ 1 _ _ _ hrow
        have e2 : wb.cell? ⟨E, 2, none⟩ = some (.string e.i) := cell_of_row wb _ 2 _ _ _ hrow
        have HB3 := Lib.hid (HB.out.trans (hb3.mono HB.out.size))
        have HBb := Lib.hid (HB3.out.trans (hbb.mono HB3.out.size))
        have ho4 := (HLV.out.below hb3).below hbb
        have hsb := HBb.out.size
        rw [← hwb, ← hE]
        clear hwb hE hbb hrow hb3 HLV HB3 HB
        go_upto_region 7 with (at_builtin; refine wp_no_one rfl _ _ rfl rfl ho4 e _ _ _ rfl rfl (by omega) hsb ?_; intro v4 w4 ho5 hg4)
        have HB4 := Lib.hid (ho4.bel1 HBb.out (Nat.le_refl _) hsb hg4)
        have HO5 := Lib.hid ho5
        have hl5 : (r.extract k r.size).size + 21 * (es ++ [e]).length ≤ 1000000 := by rw [List.length_append, List.length_singleton]; omega
        clear hg4 ho5 ho4 e0 e1 e2
        go_wp2_with fail
        go_roundw
        case rel => exact ⟨r.extract k r.size, es ++ [e], rfl, hl5, HO5.out, HX.out, HSZ2.out, HB4.out⟩
        case measure => simp only [Array.getD]; show (r.extract k r.size).size < r.size; omega
      · obtain ⟨d, hd⟩ : ∃ d, d = (oneT r.data.toList).1 := ⟨_, rfl⟩
        have HX : Hid (R = (d, [])) := by show _ = _; rw [HR.out, parFrom_bad hrn he, ← hd]
        rw [← hd] at he
        have hdb : ((d : Int) != 0) = true := by simp; omega
        have HTK2 : Hid (Calls Tryz.prog 88 #[.string r] wr fun x w' => (∃ m N I z, x = .returned (.tuple #[.agg #[.int .i64 m, .string N, .string I], .int .i64 z, .int .i64 (d : Int)])) ∧ Below wr.heap.size wr w') :=
          HTK.out.mono fun x w' ⟨⟨z, hx, _⟩, hb⟩ => ⟨⟨(oneT r.data.toList).2.1.m, (oneT r.data.toList).2.1.n, (oneT r.data.toList).2.1.i, z, by rw [hx, hd]⟩, hb⟩
        clear HTK hrn he hd HR HSZ HLV
        go_wp2_with (go_at_call 88; ((with_reducible refine HTK2.out.mono ?_); rintro x w3 ⟨⟨m, N, I, z, rfl⟩, hb3⟩; have hbs3 := hb3.size))
        go_ret2
        exact parT_bad HX.out (below_new (HB.out.trans (hb3.mono HB.out.size)) _)
    · obtain ⟨z1, z2⟩ := str_none (s := r) (by omega)
      have hr0 : r.data.toList = [] := List.eq_nil_of_length_eq_zero (by rw [list_len]; omega)
      have HR2 : Hid (R = if chkT es = 0 then (0, es) else (chkT es, [])) := by show _ = _; rw [HR.out, hr0, parFrom_nil]
      obtain ⟨p, cp, rfl, hcp, hrw⟩ := HLV.out.rw
      obtain ⟨N, hN⟩ : ∃ N, N = es.length := ⟨_, rfl⟩
      have HCK := Lib.hid (trcheck_any es p cp N wr hN hrw (fun _ e he => by have := HSZ.out e he; omega) (by omega))
      obtain ⟨C, hC⟩ : ∃ C, C = chkT es := ⟨_, rfl⟩
      rw [← hC] at HCK HR2
      rw [← hN] at HLV hcp ⊢
      have HNN := Lib.hid hN
      by_cases h0 : C = 0
      · have HX : Hid (R = (0, es)) := by show _ = _; rw [HR2.out, if_pos h0]
        have hcb : ((C : Int) != 0) = false := by simp [h0]
        clear hr0 hrw hN hC h0 HR HR2 HSZ
        go_wp2_with (go_at_call 89; ((with_reducible refine HCK.out.mono ?_); rintro x w3 ⟨rfl, hb3⟩))
        go_ret2
        exact parT_ok HX.out (HLV.out.below hb3) (HB.out.trans (hb3.mono HB.out.size))
      · have HX : Hid (R = (C, [])) := by show _ = _; rw [HR2.out, if_neg h0]
        have hcb : ((C : Int) != 0) = true := by simp; omega
        clear hr0 hrw hN hC h0 HR HR2 HSZ
        go_wp2_with (go_at_call 89; ((with_reducible refine HCK.out.mono ?_); rintro x w3 ⟨rfl, hb3⟩))
        go_ret2
        exact parT_bad HX.out (HB.out.trans (hb3.mono HB.out.size))
end Go.Proofs.YtddmnibioacelaaGreatDoor
/-
  Plain mathematics of hexadecimal there and back.
-/
namespace Go.Proofs.YtddmnibioacelaaGreatDoor
open Go.RowKit

theorem half_dig : ∀ n : Fin 16, halfOf (dig16 n.val) = some n.val := by decide
theorem hv_dig {n : Nat} (h : n < 16) : hv (dig16 n) = n := by rw [hv, half_dig ⟨n, h⟩]; rfl
theorem dig_of_half : ∀ b : Fin 256, (halfOf (UInt8.ofNat b.val)).isSome = true → dig16 (hv (UInt8.ofNat b.val)) = UInt8.ofNat b.val := by decide +kernel
theorem dig_half {b : UInt8} (h : (halfOf b).isSome = true) : dig16 (hv b) = b := by
  have e : UInt8.ofNat b.toNat = b := by simp
  have := dig_of_half ⟨b.toNat, UInt8.toNat_lt b⟩
  simp only [e] at this
  exact this h
theorem hexL_dig (l : List UInt8) : allDig (hexL l) = true := by
  induction l with
  | nil => rfl
  | cons b l ih =>
    have hb := UInt8.toNat_lt b
    rw [hexL, allDig, List.all_cons, List.all_cons, half_dig ⟨b.toNat / 16, by omega⟩, half_dig ⟨b.toNat % 16, by omega⟩]
    exact ih
theorem hexL_at (l : List UInt8) (i : Nat) (h : i < l.length) : (hexL l).getD (2 * i) 0 = dig16 ((l.getD i 0).toNat / 16) ∧ (hexL l).getD (2 * i + 1) 0 = dig16 ((l.getD i 0).toNat % 16) := by
  induction l generalizing i with
  | nil => simp at h
  | cons b l ih =>
    cases i with
    | zero => exact ⟨rfl, rfl⟩
    | succ i =>
      have := ih i (by simpa using h)
      rw [show 2 * (i + 1) = 2 * i + 1 + 1 by omega, hexL]
      exact this
theorem raw_hex (l : List UInt8) (n : Nat) (h : n ≤ l.length) : rawL (hexL l) n = l.take n := by
  induction n with
  | zero => rfl
  | succ n ih =>
    have ha := hexL_at l n (by omega)
    have hb := UInt8.toNat_lt (l.getD n 0)
    rw [rawL_next, ih (by omega), ha.1, ha.2, hv_dig (by omega), hv_dig (by omega), List.take_succ_eq_append_getElem (by omega : n < l.length), show (l.getD n 0).toNat / 16 * 16 + (l.getD n 0).toNat % 16 = (l.getD n 0).toNat by omega]
    congr 2
    simp [List.getD_eq_getElem?_getD, List.getElem?_eq_getElem (by omega : n < l.length)]
theorem hex_raw (l : List UInt8) (hd : allDig l = true) (n : Nat) (h : 2 * n ≤ l.length) : hexL (rawL l n) = l.take (2 * n) := by
  induction n with
  | zero => rfl
  | succ n ih =>
    have h1 : 2 * n < l.length := by omega
    have h2 : 2 * n + 1 < l.length := by omega
    have g1 : l.getD (2 * n) 0 = l[2 * n] := by simp [List.getD_eq_getElem?_getD, List.getElem?_eq_getElem h1]
    have g2 : l.getD (2 * n + 1) 0 = l[2 * n + 1] := by simp [List.getD_eq_getElem?_getD, List.getElem?_eq_getElem h2]
    have d1 := dig_half (List.all_eq_true.1 hd l[2 * n] (List.getElem_mem _))
    have d2 := dig_half (List.all_eq_true.1 hd l[2 * n + 1] (List.getElem_mem _))
    have x1 := hv_lt l[2 * n]
    have x2 := hv_lt l[2 * n + 1]
    rw [rawL_next, hexL_append, ih (by omega), g1, g2, show 2 * (n + 1) = 2 * n + 1 + 1 by omega, List.take_succ_eq_append_getElem h2, List.take_succ_eq_append_getElem h1, List.append_assoc]
    congr 1
    have e : (UInt8.ofNat (hv l[2 * n] * 16 + hv l[2 * n + 1])).toNat = hv l[2 * n] * 16 + hv l[2 * n + 1] := by simp; omega
    rw [hexL, hexL, e, show (hv l[2 * n] * 16 + hv l[2 * n + 1]) / 16 = hv l[2 * n] by omega, show (hv l[2 * n] * 16 + hv l[2 * n + 1]) % 16 = hv l[2 * n + 1] by omega, d1, d2]
    rfl
theorem isId_hex (s : ByteArray) : isId (str (hexL s.data.toList)) = decide (s.size = 20) := by
  rw [isId, str_size, hexL_len, list_len, str_list, hexL_dig, Bool.and_true]
  congr 1
  apply propext
  omega
end Go.Proofs.YtddmnibioacelaaGreatDoor
