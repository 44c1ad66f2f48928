/-
  The walks of the reference's Has, Whole and Links.
-/
import Derived.Test.YtddmnibioacelaaGreatDoorCmRPar
import Derived.Test.YtddmnibioacelaaGreatDoorCmRPTag
import Derived.Test.YtddmnibioacelaaGreatDoorCmLnk2Pk
import Derived.Test.YtddmnibioacelaaGreatDoorTrOwPk
import Derived.Test.YtddmnibioacelaaGreatDoorShaPlainPk
import Derived.Test.YtddmnibioacelaaGreatDoorCmArgsPk
import Derived.Test.YtddmnibioacelaaGreatDoorCmRTagPk
namespace Go.Proofs.YtddmnibioacelaaGreatDoor
open Go Go.RowKit Go.Maps Go.WideMaps

theorem mem_drop {X : List (List UInt8)} {x : List UInt8} {k : Nat} (h : k < X.length) : decide (x ∈ X.drop k) = (decide (X[k] = x) || decide (x ∈ X.drop (k + 1))) := by
  rw [List.drop_eq_getElem_cons h, Bool.eq_iff_iff]
  simp only [decide_eq_true_eq, Bool.or_eq_true, List.mem_cons]
  exact ⟨fun h => h.imp Eq.symm id, fun h => h.imp Eq.symm id⟩
set_option maxHeartbeats 1000000 in
set_option maxRecDepth 4000 in
theorem rhas_any (X : List (List UInt8)) (s : ByteArray) (p : Option Addr) (c n : Nat) (w : World) (hn : n = X.length) (hp : SRw w p X) (hl : n ≤ 1099511627776) :
    Calls Tryz.prog 71 #[.slice p n c, .string s] w fun e w' => e = .returned (.bool (decide (s.data.toList ∈ X))) ∧ w = w' := by
  obtain ⟨R, hR⟩ : ∃ R, R = decide (s.data.toList ∈ X) := ⟨_, rfl⟩
  rw [← hR]
  have HB : Hid (R = decide (s.data.toList ∈ X.drop 0)) := hR
  have HN := Lib.hid hn
  clear hR hn
  go_enter Tryz.func71, Tryz.ntmps71
  go_wp2
  go_loopw [5] (fun i wr => ∃ k : Nat, k ≤ n ∧ i = .int .i64 (k : Int) ∧ Hid (R = decide (s.data.toList ∈ X.drop k)) ∧ w = wr) (fun i _ => n - (intOf i).toNat)
  case atStart => exact ⟨0, by omega, rfl, HB.out, rfl⟩
  case round =>
    clear HB
    obtain ⟨k, hk, rfl, HB, rfl⟩ := hrel
    by_cases hlt : k < n
    · have hx : k < X.length := by rw [← HN.out]; exact hlt
      obtain ⟨g, o, rfl, hg, a0⟩ := hp k hx
      have hb := HB.out
      rw [mem_drop hx] at hb
      by_cases he : X[k] = s.data.toList
      · rw [decide_eq_true he, Bool.true_or] at hb
        have HR := Lib.hid hb
        rw [show str X[k] = s by rw [he]; rfl] at a0
        clear hg he hb HB hx hp
        go_wp2
        go_ret
        exact ⟨by rw [HR.out]; rfl, rfl⟩
      · rw [decide_eq_false he, Bool.false_or] at hb
        have HR := Lib.hid hb
        obtain ⟨t, ht⟩ : ∃ t, t = str X[k] := ⟨_, rfl⟩
        have hne : (t.toList == s.toList) = false := by
          rw [ByteArray.toList_eq, ByteArray.toList_eq, ht, str_list]
          simpa using he
        rw [← ht] at a0
        clear hg he hb HB hx ht
        go_wp2
        go_roundw
        case rel => exact ⟨k + 1, by omega, by go_num, HR.out, by first | trivial | rfl⟩
        case measure => simp [intOf]; omega
    · obtain rfl : k = n := by omega
      have HR : Hid (R = false) := by
        show _ = _
        rw [HB.out, List.drop_of_length_le (by have := HN.out; omega)]
        rfl
      clear HB
      go_wp2
      go_ret
      exact ⟨by rw [HR.out]; rfl, rfl⟩

theorem lnkL_zero {k : Int} {l : List UInt8} (h : (lnkL k l).1 = 0) : bytesE k l = 0 := by
  by_cases h0 : bytesE k l = 0
  · exact h0
  · rw [lnkL_err h0] at h
    exact h
theorem lnkL_nil {k : Int} {l : List UInt8} (h : (lnkL k l).1 ≠ 0) : (lnkL k l).2 = [] := by
  by_cases h0 : bytesE k l = 0
  · rcases bytesE_kinds h0 with rfl | rfl | rfl | rfl
    · rw [lnkL_1 h0]
    · rw [lnkL_2 h0] at h ⊢
      have : (parE l).1 ≠ 0 := h
      rw [trL, par_err this]
      rfl
    · rw [lnkL_3 h0] at h ⊢
      have : (parC l).1 ≠ 0 := h
      rw [cmL, if_neg this]
      rfl
    · rw [lnkL_4 h0] at h ⊢
      have : (parG l).1 ≠ 0 := h
      rw [tgL, if_neg this]
  · rw [lnkL_err h0]
set_option maxHeartbeats 4000000 in
set_option maxRecDepth 4000 in
theorem rwhole_any (k : Int) (b : ByteArray) (w : World) (hb : b.size ≤ 1000000) :
    Calls Tryz.prog 31 #[.agg #[.int .i64 k, .string b]] w fun e w' => e = .returned (.int .i64 ((lnkL k b.data.toList).1 : Int)) ∧ Below w.heap.size w w' := by
  obtain ⟨E, hE⟩ : ∃ E, E = bytesE k b.data.toList := ⟨_, rfl⟩
  obtain ⟨S, hS⟩ : ∃ S, S = str (bytesL k b.data.toList) := ⟨_, rfl⟩
  obtain ⟨R, hR⟩ : ∃ R, R = (lnkL k b.data.toList).1 := ⟨_, rfl⟩
  rw [← hR]
  obtain ⟨w1, hw1⟩ : ∃ w1, w1 = w.alloc (.cells #[.int .i64 k, .string b] 50) := ⟨_, rfl⟩
  have hx : w1.heap[w.heap.size]? = some (.cells #[.int .i64 k, .string b] 50 (0, 0)) := by rw [hw1]; exact heap_alloc_new w _
  have hbx : Below w.heap.size w w1 := by rw [hw1]; exact below_new (Below.refl _ _) _
  have x0 : w1.cell? ⟨w.heap.size, 0, none⟩ = some (.int .i64 k) := cell_of_row _ _ 0 _ _ _ hx
  have x1 : w1.cell? ⟨w.heap.size, 1, none⟩ = some (.string b) := cell_of_row _ _ 1 _ _ _ hx
  have HBX := Lib.hid hbx
  have HW1 := Lib.hid hw1
  have HBY : Hid (Calls Tryz.prog 72 #[.agg #[.int .i64 k, .string b]] w1 fun e w'' => e = .returned (.tuple #[.string S, .int .i64 (E : Int)]) ∧ Below w1.heap.size w1 w'') := by
    rw [hS, hE]
    exact rbytes_any k b w1 (by omega)
  have HT2 : Hid (∀ w', Calls Tryz.prog 70 #[.string b] w' fun e w'' => (∃ v, e = .returned (.tuple #[v, .int .i64 ((parE b.data.toList).1 : Int)])) ∧ Below w'.heap.size w' w'') := fun w' => (trparse_any b w' hb).mono fun e w'' ⟨⟨v, h1, _⟩, h2⟩ => ⟨⟨v, h1⟩, h2⟩
  have HT3 : Hid (∀ w', Calls Tryz.prog 16 #[.string b] w' fun e w'' => (∃ v, e = .returned (.tuple #[v, .int .i64 ((parC b.data.toList).1 : Int)])) ∧ Below w'.heap.size w' w'') := fun w' => (rcparse_any b w' (by omega)).mono fun e w'' ⟨⟨p, c, h1, _⟩, h2⟩ => ⟨⟨_, h1⟩, h2⟩
  have HT4 : Hid (∀ w', Calls Tryz.prog 18 #[.string b] w' fun e w'' => (∃ v, e = .returned (.tuple #[v, .int .i64 ((parG b.data.toList).1 : Int)])) ∧ Below w'.heap.size w' w'') := fun w' => (rgparse_any b w' (by omega)).mono fun e w'' ⟨h1, h2⟩ => ⟨⟨_, h1⟩, h2⟩
  have r4 : bytesE k b.data.toList = 0 → k = 4 → R = (parG b.data.toList).1 := fun h h' => by subst h'; rw [hR, lnkL_4 h]; rfl
  have r2 : bytesE k b.data.toList = 0 → k = 2 → R = (parE b.data.toList).1 := fun h h' => by subst h'; rw [hR, lnkL_2 h]; rfl
  have r3 : bytesE k b.data.toList = 0 → k = 3 → R = (parC b.data.toList).1 := fun h h' => by subst h'; rw [hR, lnkL_3 h]; rfl
  have r1 : bytesE k b.data.toList = 0 → ¬ k = 2 → ¬ k = 3 → ¬ k = 4 → R = 0 := fun h h2 h3 h4 => by
    rcases bytesE_kinds h with h' | h' | h' | h'
    · subst h'; rw [hR, lnkL_1 h]
    · exact absurd h' h2
    · exact absurd h' h3
    · exact absurd h' h4
  have re : bytesE k b.data.toList ≠ 0 → R = bytesE k b.data.toList := fun h => by rw [hR, lnkL_err h]
  rw [← hE] at r1 r2 r3 r4 re
  obtain ⟨C2, hC2⟩ : ∃ C, C = (parE b.data.toList).1 := ⟨_, rfl⟩
  obtain ⟨C3, hC3⟩ : ∃ C, C = (parC b.data.toList).1 := ⟨_, rfl⟩
  obtain ⟨C4, hC4⟩ : ∃ C, C = (parG b.data.toList).1 := ⟨_, rfl⟩
  rw [← hC2] at HT2 r2
  rw [← hC3] at HT3 r3
  rw [← hC4] at HT4 r4
  clear hE hS hR hw1 hx hbx hC2 hC3 hC4 hb
  by_cases h0 : E = 0
  case neg =>
    have HQ := Lib.hid (re h0)
    have g0 : ((E : Int) != 0) = true := by simp; omega
    clear r1 r2 r3 r4 re h0
    go_enter Tryz.func31, Tryz.ntmps31
    go_upto_region 1 with fail
    rw [← HW1.out]
    go_wp2_with (go_at_call 72; ((with_reducible refine (HBY.out).mono ?_); rintro e w2 ⟨rfl, hb2⟩))
    go_ret
    exact ⟨by rw [HQ.out]; rfl, HBX.out.trans (hb2.mono HBX.out.size)⟩
  have g0 : ((E : Int) != 0) = false := by simp [h0]
  have q1 := Lib.hid (r1 h0)
  have q2 := Lib.hid (r2 h0)
  have q3 := Lib.hid (r3 h0)
  have q4 := Lib.hid (r4 h0)
  have HE0 : Hid ((0 : Nat) = E) := h0.symm
  clear r1 r2 r3 r4 re h0
  by_cases k2 : k = 2
  · have HQ := Lib.hid (q2.out k2)
    have g2 : (k == 2) = true := by simp [k2]
    clear q1 q2 q3 q4 k2
    go_enter Tryz.func31, Tryz.ntmps31
    go_upto_region 1 with fail
    rw [← HW1.out]
    go_wp2_with (first
      | (go_at_call 72; ((with_reducible refine (HBY.out).mono ?_); rintro e w2 ⟨rfl, hb2⟩; have y0 := cell_bel x0 hb2; have y1 := cell_bel x1 hb2))
      | (go_at_call 70; ((with_reducible refine (HT2.out _).mono ?_); rintro e w3 ⟨⟨v, rfl⟩, hb3⟩)))
    go_ret
    exact ⟨by rw [HQ.out]; rfl, HBX.out.trans ((hb2.trans (hb3.mono hb2.size)).mono HBX.out.size)⟩
  have g2 : (k == 2) = false := by simp [k2]
  by_cases k3 : k = 3
  · have HQ := Lib.hid (q3.out k3)
    have g3 : (k == 3) = true := by simp [k3]
    clear q1 q2 q3 q4 k2 k3
    go_enter Tryz.func31, Tryz.ntmps31
    go_upto_region 1 with fail
    rw [← HW1.out]
    go_wp2_with (first
      | (go_at_call 72; ((with_reducible refine (HBY.out).mono ?_); rintro e w2 ⟨rfl, hb2⟩; have y0 := cell_bel x0 hb2; have y1 := cell_bel x1 hb2))
      | (go_at_call 16; ((with_reducible refine (HT3.out _).mono ?_); rintro e w3 ⟨⟨v, rfl⟩, hb3⟩)))
    go_ret
    exact ⟨by rw [HQ.out]; rfl, HBX.out.trans ((hb2.trans (hb3.mono hb2.size)).mono HBX.out.size)⟩
  have g3 : (k == 3) = false := by simp [k3]
  by_cases k4 : k = 4
  · have HQ := Lib.hid (q4.out k4)
    have g4 : (k == 4) = true := by simp [k4]
    clear q1 q2 q3 q4 k2 k3 k4
    go_enter Tryz.func31, Tryz.ntmps31
    go_upto_region 1 with fail
    rw [← HW1.out]
    go_wp2_with (first
      | (go_at_call 72; ((with_reducible refine (HBY.out).mono ?_); rintro e w2 ⟨rfl, hb2⟩; have y0 := cell_bel x0 hb2; have y1 := cell_bel x1 hb2))
      | (go_at_call 18; ((with_reducible refine (HT4.out _).mono ?_); rintro e w3 ⟨⟨v, rfl⟩, hb3⟩)))
    go_ret
    exact ⟨by rw [HQ.out]; rfl, HBX.out.trans ((hb2.trans (hb3.mono hb2.size)).mono HBX.out.size)⟩
  have g4 : (k == 4) = false := by simp [k4]
  have HQ : Hid (R = E) := by show _ = _; rw [q1.out k2 k3 k4]; exact HE0.out
  clear q1 q2 q3 q4 k2 k3 k4
  go_enter Tryz.func31, Tryz.ntmps31
  go_upto_region 1 with fail
  rw [← HW1.out]
  go_wp2_with (go_at_call 72; ((with_reducible refine (HBY.out).mono ?_); rintro e w2 ⟨rfl, hb2⟩; have y0 := cell_bel x0 hb2; have y1 := cell_bel x1 hb2))
  go_ret
  exact ⟨by rw [HQ.out]; rfl, HBX.out.trans (hb2.mono HBX.out.size)⟩

set_option maxHeartbeats 8000000 in
set_option maxRecDepth 8000 in
theorem rlinks_any (k : Int) (b : ByteArray) (w : World) (hb : b.size ≤ 1000000) :
    Calls Tryz.prog 29 #[.agg #[.int .i64 k, .string b]] w (LnkR (lnkL k b.data.toList) w) := by
  have fW := fun w' => rwhole_any k b w' hb
  have fT2 := fun w' => trparse_any b w' hb
  have fT3 := fun w' => rcparse_any b w' (by omega)
  have fT4 := fun w' => rgparse_any b w' (by omega)
  have hz := @lnkL_zero k b.data.toList
  have hnil := @lnkL_nil k b.data.toList
  have h2len := parE_len b.data.toList
  have h3len := @parC_len b.data.toList
  obtain ⟨⟨K, LL⟩, hR⟩ : ∃ q, q = lnkL k b.data.toList := ⟨_, rfl⟩
  rw [← hR] at fW hz hnil ⊢
  simp only at fW hz hnil
  obtain ⟨w1, hw1⟩ : ∃ w1, w1 = w.alloc (.cells #[.int .i64 k, .string b] 50) := ⟨_, rfl⟩
  have hx : w1.heap[w.heap.size]? = some (.cells #[.int .i64 k, .string b] 50 (0, 0)) := by rw [hw1]; exact heap_alloc_new w _
  have hbx : Below w.heap.size w w1 := by rw [hw1]; exact below_new (Below.refl _ _) _
  have x0 : w1.cell? ⟨w.heap.size, 0, none⟩ = some (.int .i64 k) := cell_of_row _ _ 0 _ _ _ hx
  have x1 : w1.cell? ⟨w.heap.size, 1, none⟩ = some (.string b) := cell_of_row _ _ 1 _ _ _ hx
  have HBX := Lib.hid hbx
  have HW1 := Lib.hid hw1
  have HWH := Lib.hid (fW w1)
  clear fW hw1 hx hbx hb
  by_cases h0 : K = 0
  case neg =>
    have HQ : Hid (LL = []) := hnil h0
    have g0 : ((K : Int) != 0) = true := by simp; omega
    clear fT2 fT3 fT4 hz hnil h0 h2len h3len hR
    go_enter Tryz.func29, Tryz.ntmps29
    go_upto_region 1 with fail
    rw [← HW1.out]
    go_wp2_with (go_at_call 31; ((with_reducible refine (HWH.out).mono ?_); rintro e w2 ⟨rfl, hb2⟩))
    go_ret2
    rw [HQ.out]
    exact ⟨⟨_, rfl, SOw.nil _ _⟩, HBX.out.trans (hb2.mono HBX.out.size)⟩
  have g0 : ((K : Int) != 0) = false := by simp [h0]
  have hE0 := hz h0
  have HR := Lib.hid hR
  have HKK := Lib.hid h0
  clear hz hnil h0 hR
  go_enter Tryz.func29, Tryz.ntmps29
  go_upto_region 1 with fail
  rw [← HW1.out]
  go_upto_region 4 with (go_at_call 31; ((with_reducible refine (HWH.out).mono ?_); rintro e w2 ⟨rfl, hb2⟩; have y0 := cell_bel x0 hb2; have y1 := cell_bel x1 hb2))
  have HB2 := Lib.hid (HBX.out.trans (hb2.mono HBX.out.size))
  clear x0 x1 HWH hb2 HBX HW1
  by_cases k2 : k = 2
  · subst k2
    have hL := lnkL_2 hE0
    rw [← HR.out] at hL
    have h3 := fT2 w2
    obtain ⟨⟨C, es⟩, hes⟩ : ∃ q, q = parE b.data.toList := ⟨_, rfl⟩
    rw [trL, ← hes] at hL
    rw [← hes] at h3 h2len
    simp only at hL h2len
    obtain ⟨ALL, hA⟩ : ∃ A, A = tids es := ⟨_, rfl⟩
    have HQ : Hid (LL = disL ALL) := by show _ = _; rw [hA]; exact (Prod.mk.inj hL).2
    have hALL : ALL.length ≤ 1100 := by rw [hA, tids, List.length_map]; omega
    have HTP := Lib.hid h3
    have HAA := Lib.hid hA
    clear h3 hL hes hA fT2 fT3 fT4 h3len hE0 HR
    go_upto_region 8 with (go_at_call 70; ((with_reducible refine (HTP.out).mono ?_); rintro e w3 ⟨⟨v, rfl, p, c, rfl, hcap, hrow⟩, hb3⟩))
    obtain ⟨n, hn⟩ : ∃ n, n = es.length := ⟨_, rfl⟩
    rw [← hn] at h2len ⊢
    have HN := Lib.hid hn
    have HP := Lib.hid hrow
    have HB3 := Lib.hid (HB2.out.trans (hb3.mono HB2.out.size))
    clear hn hrow hb3 hcap HTP y0 y1
    go_wp2_with fail
    go_loopw [5, 8] (fun ov iv wr => ∃ (k : Nat) (os : List (List UInt8)), k ≤ n ∧ iv = .int .i64 (k : Int) ∧ SOw wr w3.heap.size ov os ∧ os.length = k ∧ Hid (os = tids (es.take k)) ∧ Hid (Below w3.heap.size w3 wr)) (fun _ iv _ => n - (intOf iv).toNat)
    case atStart => exact ⟨0, [], by omega, rfl, SOw.nil _ _, rfl, rfl, Below.refl _ _⟩
    case round =>
      obtain ⟨k, os, hk, rfl, ho, hol, HO, HB⟩ := hrel
      by_cases hlt : k < n
      · have hkl : k < es.length := by rw [← HN.out]; exact hlt
        obtain ⟨e, he⟩ : ∃ e, e = es[k] := ⟨_, rfl⟩
        obtain ⟨g, o, rfl, hg, a0, a1, a2⟩ := HP.out.below HB.out k hkl
        rw [← he] at a0 a1 a2
        have HO2 : Hid (os ++ [e.i.data.toList] = tids (es.take (k + 1))) := by show _ = _; rw [tids_take hkl, ← he, HO.out]
        obtain ⟨m', n', i'⟩ := e
        simp only at a0 a1 a2 HO2
        have hbs := HB.out.size
        clear he hkl hg
        go_wp2_with (at_builtin; refine wp_so_one rfl _ _ rfl rfl ho i' rfl (by omega) hbs ?_; intro v4 w4 ho4 hg4; have hb4 := ho.bel1 HB.out (Nat.le_refl _) hbs hg4)
        go_roundw
        case rel => exact ⟨k + 1, _, by omega, by go_num, ho4, by simp [hol], HO2.out, hb4⟩
        case measure => simp [intOf]; omega
      · obtain rfl : k = n := by omega
        obtain ⟨pv0, cv0, rfl, -⟩ := ho.rw
        obtain ⟨v, hvv⟩ : ∃ v, v = Value.slice pv0 os.length cv0 := ⟨_, rfl⟩
        rw [← hvv] at ho ⊢
        obtain ⟨wt, hwt⟩ : ∃ wt, wt = wr := ⟨_, rfl⟩
        have HV : Hid (SOw wt w3.heap.size v ALL) := by
          show SOw _ _ _ _
          rw [HAA.out, hwt, show tids es = os by rw [HO.out, List.take_of_length_le (by have := HN.out; omega)]]
          exact ho
        have HT : Hid (Below w.heap.size w wt) := by rw [hwt]; exact HB3.out.trans (HB.out.mono HB3.out.size)
        rw [← hwt]
        clear hwt ho HO HB HP HN hol hlt hk h2len hvv
        obtain ⟨pv, cv, rfl, hrow⟩ := HV.out.rw
        obtain ⟨n, hn⟩ : ∃ n, n = ALL.length := ⟨_, rfl⟩
        rw [← hn] at hALL ⊢
        have HN := Lib.hid hn
        have HP := Lib.hid hrow
        have hBw := HT.out.size
        clear hn hrow HV
        go_wp2_with fail
        go_loopw [13, 14] (fun ov iv wx => ∃ (j : Nat) (os : List (List UInt8)), j ≤ n ∧ iv = .int .i64 (j : Int) ∧ SOw wx wt.heap.size ov os ∧ os.length ≤ j ∧ Hid (os = disL (ALL.take j)) ∧ Hid (Below wt.heap.size wt wx)) (fun _ iv _ => n - (intOf iv).toNat)
        case atStart => exact ⟨0, [], by omega, rfl, SOw.nil _ _, by simp, by show _ = _; rfl, Below.refl _ _⟩
        case round =>
          obtain ⟨j, os, hj, rfl, ho, hol, HO, HB⟩ := hrel
          by_cases hlt : j < n
          · have hjl : j < ALL.length := by rw [← HN.out]; exact hlt
            obtain ⟨y, hy⟩ : ∃ y, y = str ALL[j] := ⟨_, rfl⟩
            have hyl : ALL[j] = y.data.toList := by rw [hy]; rfl
            have htk := disL_take hjl
            rw [← HO.out] at htk
            have hmem : ALL[j] ∈ ALL.take j ↔ y.data.toList ∈ os := by rw [HO.out, disL_mem, hyl]
            obtain ⟨g, o, rfl, hg, a0⟩ := HP.out.below HB.out j hjl
            rw [← hy] at a0
            obtain ⟨q, cq, rfl, hq⟩ := ho.rw
            obtain ⟨m, hm⟩ : ∃ m, m = os.length := ⟨_, rfl⟩
            have HH := rhas_any os y q cq m wr hm hq (by omega)
            rw [← hm] at ho hol ⊢
            have HM := Lib.hid hm
            by_cases hin : y.data.toList ∈ os
            · rw [decide_eq_true hin] at HH
              have HHH := Lib.hid HH
              have HO2 : Hid (os = disL (ALL.take (j + 1))) := by show _ = _; rw [htk, if_pos (hmem.mpr hin)]
              have HOS := Lib.hid ho
              clear hy hyl htk hmem hm HH hin hjl hg hq ho HO
              go_wp2_with (go_at_call 71; ((with_reducible refine (HHH.out).mono ?_); rintro e w3 ⟨rfl, rfl⟩))
              go_roundw
              case rel => exact ⟨j + 1, os, by omega, by go_num, HOS.out, by have := HM.out; omega, HO2.out, HB.out⟩
              case measure => simp [intOf]; omega
            · rw [decide_eq_false hin] at HH
              have HHH := Lib.hid HH
              have HO2 : Hid (os ++ [y.data.toList] = disL (ALL.take (j + 1))) := by show _ = _; rw [htk, if_neg (fun h => hin (hmem.mp h)), hyl]
              have hbs := HB.out.size
              have hom : os.length ≤ 1100 := by omega
              clear hy hyl htk hmem hm HH hin hjl hg hq HO
              go_wp2_with (first
                | (go_at_call 71; ((with_reducible refine (HHH.out).mono ?_); rintro e w3 ⟨rfl, rfl⟩))
                | (at_builtin; refine wp_so_one rfl _ _ rfl rfl ho y rfl (by omega) hbs ?_; intro v4 w4 ho4 hg4; have hb4 := ho.bel1 HB.out (Nat.le_refl _) hbs hg4))
              go_roundw
              case rel => exact ⟨j + 1, _, by omega, by go_num, ho4, by have := HM.out; simp; omega, HO2.out, hb4⟩
              case measure => simp [intOf]; omega
          · obtain rfl : j = n := by omega
            have HX : Hid (os = disL ALL) := by
              show _ = _
              rw [HO.out, List.take_of_length_le (by have := HN.out; omega)]
            have HOO := Lib.hid ho
            clear ho
            go_wp2_with fail
            go_ret2
            rw [HQ.out]
            refine ⟨⟨_, by show _ = Ending.returned (.tuple #[_, .int .i64 ((K : Nat) : Int)]); rw [HKK.out]; rfl, ?_⟩, HT.out.trans (HB.out.mono HT.out.size)⟩
            show SOw _ _ _ (disL ALL)
            rw [← HX.out]
            exact HOO.out.mono hBw
  have g2 : (k == 2) = false := by simp [k2]
  by_cases k3 : k = 3
  · subst k3
    have hL := lnkL_3 hE0
    rw [← HR.out] at hL
    have h3 := fT3 w2
    obtain ⟨⟨C, ⟨t, ps, ⟨an, am, aT, az⟩, ⟨cn, cm, cT, cz⟩, x⟩⟩, hes⟩ : ∃ q, q = parC b.data.toList := ⟨_, rfl⟩
    rw [cmL, ← hes] at hL
    rw [← hes] at h3 h3len
    simp only at hL h3len
    have hC0 : C = 0 := by rw [← (Prod.mk.inj hL).1]; exact HKK.out
    rw [if_pos hC0] at hL
    have hpl := h3len hC0
    obtain ⟨ALL, hA⟩ : ∃ A, A = t.data.toList :: ps := ⟨_, rfl⟩
    have HQ : Hid (LL = disL ALL) := by show _ = _; rw [hA]; exact (Prod.mk.inj hL).2
    have hALL : ALL.length ≤ 1100 := by rw [hA, List.length_cons]; omega
    have HTP := Lib.hid h3
    have HAA := Lib.hid hA
    clear h3 hL hes hA fT2 fT3 fT4 h2len h3len hE0 HR hC0 k2
    go_upto_region 14 with (go_at_call 16; ((with_reducible refine (HTP.out).mono ?_); rintro e w3 ⟨⟨p, cap, rfl, hrow⟩, hb3⟩; simp only at hrow))
    obtain ⟨n, hn⟩ : ∃ n, n = ps.length := ⟨_, rfl⟩
    rw [← hn] at hpl ⊢
    obtain ⟨P, hP⟩ : ∃ P, P = w3.heap.size := ⟨_, rfl⟩
    obtain ⟨w4, hw4⟩ : ∃ w4, w4 = w3.alloc (.cells #[.string t, .slice p n cap, .string an, .string am, .int .i64 aT, .int .i64 az, .string cn, .string cm, .int .i64 cT, .int .i64 cz, .string x] 26) := ⟨_, rfl⟩
    have hp4 : w4.heap[P]? = some (.cells #[.string t, .slice p n cap, .string an, .string am, .int .i64 aT, .int .i64 az, .string cn, .string cm, .int .i64 cT, .int .i64 cz, .string x] 26 (0, 0)) := by rw [hw4, hP]; exact heap_alloc_new _ _
    have ha4 : Below w3.heap.size w3 w4 := by rw [hw4]; exact below_new (Below.refl _ _) _
    have hr4 := hrow.below ha4
    have hb4 := HB2.out.trans ((hb3.trans (ha4.mono hb3.size)).mono HB2.out.size)
    have hbase : w4.heap.size ≤ w4.heap.size := Nat.le_refl _
    have hbase2 := hb4.size
    have ho0 : SOw w4 w4.heap.size (.slice none 0 0) [] := SOw.nil _ _
    rw [← hw4, ← hP]
    obtain ⟨u0, u1, u2, u3, u4, u5, u6, u7, u8, u9, u10⟩ := cm_at hp4
    have HP4 := Lib.hid hp4
    have HR4 := Lib.hid hr4
    have HB4 := Lib.hid hb4
    have HN := Lib.hid hn
    clear hw4 hP hp4 hrow hb3 ha4 hr4 hn HTP HB2 y0 y1 hb4
    go_upto_region 15 with (at_builtin; refine wp_so_one rfl _ _ rfl rfl ho0 t rfl (by simp) hbase ?_; intro v5 w5 ho5 hg5; have hb5 := ho0.bel1 (Below.refl _ _) hbase hbase hg5)
    have HR5 := Lib.hid (HR4.out.below hb5)
    have hbase5 := hb5.size
    clear u0 u1 u2 u3 u4 u5 u6 u7 u8 u9 u10
    obtain ⟨u0, u1, u2, u3, u4, u5, u6, u7, u8, u9, u10⟩ := cm_at ((hb5.block _ (row_lt HP4.out)).trans HP4.out)
    go_upto_region 16 with (at_builtin; refine wp_so_many rfl _ _ rfl rfl ho5 p n cap rfl HN.out HR5.out (by simp; omega) hbase5 ?_; intro v6 w6 ho6 hg6; have hb6 := hb5.grown hg6 hbase5 (fun k hk => (World.ownsRow.lt ho5 k hk).1))
    obtain ⟨wt, hwt⟩ : ∃ wt, wt = w6 := ⟨_, rfl⟩
    have HV : Hid (SOw wt w4.heap.size v6 ALL) := by
      show SOw _ _ _ _
      rw [HAA.out, hwt]
      exact ho6
    have HT : Hid (Below w.heap.size w wt) := by rw [hwt]; exact HB4.out.trans (hb6.mono HB4.out.size)
    rw [← hwt]
    clear hwt ho6 ho5 ho0 hg5 hg6 hb5 hb6 HR5 HP4 HR4 HB4 u0 u1 u2 u3 u4 u5 u6 u7 u8 u9 u10 HN hbase hbase2 hbase5 hpl
    obtain ⟨pv, cv, rfl, hrow⟩ := HV.out.rw
    obtain ⟨n, hn⟩ : ∃ n, n = ALL.length := ⟨_, rfl⟩
    rw [← hn] at hALL ⊢
    have HN := Lib.hid hn
    have HP := Lib.hid hrow
    have hBw := HT.out.size
    clear hn hrow HV
    go_wp2_with fail
    go_loopw [13, 14] (fun ov iv wx => ∃ (j : Nat) (os : List (List UInt8)), j ≤ n ∧ iv = .int .i64 (j : Int) ∧ SOw wx wt.heap.size ov os ∧ os.length ≤ j ∧ Hid (os = disL (ALL.take j)) ∧ Hid (Below wt.heap.size wt wx)) (fun _ iv _ => n - (intOf iv).toNat)
    case atStart => exact ⟨0, [], by omega, rfl, SOw.nil _ _, by simp, by show _ = _; rfl, Below.refl _ _⟩
    case round =>
      obtain ⟨j, os, hj, rfl, ho, hol, HO, HB⟩ := hrel
      by_cases hlt : j < n
      · have hjl : j < ALL.length := by rw [← HN.out]; exact hlt
        obtain ⟨y, hy⟩ : ∃ y, y = str ALL[j] := ⟨_, rfl⟩
        have hyl : ALL[j] = y.data.toList := by rw [hy]; rfl
        have htk := disL_take hjl
        rw [← HO.out] at htk
        have hmem : ALL[j] ∈ ALL.take j ↔ y.data.toList ∈ os := by rw [HO.out, disL_mem, hyl]
        obtain ⟨g, o, rfl, hg, a0⟩ := HP.out.below HB.out j hjl
        rw [← hy] at a0
        obtain ⟨q, cq, rfl, hq⟩ := ho.rw
        obtain ⟨m, hm⟩ : ∃ m, m = os.length := ⟨_, rfl⟩
        have HH := rhas_any os y q cq m wr hm hq (by omega)
        rw [← hm] at ho hol ⊢
        have HM := Lib.hid hm
        by_cases hin : y.data.toList ∈ os
        · rw [decide_eq_true hin] at HH
          have HHH := Lib.hid HH
          have HO2 : Hid (os = disL (ALL.take (j + 1))) := by show _ = _; rw [htk, if_pos (hmem.mpr hin)]
          have HOS := Lib.hid ho
          clear hy hyl htk hmem hm HH hin hjl hg hq ho HO
          go_wp2_with (go_at_call 71; ((with_reducible refine (HHH.out).mono ?_); rintro e w3 ⟨rfl, rfl⟩))
          go_roundw
          case rel => exact ⟨j + 1, os, by omega, by go_num, HOS.out, by have := HM.out; omega, HO2.out, HB.out⟩
          case measure => simp [intOf]; omega
        · rw [decide_eq_false hin] at HH
          have HHH := Lib.hid HH
          have HO2 : Hid (os ++ [y.data.toList] = disL (ALL.take (j + 1))) := by show _ = _; rw [htk, if_neg (fun h => hin (hmem.mp h)), hyl]
          have hbs := HB.out.size
          have hom : os.length ≤ 1100 := by omega
          clear hy hyl htk hmem hm HH hin hjl hg hq HO
          go_wp2_with (first
            | (go_at_call 71; ((with_reducible refine (HHH.out).mono ?_); rintro e w3 ⟨rfl, rfl⟩))
            | (at_builtin; refine wp_so_one rfl _ _ rfl rfl ho y rfl (by omega) hbs ?_; intro v4 w4 ho4 hg4; have hb4 := ho.bel1 HB.out (Nat.le_refl _) hbs hg4))
          go_roundw
          case rel => exact ⟨j + 1, _, by omega, by go_num, ho4, by have := HM.out; simp; omega, HO2.out, hb4⟩
          case measure => simp [intOf]; omega
      · obtain rfl : j = n := by omega
        have HX : Hid (os = disL ALL) := by
          show _ = _
          rw [HO.out, List.take_of_length_le (by have := HN.out; omega)]
        have HOO := Lib.hid ho
        clear ho
        go_wp2_with fail
        go_ret2
        rw [HQ.out]
        refine ⟨⟨_, by show _ = Ending.returned (.tuple #[_, .int .i64 ((K : Nat) : Int)]); rw [HKK.out]; rfl, ?_⟩, HT.out.trans (HB.out.mono HT.out.size)⟩
        show SOw _ _ _ (disL ALL)
        rw [← HX.out]
        exact HOO.out.mono hBw
  have g3 : (k == 3) = false := by simp [k3]
  by_cases k4 : k = 4
  · subst k4
    have hL := lnkL_4 hE0
    rw [← HR.out] at hL
    have h3 := fT4 w2
    obtain ⟨⟨C, ⟨o, kk, nn, ⟨an, am, aT, az⟩, x⟩⟩, hes⟩ : ∃ q, q = parG b.data.toList := ⟨_, rfl⟩
    rw [tgL, ← hes] at hL
    rw [← hes] at h3
    simp only at hL
    have hC0 : C = 0 := by rw [← (Prod.mk.inj hL).1]; exact HKK.out
    rw [if_pos hC0] at hL
    obtain ⟨ALL, hA⟩ : ∃ A, A = [o.data.toList] := ⟨_, rfl⟩
    have HQ : Hid (LL = disL ALL) := by show _ = _; rw [hA]; exact (Prod.mk.inj hL).2
    have hALL : ALL.length ≤ 1100 := by rw [hA]; simp
    have HTP := Lib.hid h3
    have HAA := Lib.hid hA
    clear h3 hL hes hA fT2 fT3 fT4 h2len h3len hE0 HR hC0 k2 k3
    go_upto_region 18 with (go_at_call 18; ((with_reducible refine (HTP.out).mono ?_); rintro e w3 ⟨rfl, hb3⟩))
    obtain ⟨P, hP⟩ : ∃ P, P = w3.heap.size := ⟨_, rfl⟩
    obtain ⟨w4, hw4⟩ : ∃ w4, w4 = w3.alloc (.cells #[.string o, .int .i64 kk, .string nn, .string an, .string am, .int .i64 aT, .int .i64 az, .string x] 37) := ⟨_, rfl⟩
    have hp4 : w4.heap[P]? = some (.cells #[.string o, .int .i64 kk, .string nn, .string an, .string am, .int .i64 aT, .int .i64 az, .string x] 37 (0, 0)) := by rw [hw4, hP]; exact heap_alloc_new _ _
    have ha4 : Below w3.heap.size w3 w4 := by rw [hw4]; exact below_new (Below.refl _ _) _
    have hb4 := HB2.out.trans ((hb3.trans (ha4.mono hb3.size)).mono HB2.out.size)
    have hbase : w4.heap.size ≤ w4.heap.size := Nat.le_refl _
    have ho0 : SOw w4 w4.heap.size (.slice none 0 0) [] := SOw.nil _ _
    rw [← hw4, ← hP]
    obtain ⟨u0, u1, u2, u3, u4, u5, u6, u7⟩ := tg_at hp4
    have HB4 := Lib.hid hb4
    clear hw4 hP hp4 hb3 ha4 HTP HB2 y0 y1 hb4
    go_upto_region 19 with (at_builtin; refine wp_so_one rfl _ _ rfl rfl ho0 o rfl (by simp) hbase ?_; intro v5 w5 ho5 hg5; have hb5 := ho0.bel1 (Below.refl _ _) hbase hbase hg5)
    obtain ⟨wt, hwt⟩ : ∃ wt, wt = w5 := ⟨_, rfl⟩
    have HV : Hid (SOw wt w4.heap.size v5 ALL) := by
      show SOw _ _ _ _
      rw [HAA.out, hwt]
      exact ho5
    have HT : Hid (Below w.heap.size w wt) := by rw [hwt]; exact HB4.out.trans (hb5.mono HB4.out.size)
    rw [← hwt]
    clear hwt ho5 ho0 hg5 hb5 HB4 u0 u1 u2 u3 u4 u5 u6 u7 hbase
    obtain ⟨pv, cv, rfl, hrow⟩ := HV.out.rw
    obtain ⟨n, hn⟩ : ∃ n, n = ALL.length := ⟨_, rfl⟩
    rw [← hn] at hALL ⊢
    have HN := Lib.hid hn
    have HP := Lib.hid hrow
    have hBw := HT.out.size
    clear hn hrow HV
    go_wp2_with fail
    go_loopw [13, 14] (fun ov iv wx => ∃ (j : Nat) (os : List (List UInt8)), j ≤ n ∧ iv = .int .i64 (j : Int) ∧ SOw wx wt.heap.size ov os ∧ os.length ≤ j ∧ Hid (os = disL (ALL.take j)) ∧ Hid (Below wt.heap.size wt wx)) (fun _ iv _ => n - (intOf iv).toNat)
    case atStart => exact ⟨0, [], by omega, rfl, SOw.nil _ _, by simp, by show _ = _; rfl, Below.refl _ _⟩
    case round =>
      obtain ⟨j, os, hj, rfl, ho, hol, HO, HB⟩ := hrel
      by_cases hlt : j < n
      · have hjl : j < ALL.length := by rw [← HN.out]; exact hlt
        obtain ⟨y, hy⟩ : ∃ y, y = str ALL[j] := ⟨_, rfl⟩
        have hyl : ALL[j] = y.data.toList := by rw [hy]; rfl
        have htk := disL_take hjl
        rw [← HO.out] at htk
        have hmem : ALL[j] ∈ ALL.take j ↔ y.data.toList ∈ os := by rw [HO.out, disL_mem, hyl]
        obtain ⟨g, o, rfl, hg, a0⟩ := HP.out.below HB.out j hjl
        rw [← hy] at a0
        obtain ⟨q, cq, rfl, hq⟩ := ho.rw
        obtain ⟨m, hm⟩ : ∃ m, m = os.length := ⟨_, rfl⟩
        have HH := rhas_any os y q cq m wr hm hq (by omega)
        rw [← hm] at ho hol ⊢
        have HM := Lib.hid hm
        by_cases hin : y.data.toList ∈ os
        · rw [decide_eq_true hin] at HH
          have HHH := Lib.hid HH
          have HO2 : Hid (os = disL (ALL.take (j + 1))) := by show _ = _; rw [htk, if_pos (hmem.mpr hin)]
          have HOS := Lib.hid ho
          clear hy hyl htk hmem hm HH hin hjl hg hq ho HO
          go_wp2_with (go_at_call 71; ((with_reducible refine (HHH.out).mono ?_); rintro e w3 ⟨rfl, rfl⟩))
          go_roundw
          case rel => exact ⟨j + 1, os, by omega, by go_num, HOS.out, by have := HM.out; omega, HO2.out, HB.out⟩
          case measure => simp [intOf]; omega
        · rw [decide_eq_false hin] at HH
          have HHH := Lib.hid HH
          have HO2 : Hid (os ++ [y.data.toList] = disL (ALL.take (j + 1))) := by show _ = _; rw [htk, if_neg (fun h => hin (hmem.mp h)), hyl]
          have hbs := HB.out.size
          have hom : os.length ≤ 1100 := by omega
          clear hy hyl htk hmem hm HH hin hjl hg hq HO
          go_wp2_with (first
            | (go_at_call 71; ((with_reducible refine (HHH.out).mono ?_); rintro e w3 ⟨rfl, rfl⟩))
            | (at_builtin; refine wp_so_one rfl _ _ rfl rfl ho y rfl (by omega) hbs ?_; intro v4 w4 ho4 hg4; have hb4 := ho.bel1 HB.out (Nat.le_refl _) hbs hg4))
          go_roundw
          case rel => exact ⟨j + 1, _, by omega, by go_num, ho4, by have := HM.out; simp; omega, HO2.out, hb4⟩
          case measure => simp [intOf]; omega
      · obtain rfl : j = n := by omega
        have HX : Hid (os = disL ALL) := by
          show _ = _
          rw [HO.out, List.take_of_length_le (by have := HN.out; omega)]
        have HOO := Lib.hid ho
        clear ho
        go_wp2_with fail
        go_ret2
        rw [HQ.out]
        refine ⟨⟨_, by show _ = Ending.returned (.tuple #[_, .int .i64 ((K : Nat) : Int)]); rw [HKK.out]; rfl, ?_⟩, HT.out.trans (HB.out.mono HT.out.size)⟩
        show SOw _ _ _ (disL ALL)
        rw [← HX.out]
        exact HOO.out.mono hBw
  have g4 : (k == 4) = false := by simp [k4]
  have HQ : Hid (LL = []) := by
    have hk := bytesE_kinds hE0
    have h1 : k = 1 := by omega
    subst h1
    have hL := lnkL_1 hE0
    rw [← HR.out] at hL
    exact (Prod.mk.inj hL).2
  clear fT2 fT3 fT4 h2len h3len hE0 HR k2 k3 k4
  go_wp2_with fail
  go_loopw [13, 14] (fun ov iv wx => ov = .slice none 0 0 ∧ iv = .int .i64 0 ∧ w2 = wx) (fun _ _ _ => 0)
  case atStart => exact ⟨rfl, rfl, rfl⟩
  case round =>
    obtain ⟨rfl, rfl, rfl⟩ := hrel
    go_wp2_with fail
    go_ret2
    rw [HQ.out]
    exact ⟨⟨_, by show _ = Ending.returned (.tuple #[_, .int .i64 ((K : Nat) : Int)]); rw [HKK.out]; rfl, SOw.nil _ _⟩, HB2.out⟩
end Go.Proofs.YtddmnibioacelaaGreatDoor
/-
  The walk of the law CommitLinks.
-/
namespace Go.Proofs.YtddmnibioacelaaGreatDoor
open Go Go.RowKit Go.Maps Go.WideMaps

theorem Tryz.cellsOb : Tryz.prog.cellsOf 50 = 2 := by kernel_rfl
theorem lnkL_len (k : Int) (l : List UInt8) : (lnkL k l).2.length ≤ 1100 := by
  by_cases h0 : bytesE k l = 0
  · rcases bytesE_kinds h0 with rfl | rfl | rfl | rfl
    · rw [lnkL_1 h0]; simp
    · rw [lnkL_2 h0]
      have h1 := disL_len (trL l).2
      have h2 := trL_len l
      show (disL (trL l).2).length ≤ 1100
      omega
    · rw [lnkL_3 h0]
      have h1 := disL_len (cmL l).2
      have h2 := cmL_len l
      show (disL (cmL l).2).length ≤ 1100
      omega
    · rw [lnkL_4 h0, tgL]
      show (if (parG l).1 = 0 then [(parG l).2.o.data.toList] else []).length ≤ 1100
      split <;> simp
  · rw [lnkL_err h0]; simp

set_option maxHeartbeats 8000000 in
set_option maxRecDepth 8000 in
theorem commitLinks_walk (k : Int) (b : ByteArray) (W : World) (hT : StrTab W) (hO : WoTab W) (hR : TrTab W) (hb : b.size ≤ 140737488355328) :
    Calls Tryz.prog 7 #[.agg #[.int .i64 k, .string b]] W fun e W' => e = .returned (.bool true) ∧ Below W.heap.size W W' := by
  obtain ⟨w1, hw1⟩ : ∃ w1, w1 = W.alloc (.cells #[.int .i64 k, .string b] 50) := ⟨_, rfl⟩
  have hx : w1.heap[W.heap.size]? = some (.cells #[.int .i64 k, .string b] 50 (0, 0)) := by rw [hw1]; exact heap_alloc_new W _
  have hbx : Below W.heap.size W w1 := by rw [hw1]; exact below_new (Below.refl _ _) _
  have tT := fun w' (hb : Below w1.heap.size w1 w') => (hT.below hbx).below hb
  have tO := fun w' (hb : Below w1.heap.size w1 w') => (hO.below hbx).below hb
  have tR := fun w' (hb : Below w1.heap.size w1 w') => (hR.below hbx).below hb
  have x0 : w1.cell? ⟨W.heap.size, 0, none⟩ = some (.int .i64 k) := cell_of_row _ _ 0 _ _ _ hx
  have x1 : w1.cell? ⟨W.heap.size, 1, none⟩ = some (.string b) := cell_of_row _ _ 1 _ _ _ hx
  have HLV : Hid (∀ w', Below w1.heap.size w1 w' → Calls Tryz.prog 9 #[] w' fun e w'' => e = .returned (.bool true) ∧ Below w'.heap.size w' w'') := fun w' hb => clives_any w' (tT w' hb) (tO w' hb) (tR w' hb)
  have HX := Lib.hid hx
  have HBX := Lib.hid hbx
  have HW1 := Lib.hid hw1
  have HB0 := Lib.hid (Below.refl w1.heap.size w1)
  by_cases k1 : 8000 < b.size
  · have g1 : (8000 : Int) < (b.size : Int) := by omega
    clear tT tO tR hT hO hR hx hbx hw1 k1
    go_enter Tryz.func7, Tryz.ntmps7
    go_upto_region 1 with fail
    rw [← HW1.out]
    go_wp2_with (go_at_call 9; ((with_reducible refine (HLV.out _ HB0.out).mono ?_); rintro e w2 ⟨rfl, hb2⟩))
    go_ret
    exact ⟨rfl, HBX.out.trans (hb2.mono HBX.out.size)⟩
  have g1 : ¬ (8000 : Int) < (b.size : Int) := by omega
  have fL := fun w' h1 h2 h3 => links_any k b w' h1 h2 h3 (by omega) (fun _ => by omega)
  have fW := fun w' h1 h2 h3 => whole_any k b w' h1 h2 h3 (by omega) (fun _ => by omega)
  have fRL := fun w' => rlinks_any k b w' (by omega)
  have fRW := fun w' => rwhole_any k b w' (by omega)
  have hlen := lnkL_len k b.data.toList
  obtain ⟨⟨K, LL⟩, hq⟩ : ∃ q, q = lnkL k b.data.toList := ⟨_, rfl⟩
  rw [← hq] at fL fW fRL fRW hlen
  simp only at fW fRW hlen
  obtain ⟨n, hn⟩ : ∃ n, n = LL.length := ⟨_, rfl⟩
  have HL : Hid (∀ w', Below w1.heap.size w1 w' → Calls Tryz.prog 28 #[.agg #[.int .i64 k, .string b]] w' fun e w'' => (∃ p c, e = .returned (.tuple #[.slice p n c, .int .i64 (K : Int)]) ∧ SRw w'' p LL) ∧ Below w1.heap.size w1 w'') := fun w' hb => (fL w' (tT w' hb) (tO w' hb) (tR w' hb)).mono fun e w'' ⟨⟨v, h1, hv⟩, h2⟩ => by
    obtain ⟨p, c, rfl, hr⟩ := hv.rw
    exact ⟨⟨p, c, by rw [h1, hn], hr⟩, hb.trans (h2.mono hb.size)⟩
  have HRL : Hid (∀ w', Below w1.heap.size w1 w' → Calls Tryz.prog 29 #[.agg #[.int .i64 k, .string b]] w' fun e w'' => (∃ p c, e = .returned (.tuple #[.slice p n c, .int .i64 (K : Int)]) ∧ SRw w'' p LL) ∧ Below w1.heap.size w1 w'' ∧ Below w'.heap.size w' w'') := fun w' hb => (fRL w').mono fun e w'' ⟨⟨v, h1, hv⟩, h2⟩ => by
    obtain ⟨p, c, rfl, hr⟩ := hv.rw
    exact ⟨⟨p, c, by rw [h1, hn], hr⟩, hb.trans (h2.mono hb.size), h2⟩
  have HWH : Hid (∀ w', Below w1.heap.size w1 w' → Calls Tryz.prog 30 #[.agg #[.int .i64 k, .string b]] w' fun e w'' => e = .returned (.int .i64 (K : Int)) ∧ Below w'.heap.size w' w'') := fun w' hb => fW w' (tT w' hb) (tO w' hb) (tR w' hb)
  have HRW : Hid (∀ w', Calls Tryz.prog 31 #[.agg #[.int .i64 k, .string b]] w' fun e w'' => e = .returned (.int .i64 (K : Int)) ∧ Below w'.heap.size w' w'') := fRW
  have HSM : Hid (∀ (w' : World) (p q : Option Addr) (c d : Nat), SRw w' p LL → SRw w' q LL → Calls Tryz.prog 32 #[.slice p n c, .slice q n d] w' fun e w'' => e = .returned (.bool true) ∧ Below w'.heap.size w' w'') := fun w' p q c d h1 h2 =>
    (rsame6C_any LL LL p q c d n n w' hn hn h1 h2 (by omega)).mono fun e w'' ⟨h3, x, h4⟩ => ⟨by rw [h3, decide_eq_true rfl], by rw [h4]; exact below_drewN (Below.refl _ _) x⟩
  clear fL fW fRL fRW hq hn hlen tT tO tR hT hO hR hx hbx hw1 k1 hb
  go_enter Tryz.func7, Tryz.ntmps7
  go_upto_region 1 with fail
  rw [← HW1.out]
  go_upto_region 4 with (go_at_call 28; ((with_reducible refine (HL.out _ HB0.out).mono ?_); rintro e w2 ⟨⟨p, c, rfl, hr2⟩, hb2⟩))
  have y0 := cell_bel x0 hb2
  have y1 := cell_bel x1 hb2
  go_upto_region 5 with (go_at_call 29; ((with_reducible refine (HRL.out _ hb2).mono ?_); rintro e w3 ⟨⟨q, d, rfl, hr3⟩, hb3, hc3⟩))
  have hr2' := hr2.below hc3
  have z0 := cell_bel x0 hb3
  have z1 := cell_bel x1 hb3
  have k0 : ∀ y : BelW w3, y.w.cell? ⟨W.heap.size, 0, none⟩ = some (.int .i64 k) := fun y => cell_bel z0 y.h
  have k1 : ∀ y : BelW w3, y.w.cell? ⟨W.heap.size, 1, none⟩ = some (.string b) := fun y => cell_bel z1 y.h
  have hty := fun y : BelW w3 => hb3.trans (y.h.mono hb3.size)
  have HLVq : Hid (∀ y : BelW w3, Calls Tryz.prog 9 #[] y.w fun e w'' => e = .returned (.bool true) ∧ ∃ z : BelW w3, w'' = z.w) := fun y => Calls.bel_class (HLV.out y.w (hty y))
  have HWHq : Hid (∀ y : BelW w3, Calls Tryz.prog 30 #[.agg #[.int .i64 k, .string b]] y.w fun e w'' => e = .returned (.int .i64 (K : Int)) ∧ ∃ z : BelW w3, w'' = z.w) := fun y => Calls.bel_class (HWH.out y.w (hty y))
  have HRWq : Hid (∀ y : BelW w3, Calls Tryz.prog 31 #[.agg #[.int .i64 k, .string b]] y.w fun e w'' => e = .returned (.int .i64 (K : Int)) ∧ ∃ z : BelW w3, w'' = z.w) := fun y => Calls.bel_class (HRW.out y.w)
  have HSMq : Hid (∀ y : BelW w3, Calls Tryz.prog 32 #[.slice p n c, .slice q n d] y.w fun e w'' => e = .returned (.bool true) ∧ ∃ z : BelW w3, w'' = z.w) := fun y => Calls.bel_class (HSM.out y.w p q c d (hr2'.below y.h) (hr3.below y.h))
  have HB3 := Lib.hid (HBX.out.trans (hb3.mono HBX.out.size))
  have hq : Nonempty (BelW w3) := ⟨⟨w3, Below.refl _ _⟩⟩
  have e1 : ((K : Int) == (K : Int)) = true := beq_self_eq_true _
  clear x0 x1 y0 y1 z0 z1 hr2 hr2' hr3 hty hb2 hb3 hc3 HL HRL HWH HRW HSM HLV
  refine wp_region_bel (w0 := w3) (Below.refl _ _) (by kernel_rfl) (by kernel_rfl) ?_
  repeat (go_big_quiet_step (first
    | (go_at_call 9; (with_reducible exact HLVq.out _))
    | (go_at_call 30; (with_reducible exact HWHq.out _))
    | (go_at_call 31; (with_reducible exact HRWq.out _))
    | (go_at_call 32; (with_reducible exact HSMq.out _))))
  refine wpQuiet_nil ?_
  rintro _ ⟨z, rfl⟩
  have HZ := Lib.hid z.h
  obtain ⟨wz, hwz⟩ : ∃ wz, wz = z.w := ⟨_, rfl⟩
  rw [← hwz] at HZ ⊢
  clear k0 k1 hwz z
  go_wp2_with fail
  go_ret
  exact ⟨rfl, HB3.out.trans (HZ.out.mono HB3.out.size)⟩
end Go.Proofs.YtddmnibioacelaaGreatDoor
