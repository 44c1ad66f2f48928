/-
  The walks of histo's numbered and of the function that it makes.
-/
import Derived.Test.YtnmebnpldacngaaHsPartW
namespace Go.Proofs.Ytnmebnpldacngaa
open Go.RowKit Go.Maps Go.WideMaps

set_option maxHeartbeats 4000000 in
set_option maxRecDepth 4000 in
theorem hnumber1_any (la known : List (List UInt8)) (p : Option Addr) (c n B M : Nat) (D0 : DataW Unit) (w : World) (hn : n = la.length) (hp : SRw w p la) (hbx : w.heap[B]? = some (.cells #[.map (some M)] 65 (0, 0)))
    (hM : Mi w M known.length D0) (hD : IsKn D0 known) (hl : n ≤ 65536) (hl2 : known.length ≤ 65536) (hs : ∀ t ∈ la, t.length ≤ 140737488355328) :
    Calls Try.prog 37 #[.slice p n c, .pointer (some ⟨B, 0, none⟩)] w fun e w' => ∃ g, e = .returned (.slice (some ⟨g, 0, none⟩) n n) ∧ w.heap.size ≤ g ∧ g < w'.heap.size ∧ IRw w' g (la.map fun x => (knL known la).idxOf x) ∧ (∃ D', Mi w' M (knL known la).length D' ∧ IsKn D' (knL known la)) ∧ w.grownBy w' (some M) := by
  obtain ⟨i0, hi, hz0, hz1, hz2⟩ := info_parts Try.infoInt
  have HN := Lib.hid hn
  have HS := Lib.hid hs
  have HBX := Lib.hid hbx
  have HD := Lib.hid hD
  have hMB : M ≠ B := fun e => by
    obtain ⟨es, clock, hb, _⟩ := hM
    rw [e, hbx] at hb
    cases hb
  have hBl : B < w.heap.size := row_lt hbx
  have hMl : M < w.heap.size := hM.lt
  have HP := Lib.hid hp
  clear hn hs hbx hD hp
  go_enter Try.func37, Try.ntmps37
  go_wp2_with (at_make; refine wpList_make_full _ rfl _ _ 48 rfl w.heap.size 3 i0 (.int .i64 0) 1 Try.underlying48 hi hz0 hz1 _ _ _ _ n rfl rfl rfl rfl (by rw [hz2]; omega) (by unfold maxLen; omega) (Nat.le_refl _) ?_)
  intro w1 ho1 hg1
  have hg1' : w.grownBy w1 (some M) := ⟨hg1.os, hg1.tape, hg1.output, hg1.size, fun k hk _ => hg1.block k hk (by simp)⟩
  have hM1 := hM.kept hg1 (by simp)
  have HG : Hid (w.heap.size = w.heap.size) := rfl
  obtain ⟨G, hG⟩ : ∃ G, G = w.heap.size := ⟨_, rfl⟩
  rw [← hG] at ho1 ⊢
  have hGB : B < G := by omega
  have hGM : M < G := by omega
  have HGG := Lib.hid hG
  have HM0 := Lib.hid hM
  clear hG hM hg1 HG
  go_wp2
  go_loopw [14] (fun iv wr => ∃ (k : Nat) (xs : List Value) (D : DataW Unit), k ≤ n ∧ iv = .int .i64 k ∧ wr.ownsRow G 3 1 (.slice (some ⟨G, 0, none⟩) n n) n xs ∧ Hid (∀ j (h : j < la.length), j < k → xs[j]? = some (.int .i64 ((knL known (la.take k)).idxOf la[j] : Nat))) ∧ Mi wr M (knL known (la.take k)).length D ∧ Hid (IsKn D (knL known (la.take k))) ∧ w.grownBy wr (some M)) (fun iv _ => n - (intOf iv).toNat)
  case atStart => exact ⟨0, _, D0, by omega, rfl, ho1, fun j _ h => absurd h (Nat.not_lt_zero _), hM1, HD, hg1'⟩
  case round =>
    clear ho1 hM1 hg1' HD
    obtain ⟨k, xs, D, hk, rfl, ho, HX, hM, HK, hg⟩ := hrel
    have hbx : wr.heap[B]? = some (.cells #[.map (some M)] 65 (0, 0)) := (hg.block B hBl (by simp; omega)).trans HBX.out
    have cb := cell_of_row wr B 0 _ _ _ hbx
    have hsz := hg.size
    have hGw : G < wr.heap.size := (ho.lt G rfl).2
    by_cases hlt : k < n
    · have hkl : k < la.length := by rw [← HN.out]; exact hlt
      obtain ⟨g, o, rfl, hgg, hc⟩ := (HP.out.grown HM0.out hg) k hkl
      have hmem := List.getElem_mem hkl
      have hKn0 : knL known (la.take (k + 1)) = kn (knL known (la.take k)) la[k] := by rw [List.take_succ_eq_append_getElem hkl, knL_snoc]
      have hat0 : ∀ j (h : j < la.length), j = k → la[j] = la[k] := fun j h e => by subst e; rfl
      obtain ⟨x, hx⟩ : ∃ x, x = la[k] := ⟨_, rfl⟩
      rw [← hx] at hc hmem hKn0
      obtain ⟨t, ht⟩ : ∃ t, t = str x := ⟨_, rfl⟩
      rw [← ht] at hc
      have hts : t.size ≤ 140737488355328 := by rw [ht, str_size]; exact HS.out _ hmem
      obtain ⟨Kk, hKk⟩ : ∃ Kk, Kk = knL known (la.take k) := ⟨_, rfl⟩
      have hKlen : Kk.length ≤ 131072 := by
        have := knL_len (la.take k) known
        rw [← hKk, List.length_take] at this
        omega
      rw [← hKk] at hM HK HX hKn0
      obtain ⟨K, hK⟩ : ∃ K, K = Lit.string x := ⟨_, rfl⟩
      have hkey : keyOf Try.prog 9 (.string t) = some K := by
        rw [keyOf_string_mk Try.underlying9 (by unfold maxLen; omega), ht, str_list, hK]
      have hxl : xs.length = n := by simpa using ho.1
      obtain ⟨x0, cx⟩ : ∃ x0, wr.cell? ⟨G, k, none⟩ = some x0 := ⟨_, (World.ownsRow.cellAt ho k (by omega)).trans (List.getElem?_eq_getElem (by omega))⟩
      have fz := World.ownsRow.frozenAt ho k
      have hHX : Hid (∀ C : Nat, C = (kn Kk x).idxOf x → ∀ j (h : j < la.length), j < k + 1 → (xs.set k (.int .i64 (C : Int)))[j]? = some (.int .i64 ((kn Kk x).idxOf la[j] : Nat))) := fun C hC j h hj => by
        rcases Nat.lt_or_ge j k with hl | hl
        · rw [List.getElem?_set_ne (by omega), HX.out j h hl, kn_idx]
          rw [hKk]
          exact knL_in _ _ (List.mem_take_iff_getElem.mpr ⟨j, by omega, rfl⟩)
        · rw [hat0 j h (by omega), ← hx, show j = k by omega, List.getElem?_set_self (by omega), hC]
      have hsto : ∀ (w2 : World) (C : Nat), w2.ownsRow G 3 1 (.slice (some ⟨G, 0, none⟩) n n) n xs → (w2.setCell ⟨G, k, none⟩ (.int .i64 (C : Int))).ownsRow G 3 1 (.slice (some ⟨G, 0, none⟩) n n) n (xs.set k (.int .i64 (C : Int))) := fun w2 C h => (World.ownsRow.stored h k _).1
      have hgrow : ∀ (w2 : World) (C : Nat), w.grownBy w2 (some M) → w.grownBy (w2.setCell ⟨G, k, none⟩ (.int .i64 (C : Int))) (some M) := fun w2 C h => ⟨h.os, h.tape, h.output, by simpa using h.size, fun j hj hjM => (Below.heap_setCell w2 ⟨G, k, none⟩ _ j (by simp; have := HGG.out; omega)).trans (h.block j hj hjM)⟩
      have hmset : ∀ (w2 : World) (C m : Nat) (D2 : DataW Unit), Mi w2 M m D2 → Mi (w2.setCell ⟨G, k, none⟩ (.int .i64 (C : Int))) M m D2 := fun w2 C m D2 h => h.setCell (a := ⟨G, k, none⟩) (by simp; omega) _
      clear hat0
      by_cases hin : x ∈ Kk
      · have hk2 : kn Kk x = Kk := if_pos hin
        obtain ⟨y1, y2⟩ := HK.out.yes _ hin
        rw [← hK] at y1 y2
        obtain ⟨C, hC⟩ : ∃ C, C = Kk.idxOf x := ⟨_, rfl⟩
        have HKn : Hid (knL known (la.take (k + 1)) = Kk) := hKn0.trans hk2
        have HXn := hHX.out C (by rw [hk2, hC])
        rw [hk2] at HXn
        have HXX := Lib.hid HXn
        have Y2 : Hid (∀ z, D.atKey K z = .lit (.int .i64 (C : Int))) := fun z => by rw [hC]; exact y2 z
        clear hC y2 hk2 hin hKk hKn0 ht hK hx hkl hmem HX hHX HXn hgg hxl
        go_wp2_with (at_lookup; refine wpList_lookup_own_ok_int _ rfl _ _ 65 rfl 9 3 .i64 str_keyed Try.underlying65 Try.underlying3 (zero_int _) M Kk.length D rfl hM _ _ rfl hkey ?_; intro c0 hat hwc; obtain rfl : c0 = (C : Int) := (by have e := (Y2.out _).symm.trans hat; simp only [DataW.lit.injEq, Lit.int.injEq, true_and] at e; exact e.symm); clear hat hwc)
        go_roundw
        case rel => exact ⟨k + 1, _, D, by omega, by go_num, hsto wr C ho, by rw [HKn.out]; exact HXX, by rw [HKn.out]; exact hmset _ _ _ _ hM, by rw [HKn.out]; exact HK, hgrow _ _ hg⟩
        case measure => simp [intOf]; omega
      · have hk2 : kn Kk x = Kk ++ [x] := if_neg hin
        have y1 := HK.out.no _ hin
        rw [← hK] at y1
        have HKn := Lib.hid hKn0
        have HXX := Lib.hid (hHX.out Kk.length (by rw [hk2, List.idxOf_append, if_neg hin]; simp))
        have HKP := HK.out.put hin
        rw [← hK] at HKP
        have HPP := Lib.hid HKP
        have HLN : Hid ((kn Kk x).length = Kk.length + 1) := by show _ = _; rw [hk2]; simp
        have hsz2 := HK.out.size
        have HSZ : Hid ((Maps.size D : Int) = (Kk.length : Int)) := by show _ = _; rw [hsz2]
        clear hsz2 HKP hk2 hin hKk hKn0 ht hK hx hkl hmem HX hHX hgg hxl
        go_wp2_with (first
          | (at_lookup; refine wpList_lookup_own_ok_int _ rfl _ _ 65 rfl 9 3 .i64 str_keyed Try.underlying65 Try.underlying3 (zero_int _) M Kk.length D rfl hM _ _ rfl hkey ?_; intro c0 hat hwc)
          | (at_len; refine wpList_len_own _ rfl _ 65 rfl 9 3 Try.underlying65 _ M Kk.length D rfl hM ?_; rw [HSZ.out])
          | (at_mapUpdate; refine wpList_mapUpdate_own _ rfl _ _ _ 65 rfl 9 3 str_keyed Try.underlying65 _ M Kk.length D rfl hM (by unfold maxLen; omega) _ _ _ rfl rfl hkey _ [] (plainElem_int Try.underlying3 (WalkArith.wf_i64 (by omega))) ?_; intro w3 hM3 hg3; have ho3 := ho.kept hg3 (.inr (by simp [Value.ownBlock]; omega)); have hgw3 : w.grownBy w3 (some M) := (num_grown hg hg3); have fz3 := World.ownsRow.frozenAt ho3 k; have cx3 := (World.cell?_of_block (a := ⟨G, k, none⟩) (hg3.block G hGw (by simp; omega))).trans cx))
        go_roundw
        case rel => exact ⟨k + 1, _, _, by omega, by go_num, hsto w3 Kk.length ho3, by rw [HKn.out]; exact HXX, by rw [HKn.out, HLN.out]; exact hmset _ _ _ _ hM3, by rw [HKn.out]; exact HPP, hgrow _ _ hgw3⟩
        case measure => simp [intOf]; omega
    · obtain rfl : k = n := by omega
      have HKE : Hid (knL known (la.take k) = knL known la) := by show _ = _; rw [List.take_of_length_le (by have := HN.out; omega)]
      have HIR : Hid (IRw wr G (la.map fun x => (knL known la).idxOf x)) := fun j hj => by
        have hj' : j < la.length := by simpa using hj
        rw [World.ownsRow.cellAt ho j (by have := HN.out; omega), HX.out j hj' (by have := HN.out; omega), HKE.out]
        simp
      rw [HKE.out] at hM HK
      clear HX
      go_wp2
      go_ret
      exact ⟨G, rfl, by rw [HGG.out]; exact Nat.le_refl _, hGw, HIR.out, ⟨D, hM, HK.out⟩, hg⟩

/-- What numbered answers. -/
def HNRes (la lb : List (List UInt8)) (n m : Nat) (w : World) (e : Ending) (w' : World) : Prop :=
  ∃ (g1 g2 : Nat) (f : List UInt8 → Nat), e = .returned (.tuple #[.slice (some ⟨g1, 0, none⟩) n n, .slice (some ⟨g2, 0, none⟩) m m]) ∧ IRw w' g1 (la.map f) ∧ IRw w' g2 (lb.map f) ∧ w.heap.size ≤ g1 ∧ w.heap.size ≤ g2 ∧ g1 < w'.heap.size ∧ g2 < w'.heap.size ∧ Inj f la lb ∧ (∀ x ∈ la ++ lb, f x ≤ 1048576) ∧ Below w.heap.size w w'
set_option maxHeartbeats 4000000 in
set_option maxRecDepth 4000 in
theorem hnumbered_any (la lb : List (List UInt8)) (p q : Option Addr) (c d n m : Nat) (w : World) (hn : n = la.length) (hm : m = lb.length) (hp : SRw w p la) (hq : SRw w q lb)
    (hl : n ≤ 5000) (hl2 : m ≤ 5000) (hs : ∀ t ∈ la, t.length ≤ 140737488355328) (hs2 : ∀ t ∈ lb, t.length ≤ 140737488355328) :
    Calls Try.prog 22 #[.slice p n c, .slice q m d] w (HNRes la lb n m w) := by
  have hmm := make_map n w
  have hmf := make_fun Try.prog
  have HN := Lib.hid hn
  have HM := Lib.hid hm
  have HS := Lib.hid hs
  have HS2 := Lib.hid hs2
  have HP := Lib.hid hp
  have HQ := Lib.hid hq
  obtain ⟨W1, hW1⟩ : ∃ W1, W1 = (w.alloc (.map #[] 0)).alloc (.cells #[.map (some w.heap.size)] 65) := ⟨_, rfl⟩
  obtain ⟨M, hMe⟩ : ∃ M, M = w.heap.size := ⟨_, rfl⟩
  obtain ⟨B, hBe⟩ : ∃ B, B = w.heap.size + 1 := ⟨_, rfl⟩
  have hbx : W1.heap[B]? = some (.cells #[.map (some M)] 65 (0, 0)) := by
    rw [hW1, hBe, hMe]
    have h := heap_alloc_new (w.alloc (.map #[] 0)) (.cells #[.map (some w.heap.size)] 65)
    rw [show (w.alloc (.map #[] 0)).heap.size = w.heap.size + 1 by simp] at h
    exact h
  have hM1 : Mi W1 M 0 (.map []) := by
    rw [hW1, hMe]
    have h := World.ownsMap_made (H := Unit) w Try.prog 9 (plainElem Try.prog 3)
    exact h.alloc _
  have hb1 : Below w.heap.size w W1 := by rw [hW1]; exact below_new (below_new (Below.refl _ _) _) _
  have hs1 : W1.heap.size = w.heap.size + 2 := by rw [hW1]; simp
  have HC1 := Lib.hid (hnumber1_any la [] p c n B M (.map []) W1 hn (hp.below hb1) hbx hM1 isKn_nil (by omega) (by simp) hs)
  have HS1 := Lib.hid hs1
  have HHB := Lib.hid hbx
  have HM1 := Lib.hid hM1
  have HB1 := Lib.hid hb1
  have HMB : Hid (M = w.heap.size ∧ B = w.heap.size + 1) := ⟨hMe, hBe⟩
  have HW1 := Lib.hid hW1
  have hKl : (knL [] la).length ≤ 5000 := by have := knL_len la []; simp at this; omega
  clear hn hm hs hs2 hp hq hW1 hs1 hbx hM1 hb1 hMe hBe
  go_enter Try.func22, Try.ntmps22
  go_upto_region 3 with fail
  rw [← HW1.out, ← HMB.out.2]
  go_wp2_with (go_at_call 37; first
    | ((with_reducible refine HC1.out.mono ?_); rintro e w2 ⟨g1, rfl, ga1, gb1, ir1, ⟨D1, hM2, hK1⟩, hgr1⟩)
    | ((with_reducible refine (hnumber1_any lb (knL [] la) q d m B M D1 w2 HM.out ((HQ.out.below HB1.out).grown HM1.out hgr1) ((hgr1.block _ (row_lt HHB.out) (by have := HMB.out; simp; omega)).trans HHB.out) hM2 hK1 (by omega) (by omega) HS2.out).mono ?_); rintro e w3 ⟨g2, rfl, ga2, gb2, ir2, ⟨D2, hM3, hK2⟩, hgr2⟩))
  go_ret2
  have e1 : (la.map fun x => (knL [] la).idxOf x) = la.map fun x => (knL (knL [] la) lb).idxOf x := List.map_congr_left fun x hx => (knL_idx lb _ (knL_in la [] hx)).symm
  rw [e1] at ir1
  have hin : ∀ x ∈ la ++ lb, x ∈ knL (knL [] la) lb := fun x hx => by
    rcases List.mem_append.mp hx with h | h
    · exact knL_mem lb _ (knL_in la [] h)
    · exact knL_in lb _ h
  have hs1 := HS1.out
  have hz1 := hgr1.size
  have hz2 := hgr2.size
  have hgr3 := num_grown hgr1 hgr2
  have hmb := HMB.out
  exact ⟨g1, g2, _, rfl, ir1.grown hM2 hgr2, ir2, by omega, by omega, by omega, by omega, fun x hx y _ h => idx_inj (hin x hx) h, fun x hx => by
    have h1 := List.idxOf_lt_length_of_mem (hin x hx)
    have h2 := knL_len lb (knL [] la)
    have := HM.out
    omega, HB1.out.grown hgr3 (by omega) (fun k hk => by cases hk; omega)⟩
end Go.Proofs.Ytnmebnpldacngaa
