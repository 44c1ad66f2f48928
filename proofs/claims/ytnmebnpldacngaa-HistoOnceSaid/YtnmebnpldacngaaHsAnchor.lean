/-
  The walk of anchor.
-/
import Derived.Test.YtnmebnpldacngaaHsRunAt
namespace Go.Proofs.Ytnmebnpldacngaa
open Go.RowKit Go.Maps Go.WideMaps

/-- The best so far, as a run in memory. -/
def bsV (o : Option Ru) : Ru := o.getD ⟨0, 0, 0⟩
def ancV (o : Option Ru) : Value := match o with
  | some r => .tuple #[r.val, .bool true]
  | none => .tuple #[.agg #[.int .i64 0, .int .i64 0, .int .i64 0], .bool false]
theorem lst65_fold (a : List Nat) : ∀ (b : List Nat) (m : Nat),
    b.foldl (fun m x => if 0 < a.count x then min m (a.count x) else m) m ≤ m ∧ (∀ x ∈ b, 0 < a.count x → b.foldl (fun m x => if 0 < a.count x then min m (a.count x) else m) m ≤ a.count x) ∧ (b.foldl (fun m x => if 0 < a.count x then min m (a.count x) else m) m = m ∨ ∃ x ∈ b, 0 < a.count x ∧ b.foldl (fun m x => if 0 < a.count x then min m (a.count x) else m) m = a.count x)
  | [], m => ⟨Nat.le_refl _, fun _ h => absurd h (by simp), .inl rfl⟩
  | y :: b, m => by
    obtain ⟨h1, h2, h3⟩ := lst65_fold a b (if 0 < a.count y then min m (a.count y) else m)
    rw [List.foldl_cons]
    have hle : (if 0 < a.count y then min m (a.count y) else m) ≤ m := by split <;> omega
    refine ⟨Nat.le_trans h1 hle, fun x hx hc => ?_, ?_⟩
    · rcases List.mem_cons.mp hx with rfl | hx
      · rw [if_pos hc] at h1 ⊢
        omega
      · exact h2 x hx hc
    · rcases h3 with h | ⟨x, hx, hc, h⟩
      · by_cases hc : 0 < a.count y
        · rw [if_pos hc] at h ⊢
          rcases Nat.le_total m (a.count y) with hm | hm
          · exact .inl (by omega)
          · exact .inr ⟨y, by simp, hc, by omega⟩
        · rw [if_neg hc] at h ⊢
          exact .inl h
      · exact .inr ⟨x, by simp [hx], hc, h⟩
theorem lst65_rarest {a b : List Nat} (h : lst65 a b ≤ 64) : Rarest a b (lst65 a b) := by
  obtain ⟨h1, h2, h3⟩ := lst65_fold a b 65
  rcases h3 with h4 | ⟨x, hx, hc, h4⟩
  · have : lst65 a b = 65 := h4
    omega
  · exact ⟨by have : lst65 a b = a.count x := h4; omega, h2, ⟨x, hx, h4.symm⟩⟩
theorem lst65_no {a b : List Nat} (h : ¬ lst65 a b ≤ 64) : ∀ x ∈ b, 0 < a.count x → 64 < a.count x := fun x hx hc => by
  have : lst65 a b ≤ a.count x := (lst65_fold a b 65).2.1 x hx hc
  omega
theorem anc_yes {a b : List Nat} (h : lst65 a b ≤ 64) : pa a b (lst65 a b) = anc a b ∧ (anc a b).isSome = true := by
  obtain ⟨s, h1, h2⟩ := pa_is (lst65_rarest h) h
  have := anc_of h2
  rw [h1, ← this]
  exact ⟨rfl, rfl⟩
theorem anc_no {a b : List Nat} (h : ¬ lst65 a b ≤ 64) : anc a b = none := (anc_of (no_anc (lst65_no h))).symm
theorem s3_b3 {r : Ru} {o : Option Ru} (hr : 1 ≤ r.n) : s3 o r = if b3 r (bsV o) = true then some r else o := by
  cases o with
  | none =>
    have : b3 r (bsV none) = true := by rw [b3_iff]; left; exact hr
    rw [if_pos this]
    rfl
  | some s => rfl
theorem fr_pos {a b : List Nat} {L i j : Nat} {r : Ru} (h : fr a b L i j = some r) (hi : i < a.length) (hj : j < b.length) (he : a[i]? = b[j]?) : 1 ≤ r.n ∧ r.a + r.n ≤ a.length ∧ r.b + r.n ≤ b.length := by
  rw [fr_some h]
  have := (run_is hi hj he).1
  exact ⟨this.pos, this.la, this.lb⟩
theorem fr_ok {a b : List Nat} {L i j : Nat} {o : Option Ru} (h : o = fr a b L i j) : o = none ∨ ∃ r, o = some r := by cases o <;> simp
/-- The blocks that anchor reads. -/
structure An (wx : World) (a : List Nat) (n M G Hb Lb L : Nat) (D : DataW Unit) (arr : Array Value) : Prop where
  hs : HsM wx a M n D
  bf : Bf a arr n n
  row : wx.heap[G]? = some (.cells arr 3 (0, 0))
  box : wx.heap[Hb]? = some (.cells #[.map (some M), .slice (some ⟨G, 0, none⟩) n n] 76 (0, 0))
  lst : wx.heap[Lb]? = some (.cells #[.int .i64 (L : Int)] 3 (0, 0))
theorem An.below {w w' : World} {a : List Nat} {n M G Hb Lb L : Nat} {D : DataW Unit} {arr : Array Value} (h : An w a n M G Hb Lb L D arr) (hb : Below w.heap.size w w') : An w' a n M G Hb Lb L D arr :=
  ⟨h.hs.below hb, h.bf, (hb.block _ (row_lt h.row)).trans h.row, (hb.block _ (row_lt h.box)).trans h.box, (hb.block _ (row_lt h.lst)).trans h.lst⟩
theorem An.prev {w : World} {a : List Nat} {n M G Hb Lb L : Nat} {D : DataW Unit} {arr : Array Value} (h : An w a n M G Hb Lb L D arr) (i : Nat) (hi : i < a.length) : w.cell? ⟨G, i, none⟩ = some (.int .i64 (lastP a a[i] i)) := by
  rw [cell_of_row _ _ i _ _ _ h.row]
  exact h.bf.2 i hi (by rw [h.hs.len]; exact hi)
def ruC (r : Ru) : Array Value := #[.int .i64 (r.a : Int), .int .i64 (r.b : Int), .int .i64 (r.n : Int)]
set_option maxHeartbeats 4000000 in
set_option maxRecDepth 4000 in
theorem anchor_any (a b : List Nat) (p q : Option Addr) (c d n m : Nat) (w : World) (hn : n = a.length) (hm : m = b.length) (hp : NRw w p a) (hq : NRw w q b) (hnc : n ≤ c) (hmd : m ≤ d) (hl : n ≤ 1048576) (hl2 : m ≤ 1048576) (ha : ∀ x ∈ a, x ≤ 1048576) (hb : ∀ x ∈ b, x ≤ 1048576) :
    Calls Try.prog 28 #[.slice p n c, .slice q m d] w fun e w' => e = .returned (ancV (anc a b)) ∧ Below w.heap.size w w' := by
  have hmf := make_fun Try.prog
  obtain ⟨w1, hw1⟩ : ∃ w1, w1 = w.alloc (.cells #[.int .i64 0, .int .i64 0, .int .i64 0] 30) := ⟨_, rfl⟩
  obtain ⟨S, hS⟩ : ∃ S, S = w.heap.size := ⟨_, rfl⟩
  have hb1 : Below w.heap.size w w1 := by rw [hw1]; exact below_new (Below.refl _ _) _
  have hrow : w1.heap[S]? = some (.cells #[.int .i64 0, .int .i64 0, .int .i64 0] 30 (0, 0)) := by rw [hw1, hS]; exact heap_alloc_new w _
  have HP := Lib.hid (hp.below hb1)
  have HQ := Lib.hid (hq.below hb1)
  have HN := Lib.hid hn
  have HM := Lib.hid hm
  have HA := Lib.hid ha
  have HB := Lib.hid hb
  have HRW := Lib.hid hrow
  have HB1 := Lib.hid hb1
  have HW1 := Lib.hid hw1
  have HS := Lib.hid hS
  have H1 := Lib.hid (hist_any a p c n w1 hn (hp.below hb1) hl ha)
  obtain ⟨L, hL⟩ : ∃ L, L = lst65 a b := ⟨_, rfl⟩
  have HL := Lib.hid hL
  clear hn hm hp hq ha hb hrow hb1 hw1 hS hL
  go_enter Try.func28, Try.ntmps28
  go_upto_region 1 with fail
  rw [← HW1.out, ← HS.out]
  go_upto_region 2 with (go_at_call 46; ((refine H1.out.mono ?_); rintro e w2 ⟨M, G, D, arr, rfl, hM, hG, hmap, his, hrw, hbf, hb2⟩))
  obtain ⟨w3, hw3⟩ : ∃ w3, w3 = w2.alloc (.cells #[.map (some M), .slice (some ⟨G, 0, none⟩) n n] 76) := ⟨_, rfl⟩
  obtain ⟨Hb, hHb⟩ : ∃ Hb, Hb = w2.heap.size := ⟨_, rfl⟩
  rw [← hw3, ← hHb]
  have hb3 : Below w2.heap.size w2 w3 := by rw [hw3]; exact below_new (Below.refl _ _) _
  have hbox : w3.heap[Hb]? = some (.cells #[.map (some M), .slice (some ⟨G, 0, none⟩) n n] 76 (0, 0)) := by rw [hw3, hHb]; exact heap_alloc_new _ _
  have hsM : HsM w3 a M n D := HsM.below ⟨hmap, his, HN.out, hl⟩ hb3
  have hrw3 := (hb3.block _ (row_lt hrw)).trans hrw
  have hb13 := hb2.trans (hb3.mono hb2.size)
  have H2 := Lib.hid (hleast_any a b M n m d L D (.slice (some ⟨G, 0, none⟩) n n) q w3 HM.out (HQ.out.below hb13) HB.out hsM hl2 HL.out)
  obtain ⟨T, hT⟩ : ∃ T, T = decide (L ≤ 64) := ⟨_, rfl⟩
  rw [← hT] at H2
  have HT := Lib.hid hT
  clear hT
  have cm := cell_of_row w3 Hb 0 _ _ _ hbox
  have cs := cell_of_row w3 Hb 1 _ _ _ hbox
  have HBX := Lib.hid hbox
  have HSM := Lib.hid hsM
  have HR3 := Lib.hid hrw3
  have HBF := Lib.hid hbf
  have HB13 := Lib.hid hb13
  clear hw3 hHb hb3 hbox hsM hrw3 hb13 hmap his hrw hbf hb2 hM hG H1
  go_upto_region 3 with (go_at_call 47; ((refine H2.out.mono ?_); rintro e w4 ⟨rfl, hb4⟩))
  obtain ⟨w5, hw5⟩ : ∃ w5, w5 = w4.alloc (.cells #[.int .i64 (L : Int)] 3) := ⟨_, rfl⟩
  obtain ⟨Lb, hLb⟩ : ∃ Lb, Lb = w4.heap.size := ⟨_, rfl⟩
  rw [← hw5, ← hLb]
  have hb5 : Below w4.heap.size w4 w5 := by rw [hw5]; exact below_new (Below.refl _ _) _
  have hb35 := hb4.trans (hb5.mono hb4.size)
  have hlst : w5.heap[Lb]? = some (.cells #[.int .i64 (L : Int)] 3 (0, 0)) := by rw [hw5, hLb]; exact heap_alloc_new _ _
  have HAN : Hid (An w5 a n M G Hb Lb L D arr) := ⟨HSM.out.below hb35, HBF.out, (hb35.block _ (row_lt HR3.out)).trans HR3.out, (hb35.block _ (row_lt HBX.out)).trans HBX.out, hlst⟩
  have HB15 := Lib.hid (HB13.out.trans (hb35.mono HB13.out.size))
  have HB05 := Lib.hid (HB1.out.trans (HB15.out.mono HB1.out.size))
  have hrow5 := (HB15.out.block _ (row_lt HRW.out)).trans HRW.out
  have HR5 := Lib.hid hrow5
  have HP5 := Lib.hid (HP.out.below HB15.out)
  have HQ5 := Lib.hid (HQ.out.below HB15.out)
  clear hw5 hLb hb5 hb35 hlst hrow5 hb4 cm cs H2 HBX HSM HR3 HBF HB13 HB15 HP HQ HRW HB1
  cases T with
  | true =>
    have H64 : Hid (L ≤ 64) := by show _ ≤ _; exact of_decide_eq_true HT.out.symm
    clear HT
    have hanc := anc_yes (a := a) (b := b) (by rw [← HL.out]; exact H64.out)
    rw [← HL.out] at hanc
    have HPA := Lib.hid hanc.1
    have HSO := Lib.hid hanc.2
    clear hanc
    go_upto_region 7 with fail
    obtain ⟨w6, hw6⟩ : ∃ w6, w6 = w5.alloc (.cells #[.int .i64 0, .int .i64 0, .int .i64 0] 30) := ⟨_, rfl⟩
    obtain ⟨Bb, hBb⟩ : ∃ Bb, Bb = w5.heap.size := ⟨_, rfl⟩
    rw [← hw6, ← hBb]
    have hb6 : Below w5.heap.size w5 w6 := by rw [hw6]; exact below_new (Below.refl _ _) _
    have hbest : w6.heap[Bb]? = some (.cells (ruC (bsV none)) 30 (0, 0)) := by rw [hw6, hBb]; exact heap_alloc_new _ _
    have HBB := Lib.hid hBb
    have HF0 : Hid ((List.range' 0 (m - 0)).foldl (fun o j => (vis a b L j).foldl s3 o) none = anc a b) := by
      show _ = _
      rw [← HPA.out, pa, ← HM.out, Nat.sub_zero, List.range_eq_range']
    have HB6 := Lib.hid hb6
    have HBE := Lib.hid hbest
    clear hw6 hBb hb6 hbest HPA
    go_wp2_with fail
    go_loopw [30] (fun iv wr => ∃ (k : Nat) (o : Option Ru), k ≤ m ∧ iv = .int .i64 k ∧ Hid (Below w5.heap.size w5 wr) ∧ Hid (wr.heap[Bb]? = some (.cells (ruC (bsV o)) 30 (0, 0))) ∧ Hid ((List.range' k (m - k)).foldl (fun o j => (vis a b L j).foldl s3 o) o = anc a b)) (fun iv _ => m - (intOf iv).toNat)
    case atStart => exact ⟨0, none, by omega, rfl, HB6, HBE, HF0⟩
    case round =>
      clear HB6 HBE HF0
      obtain ⟨k, o, hk, rfl, HBk, HBE, HF⟩ := hrel
      have HANk := Lib.hid (HAN.out.below HBk.out)
      by_cases hlt : k < m
      · have hkl : k < b.length := by rw [← HM.out]; exact hlt
        obtain ⟨g, o1, rfl, hg, hc⟩ := (HQ5.out.below HBk.out) k hkl
        have hbx := HB.out _ (List.getElem_mem hkl)
        have hvis : vis a b L k = if a.count b[k] = L then (od a b[k] a.length).filterMap (fun i => fr a b L i k) else [] := by
          rw [vis, List.getElem?_eq_getElem hkl]
        have hF := HF.out
        rw [show m - k = (m - (k + 1)) + 1 by omega, List.range'_succ, List.foldl_cons] at hF
        have hab : ∀ i : Nat, a[i]? = some b[k] → a[i]? = b[k]? := fun i h => by rw [h, List.getElem?_eq_getElem hkl]
        obtain ⟨x, hx⟩ : ∃ x, x = b[k] := ⟨_, rfl⟩
        rw [← hx] at hc hbx hvis hab
        have cm := cell_of_row wr Hb 0 _ _ _ HANk.out.box
        have cs := cell_of_row wr Hb 1 _ _ _ HANk.out.box
        have cl := cell_of_row wr Lb 0 _ _ _ HANk.out.lst
        have hkey := nk_key (x := x) (by omega)
        have hlook := HANk.out.hs.look x
        obtain ⟨K, hK⟩ : ∃ K, K = nk x := ⟨_, rfl⟩
        rw [← hK] at hlook hkey
        have hfl := ent_last
        have hM := HANk.out.hs.map
        by_cases hr : a.count x = L
        · have HRA := Lib.hid (rare_any a M n Hb Lb x L true D wr HANk.out.hs hbx cm cl (decide_eq_true hr).symm)
          rw [if_pos hr] at hvis
          have hpos : 0 < a.count x := by
            have := (lst65_rarest (a := a) (b := b) (by rw [← HL.out]; exact H64.out)).pos
            rw [← HL.out] at this
            omega
          rw [if_pos hpos] at hlook
          obtain ⟨C, hC⟩ : ∃ C, C = a.count x := ⟨_, rfl⟩
          obtain ⟨Z, hZ⟩ : ∃ Z, Z = lastP a x n := ⟨_, rfl⟩
          rw [← hC, ← hZ] at hlook
          have HLK := Lib.hid hlook
          rw [hvis] at hF
          obtain ⟨FF, hFF⟩ : ∃ FF, FF = ((od a x a.length).filterMap (fun i => fr a b L i k)).foldl s3 o := ⟨_, rfl⟩
          rw [← hFF] at hF
          have HF2 := Lib.hid hF
          have HFF := Lib.hid hFF
          have HZ := Lib.hid hZ
          have HAB := Lib.hid hab
          clear hF hFF hZ hC hr hlook hvis hK hpos hkl hg hx HF hab
          go_upto_region 12 with (first
            | (go_at_call 48; ((refine HRA.out.mono ?_); rintro e w7 ⟨rfl, rfl⟩))
            | (at_lookup; refine wpList_look_ent rfl _ _ rfl M n D rfl hM _ _ rfl hkey ?_; intro c0 l0 hat; obtain ⟨rfl, rfl⟩ := en_inj (HLK.out.symm.trans hat); clear hat))
          obtain ⟨V0, hV0⟩ : ∃ V0 : Int, V0 = lastP a x n := ⟨_, rfl⟩
          obtain rfl : Z = V0 := HZ.out.trans hV0.symm
          have HFF0 : Hid (FF = ((od a x n).filterMap (fun i => fr a b L i k)).foldl s3 o) := by show _ = _; rw [HN.out]; exact HFF.out
          clear hV0 HFF cm cs cl HLK hM hkey hfl HRA
          go_loopw [13] (fun iv wi => ∃ (kk : Nat) (oo : Option Ru) (V : Int), kk ≤ n ∧ iv = .int .i64 V ∧ Hid (V = lastP a x kk) ∧ Hid (Below w5.heap.size w5 wi) ∧ Hid (wi.heap[Bb]? = some (.cells (ruC (bsV oo)) 30 (0, 0))) ∧ Hid (FF = ((od a x kk).filterMap (fun i => fr a b L i k)).foldl s3 oo)) (fun iv _ => (intOf iv + 1).toNat)
          case atStart => exact ⟨n, o, Z, Nat.le_refl _, rfl, HZ, HBk, HBE, HFF0⟩
          case round =>
            clear HZ HBk HBE HFF0 HANk
            obtain ⟨kk, oo, V, hkk, rfl, HV, HBi, HBE, HFX⟩ := hrel
            have HANi := Lib.hid (HAN.out.below HBi.out)
            have hV := HV.out
            have hFX := HFX.out
            unfold lastP at hV
            cases hod : od a x kk with
            | nil =>
              rw [hod] at hV hFX
              simp only [List.filterMap_nil, List.foldl_nil] at hV hFX
              subst hV
              have HFE := Lib.hid hFX
              clear hFX hod HV HFX
              go_wp2_with fail
              go_roundw
              case rel => first | exact ⟨k + 1, FF, by omega, by go_num, HBi, by rw [HFE.out]; exact HBE, HF2⟩ | ((repeat apply Exists.intro); exact ⟨⟨k + 1, FF, by omega, by go_num, HBi, by rw [HFE.out]; exact HBE, HF2⟩, rfl⟩)
              case measure => simp [intOf]; omega
            | cons i t =>
              rw [hod] at hV hFX
              obtain ⟨hik, hax, ht⟩ := od_cons hod
              simp only at hV
              subst hV
              have hin : i < n := by omega
              have hia : i < a.length := by rw [← HN.out]; exact hin
              have hpr := HANi.out.prev i hia
              obtain ⟨f, hf⟩ : ∃ f, f = fr a b L i k := ⟨_, rfl⟩
              have cm := cell_of_row wr Hb 0 _ _ _ HANi.out.box
              have cl := cell_of_row wr Lb 0 _ _ _ HANi.out.lst
              have HRN := Lib.hid (runAt_any a b M n Hb Lb L i k n m c d f D p (some ⟨g, o1, none⟩) wr HN.out HM.out (HP5.out.below HBi.out) (HQ5.out.below HBi.out) hnc hmd hin hlt hl hl2 HA.out HANi.out.hs cm cl hf)
              rw [List.filterMap_cons, ← hf] at hFX
              have hpos : ∀ r, f = some r → 1 ≤ r.n := fun r hr => by
                have hkl : k < b.length := by rw [← HM.out]; exact hlt
                exact (fr_pos (hf.symm.trans hr) hia hkl (HAB.out i hax)).1
              have hax2 : a[i] = x := by rw [List.getElem?_eq_getElem hia, Option.some.injEq] at hax; exact hax
              have HAX : Hid (∀ h : i < a.length, a[i] = x) := fun _ => hax2
              rw [hax2] at hpr
              obtain ⟨V2, hV2⟩ : ∃ V2, V2 = lastP a x i := ⟨_, rfl⟩
              rw [← hV2] at hpr
              have HV2 := Lib.hid hV2
              have hV2b : V2 < (i : Int) ∧ -1 ≤ V2 := by
                rw [hV2]
                unfold lastP
                cases ho2 : od a x i with
                | nil => simp only; omega
                | cons i2 t2 => have := (od_cons ho2).1; simp only; omega
              rw [ht] at hFX
              clear hod HV HFX hax hax2 hf hV2 hia ht cm cl
              cases f with
              | none =>
                have HFE := Lib.hid hFX
                simp only [frV] at HRN
                clear hFX hpos
                go_upto_region 15 with (go_at_call 49; ((refine HRN.out.mono ?_); rintro e w8 ⟨rfl, hb8⟩))
                obtain ⟨w9, hw9⟩ : ∃ w9, w9 = w8.alloc (.cells #[.int .i64 0, .int .i64 0, .int .i64 0] 30) := ⟨_, rfl⟩
                rw [← hw9]
                have hb9 : Below wr.heap.size wr w9 := by rw [hw9]; exact hb8.trans ((below_new (Below.refl _ _) _).mono hb8.size)
                have HAN9 := Lib.hid (HANi.out.below hb9)
                have HBL9 : Hid (Below w5.heap.size w5 w9) := HBi.out.trans (hb9.mono HBi.out.size)
                have HBE9 : Hid (w9.heap[Bb]? = some (.cells (ruC (bsV oo)) 30 (0, 0))) := (hb9.block _ (row_lt HBE.out)).trans HBE.out
                have cs := cell_of_row w9 Hb 1 _ _ _ HAN9.out.box
                have cp : w9.cell? ⟨G, i, none⟩ = some (.int .i64 V2) := (hb9.cell (p := ⟨G, i, none⟩) (World.block_lt_of_cell? wr _ hpr)).trans hpr
                clear hw9 hb8 hb9 hpr
                go_wp2_with fail
                go_roundw
                case rel => first | exact ⟨i, oo, V2, by omega, rfl, HV2, HBL9, HBE9, HFE⟩ | ((repeat apply Exists.intro); exact ⟨⟨i, oo, V2, by omega, rfl, HV2, HBL9, HBE9, HFE⟩, rfl⟩)
                case measure => simp [intOf]; omega
              | some r =>
                have hr1 := hpos r rfl
                have hb3 := s3_b3 (o := oo) hr1
                rw [List.foldl_cons] at hFX
                obtain ⟨R, hR⟩ : ∃ R, R = b3 r (bsV oo) := ⟨_, rfl⟩
                rw [← hR] at hb3
                obtain ⟨ra, rb, rn⟩ := r
                obtain ⟨Bo, hBo⟩ : ∃ Bo, Bo = bsV oo := ⟨_, rfl⟩
                rw [← hBo] at hR HBE
                obtain ⟨ba, bb, bn⟩ := Bo
                have HBT : Hid (∀ w, Calls Try.prog 50 #[.agg #[.int .i64 (ra : Int), .int .i64 (rb : Int), .int .i64 (rn : Int)], .agg #[.int .i64 (ba : Int), .int .i64 (bb : Int), .int .i64 (bn : Int)]] w fun e w' => e = .returned (.bool R) ∧ Below w.heap.size w w') := fun w => better_any ⟨ra, rb, rn⟩ ⟨ba, bb, bn⟩ R w hR
                simp only [frV, Ru.val] at HRN
                have HBO := Lib.hid hBo
                clear hpos hr1 hR hBo
                go_upto_region 15 with (go_at_call 49; ((refine HRN.out.mono ?_); rintro e w8 ⟨rfl, hb8⟩))
                obtain ⟨w9, hw9⟩ : ∃ w9, w9 = w8.alloc (.cells #[.int .i64 (ra : Int), .int .i64 (rb : Int), .int .i64 (rn : Int)] 30) := ⟨_, rfl⟩
                obtain ⟨E, hE⟩ : ∃ E, E = w8.heap.size := ⟨_, rfl⟩
                rw [← hw9, ← hE]
                have hb9 : Below wr.heap.size wr w9 := by rw [hw9]; exact hb8.trans ((below_new (Below.refl _ _) _).mono hb8.size)
                have hent : w9.heap[E]? = some (.cells #[.int .i64 (ra : Int), .int .i64 (rb : Int), .int .i64 (rn : Int)] 30 (0, 0)) := by rw [hw9, hE]; exact heap_alloc_new _ _
                have hbe9 := (hb9.block _ (row_lt HBE.out)).trans HBE.out
                have r0 := cell_of_row w9 E 0 _ _ _ hent
                have r1 := cell_of_row w9 E 1 _ _ _ hent
                have r2 := cell_of_row w9 E 2 _ _ _ hent
                have s0 := cell_of_row w9 Bb 0 _ _ _ hbe9
                have s1 := cell_of_row w9 Bb 1 _ _ _ hbe9
                have s2 := cell_of_row w9 Bb 2 _ _ _ hbe9
                simp only [ruC] at s0 s1 s2
                have HB9 := Lib.hid hb9
                have HENT := Lib.hid hent
                have HBE9 := Lib.hid hbe9
                clear hw9 hE hb8 hb9 hent hbe9
                cases R with
                | false =>
                  rw [if_neg (by simp)] at hb3
                  rw [hb3] at hFX
                  have HFE := Lib.hid hFX
                  clear hFX hb3
                  go_upto_region 13 with (go_at_call 50; ((refine (HBT.out _).mono ?_); rintro e w10 ⟨rfl, hb10⟩))
                  have hb10' : Below wr.heap.size wr w10 := HB9.out.trans (hb10.mono HB9.out.size)
                  have HBL10 : Hid (Below w5.heap.size w5 w10) := HBi.out.trans (hb10'.mono HBi.out.size)
                  have HBE10 : Hid (w10.heap[Bb]? = some (.cells (ruC (bsV oo)) 30 (0, 0))) := by
                    show _ = _
                    rw [← HBO.out]
                    exact (hb10.block _ (row_lt HBE9.out)).trans HBE9.out
                  have cs := cell_of_row w10 Hb 1 _ _ _ (HANi.out.below hb10').box
                  have cp : w10.cell? ⟨G, i, none⟩ = some (.int .i64 V2) := (hb10'.cell (p := ⟨G, i, none⟩) (World.block_lt_of_cell? wr _ hpr)).trans hpr
                  clear hb10 hb10' hpr r0 r1 r2 s0 s1 s2
                  go_wp2_with fail
                  go_roundw
                  case rel => first | exact ⟨i, oo, V2, by omega, rfl, HV2, HBL10, HBE10, HFE⟩ | ((repeat apply Exists.intro); exact ⟨⟨i, oo, V2, by omega, rfl, HV2, HBL10, HBE10, HFE⟩, rfl⟩)
                  case measure => simp [intOf]; omega
                | true =>
                  rw [if_pos rfl] at hb3
                  rw [hb3] at hFX
                  have HFE := Lib.hid hFX
                  clear hFX hb3
                  go_upto_region 16 with (go_at_call 50; ((refine (HBT.out _).mono ?_); rintro e w10 ⟨rfl, hb10⟩))
                  have hb10' : Below wr.heap.size wr w10 := HB9.out.trans (hb10.mono HB9.out.size)
                  have hent10 := (hb10.block _ (row_lt HENT.out)).trans HENT.out
                  have hbe10 := (hb10.block _ (row_lt HBE9.out)).trans HBE9.out
                  have HR10 := Lib.hid hbe10
                  have HB10 := Lib.hid hb10'
                  clear r0 r1 r2 s0 s1 s2
                  have r0 := cell_of_row w10 E 0 _ _ _ hent10
                  have r1 := cell_of_row w10 E 1 _ _ _ hent10
                  have r2 := cell_of_row w10 E 2 _ _ _ hent10
                  have s0 := cell_of_row w10 Bb 0 _ _ _ hbe10
                  have s1 := cell_of_row w10 Bb 1 _ _ _ hbe10
                  have s2 := cell_of_row w10 Bb 2 _ _ _ hbe10
                  have y0 := frozen_of_row w10 Bb 0 _ _ hbe10
                  have y1 := frozen_of_row w10 Bb 1 _ _ hbe10
                  have y2 := frozen_of_row w10 Bb 2 _ _ hbe10
                  simp only [ruC] at s0 s1 s2
                  clear hb10 hb10' hent10 hbe10
                  go_upto_region 13 with fail
                  obtain ⟨w11, hw11⟩ : ∃ w11, w11 = (((w10.setCell ⟨Bb, 0, none⟩ (.int .i64 (ra : Int))).setCell ⟨Bb, 1, none⟩ (.int .i64 (rb : Int))).setCell ⟨Bb, 2, none⟩ (.int .i64 (rn : Int))) := ⟨_, rfl⟩
                  have hbe11 := row3s HR10.out (.int .i64 (ra : Int)) (.int .i64 (rb : Int)) (.int .i64 (rn : Int))
                  have hbl11 : Below w5.heap.size w5 w11 := by
                    rw [hw11, HBB.out]
                    exact (((HBi.out.trans (HB10.out.mono HBi.out.size)).setCell (Nat.le_refl _) _).setCell (Nat.le_refl _) _).setCell (Nat.le_refl _) _
                  rw [← hw11] at hbe11 ⊢
                  have HBL11 := Lib.hid hbl11
                  have HBE11 : Hid (w11.heap[Bb]? = some (.cells (ruC (bsV (some (⟨ra, rb, rn⟩ : Ru)))) 30 (0, 0))) := hbe11
                  have HANE := HAN.out.below hbl11
                  have cs := cell_of_row w11 Hb 1 _ _ _ HANE.box
                  have hiL : i < a.length := by rw [← HN.out]; exact hin
                  have cp : w11.cell? ⟨G, i, none⟩ = some (.int .i64 V2) := by
                    rw [HANE.prev i hiL, HV2.out, HAX.out hiL]
                  clear r0 r1 r2 s0 s1 s2 y0 y1 y2 hpr hw11 hbe11 hbl11 HANE hiL
                  go_wp2_with fail
                  go_roundw
                  case rel => first | exact ⟨i, some ⟨ra, rb, rn⟩, V2, by omega, rfl, HV2, HBL11, HBE11, HFE⟩ | ((repeat apply Exists.intro); exact ⟨⟨i, some ⟨ra, rb, rn⟩, V2, by omega, rfl, HV2, HBL11, HBE11, HFE⟩, rfl⟩)
                  case measure => simp [intOf]; omega
        · have HRA := Lib.hid (rare_any a M n Hb Lb x L false D wr HANk.out.hs hbx cm cl (decide_eq_false hr).symm)
          rw [if_neg hr] at hvis
          rw [hvis, List.foldl_nil] at hF
          have HF2 := Lib.hid hF
          clear hF hr hlook hvis hK hkl hg hx HF hab hkey hM hfl
          go_wp2_with (go_at_call 48; ((refine HRA.out.mono ?_); rintro e w7 ⟨rfl, rfl⟩))
          go_roundw
          case rel => first | exact ⟨k + 1, o, by omega, by go_num, HBk, HBE, HF2⟩ | ((repeat apply Exists.intro); exact ⟨⟨k + 1, o, by omega, by go_num, HBk, HBE, HF2⟩, rfl⟩)
          case measure => simp [intOf]; omega
      · obtain rfl : k = m := by omega
        have hF := HF.out
        rw [Nat.sub_self, List.range'_zero, List.foldl_nil] at hF
        obtain ⟨r, hr⟩ := Option.isSome_iff_exists.mp HSO.out
        have ho : o = some r := hF.trans hr
        subst ho
        have HE : Hid (anc a b = some r) := hr
        obtain ⟨ra, rb, rn⟩ := r
        have hbe : wr.heap[Bb]? = some (.cells #[.int .i64 (ra : Int), .int .i64 (rb : Int), .int .i64 (rn : Int)] 30 (0, 0)) := HBE.out
        have s0 := cell_of_row wr Bb 0 _ _ _ hbe
        have s1 := cell_of_row wr Bb 1 _ _ _ hbe
        have s2 := cell_of_row wr Bb 2 _ _ _ hbe
        have hres := (HBk.out.block _ (row_lt HR5.out)).trans HR5.out
        have HRS := Lib.hid hres
        have HBW := Lib.hid (HB05.out.trans (HBk.out.mono HB05.out.size))
        have z0 := cell_of_row _ S 0 _ _ _ hres
        have z1 := cell_of_row _ S 1 _ _ _ hres
        have z2 := cell_of_row _ S 2 _ _ _ hres
        have y0 := frozen_of_row _ S 0 _ _ hres
        have y1 := frozen_of_row _ S 1 _ _ hres
        have y2 := frozen_of_row _ S 2 _ _ hres
        clear hF hr hbe hres HBE HF
        go_wp2_with fail
        obtain ⟨w6, hw6⟩ : ∃ w6, w6 = (((wr.setCell ⟨S, 0, none⟩ (.int .i64 (ra : Int))).setCell ⟨S, 1, none⟩ (.int .i64 (rb : Int))).setCell ⟨S, 2, none⟩ (.int .i64 (rn : Int))) := ⟨_, rfl⟩
        obtain ⟨k0, k1, k2, kb⟩ := fin3 HRS.out HS.out HBW.out hw6
        rw [← hw6]
        clear z0 z1 z2 y0 y1 y2 s0 s1 s2 hw6
        refine bodyPost_ret (v := ancV (some ⟨ra, rb, rn⟩)) (by simp [results, Try.results28, go_sem, ancV, Ru.val, k0, k1, k2]) rfl ⟨by rw [HE.out], kb⟩
  | false =>
    have HE : Hid (anc a b = none) := anc_no (by rw [← HL.out]; exact of_decide_eq_false HT.out.symm)
    have z0 := cell_of_row _ S 0 _ _ _ HR5.out
    have z1 := cell_of_row _ S 1 _ _ _ HR5.out
    have z2 := cell_of_row _ S 2 _ _ _ HR5.out
    have y0 := frozen_of_row _ S 0 _ _ HR5.out
    have y1 := frozen_of_row _ S 1 _ _ HR5.out
    have y2 := frozen_of_row _ S 2 _ _ HR5.out
    go_wp2_with fail
    obtain ⟨w6, hw6⟩ : ∃ w6, w6 = (((w5.setCell ⟨S, 0, none⟩ (.int .i64 0)).setCell ⟨S, 1, none⟩ (.int .i64 0)).setCell ⟨S, 2, none⟩ (.int .i64 0)) := ⟨_, rfl⟩
    obtain ⟨k0, k1, k2, kb⟩ := fin3 HR5.out HS.out HB05.out hw6
    rw [← hw6]
    clear z0 z1 z2 y0 y1 y2 hw6
    refine bodyPost_ret (v := ancV none) (by simp [results, Try.results28, go_sem, ancV, k0, k1, k2]) rfl ⟨by rw [HE.out], kb⟩
end Go.Proofs.Ytnmebnpldacngaa
