/-
  The walk of the reference's Parse of marked texts.
-/
import Derived.Test.YtidghjalfbklnaaThRParP
namespace Go.Proofs.Ytidghjalfbklnaa
open Go.RowKit

theorem GOw.belowT {w w' wB : World} {base B : Nat} {v : Value} {gs : List Rg} (h : GOw w base v gs) (hb : Below B wB w) (hB : B ≤ base) (hg : w.grownBy w' v.ownBlock) (hs : B ≤ w.heap.size) : Below B wB w' := by
  obtain ⟨xs, h1, _⟩ := h
  exact hb.grown hg hs fun k hk => Nat.le_trans hB (h1.lt k hk).1
theorem rgr_below {w w' wB : World} {base B : Nat} {v : Value} {gs gs' : List Rg} {e : Ending} (h : GOw w base v gs) (hb : Below B wB w) (hB : B ≤ base) (hr : RGR w base v gs' e w') (hs : B ≤ w.heap.size) : Below B wB w' := by
  obtain ⟨p, n, c, _, _, _, hg, _⟩ := hr
  exact h.belowT hb hB hg hs
theorem nest_leaf {m l : Nat} {a b : Nat} (hm : m = a) (hl : l = b) : nestB m l = nestB a b := by rw [hm, hl]
theorem tow_len {w : World} {base n c : Nat} {p : Option Addr} {l : List (List UInt8)} (h : TOw w base (.slice p n c) l) : n = l.length ∧ SRw w p l := by
  obtain ⟨p', c', he, hs⟩ := srw_of h
  simp only [Value.slice.injEq] at he
  obtain ⟨rfl, rfl, _⟩ := he
  exact ⟨rfl, hs⟩

set_option maxHeartbeats 8000000 in
set_option maxRecDepth 10000 in
theorem rparse_any (s : ByteArray) (w : World) (hs : s.size ≤ 80000) :
    Calls Try.prog 24 #[.string s] w (ParR (parL (split s.data.toList)) w) := by
  obtain ⟨L, hL⟩ : ∃ L, L = split s.data.toList := ⟨_, rfl⟩
  obtain ⟨n, hn⟩ : ∃ n, n = L.length := ⟨_, rfl⟩
  have hn1 : n ≤ 80001 := by rw [hn, hL]; have := split_cnt s.data.toList []; rw [list_len] at this; show (spl [] _).length ≤ _; omega
  have HX : Hid (∀ x ∈ L, x.length ≤ 1000000) := fun x hx => by rw [hL] at hx; have := split_pos s x hx; omega
  have HSP : Hid (∀ W, Calls Try.prog 55 #[.string s] W fun e w' => (∃ p cap, e = .returned (.slice p n cap) ∧ SRw w' p L ∧ n ≤ cap) ∧ Below W.heap.size W w') := fun W =>
    (rSplit_any s W (by omega) n (by rw [hn, hL])).mono fun e w' ⟨⟨p, cap, he, hp, hc⟩, hb⟩ => ⟨⟨p, cap, he, by rw [hL]; exact hp, hc⟩, hb⟩
  rw [← hL]
  obtain ⟨V, hV⟩ : ∃ V, V = parL L := ⟨_, rfl⟩
  have HV : Hid (V = fin0 (goP (L.drop 0) ⟨[], [], [], [], 0⟩)) := hV
  rw [← hV]
  have HN := Lib.hid hn
  obtain ⟨i0, hi, hz0, hz1, hz2⟩ := info_parts Try.infoRg
  have HU : Hid (Try.prog.underlying 22 = some (.slice 9)) := Try.underlying22
  clear hL hn hV
  go_enter Try.func24, Try.ntmps24
  go_upto_region 2 with (go_at_call 55; ((with_reducible refine (HSP.out _).mono ?_); rintro e w1 ⟨⟨p, cap, rfl, hp, hcap⟩, hb1⟩))
  have HP := Lib.hid hp
  have HB1 := Lib.hid hb1
  clear hp hb1 HSP
  go_upto_region 4 with fail
  obtain ⟨E, hE⟩ : ∃ E, E = w1.heap.size := ⟨_, rfl⟩
  obtain ⟨w2, hw2⟩ : ∃ w2, w2 = w1.alloc (.cells #[.int .i64 0, .slice none 0 0, .slice none 0 0, .slice none 0 0, .slice none 0 0] 43) := ⟨_, rfl⟩
  have hrow : w2.heap[E]? = some (.cells #[.int .i64 0, .slice none 0 0, .slice none 0 0, .slice none 0 0, .slice none 0 0] 43 (0, 0)) := by rw [hw2, hE]; exact heap_alloc_new _ _
  have HB2 : Hid (Below w1.heap.size w1 w2) := by rw [hw2]; exact below_new (Below.refl _ _) _
  rw [← hw2, ← hE]
  obtain ⟨R, hR⟩ : ∃ R, R = w2.heap.size := ⟨_, rfl⟩
  have HRP0 : Hid (RPS w2 R E ⟨[], [], [], [], 0⟩ none 0 0 0 none none none none 0 0 0 0 0 0 0 0) :=
    ⟨rfl, GOw.nil _ _, hrow, by rw [hR]; exact row_lt hrow, Nat.le_of_eq hR, fun h => absurd rfl h, fun _ => ⟨rfl, rfl, rfl⟩⟩
  have HE1 : Hid (w1.heap.size ≤ E) := Nat.le_of_eq hE.symm
  have HSL : Hid (∀ w', Below w1.heap.size w1 w' → SRw w' p L) := fun w' hb => HP.out.below hb
  clear hE hw2 hrow hR HP
  go_wp2
  go_loopw [8, 7, 5] (fun iv sv vv wr => ∃ (k : Nat) (st : Ps) (pv : Option Addr) (nv cv : Nat) (k0 : Int) (p1 p2 p3 p4 : Option Addr) (n1 n2 n3 n4 c1 c2 c3 c4 : Nat), k ≤ n ∧ iv = .int .i64 (k : Int) ∧ sv = .int .i64 (st.last : Int) ∧ vv = .slice pv nv cv ∧ Hid (RPS wr R E st pv nv cv k0 p1 p2 p3 p4 n1 n2 n3 n4 c1 c2 c3 c4) ∧ Hid (PIn st k) ∧ Hid (V = fin0 (goP (L.drop k) st)) ∧ Hid (Below w1.heap.size w1 wr)) (fun iv _ _ _ => n - (intOf iv).toNat)
  case atStart => exact ⟨0, _, none, 0, 0, 0, none, none, none, none, 0, 0, 0, 0, 0, 0, 0, 0, Nat.zero_le _, rfl, rfl, rfl, HRP0.out, ⟨by simp, by simp, by simp [lastN], by simp, by simp, by simp⟩, HV.out, HB2.out⟩
  case round =>
    clear HRP0 HV
    obtain ⟨k, ⟨gs, o, b, t, last⟩, pv, nv, cv, k0, p1, p2, p3, p4, n1, n2, n3, n4, c1, c2, c3, c4, hk, rfl, rfl, rfl, HRP, HIN, HV, HW⟩ := hrel
    have hl3 : last ≤ 3 := HIN.out.l
    have hnv : nv ≤ k := by have := HRP.out.n; have := HIN.out.g; simp only at *; omega
    by_cases hlt : k < n
    · have hkl : k < L.length := by rw [← HN.out]; exact hlt
      obtain ⟨g, o', hpe, hg, a0⟩ := HSL.out wr HW.out k hkl
      obtain ⟨x, hx⟩ : ∃ x, x = L[k] := ⟨_, rfl⟩
      obtain ⟨u, hu⟩ : ∃ u, u = str x := ⟨_, rfl⟩
      have hus : u.size ≤ 1000000 := by rw [hu, str_size, hx]; exact HX.out _ (List.getElem_mem hkl)
      rw [← hx, ← hu] at a0
      have hgo := goP_step hkl ⟨gs, o, b, t, last⟩
      rw [← hx] at hgo
      obtain ⟨m, hm⟩ : ∃ m, m = mkL x := ⟨_, rfl⟩
      have hm' : m = mkL u.data.toList := by rw [hm, hu, str_list]
      rw [← hm] at hgo
      have hm4 : m ≤ 4 := by rw [hm]; exact mkL_le _
      have HM : Hid (∀ w, Calls Try.prog 56 #[.string u] w fun e w' => e = .returned (.int .i64 (m : Int)) ∧ w = w') := fun w => (rmark_any u m w (by omega) hm').mono fun e w' ⟨h1, h2⟩ => ⟨h1, h2.symm⟩
      subst hpe
      have HS1 : Hid (∀ w', Below w1.heap.size w1 w' → SRw w' (some ⟨g, o' + k, none⟩) [x]) := fun w' hb j hj => by
        have hj0 : j = 0 := by simpa using hj
        subst hj0
        obtain ⟨g2, o2, he, hg2, hc⟩ := HSL.out w' hb k hkl
        simp only [Option.some.injEq, Addr.mk.injEq, and_true] at he
        obtain ⟨rfl, rfl⟩ := he
        exact ⟨_, _, rfl, hg2, by rw [Nat.add_zero, hc, hx]; rfl⟩
      have i1 : IntKind.i64.wrap ((k : Int) + 1) = ((k + 1 : Nat) : Int) := by rw [IntWalk.i64_in _ (by omega)]; omega
      have q1 : k + 1 ≤ cap := by omega
      have q2 : k + 1 - k = 1 := by omega
      by_cases h0 : m = 0
      · have d0 : ((m : Int) == 0) = true := by rw [h0]; rfl
        have HV2 : Hid (V = fin0 (goP (L.drop (k + 1)) (txS ⟨gs, o, b, t, last⟩ x))) := by show _ = _; rw [HV.out, hgo, if_pos h0]
        have HI2 := Lib.hid (HIN.out.text x)
        have hls : last = 0 ∨ last = 1 ∨ last = 2 ∨ last = 3 := by omega
        clear hx hu hgo hm hm' h0 HV hg
        rcases hls with hl | hl | hl | hl
        · have l0 : ((last : Int) == 0) = true := by rw [hl]; rfl
          have HL := Lib.hid hl
          have HTX : Hid (txS ⟨gs, o, b, t, last⟩ x = ⟨clG gs [x], [], [], [], last⟩) := by show _ = _; rw [hl]; rfl
          have HCL : Hid (Calls Try.prog 48 #[.slice pv nv cv, .slice (some ⟨g, o' + k, none⟩) 1 (cap - k)] wr (RGR wr R (.slice pv nv cv) (clG gs [x]))) :=
            rcl_any gs [x] pv (some ⟨g, o' + k, none⟩) R nv cv 1 (cap - k) wr HRP.out.n rfl HRP.out.g HRP.out.sz (fun w' hw' => HS1.out w' (HRP.out.g.belowT HW.out (Nat.le_trans HE1.out (Nat.le_of_lt HRP.out.lt)) hw' HW.out.size)) (by omega) (by omega) (by have := HIN.out.n; simp only at this; omega)
          clear hl
          go_wp2_with (first
            | (go_at_call 56; ((with_reducible refine (HM.out _).mono ?_); rintro e w4 ⟨rfl, rfl⟩))
            | (go_at_call 48; ((with_reducible refine HCL.out.mono ?_); rintro e w5 hr5; have HW5 := Lib.hid (rgr_below HRP.out.g HW.out (Nat.le_trans HE1.out (Nat.le_of_lt HRP.out.lt)) hr5 HW.out.size); obtain ⟨p5, n5, c5, rfl, hq5⟩ := HRP.out.clean HL.out hr5; have HQ5 := Lib.hid hq5; clear hr5 hq5)))
          go_roundw
          case rel => exact ⟨k + 1, ⟨clG gs [x], [], [], [], last⟩, p5, n5, c5, k0, p1, p2, p3, p4, n1, n2, n3, n4, c1, c2, c3, c4, hlt, by go_num, rfl, rfl, HQ5.out, by show PIn _ _; rw [← HTX.out]; exact HI2.out, by show _ = _; rw [← HTX.out]; exact HV2.out, HW5.out⟩
          case measure => simp [intOf]; omega
        · have l0 : ((last : Int) == 0) = false := by rw [hl]; rfl
          have l1 : ((last : Int) == 1) = true := by rw [hl]; rfl
          have hon := (HRP.out.on (by simp only; omega)).2.2.2.2.1
          obtain ⟨hnj, hsj⟩ := tow_len hon
          have HNJ : Hid (n2 = o.length) := hnj
          have HSJ : Hid (∀ w', Below wr.heap.size wr w' → SRw w' p2 o) := fun w' hb => hsj.below hb
          have hnb : n2 ≤ 100000 := by have := HIN.out.o; simp only at this hnj; omega
          have HTX : Hid (txS ⟨gs, o, b, t, last⟩ x = ⟨gs, o ++ [x], b, t, last⟩) := by show _ = _; rw [hl]; rfl
          have HL0 : Hid (last ≠ 0) := by show ¬ _; omega
          have y0 : wr.cell? ⟨E, 2, none⟩ = some (.slice p2 n2 c2) := cell_of_row wr E 2 _ _ _ HRP.out.e
          have HNW : Hid ((wr.alloc (.cells #[] 9)).ownsRow wr.heap.size 9 1 (.slice (some ⟨wr.heap.size, 0, none⟩) 0 0) 0 []) := ⟨rfl, .inr ⟨_, 0, #[], rfl, Nat.le_refl _, heap_alloc_new _ _, Nat.le_refl _, Nat.zero_le _, rfl, rfl⟩⟩
          have HBA : Hid (Below wr.heap.size wr (wr.alloc (.cells #[] 9))) := below_new (Below.refl _ _) _
          have yA : (wr.alloc (.cells #[] 9)).cell? ⟨E, 2, none⟩ = some (.slice p2 n2 c2) := cell_belT y0 HBA.out
          have HEW : Hid (E < wr.heap.size) := row_lt HRP.out.e
          have HWS : Hid (w1.heap.size ≤ wr.heap.size) := HW.out.size
          clear hl hon hnj hsj y0
          go_upto_region 15 with (go_at_call 56; ((with_reducible refine (HM.out _).mono ?_); rintro e w4 ⟨rfl, rfl⟩))
          go_wp2_with (first
            | (at_builtin; refine app_srwT _ rfl _ _ 22 rfl HU.out wr.heap.size _ 0 [] rfl HNW.out p2 n2 c2 o rfl HNJ.out (HSJ.out _ HBA.out) (by omega) (by simp) ?_; intro v6 w6 ho6 hg6; rw [Nat.zero_add, List.nil_append] at ho6; have HO6 := Lib.hid ho6; have HB6 := Lib.hid (HBA.out.grown hg6 (by simp) (fun b hb => by cases hb; exact Nat.le_refl _)); clear hg6 ho6)
            | (at_builtin; refine app_srwT _ rfl _ _ 22 rfl HU.out wr.heap.size _ n2 (strs o) rfl HO6.out (some ⟨g, o' + k, none⟩) 1 (cap - k) [x] rfl rfl (HS1.out _ (HW.out.trans (HB6.out.mono HWS.out))) (by omega) HB6.out.size ?_; intro v7 w7 ho7 hg7; have ht7 := TOw.app HNJ.out rfl ho7; obtain ⟨p7, c7, rfl, _⟩ := ht7.shapeN (n := n2 + 1) (by rw [List.length_append, ← HNJ.out]; rfl); have HT7 := Lib.hid ht7; have HB7 := Lib.hid (HB6.out.grown hg7 HB6.out.size (fun b hb => (World.ownsRow.lt HO6.out b hb).1)); have hr7 := (HB7.out.block E HEW.out).trans HRP.out.e; have y7 := cell_of_row w7 E 2 _ _ _ hr7; have f7 := frozen_of_row w7 E 2 _ _ hr7; clear hr7 hg7 ho7 ht7))
          have HQ7 := Lib.hid (HRP.out.text1 HL0.out HB7.out (rows_low HT7.out HRP.out.sz))
          have HW7 : Hid (Below w1.heap.size w1 (w7.setCell ⟨E, 2, none⟩ (.slice p7 (n2 + 1) c7))) := (HW.out.trans (HB7.out.mono HWS.out)).setCell HE1.out _
          clear y7 f7 yA
          go_roundw
          case rel => exact ⟨k + 1, ⟨gs, o ++ [x], b, t, last⟩, pv, nv, cv, k0, p1, p7, p3, p4, n1, (n2 + 1), n3, n4, c1, c7, c3, c4, hlt, by go_num, rfl, rfl, HQ7.out, by show PIn _ _; rw [← HTX.out]; exact HI2.out, by show _ = _; rw [← HTX.out]; exact HV2.out, HW7.out⟩
          case measure => simp [intOf]; omega
        · have l0 : ((last : Int) == 0) = false := by rw [hl]; rfl
          have l1 : ((last : Int) == 1) = false := by rw [hl]; rfl
          have l2 : ((last : Int) == 2) = true := by rw [hl]; rfl
          have hon := (HRP.out.on (by simp only; omega)).2.2.2.2.2.1
          obtain ⟨hnj, hsj⟩ := tow_len hon
          have HNJ : Hid (n3 = b.length) := hnj
          have HSJ : Hid (∀ w', Below wr.heap.size wr w' → SRw w' p3 b) := fun w' hb => hsj.below hb
          have hnb : n3 ≤ 100000 := by have := HIN.out.b; simp only at this hnj; omega
          have HTX : Hid (txS ⟨gs, o, b, t, last⟩ x = ⟨gs, o, b ++ [x], t, last⟩) := by show _ = _; rw [hl]; rfl
          have HL0 : Hid (last ≠ 0) := by show ¬ _; omega
          have y0 : wr.cell? ⟨E, 3, none⟩ = some (.slice p3 n3 c3) := cell_of_row wr E 3 _ _ _ HRP.out.e
          have HNW : Hid ((wr.alloc (.cells #[] 9)).ownsRow wr.heap.size 9 1 (.slice (some ⟨wr.heap.size, 0, none⟩) 0 0) 0 []) := ⟨rfl, .inr ⟨_, 0, #[], rfl, Nat.le_refl _, heap_alloc_new _ _, Nat.le_refl _, Nat.zero_le _, rfl, rfl⟩⟩
          have HBA : Hid (Below wr.heap.size wr (wr.alloc (.cells #[] 9))) := below_new (Below.refl _ _) _
          have yA : (wr.alloc (.cells #[] 9)).cell? ⟨E, 3, none⟩ = some (.slice p3 n3 c3) := cell_belT y0 HBA.out
          have HEW : Hid (E < wr.heap.size) := row_lt HRP.out.e
          have HWS : Hid (w1.heap.size ≤ wr.heap.size) := HW.out.size
          clear hl hon hnj hsj y0
          go_upto_region 17 with (go_at_call 56; ((with_reducible refine (HM.out _).mono ?_); rintro e w4 ⟨rfl, rfl⟩))
          go_wp2_with (first
            | (at_builtin; refine app_srwT _ rfl _ _ 22 rfl HU.out wr.heap.size _ 0 [] rfl HNW.out p3 n3 c3 b rfl HNJ.out (HSJ.out _ HBA.out) (by omega) (by simp) ?_; intro v6 w6 ho6 hg6; rw [Nat.zero_add, List.nil_append] at ho6; have HO6 := Lib.hid ho6; have HB6 := Lib.hid (HBA.out.grown hg6 (by simp) (fun b hb => by cases hb; exact Nat.le_refl _)); clear hg6 ho6)
            | (at_builtin; refine app_srwT _ rfl _ _ 22 rfl HU.out wr.heap.size _ n3 (strs b) rfl HO6.out (some ⟨g, o' + k, none⟩) 1 (cap - k) [x] rfl rfl (HS1.out _ (HW.out.trans (HB6.out.mono HWS.out))) (by omega) HB6.out.size ?_; intro v7 w7 ho7 hg7; have ht7 := TOw.app HNJ.out rfl ho7; obtain ⟨p7, c7, rfl, _⟩ := ht7.shapeN (n := n3 + 1) (by rw [List.length_append, ← HNJ.out]; rfl); have HT7 := Lib.hid ht7; have HB7 := Lib.hid (HB6.out.grown hg7 HB6.out.size (fun b hb => (World.ownsRow.lt HO6.out b hb).1)); have hr7 := (HB7.out.block E HEW.out).trans HRP.out.e; have y7 := cell_of_row w7 E 3 _ _ _ hr7; have f7 := frozen_of_row w7 E 3 _ _ hr7; clear hr7 hg7 ho7 ht7))
          have HQ7 := Lib.hid (HRP.out.text2 HL0.out HB7.out (rows_low HT7.out HRP.out.sz))
          have HW7 : Hid (Below w1.heap.size w1 (w7.setCell ⟨E, 3, none⟩ (.slice p7 (n3 + 1) c7))) := (HW.out.trans (HB7.out.mono HWS.out)).setCell HE1.out _
          clear y7 f7 yA
          go_roundw
          case rel => exact ⟨k + 1, ⟨gs, o, b ++ [x], t, last⟩, pv, nv, cv, k0, p1, p2, p7, p4, n1, n2, (n3 + 1), n4, c1, c2, c7, c4, hlt, by go_num, rfl, rfl, HQ7.out, by show PIn _ _; rw [← HTX.out]; exact HI2.out, by show _ = _; rw [← HTX.out]; exact HV2.out, HW7.out⟩
          case measure => simp [intOf]; omega
        · have l0 : ((last : Int) == 0) = false := by rw [hl]; rfl
          have l1 : ((last : Int) == 1) = false := by rw [hl]; rfl
          have l2 : ((last : Int) == 2) = false := by rw [hl]; rfl
          have l3 : ((last : Int) == 3) = true := by rw [hl]; rfl
          have hon := (HRP.out.on (by simp only; omega)).2.2.2.2.2.2
          obtain ⟨hnj, hsj⟩ := tow_len hon
          have HNJ : Hid (n4 = t.length) := hnj
          have HSJ : Hid (∀ w', Below wr.heap.size wr w' → SRw w' p4 t) := fun w' hb => hsj.below hb
          have hnb : n4 ≤ 100000 := by have := HIN.out.t; simp only at this hnj; omega
          have HTX : Hid (txS ⟨gs, o, b, t, last⟩ x = ⟨gs, o, b, t ++ [x], last⟩) := by show _ = _; rw [hl]; rfl
          have HL0 : Hid (last ≠ 0) := by show ¬ _; omega
          have y0 : wr.cell? ⟨E, 4, none⟩ = some (.slice p4 n4 c4) := cell_of_row wr E 4 _ _ _ HRP.out.e
          have HNW : Hid ((wr.alloc (.cells #[] 9)).ownsRow wr.heap.size 9 1 (.slice (some ⟨wr.heap.size, 0, none⟩) 0 0) 0 []) := ⟨rfl, .inr ⟨_, 0, #[], rfl, Nat.le_refl _, heap_alloc_new _ _, Nat.le_refl _, Nat.zero_le _, rfl, rfl⟩⟩
          have HBA : Hid (Below wr.heap.size wr (wr.alloc (.cells #[] 9))) := below_new (Below.refl _ _) _
          have yA : (wr.alloc (.cells #[] 9)).cell? ⟨E, 4, none⟩ = some (.slice p4 n4 c4) := cell_belT y0 HBA.out
          have HEW : Hid (E < wr.heap.size) := row_lt HRP.out.e
          have HWS : Hid (w1.heap.size ≤ wr.heap.size) := HW.out.size
          clear hl hon hnj hsj y0
          go_upto_region 19 with (go_at_call 56; ((with_reducible refine (HM.out _).mono ?_); rintro e w4 ⟨rfl, rfl⟩))
          go_wp2_with (first
            | (at_builtin; refine app_srwT _ rfl _ _ 22 rfl HU.out wr.heap.size _ 0 [] rfl HNW.out p4 n4 c4 t rfl HNJ.out (HSJ.out _ HBA.out) (by omega) (by simp) ?_; intro v6 w6 ho6 hg6; rw [Nat.zero_add, List.nil_append] at ho6; have HO6 := Lib.hid ho6; have HB6 := Lib.hid (HBA.out.grown hg6 (by simp) (fun b hb => by cases hb; exact Nat.le_refl _)); clear hg6 ho6)
            | (at_builtin; refine app_srwT _ rfl _ _ 22 rfl HU.out wr.heap.size _ n4 (strs t) rfl HO6.out (some ⟨g, o' + k, none⟩) 1 (cap - k) [x] rfl rfl (HS1.out _ (HW.out.trans (HB6.out.mono HWS.out))) (by omega) HB6.out.size ?_; intro v7 w7 ho7 hg7; have ht7 := TOw.app HNJ.out rfl ho7; obtain ⟨p7, c7, rfl, _⟩ := ht7.shapeN (n := n4 + 1) (by rw [List.length_append, ← HNJ.out]; rfl); have HT7 := Lib.hid ht7; have HB7 := Lib.hid (HB6.out.grown hg7 HB6.out.size (fun b hb => (World.ownsRow.lt HO6.out b hb).1)); have hr7 := (HB7.out.block E HEW.out).trans HRP.out.e; have y7 := cell_of_row w7 E 4 _ _ _ hr7; have f7 := frozen_of_row w7 E 4 _ _ hr7; clear hr7 hg7 ho7 ht7))
          have HQ7 := Lib.hid (HRP.out.text3 HL0.out HB7.out (rows_low HT7.out HRP.out.sz))
          have HW7 : Hid (Below w1.heap.size w1 (w7.setCell ⟨E, 4, none⟩ (.slice p7 (n4 + 1) c7))) := (HW.out.trans (HB7.out.mono HWS.out)).setCell HE1.out _
          clear y7 f7 yA
          go_roundw
          case rel => exact ⟨k + 1, ⟨gs, o, b, t ++ [x], last⟩, pv, nv, cv, k0, p1, p2, p3, p7, n1, n2, n3, (n4 + 1), c1, c2, c3, c7, hlt, by go_num, rfl, rfl, HQ7.out, by show PIn _ _; rw [← HTX.out]; exact HI2.out, by show _ = _; rw [← HTX.out]; exact HV2.out, HW7.out⟩
          case measure => simp [intOf]; omega
      · have d0 : ((m : Int) == 0) = false := by rw [beq_eq_false_iff_ne]; omega
        have HGO := Lib.hid hgo
        have hm1' : 1 ≤ m := by omega
        clear hx hu hgo hm hm' hg h0
        go_upto_region 20 with (go_at_call 56; ((with_reducible refine (HM.out _).mono ?_); rintro e w4 ⟨rfl, rfl⟩))
        go_cut [11] from 65 to 98 (fun v wx => v = .bool (nestB m last) ∧ wr = wx)
        case first =>
          have hms : m = 1 ∨ m = 2 ∨ m = 3 ∨ m = 4 := by omega
          have hls : last = 0 ∨ last = 1 ∨ last = 2 ∨ last = 3 := by omega
          clear HV i1 HIN HRP d0 HGO
          rcases hms with rfl | rfl | rfl | rfl <;> rcases hls with rfl | rfl | rfl | rfl
          all_goals go_wp2_with fail
          all_goals go_meet
          all_goals first
            | exact ⟨rfl, rfl⟩
            | exact rfl
        case rest =>
          obtain ⟨rfl, rfl⟩ := hcut
          by_cases hnb : nestB m last = true
          · have HV2 : Hid (V = fin0 (goP (L.drop (k + 1)) (mkS ⟨gs, o, b, t, last⟩ m))) := by show _ = _; rw [HV.out, HGO.out, if_neg (by omega), if_pos hnb]
            have HI2 := Lib.hid (HIN.out.mark hm4)
            by_cases h4 : m = 4
            · have hl : last = 3 := nest4 hl3 (by rw [← h4]; exact hnb)
              have d4 : ((m : Int) == 4) = true := by rw [h4]; rfl
              have HTX : Hid (mkS ⟨gs, o, b, t, last⟩ m = ⟨gs ++ [⟨2, [], o, b, t⟩], [], [], [], 0⟩) := by show _ = _; rw [h4]; rfl
              have HL0 : Hid (last ≠ 0) := by show ¬ _; omega
              have HNB := Lib.hid hnb
              obtain ⟨xs, hown, hst⟩ := HRP.out.g
              rw [← HRP.out.n] at hown
              have HOW := Lib.hid hown
              have HST := Lib.hid hst
              have HWS : Hid (w1.heap.size ≤ wr.heap.size) := HW.out.size
              have e0 : wr.cell? ⟨E, 0, none⟩ = some (.int .i64 k0) := cell_of_row wr E 0 _ _ _ HRP.out.e
              have e1 : wr.cell? ⟨E, 1, none⟩ = some (.slice p1 n1 c1) := cell_of_row wr E 1 _ _ _ HRP.out.e
              have e2 : wr.cell? ⟨E, 2, none⟩ = some (.slice p2 n2 c2) := cell_of_row wr E 2 _ _ _ HRP.out.e
              have e3 : wr.cell? ⟨E, 3, none⟩ = some (.slice p3 n3 c3) := cell_of_row wr E 3 _ _ _ HRP.out.e
              have e4 : wr.cell? ⟨E, 4, none⟩ = some (.slice p4 n4 c4) := cell_of_row wr E 4 _ _ _ HRP.out.e
              have hRs : R ≤ wr.heap.size := HRP.out.sz
              clear HV HGO h4 hl hnb hown hst
              rw [HNB.out]
              go_wp2_with (at_builtin; refine wpList_append_lies _ rfl _ _ 33 rfl R 43 i0 (.agg #[.int .i64 0, .slice none 0 0, .slice none 0 0, .slice none 0 0, .slice none 0 0]) 5 104 Try.underlying33 hi hz0 hz1 hz2 rfl (by decide) _ nv xs rfl (own_below HOW.out (below_new (Below.refl _ _) _)) ⟨wr.heap.size, 0, none⟩ 1 1 [.int .i64 k0, .slice p1 n1 c1, .slice p2 n2 c2, .slice p3 n3 c3, .slice p4 n4 c4] rfl rfl (World.news_of_block (heap_alloc_new _ _)) (by simp [Value.oneCell']) (by decide) (by unfold maxLen; omega) (by omega) (by simp; omega) _ rfl ?_; intro g7 cap7 w7 ho7 hg7 hat7 hlt7; have HO7 := Lib.hid ho7; have HG7 := Lib.hid hg7; have HA7 := Lib.hid hat7; clear ho7 hg7 hat7 hlt7)
              have hq := HRP.out.close HL0.out (below_new (Below.refl _ _) _) rfl HST.out HOW.out HO7.out HG7.out HA7.out
              have HQ7 : Hid (RPS w7 R E ⟨gs ++ [(⟨2, [], o, b, t⟩ : Rg)], [], [], [], 0⟩ (some ⟨g7, 0, none⟩) (nv + 1) cap7 k0 p1 p2 p3 p4 n1 n2 n3 n4 c1 c2 c3 c4) := hq.1
              have HW7 : Hid (Below w1.heap.size w1 w7) := HRP.out.g.belowT HW.out (Nat.le_trans HE1.out (Nat.le_of_lt HRP.out.lt)) hq.2 HW.out.size
              clear hq e0 e1 e2 e3 e4
              go_roundw
              case rel => exact ⟨k + 1, ⟨gs ++ [(⟨2, [], o, b, t⟩ : Rg)], [], [], [], 0⟩, some ⟨g7, 0, none⟩, nv + 1, cap7, k0, p1, p2, p3, p4, n1, n2, n3, n4, c1, c2, c3, c4, hlt, by go_num, by first | rfl | go_num, by first | rfl | go_num, HQ7.out, by show PIn _ _; rw [← HTX.out]; exact HI2.out, by show _ = _; rw [← HTX.out]; exact HV2.out, HW7.out⟩
              case measure => simp [intOf]; omega
            · have d4 : ((m : Int) == 4) = false := by rw [beq_eq_false_iff_ne]; omega
              have HTX : Hid (mkS ⟨gs, o, b, t, last⟩ m = ⟨gs, o, b, t, m⟩) := by show _ = _; rw [mkS, if_neg h4]
              have HNB := Lib.hid hnb
              by_cases hm1 : m = 1
              · have d1 : ((m : Int) == 1) = true := by rw [hm1]; rfl
                have HL0 : Hid (last = 0) := by
                  show _ = _
                  rw [hm1] at hnb
                  simpa [nestB] using hnb
                have HQ : Hid (RPS (((((wr.setCell ⟨E, 0, none⟩ (.int .i64 2)).setCell ⟨E, 1, none⟩ (.slice none 0 0)).setCell ⟨E, 2, none⟩ (.slice none 0 0)).setCell ⟨E, 3, none⟩ (.slice none 0 0)).setCell ⟨E, 4, none⟩ (.slice none 0 0)) R E ⟨gs, o, b, t, m⟩ pv nv cv 2 none none none none 0 0 0 0 0 0 0 0) := by
                  rw [hm1]
                  exact HRP.out.open HL0.out
                have HWQ : Hid (Below w1.heap.size w1 (((((wr.setCell ⟨E, 0, none⟩ (.int .i64 2)).setCell ⟨E, 1, none⟩ (.slice none 0 0)).setCell ⟨E, 2, none⟩ (.slice none 0 0)).setCell ⟨E, 3, none⟩ (.slice none 0 0)).setCell ⟨E, 4, none⟩ (.slice none 0 0))) := ((((HW.out.setCell HE1.out _).setCell HE1.out _).setCell HE1.out _).setCell HE1.out _).setCell HE1.out _
                have e0 : wr.cell? ⟨E, 0, none⟩ = some (.int .i64 k0) := cell_of_row wr E 0 _ _ _ HRP.out.e
                have e1 : wr.cell? ⟨E, 1, none⟩ = some (.slice p1 n1 c1) := cell_of_row wr E 1 _ _ _ HRP.out.e
                have e2 : wr.cell? ⟨E, 2, none⟩ = some (.slice p2 n2 c2) := cell_of_row wr E 2 _ _ _ HRP.out.e
                have e3 : wr.cell? ⟨E, 3, none⟩ = some (.slice p3 n3 c3) := cell_of_row wr E 3 _ _ _ HRP.out.e
                have e4 : wr.cell? ⟨E, 4, none⟩ = some (.slice p4 n4 c4) := cell_of_row wr E 4 _ _ _ HRP.out.e
                have f0 := frozen_of_row wr E 0 _ _ HRP.out.e
                have f1 := frozen_of_row wr E 1 _ _ HRP.out.e
                have f2 := frozen_of_row wr E 2 _ _ HRP.out.e
                have f3 := frozen_of_row wr E 3 _ _ HRP.out.e
                have f4 := frozen_of_row wr E 4 _ _ HRP.out.e
                clear HV HGO h4 hm1 hnb
                rw [HNB.out]
                go_wp2
                go_roundw
                case rel => exact ⟨k + 1, ⟨gs, o, b, t, m⟩, pv, nv, cv, 2, none, none, none, none, 0, 0, 0, 0, 0, 0, 0, 0, hlt, by go_num, rfl, rfl, HQ.out, by show PIn _ _; rw [← HTX.out]; exact HI2.out, by show _ = _; rw [← HTX.out]; exact HV2.out, HWQ.out⟩
                case measure => simp [intOf]; omega
              · have d1 : ((m : Int) == 1) = false := by rw [beq_eq_false_iff_ne]; omega
                have HL0 : Hid (last ≠ 0) := by
                  show ¬ _
                  rintro rfl
                  have : m = 2 ∨ m = 3 := by omega
                  rcases this with rfl | rfl <;> simp [nestB] at hnb
                have HQ : Hid (RPS wr R E ⟨gs, o, b, t, m⟩ pv nv cv k0 p1 p2 p3 p4 n1 n2 n3 n4 c1 c2 c3 c4) := HRP.out.next HL0.out m (by omega)
                clear HV HGO h4 hm1 hnb
                rw [HNB.out]
                go_wp2
                go_roundw
                case rel => exact ⟨k + 1, ⟨gs, o, b, t, m⟩, pv, nv, cv, k0, p1, p2, p3, p4, n1, n2, n3, n4, c1, c2, c3, c4, hlt, by go_num, rfl, rfl, HQ.out, by show PIn _ _; rw [← HTX.out]; exact HI2.out, by show _ = _; rw [← HTX.out]; exact HV2.out, HW.out⟩
                case measure => simp [intOf]; omega
          · have hVn : V = none := by rw [HV.out, HGO.out, if_neg (by omega), if_neg hnb]; rfl
            have HVN := Lib.hid hVn
            have HNB : Hid (nestB m last = false) := by show _ = _; simpa using hnb
            clear HV HGO hnb hVn
            rw [HNB.out]
            go_wp2
            go_ret2
            rw [HVN.out]
            exact ⟨HB1.out.trans (HW.out.mono HB1.out.size), rfl⟩
    · obtain rfl : k = n := by omega
      have hV := HV.out
      rw [List.drop_eq_nil_of_le (by rw [← HN.out]; exact Nat.le_refl _)] at hV
      by_cases hl : last = 0
      · have hVs : V = some gs := by rw [hV, hl]; rfl
        have HVS := Lib.hid hVs
        have d0 : ((last : Int) != 0) = false := by rw [hl]; rfl
        have d1 : ((last : Int) == 0) = true := by rw [hl]; rfl
        clear hV hVs hl HV
        go_wp2
        go_ret2
        rw [HVS.out]
        have hg := HRP.out.g.grw HRP.out.n
        exact ⟨HB1.out.trans (HW.out.mono HB1.out.size), pv, nv, cv, rfl, HRP.out.n, hg.1, hg.2⟩
      · have hVn : V = none := by rw [hV, goP, fin0, if_neg hl]
        have HVN := Lib.hid hVn
        have d0 : ((last : Int) != 0) = true := by simp; omega
        have d1 : ((last : Int) == 0) = false := by rw [beq_eq_false_iff_ne]; omega
        clear hV hVn hl HV
        go_wp2
        go_ret2
        rw [HVN.out]
        exact ⟨HB1.out.trans (HW.out.mono HB1.out.size), rfl⟩
end Go.Proofs.Ytidghjalfbklnaa
