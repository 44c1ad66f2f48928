/-
  The walk of the law TreePut.
-/
import Derived.Test.YtjholoajgnpodaaDoorTrLawD
import Derived.Deep.RegionWith
namespace Go.Proofs.YtjholoajgnpodaaDoor
open Go.RowKit

/-- What the law asks of the lists. -/
theorem put_facts {es : List En} {a : En} (h60 : es.length ≤ 60) (hc : chkT es = 0) (ha : okEn a = true) : chkT (putE es a) = 0 ∧ findE (putE es a) a.n = some a ∧ findE (dropE (putE es a) a.n) a.n = none :=
  ⟨sorted_chk (put_sorted (chk_sorted hc) ha (by omega)), find_put es a, find_gone _ _⟩
theorem put_keeps {es : List En} {a : En} (hc : chkT es = 0) (ha : okEn a = true) (h : (findE es a.n).getD En.zero = a) : putE es a = es := by
  refine put_same (chk_sorted hc) ?_
  cases hf : findE es a.n with
  | some b =>
    rw [hf] at h
    rw [← h]
    rfl
  | none =>
    rw [hf] at h
    rw [← h] at ha
    exact absurd ha (by decide)

theorem leftE {wC w : World} {B : Nat} {v : Value} (h : Below wC.heap.size wC w ∧ w.cell? ⟨B, 1, none⟩ = some v) : Below wC.heap.size wC w := h.1
theorem keepT_new {wC w : World} {B : Nat} {v : Value} {o : Obj} (hG : ∀ w', Below wC.heap.size wC w' → w'.cell? ⟨B, 1, none⟩ = some v) (h : Below wC.heap.size wC w ∧ w.cell? ⟨B, 1, none⟩ = some v) : Below wC.heap.size wC (w.alloc o) ∧ (w.alloc o).cell? ⟨B, 1, none⟩ = some v :=
  ⟨below_new h.1 o, hG _ (below_new h.1 o)⟩
theorem keepT_set3 {wC w : World} {B E : Nat} {v x y z : Value} (hG : ∀ w', Below wC.heap.size wC w' → w'.cell? ⟨B, 1, none⟩ = some v) (h : Below wC.heap.size wC w ∧ w.cell? ⟨B, 1, none⟩ = some v) (hE : wC.heap.size ≤ E) : Below wC.heap.size wC (((w.setCell ⟨E, 0, none⟩ x).setCell ⟨E, 1, none⟩ y).setCell ⟨E, 2, none⟩ z) ∧ (((w.setCell ⟨E, 0, none⟩ x).setCell ⟨E, 1, none⟩ y).setCell ⟨E, 2, none⟩ z).cell? ⟨B, 1, none⟩ = some v :=
  ⟨((h.1.setCell hE _).setCell hE _).setCell hE _, hG _ (((h.1.setCell hE _).setCell hE _).setCell hE _)⟩
theorem keepT_set {wC w : World} {B E k : Nat} {v x : Value} (hG : ∀ w', Below wC.heap.size wC w' → w'.cell? ⟨B, 1, none⟩ = some v) (h : Below wC.heap.size wC w ∧ w.cell? ⟨B, 1, none⟩ = some v) (hE : wC.heap.size ≤ E) : Below wC.heap.size wC (w.setCell ⟨E, k, none⟩ x) ∧ (w.setCell ⟨E, k, none⟩ x).cell? ⟨B, 1, none⟩ = some v :=
  ⟨h.1.setCell hE _, hG _ (h.1.setCell hE _)⟩
theorem kept_newE {w w' : World} {a b c : Value} {t : TypeId} (hb : Below (w.alloc (.cells #[a, b, c] t)).heap.size (w.alloc (.cells #[a, b, c] t)) w') :
    w'.cell? ⟨w.heap.size, 0, none⟩ = some a ∧ w'.cell? ⟨w.heap.size, 1, none⟩ = some b ∧ w'.cell? ⟨w.heap.size, 2, none⟩ = some c ∧ w'.frozen? ⟨w.heap.size, 0, none⟩ = false ∧ w'.frozen? ⟨w.heap.size, 1, none⟩ = false ∧ w'.frozen? ⟨w.heap.size, 2, none⟩ = false := by
  have h := heap_alloc_new w (.cells #[a, b, c] t)
  have h2 := (hb.block w.heap.size (row_lt h)).trans h
  exact ⟨cell_of_row w' _ 0 _ _ _ h2, cell_of_row w' _ 1 _ _ _ h2, cell_of_row w' _ 2 _ _ _ h2, frozen_of_row w' _ 0 _ _ h2, frozen_of_row w' _ 1 _ _ h2, frozen_of_row w' _ 2 _ _ h2⟩
theorem kept_newE2 {w w' : World} {E : Nat} {a b c : Value} {t : TypeId} (hE : w.heap.size = E) (hb : Below (w.alloc (.cells #[a, b, c] t)).heap.size (w.alloc (.cells #[a, b, c] t)) w') :
    w'.cell? ⟨E, 0, none⟩ = some a ∧ w'.cell? ⟨E, 1, none⟩ = some b ∧ w'.cell? ⟨E, 2, none⟩ = some c ∧ w'.frozen? ⟨E, 0, none⟩ = false ∧ w'.frozen? ⟨E, 1, none⟩ = false ∧ w'.frozen? ⟨E, 2, none⟩ = false := by
  subst hE
  exact kept_newE hb
theorem kept_newE3 {w w' : World} {E : Nat} {a b c : Value} {t : TypeId} (hE : w.heap.size = E) (hb : Below (w.alloc (.cells #[a, b, c] t)).drew.heap.size (w.alloc (.cells #[a, b, c] t)).drew w') :
    w'.cell? ⟨E, 0, none⟩ = some a ∧ w'.cell? ⟨E, 1, none⟩ = some b ∧ w'.cell? ⟨E, 2, none⟩ = some c ∧ w'.frozen? ⟨E, 0, none⟩ = false ∧ w'.frozen? ⟨E, 1, none⟩ = false ∧ w'.frozen? ⟨E, 2, none⟩ = false :=
  kept_newE2 hE ((Below.refl (w.alloc (.cells #[a, b, c] t)).heap.size (w.alloc (.cells #[a, b, c] t))).drew.trans hb)
theorem froz_belE {w w' : World} {g o : Nat} {v : Value} (hc : w.cell? ⟨g, o, none⟩ = some v) (hf : w.frozen? ⟨g, o, none⟩ = false) (hb : Below w.heap.size w w') : w'.frozen? ⟨g, o, none⟩ = false :=
  (hb.frozen (p := ⟨g, o, none⟩) (World.block_lt_of_cell? w _ hc)).trans hf
theorem bcellE {W w1 : World} (hb : Below W.heap.size W w1) : (∀ b o, b < W.heap.size → w1.cell? ⟨b, o, none⟩ = W.cell? ⟨b, o, none⟩) ∧ (∀ b o, b < W.heap.size → w1.frozen? ⟨b, o, none⟩ = W.frozen? ⟨b, o, none⟩) :=
  ⟨fun b o h => hb.cell (p := ⟨b, o, none⟩) h, fun b o h => hb.frozen (p := ⟨b, o, none⟩) h⟩
section
variable {W : World}
set_option maxHeartbeats 8000000 in
set_option maxRecDepth 10000 in
theorem treePut_walk {es : List En} {p : Option Addr} {n c : Nat} (a : En) (s : ByteArray) (A : EA W es p n) (hT : TrTab W) (ha : a.n.size ≤ 140737488355328 ∧ a.i.size ≤ 140737488355328) (hs : s.size ≤ 140737488355328) :
    Calls Tryd.prog 7 #[.slice p n c, .agg #[.int .i64 a.m, .string a.n, .string a.i], .string s] W fun e W' => e = .returned (.bool true) ∧ Below W.heap.size W W' := by
  obtain ⟨w1, hw1⟩ : ∃ w1, w1 = W.alloc (.cells #[.int .i64 a.m, .string a.n, .string a.i] 34) := ⟨_, rfl⟩
  have hbw : Below W.heap.size W w1 := by rw [hw1]; exact below_new (Below.refl _ _) _
  obtain ⟨B, hB⟩ : ∃ B, B = W.heap.size := ⟨_, rfl⟩
  have hr : w1.heap[B]? = some (.cells #[.int .i64 a.m, .string a.n, .string a.i] 34 (0, 0)) := by rw [hw1, hB]; exact heap_alloc_new W _
  obtain ⟨F, hF⟩ : ∃ F, F = fewT es := ⟨_, rfl⟩
  obtain ⟨CK, hCK⟩ : ∃ CK, CK = chkT es := ⟨_, rfl⟩
  obtain ⟨MY, hMY⟩ : ∃ MY, MY = okEn a := ⟨_, rfl⟩
  have A1 : EA w1 es p n := ⟨A.len, A.row.below hbw, A.few, A.short⟩
  have hT1 := hT.below hbw
  have HF : Hid (∀ w, Below w1.heap.size w1 w → Calls Tryd.prog 9 #[.slice p n c] w fun e w' => e = .returned (.bool F) ∧ Below w1.heap.size w1 w') := fun w hb => tfew_inv A1 hb F hF
  have HLV : Hid (∀ w, Below w1.heap.size w1 w → Calls Tryd.prog 10 #[] w fun e w' => e = .returned (.bool true) ∧ Below w1.heap.size w1 w') := fun w hb => tlives_inv hT1 hb
  have HC : F = true → Hid (∀ w, Below w1.heap.size w1 w → Calls Tryd.prog 13 #[.slice p n c] w fun e w' => e = .returned (.int .i64 (CK : Int)) ∧ Below w1.heap.size w1 w') := fun hF1 w hb => by
    rw [hCK]
    exact (tcheck_any es p c n w A.len (A1.row.below hb) (hT1.below hb) (A.fewOf (.inl (by rw [← hF, hF1]))) A.few).mono fun e w' ⟨he, hb2⟩ => ⟨he, hb.trans (hb2.mono hb.size)⟩
  have h0 := Below.refl w1.heap.size w1
  have HR := Lib.hid hr
  have HBW := Lib.hid hbw
  have HW := Lib.hid hw1
  have HBE := Lib.hid hB
  obtain ⟨m, t, i⟩ := a
  simp only at HR HW ha
  obtain ⟨z, hz⟩ : ∃ z, z = t.size + s.size := ⟨_, rfl⟩
  have e1 : IntKind.i64.wrap ((t.size : Int) + (s.size : Int)) = (z : Int) := by rw [IntWalk.i64_in _ (by omega)]; omega
  have e1' : (t.size : Int) + (s.size : Int) = (z : Int) := by omega
  have b0 : w1.cell? ⟨B, 0, none⟩ = some (.int .i64 m) := cell_of_row w1 _ 0 _ _ _ HR.out
  have b1 : w1.cell? ⟨B, 1, none⟩ = some (.string t) := cell_of_row w1 _ 1 _ _ _ HR.out
  have b2 : w1.cell? ⟨B, 2, none⟩ = some (.string i) := cell_of_row w1 _ 2 _ _ _ HR.out
  rcases F with _ | _
  · clear HC hw1 hbw hB hr hF A1 A hT hT1 hz ha hs b0 b2 HR e1' hCK hMY
    go_enter Tryd.func7, Tryd.ntmps7
    go_upto_region 1 with fail
    rw [← HBE.out, ← HW.out]
    go_wp2_with (first
      | (go_at_call 9; ((with_reducible refine (HF.out _ h0).mono ?_); rintro e w2 ⟨rfl, hb2⟩))
      | (go_at_call 10; ((with_reducible refine (HLV.out _ hb2).mono ?_); rintro e w3 ⟨rfl, hb3⟩)))
    go_ret
    exact ⟨rfl, HBW.out.trans (hb3.mono HBW.out.size)⟩
  replace HC := HC rfl
  by_cases hbig : 500 < z
  · have e2 : decide ((500 : Int) < (z : Int)) = true := decide_eq_true (by omega)
    have e3 : (500 : Int) < (z : Int) := by omega
    clear HC hw1 hbw hB hr hF A1 A hT hT1 hz ha hs b0 b2 HR e1' hCK hMY hbig
    go_enter Tryd.func7, Tryd.ntmps7
    go_upto_region 1 with fail
    rw [← HBE.out, ← HW.out]
    go_wp2_with (first
      | (go_at_call 9; ((with_reducible refine (HF.out _ h0).mono ?_); rintro e w2 ⟨rfl, hb2⟩; have d1 := cell_bel b1 hb2))
      | (go_at_call 10; ((with_reducible refine (HLV.out _ hb2).mono ?_); rintro e w3 ⟨rfl, hb3⟩)))
    go_ret
    exact ⟨rfl, HBW.out.trans (hb3.mono HBW.out.size)⟩
  have e2 : decide ((500 : Int) < (z : Int)) = false := decide_eq_false (by omega)
  have e3 : ¬ (500 : Int) < (z : Int) := by omega
  have HM : Hid (∀ w, Below w1.heap.size w1 w → Calls Tryd.prog 26 #[.agg #[.int .i64 m, .string t, .string i]] w fun e w' => e = .returned (.bool MY) ∧ Below w1.heap.size w1 w') := fun w hb' => by
    rw [hMY]
    exact (may_any ⟨m, t, i⟩ w (by simp only; omega) ha.2).mono fun e w' ⟨he, hb2⟩ => ⟨he, hb'.trans (hb2.mono hb'.size)⟩
  by_cases hck : ¬ CK = 0
  · have e4 : ((CK : Int) != 0) = true := by simp; omega
    have e5 : ¬ (CK : Int) = 0 := by omega
    clear hw1 hbw hB hr hF A1 A hT hT1 hz ha hs b0 b2 HR e1' hCK hMY hbig hck HM
    go_enter Tryd.func7, Tryd.ntmps7
    go_upto_region 1 with fail
    rw [← HBE.out, ← HW.out]
    go_wp2_with (first
      | (go_at_call 9; ((with_reducible refine (HF.out _ h0).mono ?_); rintro e w2 ⟨rfl, hb2⟩; have d1 := cell_bel b1 hb2))
      | (go_at_call 13; ((with_reducible refine (HC.out _ hb2).mono ?_); rintro e w4 ⟨rfl, hb4⟩))
      | (go_at_call 10; ((with_reducible refine (HLV.out _ hb4).mono ?_); rintro e w3 ⟨rfl, hb3⟩)))
    go_ret
    exact ⟨rfl, HBW.out.trans (hb3.mono HBW.out.size)⟩
  replace hck : CK = 0 := Decidable.not_not.mp hck
  have HC0 : Hid (∀ w, Below w1.heap.size w1 w → Calls Tryd.prog 13 #[.slice p n c] w fun e w' => e = .returned (.int .i64 0) ∧ Below w1.heap.size w1 w') := fun w hb => by
    have := HC.out w hb
    rw [hck] at this
    exact this
  clear HC
  rcases MY with _ | _
  · clear hw1 hbw hB hr hF A1 A hT hT1 hz ha hs HR e1' hCK hMY hbig hck
    go_enter Tryd.func7, Tryd.ntmps7
    go_upto_region 1 with fail
    rw [← HBE.out, ← HW.out]
    go_wp2_with (first
      | (go_at_call 9; ((with_reducible refine (HF.out _ h0).mono ?_); rintro e w2 ⟨rfl, hb2⟩; have d1 := cell_bel b1 hb2))
      | (go_at_call 13; ((with_reducible refine (HC0.out _ hb2).mono ?_); rintro e w4 ⟨rfl, hb4⟩; have f0 := cell_bel b0 hb4; have f1 := cell_bel b1 hb4; have f2 := cell_bel b2 hb4))
      | (go_at_call 26; ((with_reducible refine (HM.out _ hb4).mono ?_); rintro e w5 ⟨rfl, hb5⟩))
      | (go_at_call 10; ((with_reducible refine (HLV.out _ hb5).mono ?_); rintro e w3 ⟨rfl, hb3⟩)))
    go_ret
    exact ⟨rfl, HBW.out.trans (hb3.mono HBW.out.size)⟩
  have hlen := (fewT_yes hF.symm).1
  have hsh := (fewT_yes hF.symm).2
  rw [hck] at hCK
  obtain ⟨pf1, pf2, pf3⟩ := put_facts hlen hCK.symm hMY.symm
  have hkeep := fun h => put_keeps hCK.symm hMY.symm h
  simp only at pf2 pf3 hkeep
  obtain ⟨L, hL⟩ : ∃ L, L = putE es ⟨m, t, i⟩ := ⟨_, rfl⟩
  obtain ⟨M, hM⟩ : ∃ M, M = L.length := ⟨_, rfl⟩
  obtain ⟨D, hD⟩ : ∃ D, D = dropE L t := ⟨_, rfl⟩
  obtain ⟨N, hN⟩ : ∃ N, N = D.length := ⟨_, rfl⟩
  obtain ⟨fy, hfy⟩ : ∃ fy, fy = (findE L s).getD En.zero := ⟨_, rfl⟩
  obtain ⟨by', hby⟩ : ∃ by', by' = (findE L s).isSome := ⟨_, rfl⟩
  obtain ⟨fz, hfz⟩ : ∃ fz, fz = (findE es s).getD En.zero := ⟨_, rfl⟩
  obtain ⟨bz, hbz⟩ : ∃ bz, bz = (findE es s).isSome := ⟨_, rfl⟩
  rw [← hL] at pf1 pf2 pf3 hkeep
  rw [← hD] at pf3
  have hMl : M ≤ 61 := by
    rw [hM, hL]
    have h1 := atE_le (dropE es t) ⟨m, t, i⟩
    have h2 := dropE_le es t
    simp only [putE, List.length_append, List.length_take, List.length_cons, List.length_drop]
    omega
  have hNl : N ≤ 61 := by rw [hN, hD]; exact Nat.le_trans (dropE_le _ _) (by omega)
  have hn60 : n ≤ 60 := by rw [A.len]; exact hlen
  have hLs : Few L := fun x hx => by
    rw [hL] at hx
    have hin : x ∈ es ∨ x = ⟨m, t, i⟩ := by
      simp only [putE, List.mem_append, List.mem_cons] at hx
      rcases hx with hx | hx | hx
      · exact .inl (List.mem_filter.1 (List.mem_of_mem_take hx)).1
      · exact .inr hx
      · exact .inl (List.mem_filter.1 (List.mem_of_mem_drop hx)).1
    rcases hin with hx | rfl
    · have := hsh x hx
      exact ⟨by omega, by omega⟩
    · exact ⟨by simp only; omega, ha.2⟩
  have HP : Hid (∀ w, Below w1.heap.size w1 w → Calls Tryd.prog 22 #[.slice p n c, .agg #[.int .i64 m, .string t, .string i]] w fun e w' => ∃ q d, e = .returned (.slice q M d) ∧ NRw w' q L ∧ Below w.heap.size w w') := fun w hb =>
    (put_any es ⟨m, t, i⟩ p c n w A.len (A1.row.below hb) (by omega) ha.1 (fun x hx => (A.short x hx).1)).mono fun e w' ⟨v, h1, h2, h3⟩ => by
      obtain ⟨q, d, rfl, h4⟩ := h2.nrw
      exact ⟨q, d, by rw [h1, hM, hL], by rw [hL]; exact h4, h3⟩
  have HCL : Hid (∀ w q d, Below w1.heap.size w1 w → NRw w q L → Calls Tryd.prog 13 #[.slice q M d] w fun e w' => e = .returned (.int .i64 0) ∧ Below w.heap.size w w') := fun w q d hb hq => by
    have := tcheck_any L q d M w hM hq (hT1.below hb) (fun _ => hLs) (by omega)
    rw [pf1] at this
    exact this
  have HF1 : Hid (∀ w q d, NRw w q L → Calls Tryd.prog 18 #[.slice q M d, .string t] w fun e w' => e = .returned (.tuple #[.agg #[.int .i64 m, .string t, .string i], .bool true]) ∧ Below w.heap.size w w') := fun w q d hq => by
    have := find_any L t q d M w hM hq (by omega)
    rw [pf2] at this
    exact this
  have HF2 : Hid (∀ w q d, NRw w q L → Calls Tryd.prog 18 #[.slice q M d, .string s] w fun e w' => e = .returned (.tuple #[.agg #[.int .i64 fy.m, .string fy.n, .string fy.i], .bool by']) ∧ Below w.heap.size w w') := fun w q d hq => by
    rw [hfy, hby]
    exact find_any L s q d M w hM hq (by omega)
  have HF3 : Hid (∀ w, Below w1.heap.size w1 w → Calls Tryd.prog 18 #[.slice p n c, .string s] w fun e w' => e = .returned (.tuple #[.agg #[.int .i64 fz.m, .string fz.n, .string fz.i], .bool bz]) ∧ Below w.heap.size w w') := fun w hb => by
    rw [hfz, hbz]
    exact find_any es s p c n w A.len (A1.row.below hb) (by omega)
  have HDR : Hid (∀ w q d, NRw w q L → Calls Tryd.prog 24 #[.slice q M d, .string t] w fun e w' => ∃ q d, e = .returned (.slice q N d) ∧ NRw w' q D ∧ Below w.heap.size w w') := fun w q d hq =>
    (drop_any L t q d M w hM hq (by omega)).mono fun e w' ⟨v, h1, h2, h3⟩ => by
      obtain ⟨q, d, rfl, h4⟩ := h2.nrw
      exact ⟨q, d, by rw [h1, hN, hD], by rw [hD]; exact h4, h3⟩
  have HF4 : Hid (∀ w q d, NRw w q D → Calls Tryd.prog 18 #[.slice q N d, .string t] w fun e w' => e = .returned (.tuple #[.agg #[.int .i64 0, .string ⟨#[]⟩, .string ⟨#[]⟩], .bool false]) ∧ Below w.heap.size w w') := fun w q d hq => by
    have := find_any D t q d N w hN hq (by omega)
    rw [pf3] at this
    exact this
  have HSM : L = es → Hid (∀ w q d, Below w1.heap.size w1 w → NRw w q L → Calls Tryd.prog 17 #[.slice q M d, .slice p n c] w fun e w' => e = .returned (.bool true) ∧ Below w.heap.size w w') := fun hLE w q d hb hq =>
    (tsame_any L es q p d c M n true w hM A.len hq (A1.row.below hb) (by omega) (by omega) (by simp [hLE])).mono fun e w' ⟨he, k, hk⟩ => ⟨he, by rw [hk]; exact below_drewN (Below.refl _ _) k⟩
  -- the four ways of the last row
  have HWAY : Hid ((s ≠ t ∧ fy = fz ∧ by' = bz) ∨ (s = t ∧ fz = ⟨m, t, i⟩ ∧ L = es) ∨ (s = t ∧ fz ≠ ⟨m, t, i⟩)) := by
    show _ ∨ _ ∨ _
    by_cases hst : s = t
    · right
      by_cases hzz : fz = ⟨m, t, i⟩
      · left
        refine ⟨hst, hzz, hkeep ?_⟩
        rw [← hst, ← hfz, hzz, hst]
      · exact .inr ⟨hst, hzz⟩
    · left
      have e := find_put_other (l := es) (e := ⟨m, t, i⟩) (m := s) hst
      rw [← hL] at e
      exact ⟨hst, by rw [hfy, hfz, e], by rw [hby, hbz, e]⟩
  clear hw1 hbw hB hr hF A1 A hT hT1 hz ha hs HR e1' hCK hMY hbig hck hlen hsh pf1 pf2 pf3 hkeep hL hM hD hN hfy hby hfz hbz hLs
  go_enter Tryd.func7, Tryd.ntmps7
  go_upto_region 1 with fail
  rw [← HBE.out, ← HW.out]
  go_upto_region 3 with (first
      | (go_at_call 9; ((with_reducible refine (HF.out _ h0).mono ?_); rintro e w2 ⟨rfl, hb2⟩; have d1 := cell_bel b1 hb2))
      | (go_at_call 13; ((with_reducible refine (HC0.out _ hb2).mono ?_); rintro e w3 ⟨rfl, hb3⟩; have f0 := cell_bel b0 hb3; have f1 := cell_bel b1 hb3; have f2 := cell_bel b2 hb3))
      | (go_at_call 26; ((with_reducible refine (HM.out _ hb3).mono ?_); rintro e w4 ⟨rfl, hb4⟩)))
  clear d1 f0 f1 f2 hb2 hb3 HC0 HM HF h0
  have f0 := cell_bel b0 hb4
  have f1 := cell_bel b1 hb4
  have f2 := cell_bel b2 hb4
  have HB4 := Lib.hid hb4
  go_upto_region 4 with (go_at_call 22; ((with_reducible refine (HP.out _ hb4).mono ?_); rintro e w5 ⟨q, d, rfl, hn5, hb5⟩))
  have hb5' := HB4.out.trans (hb5.mono HB4.out.size)
  clear f0 f1 f2 hb4 hb5 HB4 HP
  go_upto_region 6 with (go_at_call 13; ((with_reducible refine (HCL.out _ _ _ hb5' hn5).mono ?_); rintro e w6 ⟨rfl, hb6⟩))
  have hn6 := hn5.below hb6
  have hb6' := hb5'.trans (hb6.mono hb5'.size)
  have f1 := cell_bel b1 hb6'
  clear hn5 hb6 hb5' HCL
  go_upto_region 7 with (go_at_call 18; ((with_reducible refine (HF1.out _ _ _ hn6).mono ?_); rintro e w7 ⟨rfl, hb7⟩))
  obtain ⟨P, hP⟩ : ∃ P, P = w7.heap.size := ⟨_, rfl⟩
  obtain ⟨w8, hw8⟩ : ∃ w8, w8 = w7.alloc (.cells #[.int .i64 m, .string t, .string i] 34) := ⟨_, rfl⟩
  have hb68 : Below w6.heap.size w6 w8 := by rw [hw8]; exact below_new hb7 _
  have hr8 : w8.heap[P]? = some (.cells #[.int .i64 m, .string t, .string i] 34 (0, 0)) := by rw [hw8, hP]; exact heap_alloc_new w7 _
  have hn8 := hn6.below hb68
  have hb8' := hb6'.trans (hb68.mono hb6'.size)
  have HR8 := Lib.hid hr8
  rw [← hw8, ← hP]
  clear hr8 hw8 hP hb7 hb68 hn6 hb6' f1
  go_upto_region 8 with (go_at_call 18; ((with_reducible refine (HF2.out _ _ _ hn8).mono ?_); rintro e w9 ⟨rfl, hb9⟩))
  obtain ⟨Q, hQ⟩ : ∃ Q, Q = w9.heap.size := ⟨_, rfl⟩
  obtain ⟨wA, hwA⟩ : ∃ wA, wA = w9.alloc (.cells #[.int .i64 fy.m, .string fy.n, .string fy.i] 34) := ⟨_, rfl⟩
  have hb8A : Below w8.heap.size w8 wA := by rw [hwA]; exact below_new hb9 _
  have hrA : wA.heap[Q]? = some (.cells #[.int .i64 fy.m, .string fy.n, .string fy.i] 34 (0, 0)) := by rw [hwA, hQ]; exact heap_alloc_new w9 _
  have hnA := hn8.below hb8A
  have hbA' := hb8'.trans (hb8A.mono hb8'.size)
  have HRA := Lib.hid (⟨(hb8A.block P (row_lt HR8.out)).trans HR8.out, hrA⟩ : wA.heap[P]? = some (.cells #[.int .i64 m, .string t, .string i] 34 (0, 0)) ∧ wA.heap[Q]? = some (.cells #[.int .i64 fy.m, .string fy.n, .string fy.i] 34 (0, 0)))
  rw [← hwA, ← hQ]
  clear hrA hwA hQ hb9 hb8A hn8 hb8' HR8
  go_upto_region 9 with (go_at_call 18; ((with_reducible refine (HF3.out _ hbA').mono ?_); rintro e wB ⟨rfl, hbB⟩))
  obtain ⟨R, hR⟩ : ∃ R, R = wB.heap.size := ⟨_, rfl⟩
  obtain ⟨wC, hwC⟩ : ∃ wC, wC = wB.alloc (.cells #[.int .i64 fz.m, .string fz.n, .string fz.i] 34) := ⟨_, rfl⟩
  have hbAC : Below wA.heap.size wA wC := by rw [hwC]; exact below_new hbB _
  have hrC : wC.heap[R]? = some (.cells #[.int .i64 fz.m, .string fz.n, .string fz.i] 34 (0, 0)) := by rw [hwC, hR]; exact heap_alloc_new wB _
  have hnC := hnA.below hbAC
  have hbC' := hbA'.trans (hbAC.mono hbA'.size)
  have HRC := Lib.hid (⟨(hbAC.block P (row_lt HRA.out.1)).trans HRA.out.1, (hbAC.block Q (row_lt HRA.out.2)).trans HRA.out.2, hrC⟩ : wC.heap[P]? = some (.cells #[.int .i64 m, .string t, .string i] 34 (0, 0)) ∧ wC.heap[Q]? = some (.cells #[.int .i64 fy.m, .string fy.n, .string fy.i] 34 (0, 0)) ∧ wC.heap[R]? = some (.cells #[.int .i64 fz.m, .string fz.n, .string fz.i] 34 (0, 0)))
  rw [← hwC, ← hR]
  clear hrC hwC hR hbB hbAC hnA hbA' HRA HF1 HF2 HF3
  have HNC := Lib.hid hnC
  have HBC := Lib.hid hbC'
  go_cut [14, 15] from 75 to 84 (fun u v wx => v = .bool false ∧ ∃ wy, wy = wx ∧ Hid (Below wC.heap.size wC wy))
  case first =>
    have f1 := cell_bel b1 hbC'
    have g1 : ∀ w', Below wC.heap.size wC w' → w'.cell? ⟨B, 1, none⟩ = some (.string t) := fun w' h => cell_bel f1 h
    have G1 := Lib.hid g1
    have HDR2 : Hid (∀ w, (Below wC.heap.size wC w ∧ w.cell? ⟨B, 1, none⟩ = some (.string t)) → Calls Tryd.prog 24 #[.slice q M d, .string t] w fun e w' => ∃ q d, e = .returned (.slice q N d) ∧ Hid (NRw w' q D) ∧ Below w.heap.size w w' ∧ Below wC.heap.size wC w') := fun w h => (HDR.out w q d (HNC.out.below h.1)).mono fun e w' ⟨q, d, h1, h2, h3⟩ => ⟨q, d, h1, h2, h3, h.1.trans (h3.mono h.1.size)⟩
    have HF5 : Hid (∀ w q d, (Below wC.heap.size wC w ∧ w.cell? ⟨B, 1, none⟩ = some (.string t)) → NRw w q D → Calls Tryd.prog 18 #[.slice q N d, .string t] w fun e w' => e = .returned (.tuple #[.agg #[.int .i64 0, .string ⟨#[]⟩, .string ⟨#[]⟩], .bool false]) ∧ Below w.heap.size w w' ∧ Below wC.heap.size wC w') := fun w q d h hq => (HF4.out w q d hq).mono fun e w' ⟨h1, h3⟩ => ⟨h1, h3, h.1.trans (h3.mono h.1.size)⟩
    clear g1 hnC hbC' b0 b1 b2 HDR HF4 HSM HWAY HLV
    go_region_held3 (fun w' => Below wC.heap.size wC w' ∧ w'.cell? ⟨B, 1, none⟩ = some (.string t))
      (first
        | exact ⟨(Below.refl _ _).drew, G1.out _ (Below.refl _ _).drew⟩
        | exact ⟨hd2, G1.out _ hd2⟩
        | exact ⟨hd1, G1.out _ hd1⟩
        | exact keepT_new G1.out (by assumption)
        | exact ⟨below_new hd2 _, G1.out _ (below_new hd2 _)⟩
        | exact ⟨below_new hd1 _, G1.out _ (below_new hd1 _)⟩
        | exact ⟨below_new (Below.refl _ _).drew _, G1.out _ (below_new (Below.refl _ _).drew _)⟩
        | exact keepT_set3 G1.out (by assumption) (by first | omega | (simp; done) | (simp; omega))) (first
        | (go_at_call 24; ((with_reducible refine (HDR2.out _ (by assumption)).mono ?_); rintro e v1 ⟨q1, d1, rfl, hn1, hb1, hd1⟩; have hz1 := hd1.size; first | (have hy := kept_newE3 (E := wC.heap.size) rfl hb1; obtain ⟨y0, y1, y2, g0, g1, g2⟩ := hy) | skip))
        | (go_at_call 18; ((with_reducible refine (HF5.out _ _ _ (by assumption) (by first | exact hn1.out | exact hn1.out.below (below_new (Below.refl _ _) _))).mono ?_); rintro e v2 ⟨rfl, hb2, hd2⟩; have hz2 := hd2.size; first | (have hx := kept_newE hb2; obtain ⟨x0, x1, x2, m0, m1, m2⟩ := hx) | (have x0 := cell_bel y0 hb2; have x1 := cell_bel y1 hb2; have x2 := cell_bel y2 hb2; have m0 := froz_belE y0 g0 hb2; have m1 := froz_belE y1 g1 hb2; have m2 := froz_belE y2 g2 hb2) | skip)))
    all_goals go_wp2_with fail
    all_goals go_meet
    all_goals exact ⟨rfl, _, rfl, leftE (B := B) (v := .string t) (by assumption)⟩
  case rest =>
    obtain ⟨rfl, wy, rfl, HBY⟩ := hcut
    have hby' := HBC.out.trans (HBY.out.mono HBC.out.size)
    have b0' := cell_bel b0 hby'
    have b1' := cell_bel b1 hby'
    have b2' := cell_bel b2 hby'
    have hrP := (HBY.out.block P (row_lt HRC.out.1)).trans HRC.out.1
    have hrQ := (HBY.out.block Q (row_lt HRC.out.2.1)).trans HRC.out.2.1
    have hrR := (HBY.out.block R (row_lt HRC.out.2.2)).trans HRC.out.2.2
    have p0 := cell_of_row wy P 0 _ _ _ hrP
    have p1 := cell_of_row wy P 1 _ _ _ hrP
    have p2 := cell_of_row wy P 2 _ _ _ hrP
    have q0 := cell_of_row wy Q 0 _ _ _ hrQ
    have q1 := cell_of_row wy Q 1 _ _ _ hrQ
    have q2 := cell_of_row wy Q 2 _ _ _ hrQ
    have r0 := cell_of_row wy R 0 _ _ _ hrR
    have r1 := cell_of_row wy R 1 _ _ _ hrR
    have r2 := cell_of_row wy R 2 _ _ _ hrR
    simp only [List.getElem?_toArray, List.getElem?_cons_zero, List.getElem?_cons_succ] at p0 p1 p2 q0 q1 q2 r0 r1 r2
    have HNY := Lib.hid (HNC.out.below HBY.out)
    have HBY1 := Lib.hid hby'
    have HLV3 : Hid (∀ w, Below wy.heap.size wy w → Calls Tryd.prog 10 #[] w fun e w' => e = .returned (.bool true) ∧ Below w1.heap.size w1 w') := fun w h => HLV.out w (hby'.trans (h.mono hby'.size))
    clear hrP hrQ hrR hnC hbC' hby' b0 b1 b2 HNC HBC HRC HLV HDR HF4
    rcases HWAY.out with ⟨hst, rfl, rfl⟩ | ⟨rfl, rfl, hLE⟩ | ⟨rfl, hzz⟩
    · have hne : (s.toList == t.toList) = false := ba_ne hst
      clear hst HSM HWAY
      go_wp2_with (go_at_call 10; ((with_reducible refine (HLV3.out _ (Below.refl _ _)).mono ?_); rintro e wz ⟨rfl, hbz⟩))
      go_ret
      exact ⟨rfl, HBW.out.trans (hbz.mono HBW.out.size)⟩
    · have HSM2 : Hid (Calls Tryd.prog 17 #[.slice q M d, .slice p n c] wy fun e w' => e = .returned (.bool true) ∧ Below wy.heap.size wy w') := (HSM hLE).out wy q d HBY1.out HNY.out
      clear hLE HSM HWAY
      go_wp2_with (first
        | (go_at_call 17; ((with_reducible refine HSM2.out.mono ?_); rintro e wx ⟨rfl, hbx⟩))
        | (go_at_call 10; ((with_reducible refine (HLV3.out _ hbx).mono ?_); rintro e wz ⟨rfl, hbz⟩)))
      go_ret
      exact ⟨rfl, HBW.out.trans (hbz.mono HBW.out.size)⟩
    · clear HSM HWAY
      obtain ⟨m', t', i'⟩ := fz
      simp only at r0 r1 r2
      by_cases x1 : m' = m
      · by_cases x2 : t' = s
        · have x3 : i' ≠ i := fun h => hzz (by rw [x1, x2, h])
          have hne : (i'.toList == i.toList) = false := ba_ne x3
          subst x1 x2
          clear hzz x3
          go_wp2_with (go_at_call 10; ((with_reducible refine (HLV3.out _ (Below.refl _ _)).mono ?_); rintro e wz ⟨rfl, hbz⟩))
          go_ret
          exact ⟨rfl, HBW.out.trans (hbz.mono HBW.out.size)⟩
        · have hne : (t'.toList == s.toList) = false := ba_ne x2
          subst x1
          clear hzz x2
          go_wp2_with (go_at_call 10; ((with_reducible refine (HLV3.out _ (Below.refl _ _)).mono ?_); rintro e wz ⟨rfl, hbz⟩))
          go_ret
          exact ⟨rfl, HBW.out.trans (hbz.mono HBW.out.size)⟩
      · have hne : (m' == m) = false := by simpa using x1
        clear hzz
        go_wp2_with (go_at_call 10; ((with_reducible refine (HLV3.out _ (Below.refl _ _)).mono ?_); rintro e wz ⟨rfl, hbz⟩))
        go_ret
        exact ⟨rfl, HBW.out.trans (hbz.mono HBW.out.size)⟩
end
end Go.Proofs.YtjholoajgnpodaaDoor
