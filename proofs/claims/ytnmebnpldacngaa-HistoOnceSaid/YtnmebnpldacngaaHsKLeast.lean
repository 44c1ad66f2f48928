/-
  The walk of the keeper's least.
-/
import Derived.Test.YtnmebnpldacngaaHsKeep
import Derived.Test.YtnmebnpldacngaaDfLens
namespace Go.Proofs.Ytnmebnpldacngaa
open Go.RowKit

theorem SRw.take {w : World} {p : Option Addr} {ls : List (List UInt8)} (h : SRw w p ls) (i : Nat) : SRw w p (ls.take i) := fun k hk => by
  rw [List.length_take] at hk
  obtain ⟨g, o, hp, hg, h0⟩ := h k (by omega)
  exact ⟨g, o, hp, hg, by rw [h0, List.getElem_take]⟩
/-- The runs that the least script keeps. -/
def LSr (x y : List (List UInt8)) : List Rn := stL wrap64 x.length (leastL x y) 0 0 []
theorem lsr_ch {x y : List (List UInt8)} (hx : x.length ≤ 4096) (hy : y.length ≤ 4096) : Ch x y (LSr x y) 0 0 x.length y.length :=
  stL_ch x y wrap64 (fun z h1 h2 => wrap_small h1 (by omega)) (leastL x y) true 0 0 (leastL_val ⟨hx, hy⟩) (Nat.zero_le _) (Nat.zero_le _)
theorem lsr_len (x y : List (List UInt8)) : (LSr x y).length ≤ 2 + x.length + y.length := by
  have h1 := stL_len wrap64 x.length (leastL x y) 0 0 []
  have h2 := leastL_len x y
  unfold LSr
  simp only [List.length_nil] at h1
  omega
theorem kp_len (i j n : Int) : (kp i j n).length ≤ 1 := by unfold kp; split <;> simp
theorem flat_len {α β : Type} (f : α → List β) (h : ∀ a, (f a).length ≤ 1) : ∀ l : List α, (l.flatMap f).length ≤ l.length
  | [] => by simp
  | a :: l => by
    have := flat_len f h l
    have := h a
    rw [List.flatMap_cons, List.length_append, List.length_cons]
    omega
/-- The lists of the keeper, in every world of its own. -/
structure Kl (W : World) (K : Nat) (pa pb : Option Addr) (n m ca cb : Nat) (la lb : List (List UInt8)) : Prop where
  ra : ∀ w, W.grownBy w (some K) → SRw w pa la
  rb : ∀ w, W.grownBy w (some K) → SRw w pb lb
  na : n = la.length
  nb : m = lb.length
  ca : n ≤ ca
  cb : m ≤ cb
  few : n ≤ 2000 ∧ m ≤ 2000
  sa : ∀ t ∈ la, t.length ≤ 140737488355328
  sb : ∀ t ∈ lb, t.length ≤ 140737488355328
theorem fr_below {w w' : World} {K g : Nat} {sa sb : Value} {v : Value} (h : Fr K sa sb g w) (hk : w.heap[K]? = some (.cells #[sa, sb, v] 47 (0, 0))) (hb : Below w.heap.size w w') : Fr K sa sb g w' := fun u hu => h u (by rw [← hb.block _ (row_lt hk)]; exact hu)
/-- The row of runs that a loop reads lies apart from the keeper's. -/
def Ap2 (K : Nat) (sa sb : Value) (p : Option Addr) (w : World) : Prop := ∀ g o, p = some ⟨g, o, none⟩ → g ≠ K ∧ Fr K sa sb g w
theorem rrw_fx {w w' : World} {K : Nat} {sa sb : Value} {p : Option Addr} {S : List Rn} (h : RRw w p S) (ha : Ap2 K sa sb p w) (hf : Fx K sa sb w w') (hs : w.heap.size ≤ w'.heap.size) : RRw w' p S := fun k hk => by
  obtain ⟨g, o, rfl, hg, h0, h1, h2⟩ := h k hk
  obtain ⟨a1, a2⟩ := ha g o rfl
  have hb := (hf g hg a1 a2).2
  exact ⟨g, o, rfl, Nat.lt_of_lt_of_le hg hs, (World.cell?_of_block (a := ⟨g, _, none⟩) hb).trans h0, (World.cell?_of_block (a := ⟨g, _, none⟩) hb).trans h1, (World.cell?_of_block (a := ⟨g, _, none⟩) hb).trans h2⟩
theorem ap2_fx {w w' : World} {K : Nat} {sa sb : Value} {p : Option Addr} (ha : Ap2 K sa sb p w) (hp : ∀ g o, p = some ⟨g, o, none⟩ → g < w.heap.size) (hf : Fx K sa sb w w') : Ap2 K sa sb p w' := fun g o hgo =>
  ⟨(ha g o hgo).1, (hf g (hp g o hgo) (ha g o hgo).1 (ha g o hgo).2).1⟩
set_option maxHeartbeats 2000000 in
set_option maxRecDepth 4000 in
theorem hkleast_any (W : World) (K n m ca cb i x j y : Nat) (pa pb : Option Addr) (la lb X Y : List (List UInt8)) (acc R : List Rn) (wx : World) (hk : Kl W K pa pb n m ca cb la lb) (h : Kp W K (.slice pa n ca) (.slice pb m cb) acc wx) (hl : acc.length ≤ 500000)
    (hx : i + x ≤ n) (hy : j + y ≤ m) (hX : X = (la.drop i).take x) (hY : Y = (lb.drop j).take y) (hR : R = acc ++ (LSr X Y).flatMap fun r => kp ((i : Int) + r.a) ((j : Int) + r.b) r.n) :
    Calls Try.prog 55 #[.pointer (some ⟨K, 0, none⟩), .int .i64 (i : Int), .int .i64 ((i + x : Nat) : Int), .int .i64 (j : Int), .int .i64 ((j + y : Nat) : Int)] wx fun e w' => e = .returned (.tuple #[]) ∧ Kp W K (.slice pa n ca) (.slice pb m cb) R w' ∧ Fz K (.slice pa n ca) (.slice pb m cb) wx w' := by
  obtain ⟨v, h1, ho⟩ := h.box
  have c0 := cell_of_row wx K 0 _ _ _ h1
  have c1 := cell_of_row wx K 1 _ _ _ h1
  have hf := hk.few
  have hXl : x = X.length := by rw [hX, List.length_take, List.length_drop, ← hk.na]; omega
  have hYl : y = Y.length := by rw [hY, List.length_take, List.length_drop, ← hk.nb]; omega
  obtain ⟨P, hP⟩ : ∃ P, (if ca = i then pa else pa.map (·.add i)) = P := ⟨_, rfl⟩
  obtain ⟨Q, hQ⟩ : ∃ Q, (if cb = j then pb else pb.map (·.add j)) = Q := ⟨_, rfl⟩
  have HL : Hid (∀ w, Below wx.heap.size wx w → Calls Try.prog 21 #[.slice P x (ca - i), .slice Q y (cb - j)] w fun e w' => (∃ v, e = .returned v ∧ EOw w' w.heap.size v (leastL X Y)) ∧ Below w.heap.size w w') := fun w hw => by
    have ga := hk.ra w (grown_below h.grown hw)
    have gb := hk.rb w (grown_below h.grown hw)
    have ka := (ga.cut (c := ca) i (by rw [← hk.na]; exact hk.ca) (by rw [← hk.na]; omega)).take x
    have kb := (gb.cut (c := cb) j (by rw [← hk.nb]; exact hk.cb) (by rw [← hk.nb]; omega)).take y
    rw [hP, ← hX] at ka
    rw [hQ, ← hY] at kb
    have := hk.ca
    have := hk.cb
    exact least_any X Y P Q _ _ _ _ w hXl hYl ka kb (by omega) (by omega) (by omega) (by omega) (fun t ht => hk.sa t (by rw [hX] at ht; exact List.mem_of_mem_drop (List.mem_of_mem_take ht))) (fun t ht => hk.sb t (by rw [hY] at ht; exact List.mem_of_mem_drop (List.mem_of_mem_take ht)))
  have HH := Lib.hid h
  have HKL := Lib.hid hk
  have hsl := lsr_len X Y
  have hll := leastL_len X Y
  have HBD : Hid (∀ r ∈ LSr X Y, ∃ a b c : Nat, r = ⟨a, b, c⟩ ∧ a ≤ 2000 ∧ b ≤ 2000 ∧ c ≤ 2000) := fun r hr => by
    obtain ⟨a, b, c, h1, h2, h3, h4⟩ := (lsr_ch (x := X) (y := Y) (by omega) (by omega)).all r hr
    exact ⟨a, b, c, h1, by omega, by omega, by omega⟩
  have HSL : Hid ((LSr X Y).length ≤ 5000) := by show _ ≤ _; omega
  have HLL : Hid ((leastL X Y).length ≤ 5000) := by show _ ≤ _; omega
  clear hsl hll
  have HR := Lib.hid hR
  have HX := Lib.hid hXl
  have hca := hk.ca
  have hcb := hk.cb
  have hii : (i : Int) ≤ ((i + x : Nat) : Int) := by omega
  have hjj : (j : Int) ≤ ((j + y : Nat) : Int) := by omega
  have hic : ((i + x : Nat) : Int) ≤ (ca : Int) := by omega
  have hjc : ((j + y : Nat) : Int) ≤ (cb : Int) := by omega
  obtain ⟨ix, hix⟩ : ∃ ix, ix = i + x := ⟨_, rfl⟩
  obtain ⟨jy, hjy⟩ : ∃ jy, jy = j + y := ⟨_, rfl⟩
  have e1 : ix - i = x := by omega
  have e2 : jy - j = y := by omega
  rw [← hix] at hii hic ⊢
  rw [← hjy] at hjj hjc ⊢
  have hii2 : i ≤ ix := by omega
  have hjj2 : j ≤ jy := by omega
  have hic2 : ix ≤ ca := by omega
  have hjc2 : jy ≤ cb := by omega
  clear h1 ho h hk hR hXl hYl hX hY hix hjy
  go_enter Try.func55, Try.ntmps55
  go_upto_region 0 with fail
  obtain ⟨l1, hl1⟩ : ∃ l1, l1 = (leastL X Y).length := ⟨_, rfl⟩
  have HL1 := Lib.hid hl1
  clear hl1
  go_cut [10] (fun v10 wc => ∃ p1 cp1, v10 = .slice p1 l1 cp1 ∧ Hid (ERw wc p1 (leastL X Y)) ∧ Hid (Below wx.heap.size wx wc))
  case first =>
    clear HH HKL HBD HR
    go_region_with (go_at_call 21; ((refine (HL.out _ ?_).mono ?_); exact below_drewN (Below.refl _ _) 1; rintro e w1 ⟨⟨v1, rfl, ho1⟩, hb1⟩; obtain ⟨p1, cp1, rfl, he1⟩ := ho1.rw; rw [← HL1.out]; have HB01 : Hid (Below wx.heap.size wx w1) := (show Below wx.heap.size wx wx.drew from (Below.refl _ _).drew).trans hb1; have HE1 := Lib.hid he1))
    all_goals go_wp2
    all_goals go_meet
    all_goals exact ⟨p1, cp1, rfl, HE1, HB01⟩
  case rest =>
    obtain ⟨p1, cp1, rfl, HE1, HB01⟩ := hcut
    clear c0 c1 hP hQ HL
    obtain ⟨w1, hw1⟩ : ∃ w1, w1 = wc := ⟨_, rfl⟩
    rw [← hw1] at HE1 HB01 ⊢
    clear hw1
    have hl1b : l1 ≤ 5000 := by rw [HL1.out]; exact HLL.out
    have HU : Hid (∀ z : Int, z = (x : Int) → Calls Try.prog 58 #[.slice p1 l1 cp1, .int .i64 z] w1 fun e w' => (∃ v, e = .returned v ∧ ROw w' w1.heap.size v (LSr X Y)) ∧ Below w1.heap.size w1 w') := by
      rintro z rfl
      have := unchanged_any (leastL X Y) p1 cp1 l1 (x : Int) w1 HL1.out HE1.out (by omega)
      rw [show stL wrap64 (x : Int) (leastL X Y) 0 0 [] = LSr X Y by unfold LSr; rw [HX.out]] at this
      exact this
    obtain ⟨l2, hl2⟩ : ∃ l2, l2 = (LSr X Y).length := ⟨_, rfl⟩
    have HL2 := Lib.hid hl2
    clear hl2
    go_upto_region 2 with (go_at_call 58; ((with_reducible refine (HU.out _ ?hz).mono ?_); (case hz => first | rfl | omega | (rw [IntWalk.i64_in _ (by omega)]; omega)); rintro e w2 ⟨⟨v2, rfl, ho2⟩, hb2⟩; obtain ⟨p2, cp2, rfl, he2⟩ := ho2.rw; rw [← HL2.out]; have HE2 := Lib.hid he2; have HO2 := Lib.hid ho2; have HB2 := Lib.hid hb2; clear he2 ho2 hb2))
    have hl2b : l2 ≤ 5000 := by rw [HL2.out]; exact HSL.out
    have HBW := Lib.hid (HB01.out.trans (HB2.out.mono HB01.out.size))
    have HKP0 : Hid (Kp W K (.slice pa n ca) (.slice pb m cb) (acc ++ ((LSr X Y).take 0).flatMap fun r => kp ((i : Int) + r.a) ((j : Int) + r.b) r.n) w2) := by
      show Kp _ _ _ _ _ _
      rw [List.take_zero, List.flatMap_nil, List.append_nil]
      exact HH.out.below HBW.out
    have HAP0 : Hid (Ap2 K (.slice pa n ca) (.slice pb m cb) p2 w2) := fun g o hgo => by
      obtain ⟨v0, h1, h2⟩ := HH.out.box
      have hK := row_lt h1
      have hg1 : w1.heap.size ≤ g := by
        rcases HO2.out.2 with ⟨hn, _⟩ | ⟨g2, cap2, cur, he2, hge, _⟩
        · rw [hgo] at hn; simp at hn
        · rw [hgo] at he2
          simp only [Value.slice.injEq, Option.some.injEq, Addr.mk.injEq] at he2
          omega
      have hs1 := HB01.out.size
      refine ⟨by omega, fr_below (v := v0) (fun u hu => ?_) h1 HBW.out⟩
      rw [h1] at hu
      simp only [Option.some.injEq, Obj.cells.injEq, and_true, List.cons.injEq, Array.mk.injEq, true_and] at hu
      rw [← hu]
      intro he
      have := (World.ownsRow.lt h2 g he).2
      omega
    have HFZ0 : Hid (Fz K (.slice pa n ca) (.slice pb m cb) wx w2) := fz_below HH.out HBW.out
    clear HU HL1 hl1b HB01 HB2 HO2 HE1 HX HLL HSL HBW HH
    go_loopw [34] (fun iv wr => ∃ k : Nat, k ≤ l2 ∧ iv = .int .i64 k ∧ Hid (Kp W K (.slice pa n ca) (.slice pb m cb) (acc ++ ((LSr X Y).take k).flatMap fun r => kp ((i : Int) + r.a) ((j : Int) + r.b) r.n) wr) ∧ Hid (RRw wr p2 (LSr X Y)) ∧ Hid (Ap2 K (.slice pa n ca) (.slice pb m cb) p2 wr) ∧ Hid (Fz K (.slice pa n ca) (.slice pb m cb) wx wr)) (fun iv _ => l2 - (intOf iv).toNat)
    case atStart => exact ⟨0, by omega, rfl, HKP0, HE2, HAP0, HFZ0⟩
    case round =>
      clear HKP0 HE2 HAP0 HFZ0
      obtain ⟨k, hk, rfl, HKP, HE2, HAP, HFZ⟩ := hrel
      by_cases hlt : k < l2
      · have hkl : k < (LSr X Y).length := by rw [← HL2.out]; exact hlt
        obtain ⟨g, o, rfl, hg, a0, a1, a2⟩ := HE2.out k hkl
        obtain ⟨ra, rb, rn, hr, hra, hrb, hrn⟩ := HBD.out _ (List.getElem_mem hkl)
        rw [hr] at a0 a1 a2
        have hnx : ((LSr X Y).take (k + 1)).flatMap (fun r => kp ((i : Int) + r.a) ((j : Int) + r.b) r.n) = ((LSr X Y).take k).flatMap (fun r => kp ((i : Int) + r.a) ((j : Int) + r.b) r.n) ++ kp ((i : Int) + (ra : Int)) ((j : Int) + (rb : Int)) rn := by
          rw [List.take_succ_eq_append_getElem hkl, List.flatMap_append, List.flatMap_singleton, hr]
        obtain ⟨A, hA⟩ : ∃ A, A = acc ++ ((LSr X Y).take k).flatMap fun r => kp ((i : Int) + r.a) ((j : Int) + r.b) r.n := ⟨_, rfl⟩
        have hAl : A.length ≤ 1000000 := by
          have := flat_len (fun r : Rn => kp ((i : Int) + r.a) ((j : Int) + r.b) r.n) (fun r => kp_len _ _ _) ((LSr X Y).take k)
          rw [List.length_take] at this
          rw [hA, List.length_append]
          omega
        rw [← hA] at HKP
        have HA := Lib.hid hA
        have HNX := Lib.hid hnx
        clear hA hnx hr hkl
        go_upto_region 4 with fail
        obtain ⟨w3, hw3⟩ : ∃ w3, w3 = wr.alloc (.cells #[.int .i64 (ra : Int), .int .i64 (rb : Int), .int .i64 (rn : Int)] 30) := ⟨_, rfl⟩
        obtain ⟨E, hE⟩ : ∃ E, E = wr.heap.size := ⟨_, rfl⟩
        rw [← hw3, ← hE]
        have hb3 : Below wr.heap.size wr w3 := by rw [hw3]; exact below_new (Below.refl _ _) _
        have hent : w3.heap[E]? = some (.cells #[.int .i64 (ra : Int), .int .i64 (rb : Int), .int .i64 (rn : Int)] 30 (0, 0)) := by rw [hw3, hE]; exact heap_alloc_new _ _
        have r0 := cell_of_row w3 E 0 _ _ _ hent
        have r1 := cell_of_row w3 E 1 _ _ _ hent
        have r2 := cell_of_row w3 E 2 _ _ _ hent
        have HKP3 := Lib.hid (HKP.out.below hb3)
        have HE3 := Lib.hid (HE2.out.below hb3)
        have HFZ3 := Lib.hid (fz_trans HFZ.out (fz_below HKP.out hb3))
        have HAP3 : Hid (Ap2 K (.slice pa n ca) (.slice pb m cb) (some ⟨g, o, none⟩) w3) := fun g' o' hgo => by
          obtain ⟨v0, h1, _⟩ := HKP.out.box
          obtain ⟨q1, q2⟩ := HAP.out g' o' hgo
          exact ⟨q1, fr_below q2 h1 hb3⟩
        have HKE : Hid (∀ z1 z2 : Int, z1 = (i : Int) + ra → z2 = (j : Int) + rb → Calls Try.prog 39 #[.pointer (some ⟨K, 0, none⟩), .int .i64 z1, .int .i64 z2, .int .i64 (rn : Int)] w3 fun e w' => e = .returned (.tuple #[]) ∧ Kp W K (.slice pa n ca) (.slice pb m cb) (A ++ kp ((i : Int) + ra) ((j : Int) + rb) rn) w' ∧ Fx K (.slice pa n ca) (.slice pb m cb) w3 w' ∧ w3.heap.size ≤ w'.heap.size) := by
          rintro z1 z2 rfl rfl
          exact hkeep_any W K _ _ A _ _ _ _ w3 HKP3.out (by omega) rfl
        clear hw3 hE hb3 hent HKP HE2 HAP a0 a1 a2 hg
        go_wp2_with (go_at_call 39; ((with_reducible refine (HKE.out _ _ ?hz1 ?hz2).mono ?_); (case hz1 => first | rfl | omega | (rw [IntWalk.i64_in _ (by omega)])); (case hz2 => first | rfl | omega | (rw [IntWalk.i64_in _ (by omega)])); rintro e w4 ⟨rfl, hkp4, hfx4, hsz4⟩; have HKP4 := Lib.hid hkp4; have HFZ4 := Lib.hid (fz_trans HFZ3.out ⟨hfx4, hsz4⟩); have HE4 := Lib.hid (rrw_fx HE3.out HAP3.out hfx4 hsz4); have HAP4 := Lib.hid (ap2_fx HAP3.out (fun g' o' hgo => by obtain ⟨g2, o2, hh, hlt2, _⟩ := HE3.out k (by rw [← HL2.out]; exact hlt); rw [hgo] at hh; cases hh; exact hlt2) hfx4); clear hkp4 hfx4 hsz4))
        go_roundw
        case rel => exact ⟨k + 1, by omega, by go_num, by rw [HNX.out, ← List.append_assoc, ← HA.out]; exact HKP4, HE4, HAP4, HFZ4⟩
        case measure => simp [intOf]; omega
      · obtain rfl : k = l2 := by omega
        have HF : Hid (Kp W K (.slice pa n ca) (.slice pb m cb) R wr) := by
          show Kp _ _ _ _ _ _
          rw [HR.out]
          have := HKP.out
          rw [HL2.out, List.take_length] at this
          exact this
        clear HKP HE2 HAP
        go_wp2_with fail
        refine bodyPost_end (results_none rfl _ _ _) rfl ?_
        exact ⟨rfl, HF.out, HFZ.out⟩
end Go.Proofs.Ytnmebnpldacngaa
