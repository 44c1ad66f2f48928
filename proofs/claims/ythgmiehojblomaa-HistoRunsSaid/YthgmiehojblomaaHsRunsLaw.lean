/-
  The walk of the law HistoRuns.
-/
import Derived.Test.YthgmiehojblomaaHsAppliesLaw
import Derived.Deep.QuietTactic
import Derived.BigQuiet
import Derived.IntWalk
import Derived.Laws.Slices
namespace Go.Proofs.Ythgmiehojblomaa
open Go.RowKit

theorem anc_none {a b : List (List UInt8)} (h : anc a b = none) {i : Nat} (hi : i < a.length) (hb : 0 < b.count a[i]) : 64 < a.count a[i] := by
  have h1 := anc_is a b
  rw [h] at h1
  obtain ⟨j, hj, he⟩ := List.mem_iff_getElem.mp (List.count_pos_iff.mp hb)
  have he2 : a[i]? = b[j]? := by rw [List.getElem?_eq_getElem hi, List.getElem?_eq_getElem hj, he]
  obtain ⟨hr, hc⟩ := run_is hi hj he2
  have h2 : 64 < rr a (run a b i j) := h1 _ hr
  have h3 : rr a (run a b i j) ≤ @List.count _ instBEqOfDecidableEq a[i] a := by
    have hbk := (bk_le a b i j).1
    refine rr_le (a := a) (r := run a b i j) (k := bk a b i j) (x := a[i]) ?_ ?_
    · simp only [run]; omega
    · simp only [run]
      rw [show i - bk a b i j + bk a b i j = i by omega, List.getElem?_eq_getElem hi]
  have h4 : @List.count _ instBEqOfDecidableEq a[i] a = a.count a[i] := List.countP_congr fun x _ => ⟨fun h => beq_iff_eq.mpr (of_decide_eq_true h), fun h => decide_eq_true (beq_iff_eq.mp h)⟩
  omega
theorem IsRun.same {a b : List (List UInt8)} {r : Ru} (h : IsRun a b r) : (a.drop r.a).take r.n = (b.drop r.b).take r.n := by
  have h2 := h.la
  have h3 := h.lb
  refine List.ext_getElem? fun k => ?_
  rcases Nat.lt_or_ge k r.n with hk | hk
  · rw [List.getElem?_take_of_lt hk, List.getElem?_take_of_lt hk, List.getElem?_drop, List.getElem?_drop]
    exact h.eq k hk
  · rw [List.getElem?_eq_none (by rw [List.length_take, List.length_drop]; omega), List.getElem?_eq_none (by rw [List.length_take, List.length_drop]; omega)]
theorem srw_cellAt {w : World} {g o : Nat} {ls : List (List UInt8)} (h : SRw w (some ⟨g, o, none⟩) ls) {k : Nat} (hk : k < ls.length) : w.cell? ⟨g, o + k, none⟩ = some (.string (str ls[k])) := by
  obtain ⟨g', o', he, -, hc⟩ := h k hk
  cases he
  exact hc
theorem cells_ne {w : World} {g o g' o' n m a b : Nat} {la lb : List (List UInt8)} (h : SRw w (some ⟨g, o, none⟩) la) (h' : SRw w (some ⟨g', o', none⟩) lb) (hn : n = la.length) (hm : m = lb.length) (ha : a < n) (hb : b < m) (hne : la[a]? ≠ lb[b]?) :
    ∃ u v : ByteArray, w.cell? ⟨g, o + a, none⟩ = some (.string u) ∧ w.cell? ⟨g', o' + b, none⟩ = some (.string v) ∧ (u.toList == v.toList) = false := by
  have ha2 : a < la.length := by omega
  have hb2 : b < lb.length := by omega
  rw [List.getElem?_eq_getElem ha2, List.getElem?_eq_getElem hb2] at hne
  exact ⟨_, _, srw_cellAt h ha2, srw_cellAt h' hb2, (str_ne (fun e => hne (by rw [e]))).1⟩
section
variable {W : World} {la lb : List (List UInt8)} {p q : Option Addr} {n m c d : Nat}
set_option maxHeartbeats 4000000 in
set_option maxRecDepth 4000 in
theorem hsRuns_walk (A : SA W la p n c) (B : SA W lb q m d) : Calls Try.prog 7 #[.slice p n c, .slice q m d] W fun e W' => e = .returned (.bool true) ∧ Below W.heap.size W W' := by
  obtain ⟨sa, hsa⟩ : ∃ sa, sa = smallL la := ⟨_, rfl⟩
  obtain ⟨sb, hsb⟩ : ∃ sb, sb = smallL lb := ⟨_, rfl⟩
  have HS1 := Lib.hid (hsmall_any la p c n sa W A.len A.row (by have := A.few; omega) A.short hsa)
  have HS2 := Lib.hid (hsmall_any lb q d m sb W B.len B.row (by have := B.few; omega) B.short hsb)
  have HLV := Lib.hid (fun w => hlives_any w)
  by_cases hs : sa = true ∧ sb = true
  · obtain ⟨rfl, rfl⟩ := hs
    have hn := (smallL_out hsa.symm).1
    have hm := (smallL_out hsb.symm).1
    rw [← A.len] at hn
    rw [← B.len] at hm
    obtain ⟨o, ho⟩ : ∃ o, o = anc la lb := ⟨_, rfl⟩
    have hAN := anc_is la lb
    have HAC := hAnchor_any la lb p q c d n m W A.len B.len A.row B.row (by omega) (by omega) A.short B.short
    rw [← ho] at hAN HAC
    have HAC := Lib.hid HAC
    have HCA := Lib.hid (fun (w : World) (hb : Below W.heap.size W w) (s : List UInt8) (C : Nat) (hC : C = la.count s) => hcount_any la s p c n C w A.len (A.row.below hb) (by omega) hC)
    have HCB := Lib.hid (fun (w : World) (hb : Below W.heap.size W w) (s : List UInt8) (C : Nat) (hC : C = lb.count s) => hcount_any lb s q d m C w B.len (B.row.below hb) (by omega) hC)
    have HLA := Lib.hid A.len
    have HPA := Lib.hid A.row
    have HLB := Lib.hid B.len
    have HPB := Lib.hid B.row
    cases o with
    | none =>
      simp only [ancV] at HAC
      have HNO := Lib.hid (fun i (hi : i < la.length) => anc_none ho.symm hi)
      clear ho hAN hsa hsb A B
      go_enter Try.func7, Try.ntmps7
      go_wp2_with (first
        | (go_at_call 8; first
          | ((with_reducible refine HS1.out.mono ?_); rintro e w' ⟨rfl, rfl⟩)
          | ((with_reducible refine HS2.out.mono ?_); rintro e w' ⟨rfl, rfl⟩))
        | (go_at_call 13; ((refine HAC.out.mono ?_); rintro e w1 ⟨rfl, hb1⟩)))
      obtain ⟨S, hS⟩ : ∃ S, S = w1.heap.size := ⟨_, rfl⟩
      rw [← hS]
      obtain ⟨w2, hw2⟩ : ∃ w2, w2 = w1.alloc (.cells #[.int .i64 0, .int .i64 0, .int .i64 0] 30) := ⟨_, rfl⟩
      rw [← hw2]
      have hb2 : Below W.heap.size W w2 := by rw [hw2]; exact below_new hb1 _
      have hrow : w2.heap[S]? = some (.cells #[.int .i64 0, .int .i64 0, .int .i64 0] 30 (0, 0)) := by rw [hw2, hS]; exact heap_alloc_new _ _
      have HB2 := Lib.hid hb2
      have HRW := Lib.hid hrow
      have HPA2 := Lib.hid (HPA.out.below hb2)
      clear hS hw2 hrow hb1
      go_loopw [7] (fun iv wr => ∃ k : Nat, k ≤ n ∧ iv = .int .i64 k ∧ wr = w2) (fun iv _ => n - (intOf iv).toNat)
      case atStart => exact ⟨0, by omega, rfl, rfl⟩
      case round =>
        obtain ⟨k, hk, rfl, rfl⟩ := hrel
        by_cases hlt : k < n
        · have hkl : k < la.length := by rw [← HLA.out]; exact hlt
          obtain ⟨g, ofs, rfl, hg, a0⟩ := HPA2.out k hkl
          have hno := HNO.out k hkl
          have hca := HCA.out wr hb2 la[k]
          have hcb := HCB.out wr hb2 la[k]
          obtain ⟨ca, hca'⟩ : ∃ ca, ca = la.count la[k] := ⟨_, rfl⟩
          obtain ⟨cb, hcb'⟩ : ∃ cb, cb = lb.count la[k] := ⟨_, rfl⟩
          have HCA1 := Lib.hid (hca ca hca')
          have HCB1 := Lib.hid (hcb cb hcb')
          rw [← hca', ← hcb'] at hno
          obtain ⟨u, hu⟩ : ∃ u, u = str la[k] := ⟨_, rfl⟩
          rw [← hu] at a0 HCA1 HCB1
          clear hu hca hcb hca' hcb' hkl hg
          by_cases h0 : 0 < cb
          · have h64 := hno h0
            clear hno
            go_wp2_with (go_at_call 15; first
              | ((with_reducible refine HCB1.out.mono ?_); rintro e w' ⟨rfl, rfl⟩)
              | ((with_reducible refine HCA1.out.mono ?_); rintro e w' ⟨rfl, rfl⟩))
            go_roundw
            case rel => exact ⟨k + 1, by omega, by go_num, trivial⟩
            case measure => simp [intOf]; omega
          · obtain rfl : cb = 0 := by omega
            clear hno h0
            go_wp2_with (go_at_call 15; first
              | ((with_reducible refine HCB1.out.mono ?_); rintro e w' ⟨rfl, rfl⟩)
              | ((with_reducible refine HCA1.out.mono ?_); rintro e w' ⟨rfl, rfl⟩))
            go_roundw
            case rel => exact ⟨k + 1, by omega, by go_num, trivial⟩
            case measure => simp [intOf]; omega
        · go_wp2_with (go_at_call 9; ((with_reducible refine (HLV.out _).mono ?_); rintro e w3 ⟨rfl, hb3⟩; have hr3 := (hb3.block _ (row_lt HRW.out)).trans HRW.out; have z0 := cell_of_row w3 S 0 _ _ _ hr3; have z1 := cell_of_row w3 S 1 _ _ _ hr3; have z2 := cell_of_row w3 S 2 _ _ _ hr3; have HB3 := Lib.hid (HB2.out.trans (hb3.mono HB2.out.size)); clear hr3 hb3))
          go_ret
          exact ⟨rfl, HB3.out⟩
    | some r =>
      obtain ⟨hR, -, -⟩ := hAN
      have hsame := hR.same
      obtain ⟨r1, r2, r3, -, r5, r6⟩ := hR
      obtain ⟨ra, rb, rn⟩ := r
      simp only at r1 r2 r3 r5 r6 hsame
      rw [← A.len] at r2 r6
      rw [← B.len] at r3 r6
      have hcA := A.cap
      have hcB := B.cap
      simp only [ancV, Ru.val] at HAC
      clear ho hsa hsb A B
      go_enter Try.func7, Try.ntmps7
      go_wp2_with (first
        | (go_at_call 8; first
          | ((with_reducible refine HS1.out.mono ?_); rintro e w' ⟨rfl, rfl⟩)
          | ((with_reducible refine HS2.out.mono ?_); rintro e w' ⟨rfl, rfl⟩))
        | (go_at_call 13; ((refine HAC.out.mono ?_); rintro e w1 ⟨rfl, hb1⟩)))
      obtain ⟨S, hS⟩ : ∃ S, S = w1.heap.size := ⟨_, rfl⟩
      rw [← hS]
      obtain ⟨w2, hw2⟩ : ∃ w2, w2 = w1.alloc (.cells #[.int .i64 (ra : Int), .int .i64 (rb : Int), .int .i64 (rn : Int)] 30) := ⟨_, rfl⟩
      rw [← hw2]
      have hb2 : Below W.heap.size W w2 := by rw [hw2]; exact below_new hb1 _
      have hrow : w2.heap[S]? = some (.cells #[.int .i64 (ra : Int), .int .i64 (rb : Int), .int .i64 (rn : Int)] 30 (0, 0)) := by rw [hw2, hS]; exact heap_alloc_new _ _
      have HB2 := Lib.hid hb2
      have HRW := Lib.hid hrow
      have HPA2 := Lib.hid (HPA.out.below hb2)
      have HPB2 := Lib.hid (HPB.out.below hb2)
      have z0 := cell_of_row w2 S 0 _ _ _ hrow
      have z1 := cell_of_row w2 S 1 _ _ _ hrow
      have z2 := cell_of_row w2 S 2 _ _ _ hrow
      obtain ⟨za, hza⟩ : ∃ za, za = ra + rn := ⟨_, rfl⟩
      obtain ⟨zb, hzb⟩ : ∃ zb, zb = rb + rn := ⟨_, rfl⟩
      have HSM : Hid (∀ k : Nat, Calls Try.prog 19 #[.slice (Option.map (fun x => x.add ra) p) rn (c - ra), .slice (Option.map (fun x => x.add rb) q) rn (d - rb)] (w2.drewN k) fun e w'' => e = .returned (.bool true) ∧ ∃ m, w'' = w2.drewN m) := fun k => by
        have hk : Below w2.heap.size w2 (w2.drewN k) := below_drewN (Below.refl _ _) k
        have g1 := (HPA2.out.below hk).cutTo (c := c) ra za HLA.out hcA (by omega) (by omega)
        have g2 := (HPB2.out.below hk).cutTo (c := d) rb zb HLB.out hcB (by omega) (by omega)
        rw [show za - ra = rn by omega, if_neg (by omega)] at g1
        rw [show zb - rb = rn by omega, ← hsame, if_neg (by omega)] at g2
        exact Calls.quiet_of (rsameS_any ((la.drop ra).take rn) _ _ _ _ rn _ (by rw [List.length_take, List.length_drop, ← HLA.out]; omega) g1 g2 (by rw [List.length_take]; omega))
      have s1 : (ra : Int) + (rn : Int) = (za : Int) := by omega
      have s2 : (rb : Int) + (rn : Int) = (zb : Int) := by omega
      have y1 : IntKind.i64.wrap (za : Int) = (za : Int) := IntWalk.i64_in _ (by omega)
      have y2 : IntKind.i64.wrap (zb : Int) = (zb : Int) := IntWalk.i64_in _ (by omega)
      have v1 : ra ≤ za := by omega
      have v2 : rb ≤ zb := by omega
      have v3 : za ≤ n := by omega
      have v4 : zb ≤ m := by omega
      have v5 : (za : Int) ≤ (n : Int) := by omega
      have v6 : (zb : Int) ≤ (m : Int) := by omega
      have d1 : decide ((rn : Int) < 1) = false := decide_eq_false (by omega)
      have d2 : decide ((ra : Int) < 0) = false := decide_eq_false (by omega)
      have d3 : decide ((rb : Int) < 0) = false := decide_eq_false (by omega)
      have d4 : decide ((n : Int) < (za : Int)) = false := decide_eq_false (by omega)
      have d5 : decide ((m : Int) < (zb : Int)) = false := decide_eq_false (by omega)
      have d6 : decide (n < za) = false := decide_eq_false (by omega)
      have d7 : decide (m < zb) = false := decide_eq_false (by omega)
      have hl1 : za - ra = rn := by omega
      have hl2 : zb - rb = rn := by omega
      rw [← hza] at r2 r6
      rw [← hzb] at r3 r6
      have HR5 := Lib.hid r5
      have HR6 := Lib.hid r6
      have HZ := Lib.hid (And.intro hza hzb)
      clear hS hw2 hrow hb1 hb2 hsame r5 r6 hza hzb HCA HCB HAC HPA HPB
      go_quiet ((go_at_call 19; exact HSM.out _))
      clear d1 d2 d3 d4 d5 d6 d7 HSM z0 z1 z2
      obtain ⟨w3, hw3⟩ : ∃ w3, w3 = w2.drewN nq := ⟨_, rfl⟩
      rw [← hw3]
      have hb3 : Below w2.heap.size w2 w3 := by rw [hw3]; exact below_drewN (Below.refl _ _) nq
      have hr3 := (hb3.block _ (row_lt HRW.out)).trans HRW.out
      have z0 := cell_of_row w3 S 0 _ _ _ hr3
      have z1 := cell_of_row w3 S 1 _ _ _ hr3
      have z2 := cell_of_row w3 S 2 _ _ _ hr3
      have HPA3 := Lib.hid (HPA2.out.below hb3)
      have HPB3 := Lib.hid (HPB2.out.below hb3)
      have HB3 := Lib.hid (HB2.out.trans (hb3.mono HB2.out.size))
      clear hw3 hb3 hr3 HPA2 HPB2 HB2 HRW
      obtain ⟨g, o, rfl, -, -⟩ := HPA3.out ra (by have := HLA.out; omega)
      obtain ⟨g', o', rfl, -, -⟩ := HPB3.out rb (by have := HLB.out; omega)
      have hZ := HZ.out
      have hLL : ra = 0 ∨ (0 < ra ∧ rb = 0) ∨ ∃ ya yb : Nat, ∃ u v : ByteArray, 0 < ra ∧ 0 < rb ∧ ra = ya + 1 ∧ rb = yb + 1 ∧ w3.cell? ⟨g, o + ya, none⟩ = some (.string u) ∧ w3.cell? ⟨g', o' + yb, none⟩ = some (.string v) ∧ (u.toList == v.toList) = false := by
        by_cases k1 : ra = 0
        · exact .inl k1
        · by_cases k2 : rb = 0
          · exact .inr (.inl ⟨by omega, k2⟩)
          · rcases HR5.out with k3 | k3 | k3
            · exact absurd k3 k1
            · exact absurd k3 k2
            · obtain ⟨u, v, c1, c2, c3⟩ := cells_ne HPA3.out HPB3.out HLA.out HLB.out (show ra - 1 < n by omega) (show rb - 1 < m by omega) k3
              exact .inr (.inr ⟨ra - 1, rb - 1, u, v, by omega, by omega, by omega, by omega, c1, c2, c3⟩)
      have hRR : za = n ∨ (za < n ∧ zb = m) ∨ ∃ u v : ByteArray, za < n ∧ zb < m ∧ w3.cell? ⟨g, o + za, none⟩ = some (.string u) ∧ w3.cell? ⟨g', o' + zb, none⟩ = some (.string v) ∧ (u.toList == v.toList) = false := by
        by_cases k1 : za = n
        · exact .inl k1
        · by_cases k2 : zb = m
          · exact .inr (.inl ⟨by omega, k2⟩)
          · rcases HR6.out with k3 | k3 | k3
            · exact absurd k3 k1
            · exact absurd k3 k2
            · obtain ⟨u, v, c1, c2, c3⟩ := cells_ne HPA3.out HPB3.out HLA.out HLB.out (show za < n by omega) (show zb < m by omega) k3
              exact .inr (.inr ⟨u, v, by omega, by omega, c1, c2, c3⟩)
      clear hZ
      go_wp2
      rcases hLL with h1 | ⟨h1, h2⟩ | ⟨ya, yb, u1, u2, h1, h2, h3, h4, a1, a2, a3⟩
      · have t1 : decide ((0 : Int) < (ra : Int)) = false := decide_eq_false (by omega)
        have t2 : decide (0 < ra) = false := decide_eq_false (by omega)
        clear h1
        rcases hRR with f1 | ⟨f1, f2⟩ | ⟨u3, u4, f1, f2, b1, b2, b3⟩
        · have x1 : decide ((za : Int) < (n : Int)) = false := decide_eq_false (by omega)
          have x2 : decide (za < n) = false := decide_eq_false (by omega)
          clear f1
          clear HR5 HR6 HZ HPA3 HPB3
          go_quiet (fail)
          go_wp2_with (go_at_call 9; ((with_reducible refine (HLV.out _).mono ?_); rintro e w4 ⟨rfl, hb4⟩; have HB4 := Lib.hid ((below_drewN HB3.out _).trans (hb4.mono (below_drewN HB3.out _).size)); clear hb4))
          go_ret
          exact ⟨rfl, HB4.out⟩
        · have x1 : decide ((za : Int) < (n : Int)) = true := decide_eq_true (by omega)
          have x2 : decide (za < n) = true := decide_eq_true (by omega)
          have x3 : decide ((zb : Int) < (m : Int)) = false := decide_eq_false (by omega)
          have x4 : decide (zb < m) = false := decide_eq_false (by omega)
          clear f1 f2
          clear HR5 HR6 HZ HPA3 HPB3
          go_quiet (fail)
          go_wp2_with (go_at_call 9; ((with_reducible refine (HLV.out _).mono ?_); rintro e w4 ⟨rfl, hb4⟩; have HB4 := Lib.hid ((below_drewN HB3.out _).trans (hb4.mono (below_drewN HB3.out _).size)); clear hb4))
          go_ret
          exact ⟨rfl, HB4.out⟩
        · have x1 : decide ((za : Int) < (n : Int)) = true := decide_eq_true (by omega)
          have x2 : decide (za < n) = true := decide_eq_true (by omega)
          have x3 : decide ((zb : Int) < (m : Int)) = true := decide_eq_true (by omega)
          have x4 : decide (zb < m) = true := decide_eq_true (by omega)
          have x5 : (za : Int) < (n : Int) := by omega
          have x6 : (zb : Int) < (m : Int) := by omega
          clear HR5 HR6 HZ HPA3 HPB3
          go_quiet (fail)
          go_wp2_with (go_at_call 9; ((with_reducible refine (HLV.out _).mono ?_); rintro e w4 ⟨rfl, hb4⟩; have HB4 := Lib.hid ((below_drewN HB3.out _).trans (hb4.mono (below_drewN HB3.out _).size)); clear hb4))
          go_ret
          exact ⟨rfl, HB4.out⟩
      · have t1 : decide ((0 : Int) < (ra : Int)) = true := decide_eq_true (by omega)
        have t2 : decide (0 < ra) = true := decide_eq_true (by omega)
        have t3 : decide ((0 : Int) < (rb : Int)) = false := decide_eq_false (by omega)
        have t4 : decide (0 < rb) = false := decide_eq_false (by omega)
        clear h1 h2
        rcases hRR with f1 | ⟨f1, f2⟩ | ⟨u3, u4, f1, f2, b1, b2, b3⟩
        · have x1 : decide ((za : Int) < (n : Int)) = false := decide_eq_false (by omega)
          have x2 : decide (za < n) = false := decide_eq_false (by omega)
          clear f1
          clear HR5 HR6 HZ HPA3 HPB3
          go_quiet (fail)
          go_wp2_with (go_at_call 9; ((with_reducible refine (HLV.out _).mono ?_); rintro e w4 ⟨rfl, hb4⟩; have HB4 := Lib.hid ((below_drewN HB3.out _).trans (hb4.mono (below_drewN HB3.out _).size)); clear hb4))
          go_ret
          exact ⟨rfl, HB4.out⟩
        · have x1 : decide ((za : Int) < (n : Int)) = true := decide_eq_true (by omega)
          have x2 : decide (za < n) = true := decide_eq_true (by omega)
          have x3 : decide ((zb : Int) < (m : Int)) = false := decide_eq_false (by omega)
          have x4 : decide (zb < m) = false := decide_eq_false (by omega)
          clear f1 f2
          clear HR5 HR6 HZ HPA3 HPB3
          go_quiet (fail)
          go_wp2_with (go_at_call 9; ((with_reducible refine (HLV.out _).mono ?_); rintro e w4 ⟨rfl, hb4⟩; have HB4 := Lib.hid ((below_drewN HB3.out _).trans (hb4.mono (below_drewN HB3.out _).size)); clear hb4))
          go_ret
          exact ⟨rfl, HB4.out⟩
        · have x1 : decide ((za : Int) < (n : Int)) = true := decide_eq_true (by omega)
          have x2 : decide (za < n) = true := decide_eq_true (by omega)
          have x3 : decide ((zb : Int) < (m : Int)) = true := decide_eq_true (by omega)
          have x4 : decide (zb < m) = true := decide_eq_true (by omega)
          have x5 : (za : Int) < (n : Int) := by omega
          have x6 : (zb : Int) < (m : Int) := by omega
          clear HR5 HR6 HZ HPA3 HPB3
          go_quiet (fail)
          go_wp2_with (go_at_call 9; ((with_reducible refine (HLV.out _).mono ?_); rintro e w4 ⟨rfl, hb4⟩; have HB4 := Lib.hid ((below_drewN HB3.out _).trans (hb4.mono (below_drewN HB3.out _).size)); clear hb4))
          go_ret
          exact ⟨rfl, HB4.out⟩
      · have t1 : decide ((0 : Int) < (ra : Int)) = true := decide_eq_true (by omega)
        have t2 : decide (0 < ra) = true := decide_eq_true (by omega)
        have t3 : decide ((0 : Int) < (rb : Int)) = true := decide_eq_true (by omega)
        have t4 : decide (0 < rb) = true := decide_eq_true (by omega)
        have t5 : (ra : Int) - 1 = (ya : Int) := by omega
        have t6 : (rb : Int) - 1 = (yb : Int) := by omega
        have t7 : IntKind.i64.wrap (ya : Int) = (ya : Int) := IntWalk.i64_in _ (by omega)
        have t8 : IntKind.i64.wrap (yb : Int) = (yb : Int) := IntWalk.i64_in _ (by omega)
        have t9 : ya < n := by omega
        have t10 : yb < m := by omega
        have t11 : (ya : Int) < (n : Int) := by omega
        have t12 : (yb : Int) < (m : Int) := by omega
        clear h1 h2 h3 h4
        rcases hRR with f1 | ⟨f1, f2⟩ | ⟨u3, u4, f1, f2, b1, b2, b3⟩
        · have x1 : decide ((za : Int) < (n : Int)) = false := decide_eq_false (by omega)
          have x2 : decide (za < n) = false := decide_eq_false (by omega)
          clear f1
          clear HR5 HR6 HZ HPA3 HPB3
          go_quiet (fail)
          go_wp2_with (go_at_call 9; ((with_reducible refine (HLV.out _).mono ?_); rintro e w4 ⟨rfl, hb4⟩; have HB4 := Lib.hid ((below_drewN HB3.out _).trans (hb4.mono (below_drewN HB3.out _).size)); clear hb4))
          go_ret
          exact ⟨rfl, HB4.out⟩
        · have x1 : decide ((za : Int) < (n : Int)) = true := decide_eq_true (by omega)
          have x2 : decide (za < n) = true := decide_eq_true (by omega)
          have x3 : decide ((zb : Int) < (m : Int)) = false := decide_eq_false (by omega)
          have x4 : decide (zb < m) = false := decide_eq_false (by omega)
          clear f1 f2
          clear HR5 HR6 HZ HPA3 HPB3
          go_quiet (fail)
          go_wp2_with (go_at_call 9; ((with_reducible refine (HLV.out _).mono ?_); rintro e w4 ⟨rfl, hb4⟩; have HB4 := Lib.hid ((below_drewN HB3.out _).trans (hb4.mono (below_drewN HB3.out _).size)); clear hb4))
          go_ret
          exact ⟨rfl, HB4.out⟩
        · have x1 : decide ((za : Int) < (n : Int)) = true := decide_eq_true (by omega)
          have x2 : decide (za < n) = true := decide_eq_true (by omega)
          have x3 : decide ((zb : Int) < (m : Int)) = true := decide_eq_true (by omega)
          have x4 : decide (zb < m) = true := decide_eq_true (by omega)
          have x5 : (za : Int) < (n : Int) := by omega
          have x6 : (zb : Int) < (m : Int) := by omega
          clear HR5 HR6 HZ HPA3 HPB3
          go_quiet (fail)
          go_wp2_with (go_at_call 9; ((with_reducible refine (HLV.out _).mono ?_); rintro e w4 ⟨rfl, hb4⟩; have HB4 := Lib.hid ((below_drewN HB3.out _).trans (hb4.mono (below_drewN HB3.out _).size)); clear hb4))
          go_ret
          exact ⟨rfl, HB4.out⟩
  · have hi2 := Below.refl W.heap.size W
    clear hsa hsb A B
    rcases sa with _ | _ <;> rcases sb with _ | _
    all_goals try (exact absurd ⟨rfl, rfl⟩ hs)
    all_goals clear hs
    all_goals go_enter Try.func7, Try.ntmps7
    all_goals go_wp2_with (first
      | (go_at_call 8; first
        | ((with_reducible refine HS1.out.mono ?_); rintro e w' ⟨rfl, rfl⟩)
        | ((with_reducible refine HS2.out.mono ?_); rintro e w' ⟨rfl, rfl⟩))
      | (go_at_call 9; ((with_reducible refine (HLV.out _).mono ?_); rintro e w3 ⟨rfl, hb3⟩)))
    all_goals go_ret
    all_goals exact ⟨rfl, hb3⟩
end
end Go.Proofs.Ythgmiehojblomaa
