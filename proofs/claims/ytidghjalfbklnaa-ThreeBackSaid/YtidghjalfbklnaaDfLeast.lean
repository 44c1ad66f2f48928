/-
  The walks of follow and of Least.
-/
import Derived.Test.YtidghjalfbklnaaDfFollow
namespace Go.Proofs.Ytidghjalfbklnaa
open Go.RowKit

def atOf (w : World) (b : Nat) : Nat := match w.cell? ⟨b, 0, none⟩ with
  | some (.int _ n) => n.toNat
  | _ => 0
theorem atOf_eq {w : World} {b a : Nat} (h : w.cell? ⟨b, 0, none⟩ = some (.int .i64 (a : Int))) : atOf w b = a := by
  unfold atOf
  rw [h]
  simp

theorem EOw.lower {w : World} {base base' : Nat} {v : Value} {l : List Ed} (h : EOw w base v l) (hb : base' ≤ base) : EOw w base' v l := by
  refine ⟨h.1, ?_⟩
  rcases h.2 with hn | ⟨g, cap, cur, rfl, h1, rest⟩
  · exact .inl hn
  · exact .inr ⟨g, cap, cur, rfl, Nat.le_trans hb h1, rest⟩
theorem heap5 (w : World) (o0 o1 o2 o3 o4 : Obj) {W : World} (h : W = ((((w.alloc o0).alloc o1).alloc o2).alloc o3).alloc o4) :
    W.heap[w.heap.size]? = some o0 ∧ W.heap[w.heap.size + 1]? = some o1 ∧ W.heap[w.heap.size + 1 + 1]? = some o2 ∧ W.heap[w.heap.size + 1 + 1 + 1]? = some o3 ∧ W.heap[w.heap.size + 1 + 1 + 1 + 1]? = some o4 ∧ W.heap.size = w.heap.size + 5 ∧ Below w.heap.size w W := by
  subst h
  have s1 : (w.alloc o0).heap.size = w.heap.size + 1 := by simp
  have s2 : ((w.alloc o0).alloc o1).heap.size = w.heap.size + 1 + 1 := by simp
  have s3 : (((w.alloc o0).alloc o1).alloc o2).heap.size = w.heap.size + 1 + 1 + 1 := by simp
  have s4 : ((((w.alloc o0).alloc o1).alloc o2).alloc o3).heap.size = w.heap.size + 1 + 1 + 1 + 1 := by simp
  have h0 := heap_alloc_new w o0
  have h1 := heap_alloc_new (w.alloc o0) o1
  have h2 := heap_alloc_new ((w.alloc o0).alloc o1) o2
  have h3 := heap_alloc_new (((w.alloc o0).alloc o1).alloc o2) o3
  have h4 := heap_alloc_new ((((w.alloc o0).alloc o1).alloc o2).alloc o3) o4
  rw [s1] at h1
  rw [s2] at h2
  rw [s3] at h3
  rw [s4] at h4
  exact ⟨row_alloc (row_alloc (row_alloc (row_alloc h0 (by omega)) (by omega)) (by omega)) (by omega), row_alloc (row_alloc (row_alloc h1 (by omega)) (by omega)) (by omega), row_alloc (row_alloc h2 (by omega)) (by omega), row_alloc h3 (by omega), h4, by simp, below_new (below_new (below_new (below_new (below_new (Below.refl _ _) _) _) _) _) _⟩

set_option maxHeartbeats 1000000 in
set_option maxRecDepth 4000 in
theorem follow_any (na nb : List Nat) (g1 g2 c d n m s : Nat) (w : World) (hn : n = na.length) (hm : m = nb.length) (hp : IRw w g1 na) (hq : IRw w g2 nb) (hl : n ≤ 4096) (hl2 : m ≤ 4096) (hs : s ≤ 4096) :
    Calls Try.prog 41 #[.agg #[.slice (some ⟨g1, 0, none⟩) n c, .slice (some ⟨g2, 0, none⟩) m d], .int .i64 (s : Int)] w fun e w' => (∃ v, e = .returned v ∧ EOw w' w.heap.size v (lst na nb (s : Int) (s : Int) [])) ∧ Below w.heap.size w w' := by
  have hmf := make_fun Try.prog
  have HN := Lib.hid hn
  have HM := Lib.hid hm
  have HP := Lib.hid hp
  have HQ := Lib.hid hq
  clear hn hm hp hq
  obtain ⟨R, hRR⟩ : ∃ R, R = lst na nb (s : Int) (s : Int) [] := ⟨_, rfl⟩
  rw [← hRR]
  have HRR : Hid (R = lst (na.drop 0) (nb.drop 0) ((s + 0 : Nat) : Int) ((s + 0 : Nat) : Int) []) := hRR
  clear hRR
  go_enter Try.func41, Try.ntmps41
  go_upto_region 4 with fail
  obtain ⟨W5, hW5⟩ : ∃ W5, W5 = ((((w.alloc (.cells #[.slice (some ⟨g1, 0, none⟩) n c, .slice (some ⟨g2, 0, none⟩) m d] 67)).alloc (.cells #[.int .i64 (s : Int)] 3)).alloc (.cells #[.slice none 0 0] 26)).alloc (.cells #[.int .i64 0] 3)).alloc (.cells #[.int .i64 0] 3) := ⟨_, rfl⟩
  obtain ⟨r0, r1, r2, r3, r4, hs5, hb5⟩ := heap5 w _ _ _ _ _ hW5
  obtain ⟨B, hB⟩ : ∃ B, B = w.heap.size := ⟨_, rfl⟩
  obtain ⟨bt, hbt⟩ : ∃ bt, bt = B + 1 := ⟨_, rfl⟩
  obtain ⟨bs, hbs⟩ : ∃ bs, bs = bt + 1 := ⟨_, rfl⟩
  obtain ⟨bi, hbi⟩ : ∃ bi, bi = bs + 1 := ⟨_, rfl⟩
  obtain ⟨bj, hbj⟩ : ∃ bj, bj = bi + 1 := ⟨_, rfl⟩
  rw [← hW5, ← hB, ← hbt, ← hbs, ← hbi, ← hbj]
  rw [← hB] at r0 r1 r2 r3 r4 hs5
  rw [← hbt] at r1 r2 r3 r4
  rw [← hbs] at r2 r3 r4
  rw [← hbi] at r3 r4
  rw [← hbj] at r4
  have q0 := cell_of_row _ B 0 _ _ _ r0
  have q1 := cell_of_row _ B 1 _ _ _ r0
  have HR := Lib.hid (And.intro r0 (And.intro r1 (And.intro r2 (And.intro r3 (And.intro r4 (And.intro hs5 hb5))))))
  have HO := Lib.hid (And.intro hB (And.intro hbt (And.intro hbs (And.intro hbi hbj))))
  clear hW5 r0 r1 r2 r3 r4 hs5 hb5 hB hbt hbs hbi hbj
  go_wp2_with (go_at_call 72; (refine (lengths_any na nb g1 g2 c d n m W5 HN.out HM.out (HP.out.below HR.out.2.2.2.2.2.2) (HQ.out.below HR.out.2.2.2.2.2.2) hl hl2).mono ?_; rintro e Wt ⟨T, rfl, hT, hTR, hbT⟩))
  have HTR := Lib.hid hTR
  have HBT := Lib.hid hbT
  have HIN : Hid (W5.heap.size ≤ T) := hT
  clear q0 q1 hTR hbT hT
  have HBX : Hid (Bx w Wt bs bi bj) := by
    have h1 := HR.out.2.2.2.2.2.1
    have h2 := HBT.out.size
    have h3 := HO.out
    exact ⟨by omega, by omega, by omega⟩
  have HWW : Hid (w.heap.size ≤ Wt.heap.size) := by
    show _ ≤ _
    have h1 := HR.out.2.2.2.2.2.1
    have h2 := HBT.out.size
    have h3 := HO.out
    omega
  have HBB : Hid (B < bt ∧ bt < bs ∧ bs < bi ∧ bi < bj ∧ bj < W5.heap.size) := by
    have h1 := HR.out.2.2.2.2.2.1
    have h3 := HO.out
    show _ ∧ _
    omega
  have HST : Hid (Wt.heap[bt]? = some (.cells #[.int .i64 (s : Int)] 3 (0, 0))) := (HBT.out.block bt (by have := HBB.out; omega)).trans HR.out.2.1
  have HBOX : Hid (Wt.heap[B]? = some (.cells #[.slice (some ⟨g1, 0, none⟩) n c, .slice (some ⟨g2, 0, none⟩) m d] 67 (0, 0))) := (HBT.out.block B (by have := HBB.out; omega)).trans HR.out.1
  have HJ0 : Hid (JF w Wt bs bi bj [] 0 0 Wt) := ⟨⟨_, (HBT.out.block bs (by have := HBB.out; omega)).trans HR.out.2.2.1, EOw.nil _ _⟩, (HBT.out.block bi (by have := HBB.out; omega)).trans HR.out.2.2.2.1, (HBT.out.block bj (by have := HBB.out; omega)).trans HR.out.2.2.2.2.1, fun _ _ _ _ _ => rfl, Nat.le_refl _, HR.out.2.2.2.2.2.2.trans (HBT.out.mono (by have := HR.out.2.2.2.2.2.1; have := HO.out; omega))⟩
  have HP1 : Hid (∀ acc i j w', JF w Wt bs bi bj acc i j w' → IRw w' g1 na) := fun acc i j w' h => HP.out.below h.below
  have HQ1 : Hid (∀ acc i j w', JF w Wt bs bi bj acc i j w' → IRw w' g2 nb) := fun acc i j w' h => HQ.out.below h.below
  go_loopw [] (fun wr => ∃ (i j : Nat) (acc : List Ed), i ≤ n ∧ j ≤ m ∧ JF w Wt bs bi bj acc i j wr ∧ Hid (Bd s i j acc) ∧ Hid (R = lst (na.drop i) (nb.drop j) (s + i : Nat) (s + j : Nat) acc)) (fun wr => (n - atOf wr bi) + (m - atOf wr bj))
  case atStart => exact ⟨0, 0, [], by omega, by omega, HJ0.out, Bd.nil _ _ _, HRR.out⟩
  case round =>
    clear HJ0 HRR
    obtain ⟨i, j, acc, hi, hj, hJ, HBD, HX⟩ := hrel
    obtain ⟨c0, c1, f0, f1, f2⟩ := hJ.cells
    have b0 : wr.heap[B]? = some (.cells #[.slice (some ⟨g1, 0, none⟩) n c, .slice (some ⟨g2, 0, none⟩) m d] 67 (0, 0)) := (hJ.keep B (by have := HBB.out; have := HBT.out.size; omega) (by have := HBB.out; omega) (by have := HBB.out; omega) (by have := HBB.out; omega)).trans HBOX.out
    have q0 := cell_of_row _ B 0 _ _ _ b0
    have q1 := cell_of_row _ B 1 _ _ _ b0
    have HM0 := Lib.hid (And.intro (atOf_eq c0) (atOf_eq c1))
    have HJ := Lib.hid hJ
    clear hJ b0
    have HCH : Hid (∀ (w' : World) (d k : Nat), d ≤ 8192 → k ≤ 8192 → JF w Wt bs bi bj acc i j w' → Calls Try.prog 70 #[.int .i64 (d : Int), .int .i64 (k : Int), .pointer (some ⟨bs, 0, none⟩), .pointer (some ⟨bt, 0, none⟩), .pointer (some ⟨bi, 0, none⟩), .pointer (some ⟨bj, 0, none⟩)] w' fun e w' => e = .returned (.tuple #[]) ∧ JF w Wt bs bi bj (ext acc ⟨(s + i : Nat), d, (s + j : Nat), k⟩) (i + d) (j + k) w') := fun w' d k hd hk h =>
      change_any w Wt bs bt bi bj s acc i j d k w' HBX.out HWW.out h HBD.out (by have := HBB.out; have := HBT.out.size; omega) HST.out (by omega) (by omega) (by omega) hd hk
    by_cases hA : i < n ∧ j < m
    · obtain ⟨hin, hjm⟩ := hA
      have hia : i < na.length := by rw [← HN.out]; exact hin
      have hjb : j < nb.length := by rw [← HM.out]; exact hjm
      have a0 := HP1.out _ _ _ _ HJ.out i hia
      have b0 := HQ1.out _ _ _ _ HJ.out j hjb
      have hX := HX.out
      rw [drop_step hia, drop_step hjb] at hX
      obtain ⟨I, hI⟩ : ∃ I, I = i + 1 := ⟨_, rfl⟩
      obtain ⟨J, hJJ⟩ : ∃ J, J = j + 1 := ⟨_, rfl⟩
      have i1 : IntKind.i64.wrap ((i : Int) + 1) = (I : Int) := by rw [IntWalk.i64_in _ (by omega)]; omega
      have i2 : IntKind.i64.wrap ((j : Int) + 1) = (J : Int) := by rw [IntWalk.i64_in _ (by omega)]; omega
      have HI := Lib.hid hI
      have HJJ := Lib.hid hJJ
      clear hI hJJ
      have hdi := drop_step hia
      have hdj := drop_step hjb
      obtain ⟨x, hx⟩ : ∃ x, x = na[i] := ⟨_, rfl⟩
      obtain ⟨y, hy⟩ : ∃ y, y = nb[j] := ⟨_, rfl⟩
      rw [← hx] at a0 hX hdi
      rw [← hy] at b0 hX hdj
      have HDI := Lib.hid hdi
      have HDJ := Lib.hid hdj
      clear hx hy hia hjb hdi hdj
      by_cases he : x = y
      · have e1 : ((x : Int) == (y : Int)) = true := by rw [beq_iff_eq]; omega
        have HX2 : Hid (R = lst (na.drop I) (nb.drop J) ((s + I : Nat) : Int) ((s + J : Nat) : Int) acc) := by
          show _ = _
          rw [hX, he, lst_same, HI.out, HJJ.out]
          congr 1 <;> omega
        have HBD2 : Hid (Bd s I J acc) := HBD.out.more (by have := HI.out; omega) (by have := HJJ.out; omega)
        clear he hX HX HBD
        go_wp2
        go_quiet (fail)
        obtain ⟨wA, hwA⟩ : ∃ wA, wA = wr.drewN nq := ⟨_, rfl⟩
        have HJA : Hid (JF w Wt bs bi bj acc i j wA) := by show JF _ _ _ _ _ _ _ _ _; rw [hwA]; exact HJ.out.drewN nq
        rw [← hwA]
        clear hwA c0 c1 f0 f1 f2 HJ a0 b0 q0 q1
        obtain ⟨c0, c1, f0, f1, f2⟩ := HJA.out.cells
        go_upto_region 9 with fail
        have HJB := Lib.hid (HJA.out.setI HBX.out I)
        clear c0 c1 f0 f1 f2 HJA
        obtain ⟨wB, hwB⟩ : ∃ wB, wB = wA.setCell ⟨bi, 0, none⟩ (.int .i64 (I : Int)) := ⟨_, rfl⟩
        rw [← hwB] at HJB ⊢
        clear hwB
        obtain ⟨c0, c1, f0, f1, f2⟩ := HJB.out.cells
        have HJC := Lib.hid (HJB.out.setJ HBX.out J)
        have HM1 := Lib.hid (And.intro (atOf_eq HJC.out.cells.1) (atOf_eq HJC.out.cells.2.1))
        go_wp2
        go_roundw
        case rel => exact ⟨I, J, acc, by have := HI.out; omega, by have := HJJ.out; omega, HJC.out, HBD2, HX2⟩
        case measure => have h1 := HM1.out.1; have h2 := HM1.out.2; have h3 := HM0.out.1; have h4 := HM0.out.2; have h5 := HI.out; have h6 := HJJ.out; rw [h1, h2, h3, h4]; omega
      · have e1 : ((x : Int) == (y : Int)) = false := by rw [beq_eq_false_iff_ne]; omega
        have hkeep : ∀ g o u, W5.heap.size ≤ g → Wt.cell? ⟨g, o, none⟩ = some u → wr.cell? ⟨g, o, none⟩ = some u := fun g o u hg h => by
          have hgl := World.block_lt_of_cell? Wt _ h
          have := HBB.out
          exact (World.cell?_of_block (a := ⟨g, o, none⟩) (HJ.out.keep g hgl (by omega) (by omega) (by omega))).trans h
        obtain ⟨ga, t1, tg1, u1⟩ := HTR.out (i + 1) (Nat.zero_le _) (by omega)
        obtain ⟨gb, t2, tg2, u2⟩ := HTR.out i (Nat.zero_le _) (by omega)
        have hTs := HIN.out
        have t1 := hkeep _ _ _ hTs t1
        have t2 := hkeep _ _ _ hTs t2
        have u1 := hkeep _ _ _ (by omega) (u1 j (by omega))
        have u2 := hkeep _ _ _ (by omega) (u2 (j + 1) (by omega))
        simp only at u1 u2
        rw [HDJ.out] at u1
        rw [HDI.out] at u2
        rw [← HI.out] at t1 u1 u2 hX
        rw [← HJJ.out] at u1 u2 hX
        obtain ⟨L1, hL1⟩ : ∃ L1, L1 = lcs (na.drop I) (y :: nb.drop J) := ⟨_, rfl⟩
        obtain ⟨L2, hL2⟩ : ∃ L2, L2 = lcs (x :: na.drop I) (nb.drop J) := ⟨_, rfl⟩
        rw [← hL1] at u1
        rw [← hL2] at u2
        obtain ⟨M, hM⟩ : ∃ M, M = m + 1 := ⟨_, rfl⟩
        have hjM : j < M := by omega
        have hJM : J < M := by have := HJJ.out; omega
        have hiN : i < n + 1 := by omega
        have hIN : I < n + 1 := by have := HI.out; omega
        rw [← hM] at t1 t2
        have hn4 : s ≤ 8192 := by omega
        by_cases hle : L2 ≤ L1
        · have HX2 : Hid (R = lst (na.drop (i + 1)) (nb.drop (j + 0)) ((s + (i + 1) : Nat) : Int) ((s + (j + 0) : Nat) : Int) (ext acc ⟨(s + i : Nat), 1, (s + j : Nat), 0⟩)) := by
            show _ = _
            rw [hX, lst_del he (by rw [← hL1, ← hL2]; exact hle), ← HI.out, Nat.add_zero, HDJ.out, ← HJJ.out]
            congr 1
            have := HI.out
            omega
          have HBD2 : Hid (Bd s (i + 1) (j + 0) (ext acc ⟨(s + i : Nat), 1, (s + j : Nat), 0⟩)) := HBD.out.ext (d := 1) (n := 0) (by omega)
          have hlI : (L2 : Int) ≤ (L1 : Int) := by omega
          clear he hX HX HBD hL1 hL2 hM hTs tg1 tg2 hkeep
          go_wp2
          go_quiet (fail)
          go_wp2
          go_quiet (fail)
          go_wp2_with (go_at_call 70; ((refine (HCH.out _ 1 0 (by omega) (by omega) (HJ.out.drewN _)).mono ?_); rintro e w2 ⟨rfl, hj2⟩))
          have HM1 := Lib.hid (And.intro (atOf_eq hj2.cells.1) (atOf_eq hj2.cells.2.1))
          go_roundw
          case rel => exact ⟨i + 1, j + 0, _, by omega, by omega, hj2, HBD2, HX2⟩
          case measure => have h1 := HM1.out.1; have h2 := HM1.out.2; have h3 := HM0.out.1; have h4 := HM0.out.2; rw [h1, h2, h3, h4]; omega
        · have HX2 : Hid (R = lst (na.drop (i + 0)) (nb.drop (j + 1)) ((s + (i + 0) : Nat) : Int) ((s + (j + 1) : Nat) : Int) (ext acc ⟨(s + i : Nat), 0, (s + j : Nat), 1⟩)) := by
            show _ = _
            rw [hX, lst_ins he (by rw [← hL1, ← hL2]; exact hle), ← HJJ.out, Nat.add_zero, HDI.out, ← HI.out]
            congr 1
            have := HJJ.out
            omega
          have HBD2 : Hid (Bd s (i + 0) (j + 1) (ext acc ⟨(s + i : Nat), 0, (s + j : Nat), 1⟩)) := HBD.out.ext (d := 0) (n := 1) (by omega)
          have hlI : (L1 : Int) < (L2 : Int) := by omega
          clear he hX HX HBD hL1 hL2 hM hTs tg1 tg2 hkeep hle
          go_wp2
          go_quiet (fail)
          go_wp2
          go_quiet (fail)
          go_wp2_with (go_at_call 70; ((refine (HCH.out _ 0 1 (by omega) (by omega) (HJ.out.drewN _)).mono ?_); rintro e w2 ⟨rfl, hj2⟩))
          have HM1 := Lib.hid (And.intro (atOf_eq hj2.cells.1) (atOf_eq hj2.cells.2.1))
          go_roundw
          case rel => exact ⟨i + 0, j + 1, _, by omega, by omega, hj2, HBD2, HX2⟩
          case measure => have h1 := HM1.out.1; have h2 := HM1.out.2; have h3 := HM0.out.1; have h4 := HM0.out.2; rw [h1, h2, h3, h4]; omega
    · by_cases hin : i < n
      · obtain rfl : j = m := by omega
        obtain ⟨D, hD⟩ : ∃ D, D = n - i := ⟨_, rfl⟩
        have i1 : IntKind.i64.wrap ((n : Int) - (i : Int)) = (D : Int) := by rw [IntWalk.i64_in _ (by omega)]; omega
        have i2 : IntKind.i64.wrap ((j : Int) - (j : Int)) = ((0 : Nat) : Int) := by rw [IntWalk.i64_in _ (by omega)]; omega
        have hDl : D ≤ 8192 := by omega
        have HX2 : Hid (R = ext acc ⟨(s + i : Nat), D, (s + j : Nat), 0⟩) := by
          show _ = _
          rw [HX.out, HM.out, List.drop_length, lst_left _ (by intro h; have := congrArg List.length h; rw [List.length_drop, List.length_nil, ← HN.out] at this; omega), List.length_drop, ← HN.out, ← hD]
        clear hD hA
        go_wp2_with (go_at_call 70; ((refine (HCH.out _ D 0 hDl (by omega) HJ.out).mono ?_); rintro e w2 ⟨rfl, hj2⟩; obtain ⟨v2, h2, ho2⟩ := hj2.row; obtain ⟨p2, n2, cap2, rfl⟩ := ho2.shape'; have k2 : w2.cell? ⟨bs, 0, none⟩ = some _ := cell_of_row w2 bs 0 _ _ _ h2))
        go_ret
        exact ⟨⟨_, rfl, by rw [HX2.out]; exact ho2.lower HWW.out⟩, hj2.below⟩
      · obtain rfl : i = n := by omega
        by_cases hjm : j < m
        · obtain ⟨D, hD⟩ : ∃ D, D = m - j := ⟨_, rfl⟩
          have i1 : IntKind.i64.wrap ((m : Int) - (j : Int)) = (D : Int) := by rw [IntWalk.i64_in _ (by omega)]; omega
          have i2 : IntKind.i64.wrap ((i : Int) - (i : Int)) = ((0 : Nat) : Int) := by rw [IntWalk.i64_in _ (by omega)]; omega
          have hDl : D ≤ 8192 := by omega
          have HX2 : Hid (R = ext acc ⟨(s + i : Nat), 0, (s + j : Nat), D⟩) := by
            show _ = _
            rw [HX.out, HN.out, List.drop_length, lst_right _ (by intro h; have := congrArg List.length h; rw [List.length_drop, List.length_nil, ← HM.out] at this; omega), List.length_drop, ← HM.out, ← hD]
          clear hD hA
          go_wp2_with (go_at_call 70; ((refine (HCH.out _ 0 D (by omega) hDl HJ.out).mono ?_); rintro e w2 ⟨rfl, hj2⟩; obtain ⟨v2, h2, ho2⟩ := hj2.row; obtain ⟨p2, n2, cap2, rfl⟩ := ho2.shape'; have k2 : w2.cell? ⟨bs, 0, none⟩ = some _ := cell_of_row w2 bs 0 _ _ _ h2))
          go_ret
          exact ⟨⟨_, rfl, by rw [HX2.out]; exact ho2.lower HWW.out⟩, hj2.below⟩
        · obtain rfl : j = m := by omega
          have HX2 : Hid (R = acc) := by
            show _ = _
            rw [HX.out, HN.out, HM.out, List.drop_length, List.drop_length, lst_none]
          obtain ⟨v2, h2, ho2⟩ := HJ.out.row
          obtain ⟨p2, n2, cap2, rfl⟩ := ho2.shape'
          have k2 : wr.cell? ⟨bs, 0, none⟩ = some _ := cell_of_row wr bs 0 _ _ _ h2
          clear hA
          go_wp2
          go_ret
          exact ⟨⟨_, rfl, by rw [HX2.out]; exact ho2.lower HWW.out⟩, HJ.out.below⟩
end Go.Proofs.Ytidghjalfbklnaa
