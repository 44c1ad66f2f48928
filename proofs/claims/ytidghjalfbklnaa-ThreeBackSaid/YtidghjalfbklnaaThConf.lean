/-
  The walk of (*regions).conflict.
-/
import Derived.Test.YtidghjalfbklnaaThCnt
import Derived.Deep.RegionWith
namespace Go.Proofs.Ytidghjalfbklnaa
open Go.RowKit

theorem get_opt {l : List (List UInt8)} {k : Nat} (h : k < l.length) : l[k]? = some l[k] := List.getElem?_eq_getElem h
theorem hdF_at {o t : List (List UInt8)} {k : Nat} (h : k < o.length) (h2 : k < t.length) : hdF o t k = decide (o[k] = t[k]) := by
  unfold hdF
  rw [get_opt h, get_opt h2]
  simp
theorem tlF_at {o t : List (List UInt8)} {k a b : Nat} (ha : a = o.length - 1 - k) (hb : b = t.length - 1 - k) (h : a < o.length) (h2 : b < t.length) : tlF o t k = decide (o[a] = t[b]) := by
  unfold tlF
  rw [← ha, ← hb, get_opt h, get_opt h2]
  simp

theorem slw_push {w wA wE w2 w' : World} {R B g n : Nat} {u v x : Value} {X : List (List UInt8)} (ho : wA.ownsRow B 9 1 u n (strs X)) (hn : n = X.length) (hB : w.heap.size ≤ B) (hA : Below wA.heap.size wA wE) (hg : wE.grownBy w2 v.ownBlock)
    (hv : ∀ k, v.ownBlock = some k → k < w.heap.size) (hat : v.ownBlock = some g ∨ g = wE.heap.size) (hR : R < w.heap.size) (hc : Chg (own2 (fun b => b = g) R) (w2.setCell ⟨R, 0, none⟩ x) w') : SlW w' u X := by
  rw [hn] at ho
  have s0 := (own_slw ho).below hA
  have hlo : ∀ k, u.ownBlock = some k → w.heap.size ≤ k ∧ k < wA.heap.size := fun k hk => ⟨Nat.le_trans hB (ho.lt k hk).1, (ho.lt k hk).2⟩
  have s2 : SlW w2 u X := slw_ch (S := fun b => v.ownBlock = some b) s0 (Chg.grown hg fun k hk => hk) fun k hk e => by
    have := hv k e
    have := (hlo k hk).1
    omega
  have s3 : SlW (w2.setCell ⟨R, 0, none⟩ x) u X := slw_ch s2 (Chg.set (S := fun b => b = R) _ rfl) fun k hk e => by
    have := (hlo k hk).1
    omega
  refine slw_ch s3 hc fun k hk => ?_
  have h1 := hlo k hk
  have h2 := hA.size
  rintro (e | e)
  · subst e
    rcases hat with h | h
    · have := hv k h
      omega
    · omega
  · omega
theorem rows_low {w : World} {base base' sz n : Nat} {e : TypeId} {v : Value} {xs : List Value} (h : w.ownsRow base e sz v n xs) (hb : base' ≤ base) : w.ownsRow base' e sz v n xs := ⟨h.1, h.2.imp id fun ⟨g, cap, cur, a, b, c⟩ => ⟨g, cap, cur, a, Nat.le_trans hb b, c⟩⟩
theorem cell_belT {w w' : World} {g o : Nat} {v : Value} (h : w.cell? ⟨g, o, none⟩ = some v) (hb : Below w.heap.size w w') : w'.cell? ⟨g, o, none⟩ = some v := (hb.cell (p := ⟨g, o, none⟩) (World.block_lt_of_cell? w _ h)).trans h
/-- A region of a conflict laid behind the others. -/
theorem RS.conflict {w wA wB wC w2 : World} {base R : Nat} {S : Nat → Prop} {gs : List Rg} {v : Value} {xs : List Value} {g cap n na nb nc : Nat} {o : Obj} {ua ub uc : Value} {XA XB XC : List (List UInt8)} (hn : n = gs.length) (h : RS w base R S gs v xs)
    (hA : wA.ownsRow w.heap.size 9 1 ua na (strs XA)) (hB : wB.ownsRow w.heap.size 9 1 ub nb (strs XB)) (hC : wC.ownsRow w.heap.size 9 1 uc nc (strs XC)) (ena : na = XA.length) (enb : nb = XB.length) (enc : nc = XC.length)
    (bA : Below w.heap.size w wA) (bB : Below wA.heap.size wA wB) (bC : Below wB.heap.size wB wC)
    (ho : w2.ownsRow base 43 5 (.slice (some ⟨g, 0, none⟩) (n + 1) cap) (n + 1) (xs ++ [.int .i64 2, .slice none 0 0, ua, ub, uc])) (hg : (wC.alloc o).grownBy w2 v.ownBlock) (hat : v.ownBlock = some g ∨ g = (wC.alloc o).heap.size) (hbase : base ≤ w.heap.size) :
    RS (w2.setCell ⟨R, 0, none⟩ (.slice (some ⟨g, 0, none⟩) (n + 1) cap)) base R (fun b => b = g) (gs ++ [⟨2, [], XA, XB, XC⟩]) (.slice (some ⟨g, 0, none⟩) (n + 1) cap) (xs ++ [.int .i64 2, .slice none 0 0, ua, ub, uc]) ∧
      Chg (own2 S R) w (w2.setCell ⟨R, 0, none⟩ (.slice (some ⟨g, 0, none⟩) (n + 1) cap)) ∧ (S g ∨ w.heap.size ≤ g) ∧ BoxK w (w2.setCell ⟨R, 0, none⟩ (.slice (some ⟨g, 0, none⟩) (n + 1) cap)) R := by
  subst hn
  have hbAC := bB.trans (bC.mono bB.size)
  have hE : Below w.heap.size w (wC.alloc o) := (bA.trans (hbAC.mono bA.size)).alloc (Nat.le_trans bA.size hbAC.size) _
  obtain ⟨cs, t, hbox, _, _, ht2⟩ := h.box
  have hvR : v.ownBlock ≠ some R := own_ty h.own hbox ht2
  have hv : ∀ k, v.ownBlock = some k → k < w.heap.size := fun k hk => (h.own.lt k hk).2
  have hAE : Below wA.heap.size wA (wC.alloc o) := hbAC.alloc hbAC.size _
  have hBE : Below wB.heap.size wB (wC.alloc o) := bC.alloc bC.size _
  have hCE : Below wC.heap.size wC (wC.alloc o) := (Below.refl _ _).alloc (Nat.le_refl _) _
  obtain ⟨a1, a2, a3⟩ := h.push hE ho hg hat hbase (r := ⟨2, [], XA, XB, XC⟩) (.inl ⟨by simp, fun w' hw' => ⟨rfl, SlW.nil _, slw_push hA ena (Nat.le_refl _) hAE hg hv hat (row_lt hbox) hw', slw_push hB enb (Nat.le_refl _) hBE hg hv hat (row_lt hbox) hw', slw_push hC enc (Nat.le_refl _) hCE hg hv hat (row_lt hbox) hw'⟩⟩)
  refine ⟨a1, a2, a3, (BoxK.same ?_).trans (BoxK.set w2 R _)⟩
  exact (hg.block R (by have := hE.size; have := row_lt hbox; omega) (fun e => hvR e.symm)).trans (hE.block R (row_lt hbox))

set_option maxHeartbeats 8000000 in
set_option maxRecDepth 10000 in
theorem pconf_any (gs : List Rg) (b o t : List (List UInt8)) (base R nb cb no co nt ct : Nat) (pb po pt : Option Addr) (S : Nat → Prop) (v : Value) (xs : List Value) (w : World) (h : RS w base R S gs v xs) (hnb : nb = b.length) (hno : no = o.length) (hnt : nt = t.length)
    (hqb : ∀ w', Chg (own2 S R) w w' → SRw w' pb b) (hqo : ∀ w', Chg (own2 S R) w w' → SRw w' po o) (hqt : ∀ w', Chg (own2 S R) w w' → SRw w' pt t) (hco : no ≤ co) (hct : nt ≤ ct)
    (hn : gs.length ≤ 90000) (hl : lastN gs ≤ 500000) (hb1 : nb ≤ 100000) (hno1 : no ≤ 100000) (hnt1 : nt ≤ 100000) (hbase : base ≤ w.heap.size) :
    Calls Try.prog 77 #[.pointer (some ⟨R, 0, none⟩), .slice pb nb cb, .slice po no co, .slice pt nt ct] w (PCl w base R S (confL gs b o t)) := by
  obtain ⟨L, hL⟩ : ∃ L, L = min no nt := ⟨_, rfl⟩
  obtain ⟨N, hN⟩ : ∃ N, N = headN o t := ⟨_, rfl⟩
  obtain ⟨M, hM⟩ : ∃ M, M = tailN o t := ⟨_, rfl⟩
  obtain ⟨LT, hLT⟩ : ∃ LT, LT = L - N := ⟨_, rfl⟩
  have hNc : N = cnt (hdF o t) L 0 := by rw [hN, headN, ← hno, ← hnt, ← hL]
  have hMc : M = cnt (tlF o t) LT 0 := by rw [hM, tailN, ← hno, ← hnt, ← hL, ← hN, ← hLT]
  have hNl := headN_le o t
  have hMl := tailN_le o t
  rw [← hno, ← hnt, ← hN] at hNl
  rw [← hno, ← hnt, ← hN, ← hM] at hMl
  have hLL : L ≤ no ∧ L ≤ nt := by omega
  have hNL : N ≤ L := by omega
  have hMLT : M ≤ LT := by omega
  have HNC := Lib.hid hNc
  have HMC := Lib.hid hMc
  have HCF : Hid (confL gs b o t = clG (clG gs (o.take N) ++ [⟨2, [], midL o N M, b, midL t N M⟩]) (o.drop (no - M))) := by show _ = _; rw [confL, ← hN, ← hM, ← hno]
  have HNO := Lib.hid hno
  have HNT := Lib.hid hnt
  have HNB := Lib.hid hnb
  have HQB := Lib.hid hqb
  have HQO := Lib.hid hqo
  have HQT := Lib.hid hqt
  have hqo0 := hqo w (Chg.refl _ _)
  have hqt0 := hqt w (Chg.refl _ _)
  have HO0 := Lib.hid hqo0
  have HT0 := Lib.hid hqt0
  have HH := Lib.hid h
  have HLN := Lib.hid hl
  have HGN := Lib.hid hn
  have hmin : min (no : Int) (nt : Int) = (L : Int) := by omega
  have HC1 : Hid (∀ z, Calls Try.prog 45 #[.pointer (some ⟨R, 0, none⟩), .slice po N co] (w.drewN z) (PCl (w.drewN z) base R S (clG gs (o.take N)))) := fun z => by
    have hk := h.keep (below_drewN (Below.refl w.heap.size w) z)
    refine pclean_any gs (o.take N) base R N co po S v xs (w.drewN z) hk (by rw [List.length_take]; omega) (fun w' hw' => srw_take (hqo w' ((Chg.below (below_drewN (Below.refl w.heap.size w) z)).trans' hw')) N) (by omega) (fun r hr => ?_) (by omega) hbase
    rw [lastN_of hr]
    omega
  clear h hnb hno hnt hqb hqo hqt hqo0 hqt0 hl hn hN hM hL hNc hMc
  go_enter Try.func77, Try.ntmps77
  go_upto_region 1 with fail
  clear hmin
  go_wp2_with fail
  go_loopw [9] (fun kv wr => ∃ k z : Nat, k ≤ N ∧ kv = .int .i64 (k : Int) ∧ Hid (N = cnt (hdF o t) L k) ∧ wr = w.drewN z) (fun kv _ => N - (intOf kv).toNat)
  case atStart => exact ⟨0, 0, Nat.zero_le _, rfl, HNC.out, rfl⟩
  case round =>
    clear HNC
    obtain ⟨k, z, hk, rfl, HN, rfl⟩ := hrel
    go_upto_region 2 with fail
    go_cut [29] from 16 to 29 (fun c wx => c = .bool (decide (k < N)) ∧ ∃ z2, wx = w.drewN z2)
    case first =>
      have hlt0 : decide (k < N) = (decide (k < L) && hdF o t k) := by rw [HN.out]; exact cnt_lt
      by_cases hlt : k < L
      · have hko : k < o.length := by rw [← HNO.out]; omega
        have hkt : k < t.length := by rw [← HNT.out]; omega
        obtain ⟨g, o', rfl, hg, a0⟩ := HO0.out k hko
        obtain ⟨g2, o2, rfl, hg2, b0⟩ := HT0.out k hkt
        rw [decide_eq_true hlt, Bool.true_and, hdF_at hko hkt] at hlt0
        have x1 : decide ((k : Int) < (L : Int)) = true := decide_eq_true (by omega)
        have x2 : decide (k < L) = true := decide_eq_true hlt
        have x3 : (k : Int) < (no : Int) := by omega
        have x4 : (k : Int) < (nt : Int) := by omega
        have x5 : k < no := by omega
        have x6 : k < nt := by omega
        by_cases he : o[k] = t[k]
        · rw [decide_eq_true he] at hlt0
          have HX := Lib.hid hlt0
          obtain ⟨u, hu⟩ : ∃ u, u = str o[k] := ⟨_, rfl⟩
          rw [← he, ← hu] at b0
          rw [← hu] at a0
          clear hu hg hg2 he hlt0 hlt HN
          go_quiet (fail)
          go_wp2_with fail
          go_meet
          exact ⟨by rw [HX.out], z + nq, by rw [World.drewN_drewN]⟩
        · rw [decide_eq_false he] at hlt0
          have HX := Lib.hid hlt0
          have hne := str_neB he
          obtain ⟨u, hu⟩ : ∃ u, u = str o[k] := ⟨_, rfl⟩
          obtain ⟨u2, hu2⟩ : ∃ u2, u2 = str t[k] := ⟨_, rfl⟩
          rw [← hu2] at b0 hne
          rw [← hu] at a0 hne
          clear hu hu2 hg hg2 he hlt0 hlt HN
          go_quiet (fail)
          go_wp2_with fail
          go_meet
          exact ⟨by rw [HX.out], z + nq, by rw [World.drewN_drewN]⟩
      · rw [decide_eq_false hlt, Bool.false_and] at hlt0
        have HX := Lib.hid hlt0
        have x1 : decide ((k : Int) < (L : Int)) = false := decide_eq_false (by omega)
        have x2 : decide (k < L) = false := decide_eq_false hlt
        clear hlt0 hlt HN
        go_quiet (fail)
        go_wp2_with fail
        go_meet
        exact ⟨by rw [HX.out], z + nq, by rw [World.drewN_drewN]⟩
    case rest =>
      obtain ⟨rfl, z2, rfl⟩ := hcut
      by_cases hkN : k < N
      · have HN2 : Hid (N = cnt (hdF o t) L (k + 1)) := by
          show _ = _
          have h1 := HN.out
          by_cases h2 : k < L
          · cases hf : hdF o t k with
            | true => rwa [cnt_yes h2 hf] at h1
            | false => rw [cnt_no h2 hf] at h1; omega
          · rw [cnt_end h2] at h1; omega
        clear HN
        go_wp2
        go_roundw
        case rel => exact ⟨k + 1, z2, by omega, by go_num, HN2.out, rfl⟩
        case measure => simp [intOf]; omega
      · obtain rfl : N = k := by omega
        clear HN hkN hk
        have j1 : IntKind.i64.wrap ((L : Int) - (N : Int)) = (LT : Int) := by rw [IntWalk.i64_in _ (by omega)]; omega
        have j2 : (L : Int) - (N : Int) = (LT : Int) := by omega
        clear hLT
        go_wp2_with fail
        go_loopw [10] (fun kv wr => ∃ k z : Nat, k ≤ M ∧ kv = .int .i64 (k : Int) ∧ Hid (M = cnt (tlF o t) LT k) ∧ wr = w.drewN z) (fun kv _ => M - (intOf kv).toNat)
        case atStart => exact ⟨0, z2, Nat.zero_le _, rfl, HMC.out, rfl⟩
        case round =>
          clear HMC
          obtain ⟨k, z, hk, rfl, HM, rfl⟩ := hrel
          go_upto_region 5 with fail
          go_cut [55] from 32 to 55 (fun c wx => c = .bool (decide (k < M)) ∧ ∃ z2, wx = w.drewN z2)
          case first =>
            have hlt0 : decide (k < M) = (decide (k < LT) && tlF o t k) := by rw [HM.out]; exact cnt_lt
            by_cases hlt : k < LT
            · obtain ⟨n1, hn1⟩ : ∃ n1, n1 = no - 1 := ⟨_, rfl⟩
              obtain ⟨m1, hm1⟩ : ∃ m1, m1 = nt - 1 := ⟨_, rfl⟩
              obtain ⟨xa, hxa⟩ : ∃ xa, xa = n1 - k := ⟨_, rfl⟩
              obtain ⟨ya, hya⟩ : ∃ ya, ya = m1 - k := ⟨_, rfl⟩
              have hko : xa < o.length := by rw [← HNO.out]; omega
              have hkt : ya < t.length := by rw [← HNT.out]; omega
              obtain ⟨g, o', rfl, hg, a0⟩ := HO0.out xa hko
              obtain ⟨g2, o2, rfl, hg2, b0⟩ := HT0.out ya hkt
              rw [decide_eq_true hlt, Bool.true_and, tlF_at (a := xa) (b := ya) (by rw [← HNO.out]; omega) (by rw [← HNT.out]; omega) hko hkt] at hlt0
              have r1 : (no : Int) - 1 = (n1 : Int) := by omega
              have r2 : (nt : Int) - 1 = (m1 : Int) := by omega
              have r3 : (n1 : Int) - (k : Int) = (xa : Int) := by omega
              have r4 : (m1 : Int) - (k : Int) = (ya : Int) := by omega
              have r5 : IntKind.i64.wrap (n1 : Int) = (n1 : Int) := IntWalk.i64_in _ (by omega)
              have r6 : IntKind.i64.wrap (m1 : Int) = (m1 : Int) := IntWalk.i64_in _ (by omega)
              have r7 : IntKind.i64.wrap (xa : Int) = (xa : Int) := IntWalk.i64_in _ (by omega)
              have r8 : IntKind.i64.wrap (ya : Int) = (ya : Int) := IntWalk.i64_in _ (by omega)
              have r9 : IntKind.i64.wrap (LT : Int) = (LT : Int) := IntWalk.i64_in _ (by omega)
              have x1 : decide ((k : Int) < (LT : Int)) = true := decide_eq_true (by omega)
              have x2 : decide (k < LT) = true := decide_eq_true hlt
              have x3 : (xa : Int) < (no : Int) := by omega
              have x4 : (ya : Int) < (nt : Int) := by omega
              have x5 : xa < no := by omega
              have x6 : ya < nt := by omega
              by_cases he : o[xa] = t[ya]
              · rw [decide_eq_true he] at hlt0
                have HX := Lib.hid hlt0
                obtain ⟨u, hu⟩ : ∃ u, u = str o[xa] := ⟨_, rfl⟩
                rw [← he, ← hu] at b0
                rw [← hu] at a0
                clear hu hg hg2 he hlt0 hlt HM hn1 hm1 hxa hya
                go_quiet (fail)
                go_wp2_with fail
                go_meet
                exact ⟨by rw [HX.out], z + nq, by rw [World.drewN_drewN]⟩
              · rw [decide_eq_false he] at hlt0
                have HX := Lib.hid hlt0
                have hne := str_neB he
                obtain ⟨u, hu⟩ : ∃ u, u = str o[xa] := ⟨_, rfl⟩
                obtain ⟨u2, hu2⟩ : ∃ u2, u2 = str t[ya] := ⟨_, rfl⟩
                rw [← hu2] at b0 hne
                rw [← hu] at a0 hne
                clear hu hu2 hg hg2 he hlt0 hlt HM hn1 hm1 hxa hya
                go_quiet (fail)
                go_wp2_with fail
                go_meet
                exact ⟨by rw [HX.out], z + nq, by rw [World.drewN_drewN]⟩
            · rw [decide_eq_false hlt, Bool.false_and] at hlt0
              have HX := Lib.hid hlt0
              have r9 : IntKind.i64.wrap (LT : Int) = (LT : Int) := IntWalk.i64_in _ (by omega)
              have x1 : decide ((k : Int) < (LT : Int)) = false := decide_eq_false (by omega)
              have x2 : decide (k < LT) = false := decide_eq_false hlt
              clear hlt0 hlt HM
              go_quiet (fail)
              go_wp2_with fail
              go_meet
              exact ⟨by rw [HX.out], z + nq, by rw [World.drewN_drewN]⟩
          case rest =>
            obtain ⟨rfl, z3, rfl⟩ := hcut
            by_cases hkM : k < M
            · have HM2 : Hid (M = cnt (tlF o t) LT (k + 1)) := by
                show _ = _
                have h1 := HM.out
                by_cases h2 : k < LT
                · cases hf : tlF o t k with
                  | true => rwa [cnt_yes h2 hf] at h1
                  | false => rw [cnt_no h2 hf] at h1; omega
                · rw [cnt_end h2] at h1; omega
              clear HM
              go_wp2
              go_roundw
              case rel => exact ⟨k + 1, z3, by omega, by go_num, HM2.out, rfl⟩
              case measure => simp [intOf]; omega
            · obtain rfl : M = k := by omega
              clear HM hkM hk j1 j2
              have c1 : N ≤ co := by omega
              have hN0 : (0 : Int) ≤ (N : Int) := by omega
              go_upto_region 8 with (go_at_call 45; ((with_reducible refine (HC1.out _).mono ?_); rintro e w2 ⟨rfl, S2, v2, xs2, hr2, hc2, hs2, hk2⟩))
              obtain ⟨A, hA⟩ : ∃ A, A = no - M := ⟨_, rfl⟩
              obtain ⟨B, hB⟩ : ∃ B, B = nt - M := ⟨_, rfl⟩
              obtain ⟨Po, hPo⟩ : ∃ P, (if co = N then po else po.map (·.add N)) = P := ⟨_, rfl⟩
              obtain ⟨Pt, hPt⟩ : ∃ P, (if ct = N then pt else pt.map (·.add N)) = P := ⟨_, rfl⟩
              have r1 : (no : Int) - (M : Int) = (A : Int) := by omega
              have r2 : (nt : Int) - (M : Int) = (B : Int) := by omega
              have r3 : IntKind.i64.wrap (A : Int) = (A : Int) := IntWalk.i64_in _ (by omega)
              have r4 : IntKind.i64.wrap (B : Int) = (B : Int) := IntWalk.i64_in _ (by omega)
              have r5 : N ≤ A := by omega
              have r6 : N ≤ B := by omega
              have r7 : A ≤ co := by omega
              have r8 : B ≤ ct := by omega
              have hbx := hr2.box
              obtain ⟨cs2, t2, hbox2, hcs2, _, _⟩ := hbx
              have y0 := (cell_of_row w2 R 0 cs2 t2 _ hbox2).trans hcs2
              have f0 := frozen_of_row w2 R 0 cs2 t2 hbox2
              have HR2 := Lib.hid hr2
              clear hA hB hbox2 hcs2 hr2
              obtain ⟨i0, hi, hz0, hz1, hz2⟩ := info_parts Try.infoRg
              have hst2 : ∀ w', Below w2.heap.size w2 w' → Chg (own2 S R) w w' := fun w' hb => ((Chg.below (below_drewN (Below.refl w.heap.size w) z3)).trans' hc2).trans' (Chg.below hb)
              have HST2 := Lib.hid hst2
              have HK1 : Hid (∀ w', Below w2.heap.size w2 w' → Calls Try.prog 97 #[.slice Po (A - N) (co - N)] w' fun e w'' => (∃ p' c', e = .returned (.slice p' (A - N) c') ∧ Hid (w''.ownsRow w2.heap.size 9 1 (.slice p' (A - N) c') (A - N) (strs (midL o N M)))) ∧ Below w'.heap.size w' w'' ∧ Below w2.heap.size w2 w'') := fun w' hb => by
                have hs := srw_cut (c := co) (n := no) (HQO.out w' (HST2.out w' hb)) N A HNO.out (by omega) (by omega) (by omega)
                rw [hPo] at hs
                have e1 : (o.drop N).take (A - N) = midL o N M := by unfold midL; rw [← HNO.out, show A - N = no - M - N by omega]
                rw [e1] at hs
                refine (clone_any (midL o N M) Po (co - N) (A - N) w' (by unfold midL; rw [List.length_take, List.length_drop, ← HNO.out]; omega) hs (by omega)).mono fun e w'' ⟨p', c', h1, h2, h3⟩ => ⟨⟨p', c', h1, rows_low h2 hb.size⟩, h3, hb.trans (h3.mono hb.size)⟩
              have HK2 : Hid (∀ w', Below w2.heap.size w2 w' → Calls Try.prog 97 #[.slice pb nb cb] w' fun e w'' => (∃ p' c', e = .returned (.slice p' nb c') ∧ Hid (w''.ownsRow w2.heap.size 9 1 (.slice p' nb c') nb (strs b))) ∧ Below w'.heap.size w' w'' ∧ Below w2.heap.size w2 w'') := fun w' hb =>
                (clone_any b pb cb nb w' HNB.out (HQB.out w' (HST2.out w' hb)) (by omega)).mono fun e w'' ⟨p', c', h1, h2, h3⟩ => ⟨⟨p', c', h1, rows_low h2 hb.size⟩, h3, hb.trans (h3.mono hb.size)⟩
              have HK3 : Hid (∀ w', Below w2.heap.size w2 w' → Calls Try.prog 97 #[.slice Pt (B - N) (ct - N)] w' fun e w'' => (∃ p' c', e = .returned (.slice p' (B - N) c') ∧ Hid (w''.ownsRow w2.heap.size 9 1 (.slice p' (B - N) c') (B - N) (strs (midL t N M)))) ∧ Below w'.heap.size w' w'' ∧ Below w2.heap.size w2 w'') := fun w' hb => by
                have hs := srw_cut (c := ct) (n := nt) (HQT.out w' (HST2.out w' hb)) N B HNT.out (by omega) (by omega) (by omega)
                rw [hPt] at hs
                have e1 : (t.drop N).take (B - N) = midL t N M := by unfold midL; rw [← HNT.out, show B - N = nt - M - N by omega]
                rw [e1] at hs
                refine (clone_any (midL t N M) Pt (ct - N) (B - N) w' (by unfold midL; rw [List.length_take, List.length_drop, ← HNT.out]; omega) hs (by omega)).mono fun e w'' ⟨p', c', h1, h2, h3⟩ => ⟨⟨p', c', h1, rows_low h2 hb.size⟩, h3, hb.trans (h3.mono hb.size)⟩
              have EA : Hid (A - N = (midL o N M).length) := by show _ = _; unfold midL; rw [List.length_take, List.length_drop, ← HNO.out]; omega
              have EB : Hid (B - N = (midL t N M).length) := by show _ = _; unfold midL; rw [List.length_take, List.length_drop, ← HNT.out]; omega
              obtain ⟨n2, hn2⟩ : ∃ n2, n2 = (clG gs (o.take N)).length := ⟨_, rfl⟩
              have hn2l : n2 ≤ 90001 := by rw [hn2]; have := (lastN_cl gs (o.take N)).2; have := HGN.out; omega
              have hown2 := HR2.out.own
              rw [← hn2] at hown2
              obtain ⟨p2, c2, rfl⟩ : ∃ p2 c2, v2 = .slice p2 n2 c2 := by
                rcases hown2.2 with ⟨h', h0⟩ | ⟨g', cap', cur, h', _⟩
                · exact ⟨_, 0, by rw [h', h0]⟩
                · exact ⟨_, _, h'⟩
              have HN2 := Lib.hid hn2
              have HOW2 := Lib.hid hown2
              obtain ⟨cs2, t2, hbox2, hcs2, _, ht2⟩ := HR2.out.box
              have HBX2 := Lib.hid hbox2
              have HCS2 := Lib.hid hcs2
              have HVR2 : Hid ((Value.slice p2 n2 c2).ownBlock ≠ some R) := own_ty hown2 hbox2 ht2
              have hb2 : base ≤ w2.heap.size := Nat.le_trans hbase hc2.size
              have HC2 := Lib.hid hc2
              have hPo1 := hPo
              have hPt1 := hPt
              clear hst2 hn2 hown2 hbox2 hcs2 hPo1 hPt1 hc2
              go_cut [] (fun wy => ∃ wx S3 v3 xs3, wx = wy ∧ Hid (RS wx base R S3 (clG gs (o.take N) ++ [⟨2, [], midL o N M, b, midL t N M⟩]) v3 xs3) ∧ Hid (Chg (own2 S2 R) w2 wx) ∧ Hid (∀ b, S3 b → S2 b ∨ w2.heap.size ≤ b) ∧ Hid (BoxK w2 wx R))
              case first =>
                go_region_law (first
                  | (refine step_append_lies _ (by rfl) _ _ _ (by rfl) base 43 i0 (.agg #[.int .i64 0, .slice none 0 0, .slice none 0 0, .slice none 0 0, .slice none 0 0]) 5 104 Try.underlying70 hi hz0 hz1 hz2 rfl (by omega) _ n2 xs2 (by rfl) (own_below HOW2.out (below_new hd5 _)) ⟨w5.heap.size, 0, none⟩ 1 1 [.int .i64 2, .slice none 0 0, .slice p3 (A - N) c3, .slice p4 nb c4, .slice p5 (B - N) c5] (by rfl) (by rfl) (World.news_of_block (heap_alloc_new _ _)) (by simp [Value.oneCell']) (by omega) (by unfold maxLen; omega) (by omega) (by rw [World.size_alloc]; have := hd5.size; omega) _ rfl ?_; intro g6 c6 w6 ho6 hg6 hat6 hlt6; have hbE := below_new hd5 (.cells #[.int .i64 2, .slice none 0 0, .slice p3 (A - N) c3, .slice p4 nb c4, .slice p5 (B - N) c5] 43); have hb6 := (hg6.block R (Nat.lt_of_lt_of_le (row_lt HBX2.out) hbE.size) (fun e => HVR2.out e.symm)).trans ((hbE.block R (row_lt HBX2.out)).trans HBX2.out); have y6 := (cell_of_row w6 R 0 _ _ _ hb6).trans HCS2.out; have z6 := frozen_of_row w6 R 0 _ _ hb6)
                  | (go_simp; go_at_call 97; first
                    | ((with_reducible refine (HK1.out _ (Below.refl _ _).drew).mono ?_); rintro e w3 ⟨⟨p3, c3, rfl, h3⟩, hb3, hd3⟩; have y3 := cell_belT y0 hd3)
                    | ((with_reducible refine (HK2.out _ hd3).mono ?_); rintro e w4 ⟨⟨p4, c4, rfl, h4⟩, hb4, hd4⟩; have y4 := cell_belT y0 hd4)
                    | ((with_reducible refine (HK3.out _ hd4).mono ?_); rintro e w5 ⟨⟨p5, c5, rfl, h5⟩, hb5, hd5⟩; have y5 := cell_belT y0 hd5; have y5e : ∀ ob, (w5.alloc ob).cell? ⟨R, 0, none⟩ = some (.slice p2 n2 c2) := fun ob => cell_belT y0 (below_new hd5 ob))))
                all_goals go_wp2_with fail
                all_goals go_meet
                all_goals
                  obtain ⟨q1, q2, q3, q4⟩ := RS.conflict HN2.out HR2.out h3.out h4.out h5.out EA.out HNB.out EB.out hd3 hb4 hb5 ho6 hg6 hat6 hb2
                  exact ⟨_, _, _, _, rfl, q1, q2, fun b hb => by subst hb; exact q3, q4⟩
              case rest =>
                obtain ⟨wx, S3, v3, xs3, rfl, HR3, HC3, HS3, HBK3⟩ := hcut
                clear hPo hPt y0 f0 hi hz0 hz1 hz2 HK1 HK2 HK3 r3 r4 r2 r6 r8
                obtain ⟨Pq, hPq⟩ : ∃ P, (if co = A then po else po.map (·.add A)) = P := ⟨_, rfl⟩
                have HST3 : Hid (∀ w', Chg (own2 S3 R) wx w' → Chg (own2 S R) w w') := fun w' hw' => (HST2.out w2 (Below.refl _ _)).trans (HC3.out.trans hw' fun b hb => by
                  rcases hb with hb | rfl
                  · exact (HS3.out b hb).imp (fun h => .inl h) id
                  · exact .inl (.inr rfl)) fun b hb => by
                    rcases hb with hb | rfl
                    · exact (hs2 b hb).imp (fun h => .inl h) id
                    · exact .inl (.inr rfl)
                have HPQ := Lib.hid hPq
                have HCL : Hid (Calls Try.prog 45 #[.pointer (some ⟨R, 0, none⟩), .slice Pq (no - A) (co - A)] wx (PCl wx base R S3 (clG (clG gs (o.take N) ++ [⟨2, [], midL o N M, b, midL t N M⟩]) (o.drop A)))) := by
                  refine pclean_any _ (o.drop A) base R (no - A) (co - A) Pq S3 v3 xs3 wx HR3.out (by rw [List.length_drop, ← HNO.out]) (fun w' hw' => ?_) (by rw [List.length_append, List.length_singleton, ← HN2.out]; omega) (fun r hr => ?_) (by omega) (Nat.le_trans hb2 HC3.out.size)
                  · rw [← HPQ.out]
                    exact (HQO.out w' (HST3.out w' hw')).cut A (by rw [← HNO.out]; exact hco) (by rw [← HNO.out]; omega)
                  · simp at hr
                    rw [← hr]
                    simp
                    omega
                have HAM : Hid (no - M = A) := by show _ = _; omega
                go_wp2_with (go_at_call 45; ((with_reducible refine HCL.out.mono ?_); rintro e w9 ⟨rfl, S4, v4, xs4, hr4, hc4, hs4, hk4⟩))
                refine bodyPost_end (results_none rfl _ _ _) rfl ?_
                have hcf := HCF.out
                rw [HAM.out] at hcf
                rw [← hcf] at hr4
                refine ⟨rfl, S4, v4, xs4, hr4, HST3.out w9 hc4, fun b hb => ?_, ((BoxK.same rfl).trans hk2).trans (HBK3.out.trans hk4)⟩
                rcases hs4 b hb with h1 | h1
                · rcases HS3.out b h1 with h2 | h2
                  · exact hs2 b h2
                  · exact .inr (Nat.le_trans (HST2.out w2 (Below.refl _ _)).size h2)
                · exact .inr (Nat.le_trans (HST3.out wx (Chg.refl _ _)).size h1)
end Go.Proofs.Ytidghjalfbklnaa
