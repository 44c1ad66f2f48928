/-
  The walk of the reference's Anchor.
-/
import Derived.Test.YtnmebnpldacngaaHsRRun
namespace Go.Proofs.Ytnmebnpldacngaa
open Go.RowKit

section
variable {α : Type} [DecidableEq α]
/-- The best run among the pairs that have been looked at. -/
def fld (a b : List α) (i k : Nat) : Option Ru := (cand a b i ++ row a b i k).foldl (anS a) none
theorem fld_zero (a b : List α) : fld a b 0 0 = none := by simp [fld, cand, row]
theorem fld_next (a b : List α) (i : Nat) : fld a b (i + 1) 0 = fld a b i b.length := by
  unfold fld
  congr 1
  simp [cand, row, List.range_succ, List.flatMap_append]
theorem fld_step (a b : List α) (i k : Nat) : fld a b i (k + 1) = if a[i]? = b[k]? then anS a (fld a b i k) (run a b i k) else fld a b i k := by
  unfold fld
  rw [row, List.range_succ, List.flatMap_append, ← row, ← List.append_assoc, List.foldl_append]
  by_cases h : a[i]? = b[k]?
  · simp [h]
  · simp [h]
theorem fld_end (a b : List α) : fld a b a.length 0 = anc a b := by simp [fld, anc, row]
end
def bc (o : Option Ru) : Array Value := match o with
  | none => #[.int .i64 0, .int .i64 0, .int .i64 0]
  | some r => #[.int .i64 (r.a : Int), .int .i64 (r.b : Int), .int .i64 (r.n : Int)]
structure AJ (w wr : World) (n S T : Nat) (o : Option Ru) : Prop where
  below : Below w.heap.size w wr
  res : wr.heap[S]? = some (.cells #[.int .i64 0, .int .i64 0, .int .i64 0] 30 (0, 0))
  best : wr.heap[T]? = some (.cells (bc o) 30 (0, 0))
  fit : ∀ s, o = some s → s.a + s.n ≤ n
theorem AJ.next {w wr wr' : World} {n S T : Nat} {o : Option Ru} (h : AJ w wr n S T o) (hb : Below wr.heap.size wr wr') : AJ w wr' n S T o :=
  ⟨h.below.trans (hb.mono h.below.size), (hb.block _ (row_lt h.res)).trans h.res, (hb.block _ (row_lt h.best)).trans h.best, h.fit⟩
theorem AJ.put {w wr w4 : World} {n S T : Nat} {o : Option Ru} (h : AJ w wr n S T o) (r : Ru) (hS : w.heap.size ≤ S) (hT : T = S + 1) (hr : r.a + r.n ≤ n)
    (h4 : w4 = ((wr.setCell ⟨T, 0, none⟩ (.int .i64 (r.a : Int))).setCell ⟨T, 1, none⟩ (.int .i64 (r.b : Int))).setCell ⟨T, 2, none⟩ (.int .i64 (r.n : Int))) : AJ w w4 n S T (some r) := by
  have hbT : Below T wr w4 := by rw [h4]; exact (((Below.refl T wr).setCell (Nat.le_refl _) _).setCell (Nat.le_refl _) _).setCell (Nat.le_refl _) _
  refine ⟨?_, (hbT.block _ (by omega)).trans h.res, ?_, fun s hs => by cases hs; exact hr⟩
  · exact h.below.trans (hbT.mono (by omega))
  · rw [h4]
    cases o with
    | none => exact row3s h.best _ _ _
    | some s => exact row3s h.best _ _ _
theorem AJ.cells {w wr : World} {n S T : Nat} {o : Option Ru} {a b c : Value} (h : AJ w wr n S T o) (hb : bc o = #[a, b, c]) :
    wr.cell? ⟨T, 0, none⟩ = some a ∧ wr.cell? ⟨T, 1, none⟩ = some b ∧ wr.cell? ⟨T, 2, none⟩ = some c ∧ wr.frozen? ⟨T, 0, none⟩ = false ∧ wr.frozen? ⟨T, 1, none⟩ = false ∧ wr.frozen? ⟨T, 2, none⟩ = false := by
  have := h.best
  rw [hb] at this
  exact ⟨cell_of_row _ _ 0 _ _ _ this, cell_of_row _ _ 1 _ _ _ this, cell_of_row _ _ 2 _ _ _ this, frozen_of_row _ _ 0 _ _ this, frozen_of_row _ _ 1 _ _ this, frozen_of_row _ _ 2 _ _ this⟩
set_option maxHeartbeats 4000000 in
set_option maxRecDepth 4000 in
theorem ranchor_any (la lb : List (List UInt8)) (p q : Option Addr) (c d n m : Nat) (w : World) (hn : n = la.length) (hm : m = lb.length) (hp : SRw w p la) (hq : SRw w q lb) (hl : n ≤ 1048576) (hl2 : m ≤ 1048576) :
    Calls Try.prog 14 #[.slice p n c, .slice q m d] w fun e w' => e = .returned (ancV (anc la lb)) ∧ Below w.heap.size w w' := by
  obtain ⟨S, hS⟩ : ∃ S, S = w.heap.size := ⟨_, rfl⟩
  obtain ⟨T, hT⟩ : ∃ T, T = S + 1 := ⟨_, rfl⟩
  obtain ⟨w1, hw1⟩ : ∃ w1, w1 = (w.alloc (.cells #[.int .i64 0, .int .i64 0, .int .i64 0] 30)).alloc (.cells #[.int .i64 0, .int .i64 0, .int .i64 0] 30) := ⟨_, rfl⟩
  have hj1 : AJ w w1 n S T none := by
    have h1 := heap_alloc_new w (.cells #[.int .i64 0, .int .i64 0, .int .i64 0] 30)
    have h2 := heap_alloc_new (w.alloc (.cells #[.int .i64 0, .int .i64 0, .int .i64 0] 30)) (.cells #[.int .i64 0, .int .i64 0, .int .i64 0] 30)
    rw [show (w.alloc (.cells #[.int .i64 0, .int .i64 0, .int .i64 0] 30)).heap.size = w.heap.size + 1 by simp, ← hw1, ← hS, ← hT] at h2
    have h3 := row_alloc (o' := .cells #[.int .i64 0, .int .i64 0, .int .i64 0] 30) h1 (row_lt h1)
    rw [← hw1, ← hS] at h3
    exact ⟨by rw [hw1]; exact below_new (below_new (Below.refl _ _) _) _, h3, h2, fun s hs => by cases hs⟩
  have HJ1 := Lib.hid hj1
  have HP : Hid (∀ wr, Below w.heap.size w wr → SRw wr p la) := fun wr h => hp.below h
  have HQ : Hid (∀ wr, Below w.heap.size w wr → SRw wr q lb) := fun wr h => hq.below h
  have HN := Lib.hid hn
  have HM := Lib.hid hm
  have HW1 := Lib.hid hw1
  have HS := Lib.hid hS
  have HT := Lib.hid hT
  clear hn hm hp hq hj1 hS hT hw1
  go_enter Try.func14, Try.ntmps14
  go_wp2_with fail
  rw [← HW1.out, ← HS.out, ← HT.out]
  go_loopw [7, 8] (fun sv iv wr => ∃ (i : Nat) (o : Option Ru) (B : Bool), i ≤ n ∧ iv = .int .i64 (i : Int) ∧ sv = .bool B ∧ Hid (B = o.isSome) ∧ AJ w wr n S T o ∧ Hid (o = fld la lb i 0)) (fun _ iv _ => n - (intOf iv).toNat)
  case atStart => exact ⟨0, none, false, by omega, rfl, rfl, rfl, HJ1.out, (fld_zero la lb).symm⟩
  case round =>
    obtain ⟨i, o, B, hi, rfl, rfl, HB, hj, HO⟩ := hrel
    have HJ := Lib.hid hj
    clear hj
    by_cases hlt : i < n
    · go_wp2_with fail
      go_loopw [7, 9] (fun sv kv wr => ∃ (k : Nat) (o : Option Ru) (B : Bool), k ≤ m ∧ kv = .int .i64 (k : Int) ∧ sv = .bool B ∧ Hid (B = o.isSome) ∧ AJ w wr n S T o ∧ Hid (o = fld la lb i k)) (fun _ kv _ => m - (intOf kv).toNat)
      case atStart => exact ⟨0, o, B, by omega, rfl, rfl, HB, HJ.out, HO⟩
      case round =>
        clear HB HO HJ
        obtain ⟨k, o, B, hk, rfl, rfl, HB, hj, HO⟩ := hrel
        have HJ := Lib.hid hj
        clear hj
        by_cases hkm : k < m
        · have hst := fld_step la lb i k
          rw [← HO.out] at hst
          obtain ⟨g, o1, rfl, -, -⟩ := (HP.out _ HJ.out.below) i (by rw [← HN.out]; exact hlt)
          obtain ⟨g', o2, rfl, -, -⟩ := (HQ.out _ HJ.out.below) k (by rw [← HM.out]; exact hkm)
          have hc2 := cells_two (HP.out _ HJ.out.below) (HQ.out _ HJ.out.below) HN.out HM.out hlt hkm
          by_cases he : la[i]? = lb[k]?
          · rw [if_pos he] at hst
            obtain ⟨u, a0, b0⟩ := hc2.1 he
            have hrun := (run_is (a := la) (b := lb) (i := i) (j := k) (by rw [← HN.out]; exact hlt) (by rw [← HM.out]; exact hkm) he).1
            obtain ⟨r, hr⟩ : ∃ r, r = run la lb i k := ⟨_, rfl⟩
            rw [← hr] at hst hrun
            have hfit : r.a + r.n ≤ n := by rw [HN.out]; exact hrun.la
            obtain ⟨P, hP⟩ : ∃ P, P = rr la r := ⟨_, rfl⟩
            have hPn : P ≤ n := by rw [hP, ← rrk_rr, HN.out]; exact rrk_le _ _ _
            have h1 : ∀ wr, Below w.heap.size w wr → Calls Try.prog 29 #[.slice (some ⟨g, o1, none⟩) n c, .slice (some ⟨g', o2, none⟩) m d, .int .i64 (i : Int), .int .i64 (k : Int)] wr fun e w' => e = .returned r.val ∧ Below wr.heap.size wr w' :=
              fun wr h => rrun_any la lb i k _ _ c d n m r wr HN.out HM.out (HP.out wr h) (HQ.out wr h) hl hl2 hlt hkm he hr
            have h2 : ∀ wr, Below w.heap.size w wr → Calls Try.prog 30 #[.slice (some ⟨g, o1, none⟩) n c, r.val] wr fun e w' => e = .returned (.int .i64 (P : Int)) ∧ Below wr.heap.size wr w' :=
              fun wr h => rrare_any la r.a r.n r.b _ c n P wr HN.out (HP.out wr h) hl hfit (by rw [hP, rrk_rr])
            have h3 : ∀ s wr, o = some s → Below w.heap.size w wr → Calls Try.prog 31 #[.slice (some ⟨g, o1, none⟩) n c, r.val, s.val] wr fun e w' => e = .returned (.bool (bt la r s)) ∧ Below wr.heap.size wr w' :=
              fun s wr hs h => rbetter_any la r s _ c n _ wr HN.out (HP.out wr h) hl hfit (HJ.out.fit s hs) rfl
            obtain ⟨ra, rb, rn⟩ := r
            simp only [Ru.val] at h1 h2 h3
            have HRN := Lib.hid h1
            have HRARE := Lib.hid h2
            have HBET := Lib.hid h3
            have HST := Lib.hid hst
            have HPR := Lib.hid hP
            have HFIT := Lib.hid hfit
            clear h1 h2 h3 hst hfit hrun hr hP he hc2
            go_wp2_with fail
            go_quiet (fail)
            obtain ⟨w4, hw4⟩ : ∃ w4, w4 = wr.drewN nq := ⟨_, rfl⟩
            rw [← hw4]
            have HJ4 : Hid (AJ w w4 n S T o) := HJ.out.next (by rw [hw4]; exact below_drewN (Below.refl _ _) nq)
            clear hw4 a0 b0
            go_upto_region 11 with (go_at_call 29; ((with_reducible refine (HRN.out _ HJ4.out.below).mono ?_); rintro e w5 ⟨rfl, hb5⟩; have HJ5 := Lib.hid (HJ4.out.next hb5); clear hb5))
            obtain ⟨X, hX⟩ : ∃ X, X = w5.heap.size := ⟨_, rfl⟩
            rw [← hX]
            obtain ⟨w6, hw6⟩ : ∃ w6, w6 = w5.alloc (.cells #[.int .i64 (ra : Int), .int .i64 (rb : Int), .int .i64 (rn : Int)] 30) := ⟨_, rfl⟩
            rw [← hw6]
            have hX6 : w6.heap[X]? = some (.cells #[.int .i64 (ra : Int), .int .i64 (rb : Int), .int .i64 (rn : Int)] 30 (0, 0)) := by rw [hw6, hX]; exact heap_alloc_new _ _
            have HJ6 : Hid (AJ w w6 n S T o) := HJ5.out.next (by rw [hw6]; exact below_new (Below.refl _ _) _)
            have HX6 := Lib.hid hX6
            have v0 := cell_of_row w6 X 0 _ _ _ hX6
            have v1 := cell_of_row w6 X 1 _ _ _ hX6
            have v2 := cell_of_row w6 X 2 _ _ _ hX6
            clear hX6 hw6 hX
            by_cases h64 : 64 < P
            · have HX : Hid (o = fld la lb i (k + 1)) := by show _ = _; rw [HST.out]; exact (if_pos (by rw [← HPR.out]; exact h64)).symm
              clear HST HO
              go_wp2_with (go_at_call 30; ((with_reducible refine (HRARE.out _ HJ6.out.below).mono ?_); rintro e w7 ⟨rfl, hb7⟩; have HJ7 := Lib.hid (HJ6.out.next hb7); clear hb7))
              go_roundw
              case rel => exact ⟨k + 1, o, B, by omega, by go_num, rfl, HB, HJ7.out, HX⟩
              case measure => simp [intOf]; omega
            · cases o with
              | none =>
                have HX : Hid (some ⟨ra, rb, rn⟩ = fld la lb i (k + 1)) := by show _ = _; rw [HST.out]; exact (if_neg (by rw [← HPR.out]; exact h64)).symm
                obtain rfl : B = false := HB.out
                have HBC := Lib.hid (show bc none = #[.int .i64 0, .int .i64 0, .int .i64 0] from rfl)
                clear HST HO HB
                go_wp2_with (go_at_call 30; ((with_reducible refine (HRARE.out _ HJ6.out.below).mono ?_); rintro e w7 ⟨rfl, hb7⟩; have HJ7 := Lib.hid (HJ6.out.next hb7); have hX7 := (hb7.block _ (row_lt HX6.out)).trans HX6.out; have x0 := cell_of_row w7 X 0 _ _ _ hX7; have x1 := cell_of_row w7 X 1 _ _ _ hX7; have x2 := cell_of_row w7 X 2 _ _ _ hX7; have HX7 := Lib.hid hX7; clear hX7 hb7; obtain ⟨z0, z1, z2, y0, y1, y2⟩ := HJ7.out.cells HBC.out))
                go_roundw
                case rel => exact ⟨k + 1, some ⟨ra, rb, rn⟩, true, by omega, by go_num, rfl, rfl, HJ7.out.put ⟨ra, rb, rn⟩ (by rw [HS.out]; exact Nat.le_refl _) HT.out HFIT.out rfl, HX⟩
                case measure => simp [intOf]; omega
              | some s =>
                obtain rfl : B = true := HB.out
                obtain ⟨Bt, hBt⟩ : ∃ Bt, Bt = bt la ⟨ra, rb, rn⟩ s := ⟨_, rfl⟩
                have hbs := fun wr h => HBET.out s wr rfl h
                rw [← hBt] at hbs
                have HBS := Lib.hid hbs
                have hst : fld la lb i (k + 1) = if bt la ⟨ra, rb, rn⟩ s = true then some ⟨ra, rb, rn⟩ else some s := by rw [HST.out]; exact if_neg (by rw [← HPR.out]; exact h64)
                rw [← hBt] at hst
                have HBC := Lib.hid (show bc (some s) = #[.int .i64 (s.a : Int), .int .i64 (s.b : Int), .int .i64 (s.n : Int)] from rfl)
                cases Bt with
                | true =>
                  have HX : Hid (some ⟨ra, rb, rn⟩ = fld la lb i (k + 1)) := hst.symm
                  clear HST HO HB HBET hBt hst hbs
                  go_wp2_with (first
                    | (go_at_call 30; ((with_reducible refine (HRARE.out _ HJ6.out.below).mono ?_); rintro e w7 ⟨rfl, hb7⟩; have HJ7 := Lib.hid (HJ6.out.next hb7); have hX7 := (hb7.block _ (row_lt HX6.out)).trans HX6.out; have x0 := cell_of_row w7 X 0 _ _ _ hX7; have x1 := cell_of_row w7 X 1 _ _ _ hX7; have x2 := cell_of_row w7 X 2 _ _ _ hX7; have HX7 := Lib.hid hX7; clear hX7 hb7; obtain ⟨z0, z1, z2, y0, y1, y2⟩ := HJ7.out.cells HBC.out))
                    | (go_at_call 31; ((with_reducible refine (HBS.out _ HJ7.out.below).mono ?_); rintro e w8 ⟨rfl, hb8⟩; have HJ8 := Lib.hid (HJ7.out.next hb8); have hX8 := (hb8.block _ (row_lt HX7.out)).trans HX7.out; have x0 := cell_of_row w8 X 0 _ _ _ hX8; have x1 := cell_of_row w8 X 1 _ _ _ hX8; have x2 := cell_of_row w8 X 2 _ _ _ hX8; clear hX8 hb8; obtain ⟨z0, z1, z2, y0, y1, y2⟩ := HJ8.out.cells HBC.out)))
                  go_roundw
                  case rel => exact ⟨k + 1, some ⟨ra, rb, rn⟩, true, by omega, by go_num, rfl, rfl, HJ8.out.put ⟨ra, rb, rn⟩ (by rw [HS.out]; exact Nat.le_refl _) HT.out HFIT.out rfl, HX⟩
                  case measure => simp [intOf]; omega
                | false =>
                  have HX : Hid (some s = fld la lb i (k + 1)) := hst.symm
                  clear HST HO HB HBET hBt hst hbs
                  go_wp2_with (first
                    | (go_at_call 30; ((with_reducible refine (HRARE.out _ HJ6.out.below).mono ?_); rintro e w7 ⟨rfl, hb7⟩; have HJ7 := Lib.hid (HJ6.out.next hb7); have hX7 := (hb7.block _ (row_lt HX6.out)).trans HX6.out; have x0 := cell_of_row w7 X 0 _ _ _ hX7; have x1 := cell_of_row w7 X 1 _ _ _ hX7; have x2 := cell_of_row w7 X 2 _ _ _ hX7; have HX7 := Lib.hid hX7; clear hX7 hb7; obtain ⟨z0, z1, z2, y0, y1, y2⟩ := HJ7.out.cells HBC.out))
                    | (go_at_call 31; ((with_reducible refine (HBS.out _ HJ7.out.below).mono ?_); rintro e w8 ⟨rfl, hb8⟩; have HJ8 := Lib.hid (HJ7.out.next hb8); have hX8 := (hb8.block _ (row_lt HX7.out)).trans HX7.out; have x0 := cell_of_row w8 X 0 _ _ _ hX8; have x1 := cell_of_row w8 X 1 _ _ _ hX8; have x2 := cell_of_row w8 X 2 _ _ _ hX8; clear hX8 hb8; obtain ⟨z0, z1, z2, y0, y1, y2⟩ := HJ8.out.cells HBC.out)))
                  go_roundw
                  case rel => exact ⟨k + 1, some s, true, by omega, by go_num, rfl, rfl, HJ8.out, HX⟩
                  case measure => simp [intOf]; omega
          · rw [if_neg he] at hst
            obtain ⟨u, v, a0, b0, e1⟩ := hc2.2 he
            have e2 : (u.toList != v.toList) = true := by simp [bne, e1]
            have HX : Hid (o = fld la lb i (k + 1)) := hst.symm
            clear hst he hc2 HO
            go_wp2_with fail
            go_quiet (fail)
            obtain ⟨w4, hw4⟩ : ∃ w4, w4 = wr.drewN nq := ⟨_, rfl⟩
            rw [← hw4]
            have HJ4 : Hid (AJ w w4 n S T o) := HJ.out.next (by rw [hw4]; exact below_drewN (Below.refl _ _) nq)
            clear hw4 a0 b0 e1 e2
            go_wp2_with fail
            go_roundw
            case rel => exact ⟨k + 1, o, B, by omega, by go_num, rfl, HB, HJ4.out, HX⟩
            case measure => simp [intOf]; omega
        · obtain rfl : k = m := by omega
          have HX : Hid (o = fld la lb (i + 1) 0) := by show _ = _; rw [HO.out, fld_next, HM.out]
          clear HO
          go_wp2_with fail
          go_roundw
          case rel => exact ⟨i + 1, o, B, by omega, by go_num, rfl, HB, HJ.out, HX⟩
          case measure => simp [intOf]; omega
    · obtain rfl : i = n := by omega
      have HE : Hid (o = anc la lb) := by show _ = _; rw [HO.out, HN.out, fld_end]
      clear HO
      have hr3 := HJ.out.res
      have c0 := cell_of_row wr S 0 _ _ _ hr3
      have c1 := cell_of_row wr S 1 _ _ _ hr3
      have c2 := cell_of_row wr S 2 _ _ _ hr3
      have f0 := frozen_of_row wr S 0 _ _ hr3
      have f1 := frozen_of_row wr S 1 _ _ hr3
      have f2 := frozen_of_row wr S 2 _ _ hr3
      have HR3 := Lib.hid hr3
      have HB3 := Lib.hid HJ.out.below
      clear hr3
      cases o with
      | none =>
        obtain rfl : B = false := HB.out
        obtain ⟨z0, z1, z2, y0, y1, y2⟩ := HJ.out.cells (show bc none = #[.int .i64 0, .int .i64 0, .int .i64 0] from rfl)
        clear HB HJ HJ1
        go_wp2_with fail
        obtain ⟨w4, hw4⟩ : ∃ w4, w4 = ((wr.setCell ⟨S, 0, none⟩ (.int .i64 0)).setCell ⟨S, 1, none⟩ (.int .i64 0)).setCell ⟨S, 2, none⟩ (.int .i64 0) := ⟨_, rfl⟩
        obtain ⟨k0, k1, k2, kb⟩ := fin3 HR3.out HS.out HB3.out hw4
        rw [← hw4]
        clear c0 c1 c2 f0 f1 f2 z0 z1 z2 y0 y1 y2 hw4
        refine bodyPost_ret (v := ancV none) (by simp [results, Try.results14, go_sem, ancV, k0, k1, k2]) rfl ⟨by rw [← HE.out], kb⟩
      | some s =>
        obtain ⟨sa, sb, sn⟩ := s
        obtain rfl : B = true := HB.out
        obtain ⟨z0, z1, z2, y0, y1, y2⟩ := HJ.out.cells (show bc (some ⟨sa, sb, sn⟩) = #[.int .i64 (sa : Int), .int .i64 (sb : Int), .int .i64 (sn : Int)] from rfl)
        clear HB HJ HJ1
        go_wp2_with fail
        obtain ⟨w4, hw4⟩ : ∃ w4, w4 = ((wr.setCell ⟨S, 0, none⟩ (.int .i64 (sa : Int))).setCell ⟨S, 1, none⟩ (.int .i64 (sb : Int))).setCell ⟨S, 2, none⟩ (.int .i64 (sn : Int)) := ⟨_, rfl⟩
        obtain ⟨k0, k1, k2, kb⟩ := fin3 HR3.out HS.out HB3.out hw4
        rw [← hw4]
        clear c0 c1 c2 f0 f1 f2 z0 z1 z2 y0 y1 y2 hw4
        refine bodyPost_ret (v := ancV (some ⟨sa, sb, sn⟩)) (by simp [results, Try.results14, go_sem, ancV, Ru.val, k0, k1, k2]) rfl ⟨by rw [← HE.out], kb⟩
end Go.Proofs.Ytnmebnpldacngaa
