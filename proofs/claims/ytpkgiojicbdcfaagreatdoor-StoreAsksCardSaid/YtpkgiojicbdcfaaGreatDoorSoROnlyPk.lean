/-
 The walks of the reference's Sorted, Only and Less.
-/
import Derived.Test.YtpkgiojicbdcfaaGreatDoorSoCalmPk
import Derived.Test.YtpkgiojicbdcfaaGreatDoorSoLivesPk
import Derived.Test.YtpkgiojicbdcfaaGreatDoorSoLkoPk
namespace Go.Proofs.YtpkgiojicbdcfaaGreatDoor
open Go Go.RowKit Go.Maps Go.WideMaps
set_option maxHeartbeats 4000000 in
set_option maxRecDepth 4000 in
theorem rsorted_any (ids : List (List UInt8)) (p : Option Addr) (n c : Nat) (w : World) (hn : n = ids.length) (hp : SRw w p ids) (hn2 : n ≤ 1000000) :
  Calls Tryz.prog 56 #[.slice p n c] w fun e w' => (∃ q m d, e = .returned (.slice q m d) ∧ m = (srtS ids).length ∧ m ≤ d ∧ (q = none → d = 0) ∧ SRw w' q (srtS ids)) ∧ Below w.heap.size w w' := by
 have HN := Lib.hid hn
 have HP := Lib.hid hp
 clear hn hp
 go_enter Tryz.func56, Tryz.ntmps56
 go_wp2
 go_loopw [3, 4] (fun ov iv wr => ∃ (k m d : Nat) (q : Option Addr), k ≤ n ∧ ov = .slice q m d ∧ iv = .int .i64 (k : Int) ∧ Hid (m = (srtS (ids.take k)).length ∧ m ≤ d ∧ (q = none → d = 0) ∧ SRw wr q (srtS (ids.take k))) ∧ Hid (Below w.heap.size w wr)) (fun _ iv _ => n - (intOf iv).toNat)
 case atStart => exact ⟨0, 0, 0, none, by omega, rfl, rfl, ⟨rfl, Nat.le_refl _, fun _ => rfl, SRw.none _ _⟩, Below.refl _ _⟩
 case round =>
  obtain ⟨k, m, d, q, hk, rfl, rfl, HJ, HB⟩ := hrel
  by_cases hlt : k < n
  ·have hkl : k < ids.length := by rw [← HN.out]; exact hlt
   have q1 : (k : Int) < (n : Int) := by omega
   obtain ⟨g, o, rfl, hg, a0⟩ := HP.out.below HB.out k hkl
   obtain ⟨x, hx⟩ : ∃ x, x = str ids[k] := ⟨_, rfl⟩
   rw [← hx] at a0
   have hl : m ≤ 1000000 := by
    have h1 := srtS_len (ids.take k)
    rw [List.length_take] at h1
    have h2 := HJ.out.1
    omega
   have HI := Lib.hid (rinsert_any (srtS (ids.take k)) x q m d wr HJ.out.1 HJ.out.2.1 HJ.out.2.2.1 HJ.out.2.2.2 hl)
   have hmo := srtS_more hkl
   rw [← hx] at hmo
   rw [← hmo] at HI
   clear hmo hx hg hkl
   go_wp2_with (go_at_call 91; ((with_reducible refine HI.out.mono ?_); rintro e w2 ⟨⟨q2, m2, d2, rfl, hm2, hmd2, hqd2, hr2⟩, hb2⟩; have HJ2 := Lib.hid (And.intro hm2 (And.intro hmd2 (And.intro hqd2 hr2))); clear hm2 hmd2 hqd2 hr2))
   go_roundw
   case rel => exact ⟨k + 1, m2, d2, q2, by omega, rfl, by go_num, HJ2.out, HB.out.trans (hb2.mono HB.out.size)⟩
   case measure => simp [intOf]; omega
  ·obtain rfl : n = k := by omega
   have HX : Hid (ids.take n = ids) := by show _ = _; rw [List.take_of_length_le (by have := HN.out; omega)]
   rw [HX.out] at HJ
   go_wp2
   go_ret
   exact ⟨⟨q, m, d, rfl, HJ.out.1, HJ.out.2.1, HJ.out.2.2.1, HJ.out.2.2.2⟩, HB.out⟩
set_option maxHeartbeats 4000000 in
set_option maxRecDepth 8000 in
theorem ronly_any (l : List It) (ids : List (List UInt8)) (p q : Option Addr) (n c m d : Nat) (w : World) (hn : n = l.length) (hm : m = ids.length) (hp : ItRw w p l) (hq : SRw w q ids) (hn2 : n ≤ 1000000) (hm2 : m ≤ 1000000) :
  Calls Tryz.prog 24 #[.agg #[.slice p n c], .slice q m d] w fun e w' => ∃ v', e = .returned (.agg #[v']) ∧ ItOw w' w.heap.size v' (onlyI l ids) ∧ Below w.heap.size w w' := by
 rw [← onlyI_srt]
 obtain ⟨w1, hw1⟩ : ∃ w1, w1 = w.alloc (.cells #[.slice p n c] 24) := ⟨_, rfl⟩
 obtain ⟨w2, hw2⟩ : ∃ w2, w2 = w1.alloc (.cells #[.slice none 0 0] 24) := ⟨_, rfl⟩
 obtain ⟨I, hI⟩ : ∃ I, I = w.heap.size := ⟨_, rfl⟩
 obtain ⟨P, hP'⟩ : ∃ P, P = w.heap.size + 1 := ⟨_, rfl⟩
 have h1 : w1.heap[I]? = some (.cells #[.slice p n c] 24 (0, 0)) := by rw [hw1, hI]; exact heap_alloc_new _ _
 have h2 : w2.heap[P]? = some (.cells #[.slice none 0 0] 24 (0, 0)) := by rw [hw2, hP', show w.heap.size + 1 = w1.heap.size by rw [hw1]; simp]; exact heap_alloc_new _ _
 have h3 : w2.heap[I]? = some (.cells #[.slice p n c] 24 (0, 0)) := by rw [hw2]; exact row_alloc h1 (row_lt h1)
 have hbx : Below w.heap.size w w2 := by rw [hw2, hw1]; exact below_new (below_new (Below.refl _ _) _) _
 have HSR := Lib.hid (rsorted_any ids q m d w2 hm (hq.below hbx) hm2)
 have hsl := srtS_len ids
 obtain ⟨S, hS⟩ : ∃ S, S = srtS ids := ⟨_, rfl⟩
 rw [← hS] at HSR hsl ⊢
 have HSL : Hid (S.length ≤ 1000000) := by show _ ≤ _; omega
 have HN := Lib.hid hn
 have HP := Lib.hid (hp.below hbx)
 have HW1 := Lib.hid hw1
 have HW2 := Lib.hid hw2
 have HI := Lib.hid hI
 have HP' := Lib.hid hP'
 have H2 := Lib.hid h2
 have H3 := Lib.hid h3
 have HBX := Lib.hid hbx
 have HPL : Hid (w.heap.size ≤ P) := by show _ ≤ P; omega
 clear hn hm hp hq hw1 hw2 hI hP' h1 h2 h3 hbx hS hsl
 go_enter Tryz.func24, Tryz.ntmps24
 go_upto_region 1 with fail
 rw [← HW1.out, ← HW2.out, ← HP'.out, ← HI.out]
 go_wp2_with (go_at_call 56; ((with_reducible refine HSR.out.mono ?_); rintro e w3 ⟨⟨qs, ms, ds, rfl, hms, -, -, hrs⟩, hb3⟩; have HMS := Lib.hid hms; have HRS := Lib.hid hrs; have HB3 := Lib.hid hb3; clear hms hrs hb3))
 have hms2 : ms ≤ 1000000 := by rw [HMS.out]; exact HSL.out
 have x0 := (st_at ((HB3.out.block _ (row_lt H3.out)).trans H3.out)).1
 have H5 := Lib.hid ((HB3.out.block _ (row_lt H2.out)).trans H2.out)
 have HP3 := Lib.hid (HP.out.below HB3.out)
 have HBX3 := Lib.hid (HBX.out.trans (HB3.out.mono HBX.out.size))
 go_loopw [6, 7] (fun v iv wr => ∃ k : Nat, k ≤ n ∧ iv = .int .i64 (k : Int) ∧ Hid (ItOw wr w3.heap.size v ((l.take k).filter (fun e => holdsS S e.i))) ∧ Hid (Below w3.heap.size w3 wr)) (fun _ iv _ => n - (intOf iv).toNat)
 case atStart => exact ⟨0, by omega, rfl, ItOw.nil _ _, Below.refl _ _⟩
 case round =>
  obtain ⟨k, hk, rfl, HO, HB⟩ := hrel
  have c0 := cell_bel x0 HB.out
  by_cases hlt : k < n
  ·have hkl : k < l.length := by rw [← HN.out]; exact hlt
   obtain ⟨g', o, rfl, hg, a0, a1, a2⟩ := HP3.out.below HB.out k hkl
   obtain ⟨e, he⟩ : ∃ e, e = l[k] := ⟨_, rfl⟩
   rw [← he] at a0 a1 a2
   have hfm := filter_more (f := holdsS S) hkl
   rw [← he] at hfm
   obtain ⟨b, hb⟩ : ∃ b, b = holdsS S e.i := ⟨_, rfl⟩
   have HC := Lib.hid (rholds_any S e.i qs ms ds wr HMS.out (HRS.out.below HB.out) (by omega))
   rw [← hb] at HC hfm
   have HFM := Lib.hid hfm
   have hll : ((l.take k).filter (fun e => holdsS S e.i)).length ≤ k := Nat.le_trans (List.length_filter_le _ _) (by simp; omega)
   have HLL : Hid (((l.take k).filter (fun e => holdsS S e.i)).length + 1 ≤ 1048576) := by show _ ≤ _; omega
   have q1 : (k : Int) < (n : Int) := by omega
   obtain ⟨id, kd, bd⟩ := e
   simp only at a0 a1 a2 HC
   clear hll hfm he hb hkl hg
   rcases b with _ | _
   ·have hls : (l.take (k + 1)).filter (fun e => holdsS S e.i) = (l.take k).filter (fun e => holdsS S e.i) := by rw [HFM.out, if_neg (by decide), List.append_nil]
    have HLS := Lib.hid hls
    clear hls
    go_wp2_with (go_at_call 36; ((with_reducible refine HC.out.mono ?_); rintro e w4 ⟨rfl, rfl⟩))
    go_roundw
    case rel => exact ⟨k + 1, by omega, by go_num, by show ItOw _ _ _ _; rw [HLS.out]; exact HO.out, HB.out⟩
    case measure => simp [intOf]; omega
   ·have hls : (l.take (k + 1)).filter (fun e => holdsS S e.i) = (l.take k).filter (fun e => holdsS S e.i) ++ [⟨id, kd, bd⟩] := by rw [HFM.out, if_pos rfl]
    have HLS := Lib.hid hls
    clear hls
    go_wp2_with (first
     | (go_at_call 36; ((with_reducible refine HC.out.mono ?_); rintro e w4 ⟨rfl, rfl⟩))
     | (at_builtin; refine wp_it_one rfl _ _ rfl rfl HO.out id kd bd rfl HLL.out HB.out.size ?_; intro v4 w4 h4 g4; have HO4 := Lib.hid h4; have HB4 := Lib.hid (HO.out.bel1 HB.out (Nat.le_refl _) HB.out.size g4); clear h4 g4))
    go_roundw
    case rel => exact ⟨k + 1, by omega, by go_num, by show ItOw _ _ _ _; rw [HLS.out]; exact HO4.out, HB4.out⟩
    case measure => simp [intOf]; omega
  ·have HX : Hid (l.take k = l) := by show _ = _; rw [List.take_of_length_le (by have := HN.out; omega)]
   obtain ⟨pv, nv, cv, rfl⟩ := HO.out.form
   have H6 := Lib.hid ((HB.out.block _ (row_lt H5.out)).trans H5.out)
   obtain ⟨o0, f0⟩ := st_at H6.out
   obtain ⟨d0, -⟩ := st_at (st_set (v := .slice pv nv cv) H6.out)
   have hap := HO.out.apart (b := P) (row_lt H5.out)
   go_wp2_with fail
   refine bodyPost_ret (v := .agg #[.slice pv nv cv]) (by simp [results, Tryz.results24, go_sem, d0]) rfl ⟨_, rfl, ?_, (HBX3.out.trans (HB.out.mono HBX3.out.size)).setCell (p := ⟨P, 0, none⟩) HPL.out _⟩
   have h := (HO.out.mono HBX3.out.size).put (x := .slice pv nv cv) hap
   rw [HX.out] at h
   exact h
set_option maxHeartbeats 4000000 in
set_option maxRecDepth 8000 in
theorem rless_any (a b : List It) (p q : Option Addr) (n c m d : Nat) (w : World) (hn : n = a.length) (hm : m = b.length) (hp : ItRw w p a) (hq : ItRw w q b) (hn2 : n ≤ 1000000) (hm2 : m ≤ 1000000) :
  Calls Tryz.prog 28 #[.agg #[.slice p n c], .agg #[.slice q m d]] w fun e w' => ∃ v', e = .returned (.agg #[v']) ∧ ItOw w' w.heap.size v' (lessI a b) ∧ Below w.heap.size w w' := by
 unfold lessI
 obtain ⟨w1, hw1⟩ : ∃ w1, w1 = w.alloc (.cells #[.slice p n c] 24) := ⟨_, rfl⟩
 obtain ⟨w2, hw2⟩ : ∃ w2, w2 = w1.alloc (.cells #[.slice q m d] 24) := ⟨_, rfl⟩
 obtain ⟨w3, hw3⟩ : ∃ w3, w3 = w2.alloc (.cells #[.slice none 0 0] 24) := ⟨_, rfl⟩
 obtain ⟨I, hI⟩ : ∃ I, I = w.heap.size := ⟨_, rfl⟩
 obtain ⟨O, hO'⟩ : ∃ O, O = w.heap.size + 1 := ⟨_, rfl⟩
 obtain ⟨P, hP'⟩ : ∃ P, P = w.heap.size + 1 + 1 := ⟨_, rfl⟩
 have h1 : w1.heap[I]? = some (.cells #[.slice p n c] 24 (0, 0)) := by rw [hw1, hI]; exact heap_alloc_new _ _
 have h2 : w2.heap[O]? = some (.cells #[.slice q m d] 24 (0, 0)) := by rw [hw2, hO', show w.heap.size + 1 = w1.heap.size by rw [hw1]; simp]; exact heap_alloc_new _ _
 have h3 : w3.heap[P]? = some (.cells #[.slice none 0 0] 24 (0, 0)) := by rw [hw3, hP', show w.heap.size + 1 + 1 = w2.heap.size by rw [hw2, hw1]; simp]; exact heap_alloc_new _ _
 have hbx : Below w.heap.size w w3 := by rw [hw3, hw2, hw1]; exact below_new (below_new (below_new (Below.refl _ _) _) _) _
 have x0 : w3.cell? ⟨I, 0, none⟩ = some (.slice p n c) := (st_at (by rw [hw3, hw2]; exact row_alloc (row_alloc h1 (row_lt h1)) (row_lt (row_alloc h1 (row_lt h1))))).1
 have y0 : w3.cell? ⟨O, 0, none⟩ = some (.slice q m d) := (st_at (by rw [hw3]; exact row_alloc h2 (row_lt h2))).1
 have HN := Lib.hid hn
 have HM := Lib.hid hm
 have HP := Lib.hid (hp.below hbx)
 have HQ := Lib.hid (hq.below hbx)
 have HW1 := Lib.hid hw1
 have HW2 := Lib.hid hw2
 have HW3 := Lib.hid hw3
 have HI := Lib.hid hI
 have HO' := Lib.hid hO'
 have HP' := Lib.hid hP'
 have H3 := Lib.hid h3
 have HBX := Lib.hid hbx
 have HPL : Hid (w.heap.size ≤ P) := by show _ ≤ P; omega
 clear hn hm hp hq hw1 hw2 hw3 hI hO' hP' h1 h2 h3 hbx
 go_enter Tryz.func28, Tryz.ntmps28
 go_upto_region 1 with fail
 rw [← HW1.out, ← HW2.out, ← HW3.out, ← HP'.out, ← HO'.out, ← HI.out]
 go_wp2
 go_loopw [5, 6] (fun v iv wr => ∃ k : Nat, k ≤ n ∧ iv = .int .i64 (k : Int) ∧ Hid (ItOw wr w3.heap.size v ((a.take k).filter (fun e => !(hasI b e.i)))) ∧ Hid (Below w3.heap.size w3 wr)) (fun _ iv _ => n - (intOf iv).toNat)
 case atStart => exact ⟨0, by omega, rfl, ItOw.nil _ _, Below.refl _ _⟩
 case round =>
  obtain ⟨k, hk, rfl, HO, HB⟩ := hrel
  have c0 := cell_bel x0 HB.out
  have c1 := cell_bel y0 HB.out
  by_cases hlt : k < n
  ·have hkl : k < a.length := by rw [← HN.out]; exact hlt
   obtain ⟨g', o, hpe, hg, a0, a1, a2⟩ := HP.out.below HB.out k hkl
   subst hpe
   obtain ⟨e, he⟩ : ∃ e, e = a[k] := ⟨_, rfl⟩
   rw [← he] at a0 a1 a2
   have hfm := filter_more (f := fun i => !(hasI b i)) hkl
   rw [← he] at hfm
   obtain ⟨H, hH⟩ : ∃ H, H = hasI b e.i := ⟨_, rfl⟩
   have HC : Hid (∀ y : BelW wr, Calls Tryz.prog 59 #[.agg #[.slice q m d], .string e.i] y.w fun r w'' => r = .returned (.bool H) ∧ ∃ z : BelW wr, w'' = z.w) := fun y => by
    rw [hH]
    exact Calls.bel_class (rhasI_any b e.i q m d y.w HM.out ((HQ.out.below HB.out).below y.h) (by omega))
   simp only [← hH] at hfm
   have HFM := Lib.hid hfm
   have hll : ((a.take k).filter (fun e => !(hasI b e.i))).length ≤ k := Nat.le_trans (List.length_filter_le _ _) (by simp; omega)
   have HLL : Hid (((a.take k).filter (fun e => !(hasI b e.i))).length + 1 ≤ 1048576) := by show _ ≤ _; omega
   have q1 : (k : Int) < (n : Int) := by omega
   obtain ⟨id, kd, bd⟩ := e
   simp only at a0 a1 a2 HC
   have k0 : ∀ y : BelW wr, y.w.cell? ⟨I, 0, none⟩ = some (.slice (some ⟨g', o, none⟩) n c) := fun y => cell_bel c0 y.h
   have k1 : ∀ y : BelW wr, y.w.cell? ⟨O, 0, none⟩ = some (.slice q m d) := fun y => cell_bel c1 y.h
   have k2 : ∀ y : BelW wr, y.w.cell? ⟨g', o + k * 3, none⟩ = some (.string id) := fun y => cell_bel a0 y.h
   have hqn : Nonempty (BelW wr) := ⟨⟨wr, Below.refl _ _⟩⟩
   clear hll hfm he hH hkl hg
   go_upto_region 5 with fail
   refine wp_region_bel (w0 := wr) (Below.refl _ _) (by kernel_rfl) (by kernel_rfl) ?_
   repeat (go_big_quiet_step (first
    | (go_at_call 59; (with_reducible exact HC.out _))))
   refine wpQuiet_nil ?_
   rintro _ ⟨zz, rfl⟩
   have hbk := zz.h
   have HO5 := Lib.hid (HO.out.below hbk)
   have HB5 := Lib.hid (HB.out.trans (hbk.mono HB.out.size))
   replace a0 := cell_bel a0 hbk
   replace a1 := cell_bel a1 hbk
   replace a2 := cell_bel a2 hbk
   replace c0 := cell_bel c0 hbk
   obtain ⟨w5, hw5⟩ : ∃ w5, w5 = zz.w := ⟨_, rfl⟩
   rw [← hw5] at HO5 HB5 a0 a1 a2 c0 ⊢
   clear k0 k1 k2 hqn HC c1 hbk hw5 HO HB zz
   rcases H with _ | _
   ·have hls : (a.take (k + 1)).filter (fun e => !(hasI b e.i)) = (a.take k).filter (fun e => !(hasI b e.i)) ++ [⟨id, kd, bd⟩] := by rw [HFM.out]; simp
    have HLS := Lib.hid hls
    clear hls
    go_wp2_with (at_builtin; refine wp_it_one rfl _ _ rfl rfl HO5.out id kd bd rfl HLL.out HB5.out.size ?_; intro v4 w4 h4 g4; have HO4 := Lib.hid h4; have HB4 := Lib.hid (HO5.out.bel1 HB5.out (Nat.le_refl _) HB5.out.size g4); clear h4 g4)
    go_roundw
    case rel => exact ⟨k + 1, by omega, by go_num, by show ItOw _ _ _ _; rw [HLS.out]; exact HO4.out, HB4.out⟩
    case measure => simp [intOf]; omega
   ·have hls : (a.take (k + 1)).filter (fun e => !(hasI b e.i)) = (a.take k).filter (fun e => !(hasI b e.i)) := by rw [HFM.out]; simp
    have HLS := Lib.hid hls
    clear hls
    go_wp2_with fail
    go_roundw
    case rel => exact ⟨k + 1, by omega, by go_num, by show ItOw _ _ _ _; rw [HLS.out]; exact HO5.out, HB5.out⟩
    case measure => simp [intOf]; omega
  ·have HX : Hid (a.take k = a) := by show _ = _; rw [List.take_of_length_le (by have := HN.out; omega)]
   obtain ⟨pv, nv, cv, rfl⟩ := HO.out.form
   have H6 := Lib.hid ((HB.out.block _ (row_lt H3.out)).trans H3.out)
   obtain ⟨o0, f0⟩ := st_at H6.out
   obtain ⟨d0, -⟩ := st_at (st_set (v := .slice pv nv cv) H6.out)
   have hap := HO.out.apart (b := P) (row_lt H3.out)
   go_wp2_with fail
   refine bodyPost_ret (v := .agg #[.slice pv nv cv]) (by simp [results, Tryz.results28, go_sem, d0]) rfl ⟨_, rfl, ?_, (HBX.out.trans (HB.out.mono HBX.out.size)).setCell (p := ⟨P, 0, none⟩) HPL.out _⟩
   have h := (HO.out.mono HBX.out.size).put (x := .slice pv nv cv) hap
   rw [HX.out] at h
   exact h
end Go.Proofs.YtpkgiojicbdcfaaGreatDoor
/-
 The walk of the law StoreAsks.
-/
namespace Go.Proofs.YtpkgiojicbdcfaaGreatDoor
open Go Go.RowKit Go.Maps Go.WideMaps
theorem keepS1 {w0 wa wb : World} {a1 a2 : Nat} {x : Value} (hb : Below wa.heap.size wa wb) (h : Below w0.heap.size w0 wa ∧ wa.cell? ⟨a1, a2, none⟩ = some x) : Below w0.heap.size w0 wb ∧ wb.cell? ⟨a1, a2, none⟩ = some x :=
 ⟨h.1.trans (hb.mono h.1.size), cell_bel h.2 hb⟩
set_option maxHeartbeats 8000000 in
set_option maxRecDepth 8000 in
theorem storeAsks_walk (l : List It) (ids : List (List UInt8)) (p q : Option Addr) (n c m d : Nat) (W : World) (hT : StrTab W) (hO : WoTab W) (hTr : TrTab W) (hK : KTab W) (hn : n = l.length) (hm : m = ids.length) (hr : ItRw W p l) (hq : SRw W q ids)
  (hs : ∀ x ∈ l, x.i.size ≤ 140737488355328 ∧ x.b.size ≤ 140737488355328) (hl : ∀ x ∈ ids, x.length ≤ 140737488355328) (hn2 : n ≤ 140737488355328) (hm2 : m ≤ 140737488355328) :
  Calls Tryz.prog 5 #[.agg #[.slice p n c], .slice q m d] W fun e W' => e = .returned (.bool true) ∧ Below W.heap.size W W' := by
 obtain ⟨w1, hw1⟩ : ∃ w1, w1 = W.alloc (.cells #[.slice p n c] 24) := ⟨_, rfl⟩
 obtain ⟨S, hS⟩ : ∃ S, S = W.heap.size := ⟨_, rfl⟩
 have hx : w1.heap[S]? = some (.cells #[.slice p n c] 24 (0, 0)) := by rw [hw1, hS]; exact heap_alloc_new W _
 have hbx : Below W.heap.size W w1 := by rw [hw1]; exact below_new (Below.refl _ _) _
 have HLV : Hid (∀ w', Below w1.heap.size w1 w' → Calls Tryz.prog 8 #[] w' fun e w'' => e = .returned (.bool true) ∧ Below w'.heap.size w' w'') := fun w' h => lives_any w' ((hT.below hbx).below h) ((hO.below hbx).below h) ((hTr.below hbx).below h) ((hK.below hbx).below h)
 have HSM := Lib.hid (small_any l p n c w1 hn (hr.below hbx) (fun x hx => (hs x hx).2) hn2)
 have x0 := (st_at hx).1
 have HN := Lib.hid hn
 have HM := Lib.hid hm
 have HR := Lib.hid (hr.below hbx)
 have HQ := Lib.hid (hq.below hbx)
 have HSZ := Lib.hid hs
 have HLZ := Lib.hid hl
 have HBX := Lib.hid hbx
 have HW1 := Lib.hid hw1
 have HS := Lib.hid hS
 clear hT hO hTr hK hn hm hr hq hs hl hx hbx hw1 hS hn2
 go_enter Tryz.func5, Tryz.ntmps5
 go_upto_region 1 with fail
 rw [← HW1.out, ← HS.out]
 go_cut [17] from 10 to 17 (fun v wx => (∃ b, v = .bool b ∧ Hid (b = false → SmI l ∧ m ≤ 40)) ∧ Hid (Below w1.heap.size w1 wx))
 case first =>
  by_cases k1 : 40 < m
  ·have g1 : (40 : Int) < (m : Int) := by omega
   clear k1
   go_wp2_with (go_at_call 11; ((with_reducible refine HSM.out.mono ?_); rintro e w2 ⟨⟨b, rfl, hb⟩, hb2⟩; have HB := Lib.hid hb; clear hb; rcases b with _ | _))
   all_goals go_meet
   all_goals exact ⟨⟨_, rfl, fun h => by cases h⟩, hb2⟩
  ·have g1 : ¬ (40 : Int) < (m : Int) := by omega
   have HM4 : Hid (m ≤ 40) := by show m ≤ 40; omega
   clear k1
   go_wp2_with (go_at_call 11; ((with_reducible refine HSM.out.mono ?_); rintro e w2 ⟨⟨b, rfl, hb⟩, hb2⟩; have HB := Lib.hid hb; clear hb; rcases b with _ | _))
   ·go_meet
    exact ⟨⟨_, rfl, fun h => by cases h⟩, hb2⟩
   ·go_meet
    exact ⟨⟨_, rfl, fun _ => ⟨HB.out (by first | rfl | trivial), HM4.out⟩⟩, hb2⟩
 case rest =>
  obtain ⟨⟨b, rfl, HB⟩, HB1⟩ := hcut
  rename World => w2
  clear HSM
  rcases b with _ | _
  case true =>
   go_wp2_with (go_at_call 8; ((with_reducible refine (HLV.out _ HB1.out).mono ?_); rintro e w3 ⟨rfl, hb3⟩))
   go_ret
   exact ⟨rfl, HBX.out.trans ((HB1.out.trans (hb3.mono HB1.out.size)).mono HBX.out.size)⟩
  obtain ⟨hsm, hm4⟩ := HB.out rfl
  have hn80 : n ≤ 80 := by rw [HN.out]; exact hsm.2.1
  have HSI := Lib.hid hsm
  clear hsm HB hm2
  have y0 := cell_bel x0 HB1.out
  clear x0
  go_wp2_with fail
  go_loopw [5] (fun iv wr => ∃ k : Nat, k ≤ m ∧ iv = .int .i64 (k : Int) ∧ Hid (Below w2.heap.size w2 wr)) (fun iv _ => m - (intOf iv).toNat)
  case atStart => exact ⟨0, by omega, rfl, Below.refl _ _⟩
  case round =>
   obtain ⟨k, hk, rfl, HBW⟩ := hrel
   have c0 := cell_bel y0 HBW.out
   have HBV := Lib.hid (HB1.out.trans (HBW.out.mono HB1.out.size))
   by_cases hlt : k < m
   ·have hkl : k < ids.length := by rw [← HM.out]; exact hlt
    have q1 : (k : Int) < (m : Int) := by omega
    obtain ⟨g, o, hpe, hg, a0⟩ := HQ.out.below HBV.out k hkl
    subst hpe
    obtain ⟨s, hs⟩ : ∃ s, s = str ids[k] := ⟨_, rfl⟩
    rw [← hs] at a0
    obtain ⟨⟨xi, xk, xb⟩, hX⟩ : ∃ X, X = getI l s := ⟨_, rfl⟩
    obtain ⟨E, hE⟩ : ∃ E, E = getE l s := ⟨_, rfl⟩
    have HG : Hid (∀ w', Below wr.heap.size wr w' → Calls Tryz.prog 15 #[.agg #[.slice p n c], .string s] w' fun e w'' => e = .returned (.tuple #[.agg #[.int .i64 xk, .string xb], .int .i64 (E : Int)]) ∧ Below w'.heap.size w' w'' ∧ Below wr.heap.size wr w'') := fun w' h => by
     have := sget_any l s p n c w' HN.out ((HR.out.below HBV.out).below h) (by omega)
     rw [← hX, ← hE] at this
     exact this.mono fun e w'' ⟨h1, h2⟩ => ⟨h1, h2, h.trans (h2.mono h.size)⟩
    have HRG : Hid (∀ w' w0, Below wr.heap.size wr w0 → Below w0.heap.size w0 w' → Calls Tryz.prog 21 #[.agg #[.slice p n c], .string s] w' fun e w'' => e = .returned (.tuple #[.agg #[.int .i64 xk, .string xb], .int .i64 (E : Int)]) ∧ Below w'.heap.size w' w'' ∧ Below w0.heap.size w0 w'') := fun w' w0 h0 h => by
     have := rsget_any l s p n c w' HN.out ((HR.out.below HBV.out).below (h0.trans (h.mono h0.size))) (by omega)
     rw [← hX, ← hE] at this
     exact this.mono fun e w'' ⟨h1, h2⟩ => ⟨h1, h2, h.trans (h2.mono h.size)⟩
    obtain ⟨H, hH⟩ : ∃ H, H = hasI l s := ⟨_, rfl⟩
    have HHS : Hid (∀ w0, Below wr.heap.size wr w0 → ∀ y : BelW w0, Calls Tryz.prog 22 #[.agg #[.slice p n c], .string s] y.w fun e w'' => e = .returned (.bool H) ∧ ∃ z : BelW w0, w'' = z.w) := fun w0 h0 y => by
     have := has_any l s p n c y.w HN.out ((HR.out.below HBV.out).below (h0.trans (y.h.mono h0.size))) (by omega)
     rw [← hH] at this
     exact Calls.bel_class this
    have HEH : Hid (((E : Int) == 0) = H) := by
     show _ = H
     rw [hE, hH, getE]
     cases hasI l s <;> rfl
    have HX := Lib.hid hX
    have HE := Lib.hid hE
    have HH := Lib.hid hH
    have HSS := Lib.hid hs
    clear hs hX hE hg hH
    go_upto_region 6 with fail
    go_cut [6, 7] from 26 to 33 (fun pv ev wx => ∃ O, pv = .pointer (some ⟨O, 0, none⟩) ∧ ev = .int .i64 (E : Int) ∧ Hid (wx.heap[O]? = some (.cells #[.int .i64 xk, .string xb] 29 (0, 0))) ∧ Hid (Below wr.heap.size wr wx))
    case first =>
     have za := fun ob => cell_bel a0 (below_new (Below.refl wr.heap.size wr) ob)
     have zc := fun ob => cell_bel c0 (below_new (Below.refl wr.heap.size wr) ob)
     have zb := fun ob => cell_bel (w' := wr.drew.alloc ob) a0 (below_new (Below.refl wr.heap.size wr).drew ob)
     have zd := fun ob => cell_bel (w' := wr.drew.alloc ob) c0 (below_new (Below.refl wr.heap.size wr).drew ob)
     go_region_law (go_simp; go_at_call 15; ((with_reducible refine (HG.out _ (by first | exact Below.refl _ _ | exact (Below.refl _ _).drew | exact below_new (Below.refl _ _) _ | exact (below_new (Below.refl _ _) _).drew | exact below_new (Below.refl _ _).drew _)).mono ?_); rintro e w5 ⟨rfl, hb5, hd5⟩; first
      | (have hy := (hb5.block _ (by simp)).trans (heap_alloc_new wr (.cells #[.int .i64 0, .string ⟨#[]⟩] 29)); obtain ⟨o0, o1, f0, f1⟩ := ob_at hy)
      | (have hy := (hb5.block _ (by simp)).trans (heap_alloc_new wr.drew (.cells #[.int .i64 0, .string ⟨#[]⟩] 29)); obtain ⟨o0, o1, f0, f1⟩ := ob_at hy)
      | skip))
     all_goals go_wp2_with fail
     all_goals go_meet
     all_goals first
      | exact ⟨_, rfl, rfl, heap_alloc_new _ _, below_new hd5 _⟩
      | exact ⟨_, rfl, rfl, ob_row hy, set2_below hd5 (Nat.le_refl _)⟩
    case rest =>
    obtain ⟨O1, rfl, rfl, HO1, HB3⟩ := hcut
    rename World => w3
    replace a0 := cell_bel a0 HB3.out
    replace c0 := cell_bel c0 HB3.out
    have HRG2 : Hid (∀ w', Below w3.heap.size w3 w' → Calls Tryz.prog 21 #[.agg #[.slice p n c], .string s] w' fun e w'' => e = .returned (.tuple #[.agg #[.int .i64 xk, .string xb], .int .i64 (E : Int)]) ∧ Below w'.heap.size w' w'' ∧ Below w3.heap.size w3 w'') := fun w' h => HRG.out w' w3 HB3.out h
    clear HG HRG
    go_upto_region 7 with fail
    go_cut [8, 9] from 35 to 42 (fun pv ev wx => ∃ O, pv = .pointer (some ⟨O, 0, none⟩) ∧ ev = .int .i64 (E : Int) ∧ Hid (wx.heap[O]? = some (.cells #[.int .i64 xk, .string xb] 29 (0, 0))) ∧ Hid (Below w3.heap.size w3 wx))
    case first =>
     have za := fun ob => cell_bel a0 (below_new (Below.refl w3.heap.size w3) ob)
     have zc := fun ob => cell_bel c0 (below_new (Below.refl w3.heap.size w3) ob)
     have zb := fun ob => cell_bel (w' := w3.drew.alloc ob) a0 (below_new (Below.refl w3.heap.size w3).drew ob)
     have zd := fun ob => cell_bel (w' := w3.drew.alloc ob) c0 (below_new (Below.refl w3.heap.size w3).drew ob)
     go_region_law (go_simp; go_at_call 21; ((with_reducible refine (HRG2.out _ (by first | exact Below.refl _ _ | exact (Below.refl _ _).drew | exact below_new (Below.refl _ _) _ | exact (below_new (Below.refl _ _) _).drew | exact below_new (Below.refl _ _).drew _)).mono ?_); rintro e w5 ⟨rfl, hb5, hd5⟩; first
      | (have hy := (hb5.block _ (by simp)).trans (heap_alloc_new w3 (.cells #[.int .i64 0, .string ⟨#[]⟩] 29)); obtain ⟨o0, o1, f0, f1⟩ := ob_at hy)
      | (have hy := (hb5.block _ (by simp)).trans (heap_alloc_new w3.drew (.cells #[.int .i64 0, .string ⟨#[]⟩] 29)); obtain ⟨o0, o1, f0, f1⟩ := ob_at hy)
      | skip))
     all_goals go_wp2_with fail
     all_goals go_meet
     all_goals first
      | exact ⟨_, rfl, rfl, heap_alloc_new _ _, below_new hd5 _⟩
      | exact ⟨_, rfl, rfl, ob_row hy, set2_below hd5 (Nat.le_refl _)⟩
    case rest =>
    obtain ⟨O2, rfl, rfl, HO2, HB4⟩ := hcut
    rename World => w4
    replace a0 := cell_bel a0 HB4.out
    replace c0 := cell_bel c0 HB4.out
    have HB34 := Lib.hid (HB3.out.trans (HB4.out.mono HB3.out.size))
    have HHC := Lib.hid (HHS.out w4 HB34.out)
    obtain ⟨p0, p1, -, -⟩ := ob_at ((HB4.out.block _ (row_lt HO1.out)).trans HO1.out)
    obtain ⟨r0, r1, -, -⟩ := ob_at HO2.out
    have k0 : ∀ y : BelW w4, y.w.cell? ⟨S, 0, none⟩ = some (.slice p n c) := fun y => cell_bel c0 y.h
    have k1 : ∀ y : BelW w4, y.w.cell? ⟨g, o + k, none⟩ = some (.string s) := fun y => cell_bel a0 y.h
    have k2 : ∀ y : BelW w4, y.w.cell? ⟨O1, 0, none⟩ = some (.int .i64 xk) := fun y => cell_bel p0 y.h
    have k3 : ∀ y : BelW w4, y.w.cell? ⟨O1, 1, none⟩ = some (.string xb) := fun y => cell_bel p1 y.h
    have k4 : ∀ y : BelW w4, y.w.cell? ⟨O2, 0, none⟩ = some (.int .i64 xk) := fun y => cell_bel r0 y.h
    have k5 : ∀ y : BelW w4, y.w.cell? ⟨O2, 1, none⟩ = some (.string xb) := fun y => cell_bel r1 y.h
    have hqn : Nonempty (BelW w4) := ⟨⟨w4, Below.refl _ _⟩⟩
    have e1 : ((E : Int) != (E : Int)) = false := by simp
    have e2 := HEH.out
    have e3 : (H != H) = false := by simp
    have e4 : (xk == xk) = true := beq_self_eq_true _
    have e5 : (xb.toList == xb.toList) = true := beq_self_eq_true _
    clear a0 c0 p0 p1 r0 r1 HRG2 HHS
    go_upto_region 8 with fail
    refine wp_region_bel (w0 := w4) (Below.refl _ _) (by kernel_rfl) (by kernel_rfl) ?_
    repeat (go_big_quiet_step (first
     | (go_at_call 22; (with_reducible exact HHC.out _))))
    refine wpQuiet_nil ?_
    rintro _ ⟨zz, rfl⟩
    have HZ := Lib.hid zz.h
    obtain ⟨w5, hw5⟩ : ∃ w5, w5 = zz.w := ⟨_, rfl⟩
    rw [← hw5] at HZ ⊢
    clear k0 k1 k2 k3 k4 k5 hqn HHC hw5 zz
    go_wp2_with fail
    go_roundw
    case rel => exact ⟨k + 1, by omega, by go_num, HBW.out.trans ((HB34.out.trans (HZ.out.mono HB34.out.size)).mono HBW.out.size)⟩
    case measure => simp [intOf]; omega
   ·obtain rfl : m = k := by omega
    obtain ⟨OI, hOI⟩ : ∃ OI, OI = onlyI l ids := ⟨_, rfl⟩
    obtain ⟨z, hz⟩ : ∃ z, z = OI.length := ⟨_, rfl⟩
    have hz2 : z ≤ 1000000 := by
     rw [hz, hOI]
     have h1 : (onlyI l ids).length ≤ l.length := List.length_filter_le _ _
     have h2 := HN.out
     omega
    have HLW : Hid (∀ w', (Below wr.heap.size wr w' ∧ w'.cell? ⟨S, 0, none⟩ = some (.slice p n c)) → Calls Tryz.prog 8 #[] w' fun e w'' => e = .returned (.bool true) ∧ Below w'.heap.size w' w'' ∧ Below wr.heap.size wr w'') := fun w' h =>
     (HLV.out w' (HBV.out.trans (h.1.mono HBV.out.size))).mono fun e w'' ⟨h1, h2⟩ => ⟨h1, h2, h.1.trans (h2.mono h.1.size)⟩
    have HON : Hid (∀ w', (Below wr.heap.size wr w' ∧ w'.cell? ⟨S, 0, none⟩ = some (.slice p n c)) → Calls Tryz.prog 23 #[.agg #[.slice p n c], .slice q m d] w' fun e w'' => (∃ p1 c1, e = .returned (.agg #[.slice p1 z c1]) ∧ ItRw w'' p1 OI) ∧ Below w'.heap.size w' w'' ∧ Below wr.heap.size wr w'') := fun w' h =>
     (sonly_any l ids p q n c m d w' HN.out HM.out ((HR.out.below HBV.out).below h.1) ((HQ.out.below HBV.out).below h.1) (by omega) (by omega) (fun e he => (HSZ.out e he).1) HLZ.out).mono fun e w'' ⟨v, h1, h2, h3⟩ => by
      rw [← hOI] at h2
      obtain ⟨p1, c1, rfl, -, -, h4⟩ := h2.rw2 hz
      exact ⟨⟨p1, c1, h1, h4⟩, h3, h.1.trans (h3.mono h.1.size)⟩
    have HRO : Hid (∀ w', (Below wr.heap.size wr w' ∧ w'.cell? ⟨S, 0, none⟩ = some (.slice p n c)) → Calls Tryz.prog 24 #[.agg #[.slice p n c], .slice q m d] w' fun e w'' => (∃ p1 c1, e = .returned (.agg #[.slice p1 z c1]) ∧ ItRw w'' p1 OI) ∧ Below w'.heap.size w' w'' ∧ Below wr.heap.size wr w'') := fun w' h =>
     (ronly_any l ids p q n c m d w' HN.out HM.out ((HR.out.below HBV.out).below h.1) ((HQ.out.below HBV.out).below h.1) (by omega) (by omega)).mono fun e w'' ⟨v, h1, h2, h3⟩ => by
      rw [← hOI] at h2
      obtain ⟨p1, c1, rfl, -, -, h4⟩ := h2.rw2 hz
      exact ⟨⟨p1, c1, h1, h4⟩, h3, h.1.trans (h3.mono h.1.size)⟩
    have HSA : Hid (∀ (w' : World) (p1 p2 : Option Addr) (c1 c2 : Nat), (Below wr.heap.size wr w' ∧ w'.cell? ⟨S, 0, none⟩ = some (.slice p n c)) → ItRw w' p1 OI → ItRw w' p2 OI → Calls Tryz.prog 14 #[.agg #[.slice p1 z c1], .agg #[.slice p2 z c2]] w' fun e w'' => e = .returned (.bool true) ∧ Below w'.heap.size w' w'' ∧ Below wr.heap.size wr w'') := fun w' p1 p2 c1 c2 h h1 h2 =>
     (stsame_any OI OI p1 p2 c1 c2 z z true w' hz hz h1 h2 (by omega) (by omega) (by simp)).mono fun e w'' ⟨h3, h4⟩ => ⟨h3, h4, h.1.trans (h4.mono h.1.size)⟩
    clear hOI hz hz2 hlt
    go_upto_region 10 with fail
    go_region_held3 (fun w' => Below wr.heap.size wr w' ∧ w'.cell? ⟨S, 0, none⟩ = some (.slice p n c)) (first
     | exact keepS1 hb8 (by assumption)
     | exact keepS1 hb7 (by assumption)
     | exact keepS1 hb6 (by assumption)
     | exact keepS1 hb5 (by assumption)
     | exact keepS1 one_drew ⟨Below.refl _ _, c0⟩) (first
     | (go_at_call 8; ((with_reducible refine (HLW.out _ (by assumption)).mono ?_); rintro e v5 ⟨rfl, hb5, hd5⟩))
     | (go_at_call 23; ((with_reducible refine (HON.out _ (by assumption)).mono ?_); rintro e v6 ⟨⟨p6, c6, rfl, hr6⟩, hb6, hd6⟩))
     | (go_at_call 24; ((with_reducible refine (HRO.out _ (by assumption)).mono ?_); rintro e v7 ⟨⟨p7, c7, rfl, hr7⟩, hb7, hd7⟩; have hr6 := hr6.below hb7))
     | (go_at_call 14; ((with_reducible refine (HSA.out _ _ _ _ _ (by assumption) hr6 hr7).mono ?_); rintro e v8 ⟨rfl, hb8, hd8⟩)))
    all_goals go_wp2_with fail
    all_goals go_ret
    all_goals exact ⟨rfl, HBX.out.trans ((HBV.out.trans (hd8.mono HBV.out.size)).mono HBX.out.size)⟩
end Go.Proofs.YtpkgiojicbdcfaaGreatDoor
