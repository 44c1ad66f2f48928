/-
  The walk of middle.
-/
import Derived.Test.YtnmebnpldacngaaHsPart
import Derived.Laws.Slices
namespace Go.Proofs.Ytnmebnpldacngaa
open Go.RowKit

section
variable {W : World} {K na nb ca cb : Nat} {pa pb : Option Addr} {la lb : List (List UInt8)} {f : List UInt8 → Nat}
set_option maxHeartbeats 2000000 in
set_option maxRecDepth 4000 in
theorem middle_any (hw : Hw W K pa pb na nb ca cb la lb f) (k : Nat) (hpart : PartP W K na nb ca cb pa pb la lb f k) : MidP W K na nb ca cb pa pb la lb f k := by
  intro X Y p q n m c d i j acc R wx hx hy h hl hk hR
  obtain ⟨hinj, hfx, hfy⟩ := hw.sub hx hy
  have hXl := hx.len
  have hYl := hy.len
  have hnc := hx.cap
  have hmd := hy.cap
  have hfew := hw.kl.few
  have hxle := hx.le
  have hyle := hy.le
  rw [← hw.kl.na] at hxle
  rw [← hw.kl.nb] at hyle
  have HANC : Hid (Calls Try.prog 28 #[.slice p n c, .slice q m d] wx fun e w' => e = .returned (ancV (anc X Y)) ∧ Below wx.heap.size wx w') := by
    have := anchor_any (X.map f) (Y.map f) p q c d n m wx (by rw [List.length_map, hXl]) (by rw [List.length_map, hYl]) (hx.row wx h.grown) (hy.row wx h.grown) hnc hmd (by omega) (by omega) hfx hfy
    rw [anc_map hinj] at this
    exact this
  have HK := Lib.hid h
  have HX := Lib.hid hx
  have HY := Lib.hid hy
  cases ha : anc X Y with
  | none =>
    rw [ha] at HANC
    simp only [ancV] at HANC
    have hR2 : R = acc ++ (LSr X Y).flatMap fun r => kp ((i : Int) + r.a) ((j : Int) + r.b) r.n := by rw [hR, mid, ha]
    have HLE : Hid (∀ (w : World) (z1 z2 : Int), z1 = ((i + n : Nat) : Int) → z2 = ((j + m : Nat) : Int) → Below wx.heap.size wx w → Calls Try.prog 55 #[.pointer (some ⟨K, 0, none⟩), .int .i64 (i : Int), .int .i64 z1, .int .i64 (j : Int), .int .i64 z2] w fun e w' => e = .returned (.tuple #[]) ∧ Kp W K (.slice pa na ca) (.slice pb nb cb) R w' ∧ Fz K (.slice pa na ca) (.slice pb nb cb) wx w') := by
      rintro w z1 z2 rfl rfl hb
      exact (hkleast_any W K na nb ca cb i n j m pa pb la lb X Y acc R w hw.kl (h.below hb) (by omega) hxle hyle hx.eq hy.eq hR2).mono fun e w' h' => ⟨h'.1, h'.2.1, fz_trans (fz_below h hb) h'.2.2⟩
    clear hR hR2 ha hXl hYl hinj hfx hfy h hx hy
    go_enter Try.func41, Try.ntmps41
    go_upto_region 2 with (go_at_call 28; ((refine HANC.out.mono ?_); rintro e w1 ⟨rfl, hb1⟩))
    have HB2 : Hid (Below wx.heap.size wx (w1.alloc (.cells #[.int .i64 0, .int .i64 0, .int .i64 0] 30))) := below_new hb1 _
    clear hb1
    go_wp2_with (go_at_call 55; ((with_reducible refine (HLE.out _ _ _ ?hz1 ?hz2 HB2.out).mono ?_); (case hz1 => first | rfl | omega | (rw [IntWalk.i64_in _ (by omega)]; omega)); (case hz2 => first | rfl | omega | (rw [IntWalk.i64_in _ (by omega)]; omega)); rintro e w3 ⟨rfl, hk3, hf3⟩))
    refine bodyPost_ret (results_none rfl _ _ _) rfl ?_
    exact ⟨rfl, hk3, hf3⟩
  | some r =>
    obtain ⟨hr1, hr2, hr3⟩ := anc_facts ha
    obtain ⟨ra, rb, rn⟩ := r
    simp only at hr1 hr2 hr3
    rw [hXl] at hr2
    rw [hYl] at hr3
    rw [ha] at HANC
    simp only [ancV, Ru.val] at HANC
    obtain ⟨S1, hS1⟩ : ∃ S1, S1 = sp LSr k (X.take ra) (Y.take rb) i j := ⟨_, rfl⟩
    obtain ⟨S2, hS2⟩ : ∃ S2, S2 = kp ((i : Int) + ra) ((j : Int) + rb) rn := ⟨_, rfl⟩
    obtain ⟨S3, hS3⟩ : ∃ S3, S3 = sp LSr k (X.drop (ra + rn)) (Y.drop (rb + rn)) (i + (ra + rn : Nat)) (j + (rb + rn : Nat)) := ⟨_, rfl⟩
    have hR2 : R = acc ++ (S1 ++ (S2 ++ S3)) := by rw [hR, mid, ha, hS1, hS2, hS3]
    have hl1 : S1.length ≤ 4 * (ra + rb) + 4 := by
      have := sp_len k (X.take ra) (Y.take rb) i j
      rw [← hS1, List.length_take, List.length_take] at this
      omega
    have hl2 : S2.length ≤ 1 := by rw [hS2]; exact kp_len _ _ _
    have HP1 : Hid (∀ (w : World), Below wx.heap.size wx w → Calls Try.prog 23 #[.pointer (some ⟨K, 0, none⟩), .slice p ra c, .slice q rb d, .int .i64 (i : Int), .int .i64 (j : Int)] w fun e w' => e = .returned (.tuple #[]) ∧ Kp W K (.slice pa na ca) (.slice pb nb cb) (acc ++ S1) w' ∧ Fz K (.slice pa na ca) (.slice pb nb cb) w w') := fun w hb =>
      hpart (X.take ra) (Y.take rb) p q ra rb c d i j acc (acc ++ S1) w (hx.take ra (by omega)) (hy.take rb (by omega)) (h.below hb) (by omega) (by omega) (by rw [hS1])
    have HP2 : Hid (∀ (w : World) (z1 z2 : Int), z1 = (i : Int) + ra → z2 = (j : Int) + rb → Kp W K (.slice pa na ca) (.slice pb nb cb) (acc ++ S1) w → Calls Try.prog 39 #[.pointer (some ⟨K, 0, none⟩), .int .i64 z1, .int .i64 z2, .int .i64 (rn : Int)] w fun e w' => e = .returned (.tuple #[]) ∧ Kp W K (.slice pa na ca) (.slice pb nb cb) (acc ++ S1 ++ S2) w' ∧ Fz K (.slice pa na ca) (.slice pb nb cb) w w') := by
      rintro w z1 z2 rfl rfl hkp
      exact hkeep_any W K _ _ (acc ++ S1) _ _ _ _ w hkp (by rw [List.length_append]; omega) (by rw [hS2])
    obtain ⟨za, hza⟩ : ∃ za, za = ra + rn := ⟨_, rfl⟩
    obtain ⟨zb, hzb⟩ : ∃ zb, zb = rb + rn := ⟨_, rfl⟩
    have hzai : (ra : Int) + (rn : Int) = (za : Int) := by omega
    have hzbi : (rb : Int) + (rn : Int) = (zb : Int) := by omega
    rw [← hza, ← hzb] at hS3
    have HP3 : Hid (∀ (w : World) (p' q' : Option Addr) (z1 z2 : Int), p' = (if c = za then p else p.map (·.add za)) → q' = (if d = zb then q else q.map (·.add zb)) → z1 = (i : Int) + (za : Int) → z2 = (j : Int) + (zb : Int) → Kp W K (.slice pa na ca) (.slice pb nb cb) (acc ++ S1 ++ S2) w → Calls Try.prog 23 #[.pointer (some ⟨K, 0, none⟩), .slice p' (n - za) (c - za), .slice q' (m - zb) (d - zb), .int .i64 z1, .int .i64 z2] w fun e w' => e = .returned (.tuple #[]) ∧ Kp W K (.slice pa na ca) (.slice pb nb cb) R w' ∧ Fz K (.slice pa na ca) (.slice pb nb cb) w w') := by
      rintro w p' q' z1 z2 rfl rfl rfl rfl hkp
      exact hpart (X.drop za) (Y.drop zb) _ _ _ _ _ _ _ _ (acc ++ S1 ++ S2) R w (hx.drop za (by omega)) (hy.drop zb (by omega)) hkp (by rw [List.length_append, List.length_append]; omega) (by omega) (by
        rw [hR2, hS3, List.append_assoc, List.append_assoc]
        rfl)
    have hzan : za ≤ n := by omega
    have hzbm : zb ≤ m := by omega
    clear hR hR2 ha hXl hYl hinj hfx hfy h hx hy hS1 hS2 hS3 hpart hl1 hl2 HX HY hw hza hzb
    go_enter Try.func41, Try.ntmps41
    go_upto_region 1 with (go_at_call 28; ((refine HANC.out.mono ?_); rintro e w1 ⟨rfl, hb1⟩))
    obtain ⟨w2, hw2⟩ : ∃ w2, w2 = w1.alloc (.cells #[.int .i64 (ra : Int), .int .i64 (rb : Int), .int .i64 (rn : Int)] 30) := ⟨_, rfl⟩
    obtain ⟨E, hE⟩ : ∃ E, E = w1.heap.size := ⟨_, rfl⟩
    rw [← hw2, ← hE]
    have hb2 : Below wx.heap.size wx w2 := by rw [hw2]; exact below_new hb1 _
    have hent : w2.heap[E]? = some (.cells #[.int .i64 (ra : Int), .int .i64 (rb : Int), .int .i64 (rn : Int)] 30 (0, 0)) := by rw [hw2, hE]; exact heap_alloc_new _ _
    have hfr := fr_new HK.out hb2 (g := E) (by rw [hE]; exact hb1.size)
    have r0 := cell_of_row w2 E 0 _ _ _ hent
    have r1 := cell_of_row w2 E 1 _ _ _ hent
    have r2 := cell_of_row w2 E 2 _ _ _ hent
    have HB2 := Lib.hid hb2
    have HEN := Lib.hid hent
    have HFR := Lib.hid hfr
    have HFZ2 := Lib.hid (fz_below HK.out hb2)
    have hrx : ra + rn ≤ n := hr2
    have hry : rb + rn ≤ m := hr3
    clear hw2 hE hb1 hb2 hent hfr
    have hrac : (ra : Int) ≤ (c : Int) := by omega
    have hrbd : (rb : Int) ≤ (d : Int) := by omega
    go_upto_region 3 with fail
    go_quiet (fail)
    go_wp2_with fail
    have HB3 : Hid (Below wx.heap.size wx (w2.drewN nq)) := below_drewN HB2.out nq
    have HEN3 : Hid ((w2.drewN nq).heap[E]? = some (.cells #[.int .i64 (ra : Int), .int .i64 (rb : Int), .int .i64 (rn : Int)] 30 (0, 0))) := HEN.out
    have HFR3 : Hid (E ≠ K ∧ Fr K (.slice pa na ca) (.slice pb nb cb) E (w2.drewN nq)) := HFR.out
    clear r0 r1 r2 HB2 HEN HFR HFZ2
    generalize w2.drewN nq = w3 at HB3 HEN3 HFR3 ⊢
    have r0 := cell_of_row w3 E 0 _ _ _ HEN3.out
    have r1 := cell_of_row w3 E 1 _ _ _ HEN3.out
    have r2 := cell_of_row w3 E 2 _ _ _ HEN3.out
    go_still_tail 11, (by kernel_rfl)
    change wpList _ _ _ _ _ w3.drew
    have HB4 : Hid (Below wx.heap.size wx w3.drew) := HB3.out.drew
    have HEN4 : Hid (w3.drew.heap[E]? = some (.cells #[.int .i64 (ra : Int), .int .i64 (rb : Int), .int .i64 (rn : Int)] 30 (0, 0))) := HEN3.out
    have HFR4 : Hid (E ≠ K ∧ Fr K (.slice pa na ca) (.slice pb nb cb) E w3.drew) := HFR3.out
    clear r0 r1 r2 HB3 HEN3 HFR3
    generalize w3.drew = w4 at HB4 HEN4 HFR4 ⊢
    go_upto_region 5 with (go_at_call 23; ((with_reducible refine (HP1.out _ HB4.out).mono ?_); rintro e w5 ⟨rfl, hk5, hf5⟩))
    have hE5 := hf5.1 E (row_lt HEN4.out) HFR4.out.1 HFR4.out.2
    have hent5 := hE5.2.trans HEN4.out
    have r0 := cell_of_row w5 E 0 _ _ _ hent5
    have r1 := cell_of_row w5 E 1 _ _ _ hent5
    have r2 := cell_of_row w5 E 2 _ _ _ hent5
    have HK5 := Lib.hid hk5
    have HF5 := Lib.hid (fz_trans (fz_below HK.out HB4.out) hf5)
    clear hE5 hent5 hk5 hf5 HEN4 HFR4 HB4
    go_upto_region 6 with (go_at_call 39; ((with_reducible refine (HP2.out _ _ _ ?hz1 ?hz2 HK5.out).mono ?_); (case hz1 => first | rfl | omega | (rw [IntWalk.i64_in _ (by omega)])); (case hz2 => first | rfl | omega | (rw [IntWalk.i64_in _ (by omega)])); rintro e w6 ⟨rfl, hk6, hf6⟩))
    have HK6 := Lib.hid hk6
    have HF6 := Lib.hid (fz_trans HF5.out hf6)
    clear r0 r1 r2 HK5 HF5 hk6 hf6
    obtain ⟨P, hP⟩ : ∃ P, (if c = za then p else p.map (·.add za)) = P := ⟨_, rfl⟩
    obtain ⟨Q, hQ⟩ : ∃ Q, (if d = zb then q else q.map (·.add zb)) = Q := ⟨_, rfl⟩
    have hra2 : (za : Int) ≤ (n : Int) := by omega
    have hrb2 : (zb : Int) ≤ (m : Int) := by omega
    have HPP := Lib.hid hP.symm
    have HQQ := Lib.hid hQ.symm
    go_still_tail 13, (by kernel_rfl)
    change wpList _ _ _ _ _ w6.drew
    have HK7 : Hid (Kp W K (.slice pa na ca) (.slice pb nb cb) (acc ++ S1 ++ S2) w6.drew) := HK6.out.below (Below.refl _ _).drew
    have HF7 : Hid (Fz K (.slice pa na ca) (.slice pb nb cb) wx w6.drew) := fz_trans HF6.out (fz_below HK6.out (Below.refl _ _).drew)
    clear HK6 HF6
    generalize w6.drew = w7 at HK7 HF7 ⊢
    go_wp2_with (go_at_call 23; ((with_reducible refine (HP3.out _ _ _ _ _ HPP.out HQQ.out ?hz1 ?hz2 HK7.out).mono ?_); (case hz1 => first | rfl | omega | (rw [IntWalk.i64_in _ (by omega)])); (case hz2 => first | rfl | omega | (rw [IntWalk.i64_in _ (by omega)])); rintro e w8 ⟨rfl, hk8, hf8⟩))
    refine bodyPost_end (results_none rfl _ _ _) rfl ?_
    exact ⟨rfl, hk8, fz_trans HF7.out hf8⟩
end
end Go.Proofs.Ytnmebnpldacngaa
