/-
  The laws' own check of a few fixed examples.
-/
import Derived.Test.YtddmnibioacelaaGreatDoorCmLnk2
namespace Go.Proofs.YtddmnibioacelaaGreatDoor
open Go Go.RowKit Go.Maps Go.WideMaps

theorem bytesE_small {k : Int} {l : List UInt8} (h1 : 1 ≤ k) (h4 : k ≤ 4) (hl : l.length ≤ 1048576) : bytesE k l = 0 := by
  refine bytesE_ok (fun e => ?_) (by omega)
  rw [wordL_nil] at e
  exact e ⟨h1, h4⟩
theorem lnk_enc {c : Cm} (h : chkC c = 0) (hl : (encC c).length ≤ 1048576) : lnkL 3 (encC c) = (0, disL (c.t.data.toList :: c.ps)) := by
  rw [lnkL_3 (bytesE_small (by decide) (by decide) hl), cmL, parC_enc h]
  rfl
theorem lnk_tag {g : Tg} (h : chkG g = 0) (hl : (encG g).length ≤ 1048576) : lnkL 4 (encG g) = (0, [g.o.data.toList]) := by
  rw [lnkL_4 (bytesE_small (by decide) (by decide) hl), tgL, parG_enc h]
  rfl
/-- The examples. -/
def cmX : Cm := ⟨⟨#[48, 49, 50, 51, 52, 53, 54, 55, 56, 57, 97, 98, 99, 100, 101, 102, 48, 49, 50, 51, 52, 53, 54, 55, 56, 57, 97, 98, 99, 100, 101, 102, 48, 49, 50, 51, 52, 53, 54, 55]⟩, [], ⟨⟨#[97]⟩, ⟨#[97, 64, 98]⟩, 5, 60⟩, ⟨⟨#[97]⟩, ⟨#[97, 64, 98]⟩, 5, 60⟩, ⟨#[120, 10]⟩⟩
def tgX : Tg := ⟨⟨#[48, 49, 50, 51, 52, 53, 54, 55, 56, 57, 97, 98, 99, 100, 101, 102, 48, 49, 50, 51, 52, 53, 54, 55, 56, 57, 97, 98, 99, 100, 101, 102, 48, 49, 50, 51, 52, 53, 54, 55]⟩, 5, ⟨#[118]⟩, ⟨⟨#[97]⟩, ⟨#[97, 64, 98]⟩, 5, 60⟩, ⟨#[]⟩⟩
theorem lv1 : (whoR [97, 32, 60, 97, 64, 98, 62, 32, 53, 32, 45, 48, 49, 51, 48]).1 = 0 ∧ (whoR [97, 32, 60, 97, 64, 98, 62, 32, 53, 32, 45, 48, 49, 51, 48]).2.z = -90 := by decide +kernel
theorem lv2 : (whoR [97, 32, 60, 98, 62, 32, 48, 53, 32, 43, 48, 48, 48, 48]).1 = 2 := by decide +kernel
theorem lv3 : chkC cmX = 0 := by decide +kernel
theorem lv4 : encC cmX = [116, 114, 101, 101, 32, 48, 49, 50, 51, 52, 53, 54, 55, 56, 57, 97, 98, 99, 100, 101, 102, 48, 49, 50, 51, 52, 53, 54, 55, 56, 57, 97, 98, 99, 100, 101, 102, 48, 49, 50, 51, 52, 53, 54, 55, 10, 97, 117, 116, 104, 111, 114, 32, 97, 32, 60, 97, 64, 98, 62, 32, 53, 32, 43, 48, 49, 48, 48, 10, 99, 111, 109, 109, 105, 116, 116, 101, 114, 32, 97, 32, 60, 97, 64, 98, 62, 32, 53, 32, 43, 48, 49, 48, 48, 10, 10, 120, 10] := by decide +kernel
theorem lv5 : chkG tgX = 1 := by decide +kernel
theorem lv6 : (whoL ⟨⟨#[97]⟩, ⟨#[97, 64, 98]⟩, 5, 60⟩).data.toList = [97, 32, 60, 97, 64, 98, 62, 32, 53, 32, 43, 48, 49, 48, 48] := by decide +kernel
theorem lv7 : (lnkL 3 [120]).1 = 2 := by decide +kernel

set_option maxHeartbeats 1000000 in
theorem lwho_any (w : World) : Calls Tryz.prog 33 #[] w fun e w' => e = .returned (.agg #[.string ⟨#[97]⟩, .string ⟨#[97, 64, 98]⟩, .int .i64 5, .int .i64 60]) ∧ Below w.heap.size w w' := by
  obtain ⟨w1, hw1⟩ : ∃ w1, w1 = w.alloc (.cells #[.string ⟨#[]⟩, .string ⟨#[]⟩, .int .i64 0, .int .i64 0] 24) := ⟨_, rfl⟩
  have hx := heap_alloc_new w (.cells #[.string ⟨#[]⟩, .string ⟨#[]⟩, .int .i64 0, .int .i64 0] 24)
  rw [← hw1] at hx
  have hbx : Below w.heap.size w w1 := by rw [hw1]; exact below_new (Below.refl _ _) _
  have HW1 := Lib.hid hw1
  have HX := Lib.hid hx
  have HBX := Lib.hid hbx
  obtain ⟨y0, y1, y2, y3, z0, z1, z2, z3⟩ := pn_end hx
  clear hw1 hx hbx
  go_enter Tryz.func33, Tryz.ntmps33
  go_upto_region 1 with fail
  rw [← HW1.out]
  go_wp2
  obtain ⟨d0, d1, d2, d3, _⟩ := pn_end (pn_row (v0 := .string ⟨#[97]⟩) (v1 := .string ⟨#[97, 64, 98]⟩) (v2 := .int .i64 5) (v3 := .int .i64 60) HX.out)
  refine bodyPost_ret (v := .agg #[.string ⟨#[97]⟩, .string ⟨#[97, 64, 98]⟩, .int .i64 5, .int .i64 60]) (by simp [results, Tryz.results33, go_sem, d0, d1, d2, d3]) rfl ⟨rfl, set4_below HBX.out (Nat.le_refl _)⟩

set_option maxHeartbeats 8000000 in
set_option maxRecDepth 8000 in
theorem clives_any (w : World) (hT : StrTab w) (hO : WoTab w) (hR : TrTab w) : Calls Tryz.prog 9 #[] w fun e w' => e = .returned (.bool true) ∧ Below w.heap.size w w' := by
  obtain ⟨⟨c1, ⟨n1, m1, t1, z1⟩⟩, hq1⟩ : ∃ q, q = whoR [97, 32, 60, 97, 64, 98, 62, 32, 53, 32, 45, 48, 49, 51, 48] := ⟨_, rfl⟩
  obtain ⟨⟨c2, ⟨n2, m2, t2, z2⟩⟩, hq2⟩ : ∃ q, q = whoR [97, 32, 60, 98, 62, 32, 48, 53, 32, 43, 48, 48, 48, 48] := ⟨_, rfl⟩
  have e1 := lv1
  have e2 := lv2
  rw [← hq1] at e1
  rw [← hq2] at e2
  simp only at e1 e2
  obtain ⟨rfl, rfl⟩ := e1
  subst e2
  have P1 : Hid (Calls Tryz.prog 23 #[.string ⟨#[97, 32, 60, 97, 64, 98, 62, 32, 53, 32, 45, 48, 49, 51, 48]⟩] w fun e w'' => e = .returned (.tuple #[.agg #[.string n1, .string m1, .int .i64 t1, .int .i64 (-90)], .int .i64 0]) ∧ Below w.heap.size w w'') :=
    (who_any _ w hT (by decide)).mono fun e w'' ⟨he, hw⟩ => ⟨by rw [he, show (⟨#[97, 32, 60, 97, 64, 98, 62, 32, 53, 32, 45, 48, 49, 51, 48]⟩ : ByteArray).data.toList = [97, 32, 60, 97, 64, 98, 62, 32, 53, 32, 45, 48, 49, 51, 48] from rfl, ← hq1]; rfl, hw⟩
  have P2 : Hid (∀ w', Below w.heap.size w w' → Calls Tryz.prog 23 #[.string ⟨#[97, 32, 60, 98, 62, 32, 48, 53, 32, 43, 48, 48, 48, 48]⟩] w' fun e w'' => e = .returned (.tuple #[.agg #[.string n2, .string m2, .int .i64 t2, .int .i64 z2], .int .i64 2]) ∧ Below w.heap.size w w'' ∧ Below w'.heap.size w' w'') := fun w' hb =>
    (who_any _ w' (hT.below hb) (by decide)).mono fun e w'' ⟨he, hw⟩ => ⟨by rw [he, show (⟨#[97, 32, 60, 98, 62, 32, 48, 53, 32, 43, 48, 48, 48, 48]⟩ : ByteArray).data.toList = [97, 32, 60, 98, 62, 32, 48, 53, 32, 43, 48, 48, 48, 48] from rfl, ← hq2]; rfl, hb.trans (hw.mono hb.size), hw⟩
  obtain ⟨BD, hBD⟩ : ∃ BD, BD = str (encC cmX) := ⟨_, rfl⟩
  have hBD2 : BD = ⟨#[116, 114, 101, 101, 32, 48, 49, 50, 51, 52, 53, 54, 55, 56, 57, 97, 98, 99, 100, 101, 102, 48, 49, 50, 51, 52, 53, 54, 55, 56, 57, 97, 98, 99, 100, 101, 102, 48, 49, 50, 51, 52, 53, 54, 55, 10, 97, 117, 116, 104, 111, 114, 32, 97, 32, 60, 97, 64, 98, 62, 32, 53, 32, 43, 48, 49, 48, 48, 10, 99, 111, 109, 109, 105, 116, 116, 101, 114, 32, 97, 32, 60, 97, 64, 98, 62, 32, 53, 32, 43, 48, 49, 48, 48, 10, 10, 120, 10]⟩ := by rw [hBD, lv4]; rfl
  have P3 : Hid (∀ w', Below w.heap.size w w' → Calls Tryz.prog 33 #[] w' fun e w'' => e = .returned (.agg #[.string ⟨#[97]⟩, .string ⟨#[97, 64, 98]⟩, .int .i64 5, .int .i64 60]) ∧ Below w.heap.size w w'' ∧ Below w'.heap.size w' w'') := fun w' hb =>
    (lwho_any w').mono fun e w'' ⟨he, hw⟩ => ⟨he, hb.trans (hw.mono hb.size), hw⟩
  have P4 : Hid (∀ w', Below w.heap.size w w' → Calls Tryz.prog 10 #[.agg #[.string ⟨#[48, 49, 50, 51, 52, 53, 54, 55, 56, 57, 97, 98, 99, 100, 101, 102, 48, 49, 50, 51, 52, 53, 54, 55, 56, 57, 97, 98, 99, 100, 101, 102, 48, 49, 50, 51, 52, 53, 54, 55]⟩, .slice none 0 0, .string ⟨#[97]⟩, .string ⟨#[97, 64, 98]⟩, .int .i64 5, .int .i64 60, .string ⟨#[97]⟩, .string ⟨#[97, 64, 98]⟩, .int .i64 5, .int .i64 60, .string ⟨#[120, 10]⟩]] w' fun e w'' => e = .returned (.tuple #[.string BD, .int .i64 0]) ∧ Below w.heap.size w w'' ∧ Below w'.heap.size w' w'') := fun w' hb =>
    (cbody_any cmX none 0 0 w' (hT.below hb) rfl (SRw.none _ _) (fun y hy => absurd hy (by simp [cmX])) (by decide) (by decide)).mono fun e w'' ⟨he, hw⟩ => ⟨by rw [he, bodyC, if_pos lv3, lv3, hBD]; rfl, hb.trans (hw.mono hb.size), hw⟩
  have hBl : (encC cmX).length ≤ 1000000 := by rw [lv4]; decide
  have P5 : Hid (∀ w', Below w.heap.size w w' → Calls Tryz.prog 28 #[.agg #[.int .i64 3, .string BD]] w' fun e w'' => (∃ p c, e = .returned (.tuple #[.slice p 1 c, .int .i64 0]) ∧ SRw w'' p [[48, 49, 50, 51, 52, 53, 54, 55, 56, 57, 97, 98, 99, 100, 101, 102, 48, 49, 50, 51, 52, 53, 54, 55, 56, 57, 97, 98, 99, 100, 101, 102, 48, 49, 50, 51, 52, 53, 54, 55]]) ∧ Below w.heap.size w w'' ∧ Below w'.heap.size w' w'') := fun w' hb =>
    (links_any 3 BD w' (hT.below hb) (hO.below hb) (hR.below hb) (by rw [hBD, str_size]; omega) (fun _ => by rw [hBD, str_size]; exact hBl)).mono fun e w'' ⟨⟨v, he, hv⟩, hw⟩ => by
      rw [hBD, str_list, lnk_enc lv3 (by omega)] at he hv
      obtain ⟨p, c, rfl, hr⟩ := hv.rw
      exact ⟨⟨p, c, by rw [he]; rfl, hr⟩, hb.trans (hw.mono hb.size), hw⟩
  have P6 : Hid (∀ w', Below w.heap.size w w' → Calls Tryz.prog 19 #[.agg #[.string ⟨#[48, 49, 50, 51, 52, 53, 54, 55, 56, 57, 97, 98, 99, 100, 101, 102, 48, 49, 50, 51, 52, 53, 54, 55, 56, 57, 97, 98, 99, 100, 101, 102, 48, 49, 50, 51, 52, 53, 54, 55]⟩, .int .i64 5, .string ⟨#[118]⟩, .string ⟨#[97]⟩, .string ⟨#[97, 64, 98]⟩, .int .i64 5, .int .i64 60, .string ⟨#[]⟩]] w' fun e w'' => e = .returned (.tuple #[.string ⟨#[]⟩, .int .i64 1]) ∧ Below w.heap.size w w'' ∧ Below w'.heap.size w' w'') := fun w' hb =>
    (gbody_any tgX w' (hT.below hb) (hO.below hb) (by decide)).mono fun e w'' ⟨he, hw⟩ => ⟨by rw [he, bodyG, if_neg (by rw [lv5]; decide), lv5]; rfl, hb.trans (hw.mono hb.size), hw⟩
  have P7 : Hid (∀ w', Below w.heap.size w w' → Calls Tryz.prog 25 #[.agg #[.string ⟨#[97]⟩, .string ⟨#[97, 64, 98]⟩, .int .i64 5, .int .i64 60]] w' fun e w'' => e = .returned (.string ⟨#[97, 32, 60, 97, 64, 98, 62, 32, 53, 32, 43, 48, 49, 48, 48]⟩) ∧ Below w.heap.size w w'' ∧ Below w'.heap.size w' w'') := fun w' hb =>
    (fmt_any ⟨⟨#[97]⟩, ⟨#[97, 64, 98]⟩, 5, 60⟩ w' (hT.below hb) (by decide) (by decide) (by decide) (by decide) (by decide)).mono fun e w'' ⟨he, hw⟩ => ⟨by rw [he, show whoL ⟨⟨#[97]⟩, ⟨#[97, 64, 98]⟩, 5, 60⟩ = ⟨#[97, 32, 60, 97, 64, 98, 62, 32, 53, 32, 43, 48, 49, 48, 48]⟩ from ba_ext lv6], hb.trans (hw.mono hb.size), hw⟩
  have P8 : Hid (∀ w', Below w.heap.size w w' → Calls Tryz.prog 30 #[.agg #[.int .i64 3, .string ⟨#[120]⟩]] w' fun e w'' => e = .returned (.int .i64 2) ∧ Below w.heap.size w w'' ∧ Below w'.heap.size w' w'') := fun w' hb =>
    (whole_any 3 ⟨#[120]⟩ w' (hT.below hb) (hO.below hb) (hR.below hb) (by decide) (fun _ => by decide)).mono fun e w'' ⟨he, hw⟩ => ⟨by rw [he, show (⟨#[120]⟩ : ByteArray).data.toList = [120] from rfl, lv7]; rfl, hb.trans (hw.mono hb.size), hw⟩
  have HBD := Lib.hid hBD2
  have hself : BD.toList = [116, 114, 101, 101, 32, 48, 49, 50, 51, 52, 53, 54, 55, 56, 57, 97, 98, 99, 100, 101, 102, 48, 49, 50, 51, 52, 53, 54, 55, 56, 57, 97, 98, 99, 100, 101, 102, 48, 49, 50, 51, 52, 53, 54, 55, 10, 97, 117, 116, 104, 111, 114, 32, 97, 32, 60, 97, 64, 98, 62, 32, 53, 32, 43, 48, 49, 48, 48, 10, 99, 111, 109, 109, 105, 116, 116, 101, 114, 32, 97, 32, 60, 97, 64, 98, 62, 32, 53, 32, 43, 48, 49, 48, 48, 10, 10, 120, 10] := by rw [hBD2, ByteArray.toList_eq]
  clear hq1 hq2 hBD hBD2 hBl hT hO hR
  go_enter Tryz.func9, Tryz.ntmps9
  go_upto_region 2 with (go_at_call 23; ((with_reducible refine (P1.out).mono ?_); rintro e wa ⟨rfl, hba⟩))
  obtain ⟨E, hE⟩ : ∃ E, E = wa.heap.size := ⟨_, rfl⟩
  obtain ⟨w1, hw1⟩ : ∃ w1, w1 = wa.alloc (.cells #[.string n1, .string m1, .int .i64 t1, .int .i64 (-90)] 24) := ⟨_, rfl⟩
  have hr1 : w1.heap[E]? = some (.cells #[.string n1, .string m1, .int .i64 t1, .int .i64 (-90)] 24 (0, 0)) := by rw [hw1, hE]; exact heap_alloc_new _ _
  have hb1 : Below w.heap.size w w1 := hba.trans (by rw [hw1]; exact (below_new (Below.refl _ _) _).mono hba.size)
  rw [← hw1, ← hE]
  have HR1 := Lib.hid hr1
  clear hE hw1 hr1 hba P1
  go_upto_region 3 with (go_at_call 23; ((with_reducible refine (P2.out _ hb1).mono ?_); rintro e wa ⟨rfl, hba, hca⟩))
  obtain ⟨w2, hw2⟩ : ∃ w2, w2 = wa.alloc (.cells #[.string n2, .string m2, .int .i64 t2, .int .i64 z2] 24) := ⟨_, rfl⟩
  have hb2 : Below w.heap.size w w2 := hba.trans (by rw [hw2]; exact (below_new (Below.refl _ _) _).mono hba.size)
  have hb12 : Below w1.heap.size w1 w2 := hca.trans (by rw [hw2]; exact (below_new (Below.refl _ _) _).mono hca.size)
  rw [← hw2]
  have hr2 := (hb12.block _ (row_lt HR1.out)).trans HR1.out
  have HR2 := Lib.hid hr2
  clear hw2 hba hca P2 hr2 hb12 HR1
  go_upto_region 4 with (first
    | (go_at_call 33; first
      | ((with_reducible refine (P3.out _ hb2).mono ?_); rintro e w3 ⟨rfl, hb3, hc3⟩)
      | ((with_reducible refine (P3.out _ hb3).mono ?_); rintro e w4 ⟨rfl, hb4, hc4⟩))
    | (go_at_call 10; ((with_reducible refine (P4.out _ hb4).mono ?_); rintro e w5 ⟨rfl, hb5, hc5⟩)))
  have hr5 : w5.heap[E]? = some (.cells #[.string n1, .string m1, .int .i64 t1, .int .i64 (-90)] 24 (0, 0)) := (hc5.block _ (Nat.lt_of_lt_of_le (row_lt HR2.out) (Nat.le_trans hc3.size hc4.size))).trans ((hc4.block _ (Nat.lt_of_lt_of_le (row_lt HR2.out) hc3.size)).trans ((hc3.block _ (row_lt HR2.out)).trans HR2.out))
  have HR5 := Lib.hid hr5
  clear P4 hr5 HR2 hb2 hb3 hb4 hc3 hc4 hc5
  go_upto_region 5 with (go_at_call 28; ((with_reducible refine (P5.out _ hb5).mono ?_); rintro e w6 ⟨⟨p, c, rfl, hr6⟩, hb6, hc6⟩))
  obtain ⟨g, o, rfl, hg6, x6⟩ := hr6 0 (by decide)
  have hr7 : w6.heap[E]? = some (.cells #[.string n1, .string m1, .int .i64 t1, .int .i64 (-90)] 24 (0, 0)) := (hc6.block _ (row_lt HR5.out)).trans HR5.out
  have y6 : w6.cell? ⟨E, 3, none⟩ = some (.int .i64 (-90)) := cell_of_row _ _ 3 _ _ _ hr7
  have x6 : w6.cell? ⟨g, o, none⟩ = some (.string ⟨#[48, 49, 50, 51, 52, 53, 54, 55, 56, 57, 97, 98, 99, 100, 101, 102, 48, 49, 50, 51, 52, 53, 54, 55, 56, 57, 97, 98, 99, 100, 101, 102, 48, 49, 50, 51, 52, 53, 54, 55]⟩) := x6
  clear hr6 hr7 hc6 HR5 P5
  go_upto_region 6 with (first
    | (go_at_call 33; ((with_reducible refine (P3.out _ hb6).mono ?_); rintro e w7 ⟨rfl, hb7, hc7⟩; have y7 := cell_bel y6 hc7; have x7 := cell_bel x6 hc7))
    | (go_at_call 19; ((with_reducible refine (P6.out _ hb7).mono ?_); rintro e w8 ⟨rfl, hb8, hc8⟩; have y8 := cell_bel y7 hc8; have x8 := cell_bel x7 hc8)))
  clear y6 x6 y7 x7 hc7 hc8 hb5 hb6 hb7 hb1
  go_wp2_with (first
    | (go_at_call 33; ((with_reducible refine (P3.out _ hb8).mono ?_); rintro e w9 ⟨rfl, hb9, hc9⟩; have y9 := cell_bel y8 hc9; have x9 := cell_bel x8 hc9))
    | (go_at_call 25; ((with_reducible refine (P7.out _ hb9).mono ?_); rintro e wc ⟨rfl, hbc, hcc⟩; have yc := cell_bel y9 hcc; have xc := cell_bel x9 hcc))
    | (go_at_call 30; ((with_reducible refine (P8.out _ hbc).mono ?_); rintro e wd ⟨rfl, hbd, hcd⟩)))
  go_ret
  exact ⟨rfl, hbd⟩
end Go.Proofs.YtddmnibioacelaaGreatDoor
