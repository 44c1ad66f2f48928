/-
  The walk of Digest.
-/
import Derived.Test.YtalbphlmebhjoaaDoorShaAbsorb
import Derived.Test.YtalbphlmebhjoaaDoorShaPad
import Derived.Test.YtalbphlmebhjoaaDoorWordPlain
namespace Go.Proofs.YtalbphlmebhjoaaDoor
open Go.RowKit

theorem padL_len (l : List UInt8) (n : Nat) (hl : l.length < 64) : (padL l n).length = 64 ∨ (padL l n).length = 128 := by
  simp only [padL, List.length_append, fill_len, be8_len]
  omega
/-- How many blocks the padded rest makes. -/
def padN (l : List UInt8) : Nat := if l.length < 56 then 1 else 2
theorem padL_size (l : List UInt8) (n : Nat) (hl : l.length < 64) : (padL l n).length = 64 * padN l := by
  simp only [padL, List.length_append, fill_len, be8_len, padN]
  split <;> omega
/-- The bytes of the eight words. -/
def stB (v : St) : List UInt8 := wbytes v.a ++ (wbytes v.b ++ (wbytes v.c ++ (wbytes v.d ++ (wbytes v.e ++ (wbytes v.f ++ (wbytes v.g ++ wbytes v.h))))))
/-- The hash, as the code makes it. -/
def shaC (s : ByteArray) : List UInt8 := stB (blocks (blocks st0 (s.extract 0 (64 * (s.size / 64))).data.toList (s.size / 64)) (padL (s.extract (64 * (s.size / 64)) s.size).data.toList s.size) (padN (s.extract (64 * (s.size / 64)) s.size).data.toList))

/-- The world between the statements: the state's row. -/
structure DigW (w wr : World) (v : St) : Prop where
  below : Below w.heap.size w wr
  s : wr.heap[w.heap.size]? = some (.cells (cells8 v) 53 (0, 0))
theorem DigW.on {w wr wx : World} {v : St} (h : DigW w wr v) (hb : Below wr.heap.size wr wx) : DigW w wx v :=
  ⟨h.below.trans (hb.mono h.below.size), (hb.block _ (World.block_lt_of_cell? wr ⟨w.heap.size, 0, none⟩ (Eight.of_row h.s).1)).trans h.s⟩
theorem DigW.open {w w' : World} {v : St} (h : DigW w w' v) : Eight w' w.heap.size v ∧ w'.frozen? ⟨w.heap.size, 0, none⟩ = false ∧ w'.frozen? ⟨w.heap.size, 1, none⟩ = false ∧ w'.frozen? ⟨w.heap.size, 2, none⟩ = false ∧ w'.frozen? ⟨w.heap.size, 3, none⟩ = false ∧ w'.frozen? ⟨w.heap.size, 4, none⟩ = false ∧ w'.frozen? ⟨w.heap.size, 5, none⟩ = false ∧ w'.frozen? ⟨w.heap.size, 6, none⟩ = false ∧ w'.frozen? ⟨w.heap.size, 7, none⟩ = false :=
  ⟨Eight.of_row h.s, frozen_of_row _ _ 0 _ _ h.s, frozen_of_row _ _ 1 _ _ h.s, frozen_of_row _ _ 2 _ _ h.s, frozen_of_row _ _ 3 _ _ h.s, frozen_of_row _ _ 4 _ _ h.s, frozen_of_row _ _ 5 _ _ h.s, frozen_of_row _ _ 6 _ _ h.s, frozen_of_row _ _ 7 _ _ h.s⟩
theorem DigW.put {w w1 : World} {v m : St} (h : DigW w w1 v) : DigW w ((((((((w1.setCell ⟨w.heap.size, 0, none⟩ (.int .u32 (m.a : Int))).setCell ⟨w.heap.size, 1, none⟩ (.int .u32 (m.b : Int))).setCell ⟨w.heap.size, 2, none⟩ (.int .u32 (m.c : Int))).setCell ⟨w.heap.size, 3, none⟩ (.int .u32 (m.d : Int))).setCell ⟨w.heap.size, 4, none⟩ (.int .u32 (m.e : Int))).setCell ⟨w.heap.size, 5, none⟩ (.int .u32 (m.f : Int))).setCell ⟨w.heap.size, 6, none⟩ (.int .u32 (m.g : Int))).setCell ⟨w.heap.size, 7, none⟩ (.int .u32 (m.h : Int))) m :=
  ⟨below_set8' h.below (Nat.le_refl _), row8 h.s (.int .u32 (m.a : Int)) (.int .u32 (m.b : Int)) (.int .u32 (m.c : Int)) (.int .u32 (m.d : Int)) (.int .u32 (m.e : Int)) (.int .u32 (m.f : Int)) (.int .u32 (m.g : Int)) (.int .u32 (m.h : Int))⟩
theorem absorb_from {w wr : World} {v : St} (h : DigW w wr v) (hk : KTab w) (s : ByteArray) (n : Nat) (hv : v.ok) (hn : s.size = 64 * n) (hs : s.size ≤ 140737488355328) :
    Calls Tryd.prog 35 #[stV v, .string s] wr fun e w' => e = .returned (stV (blocks v s.data.toList n)) ∧ DigW w w' v :=
  (absorb_any v s n wr hv hn hs (hk.below h.below)).mono fun _ _ x => ⟨x.1, h.on x.2⟩

theorem four_cells (wr : World) (C : Array Value) (l : List UInt8) (j : Nat) (u : Value) {t : TypeId} (hC : C = (bcells l).toArray) (hj : (bcells l)[j]? = some u) : (wr.alloc (.cells C t)).cell? ((⟨wr.heap.size, 0, none⟩ : Addr).add j) = some u := by
  subst hC
  rw [Addr.add_lit, Nat.zero_add, World.cell?_alloc_mark]
  simpa using hj

set_option maxHeartbeats 2000000 in
set_option maxRecDepth 4000 in
theorem digest_any (s : ByteArray) (w : World) (hs : s.size ≤ 140737488355328) (hk : KTab w) :
    Calls Tryd.prog 29 #[.string s] w fun e w' => e = .returned (.string (str (shaC s))) ∧ Below w.heap.size w w' := by
  obtain ⟨i0, hi, hz0, hz1, hz2⟩ := info_parts Tryd.info5
  obtain ⟨k, hkk⟩ : ∃ k, k = s.size / 64 := ⟨_, rfl⟩
  obtain ⟨p, hp⟩ : ∃ p, p = 64 * k := ⟨_, rfl⟩
  have p1 : p ≤ s.size := by omega
  have i1 : IntKind.i64.wrap ((s.size : Int) - (s.size : Int) % 64) = (p : Int) := by rw [IntWalk.i64_in _ (by omega)]; omega
  have hd0 : DigW w (w.alloc (.cells (cells8 st0) 53)) st0 := ⟨(Below.refl _ _).alloc (Nat.le_refl _) _, heap_alloc_new w _⟩
  have HK : Hid (k = s.size / 64) := hkk
  have HP : Hid (p = 64 * k) := hp
  clear hkk hp
  go_enter Tryd.func29, Tryd.ntmps29
  go_upto_region 3 with fail
  obtain ⟨w1, hw1⟩ : ∃ w1, w1 = w.alloc (.cells #[.int .u32 1779033703, .int .u32 3144134277, .int .u32 1013904242, .int .u32 2773480762, .int .u32 1359893119, .int .u32 2600822924, .int .u32 528734635, .int .u32 1541459225] 53) := ⟨_, rfl⟩
  have hd1 : DigW w w1 st0 := by rw [hw1]; exact hd0
  rw [← hw1]
  clear hw1 hd0 i1
  obtain ⟨u, hu⟩ : ∃ u, u = st0 := ⟨_, rfl⟩
  have huo : u.ok := hu ▸ st0_ok
  rw [← hu] at hd1
  have HU : Hid (u = st0) := hu
  clear hu
  obtain ⟨b, hbb⟩ : ∃ b, b = s.extract 0 p := ⟨_, rfl⟩
  have hbs : b.size = 64 * k := by rw [hbb, ByteArray.size_extract]; have := HP.out; omega
  have HB : Hid (b = s.extract 0 p) := hbb
  have HBS : Hid (b.size = 64 * k) := hbs
  obtain ⟨m, hm⟩ : ∃ m, m = blocks u b.data.toList k := ⟨_, rfl⟩
  have hmo : m.ok := by rw [hm]; exact blocks_ok huo _ _
  have HM : Hid (m = blocks u b.data.toList k) := hm
  clear hm hbb hbs
  have q1 : (0 : Int) ≤ p := by omega
  have q2 : (p : Int) ≤ s.size := by omega
  have hdd : DigW w w1.drew u := hd1.on ((Below.refl _ _).drew)
  go_cut [] (fun wx => DigW w wx m)
  case first =>
    obtain ⟨h0, h1, h2, h3, h4, h5, h6, h7⟩ := Eight.of_row hd1.s
    go_region_with (go_at_call 35; rw [← HB.out]; refine (absorb_from (by assumption) hk b k huo HBS.out (by have := HBS.out; have := HP.out; omega)).mono ?_; rintro e w' ⟨rfl, hdx⟩; rw [← HM.out]; unfold stV; obtain ⟨⟨z0, z1, z2, z3, z4, z5, z6, z7⟩, f0, f1, f2, f3, f4, f5, f6, f7⟩ := hdx.open)
    all_goals go_wp2_with fail
    all_goals go_meet
    all_goals exact hdx.put
  case rest =>
    clear hd1 hdd
    have hdc : DigW w wc m := hcut
    clear hcut
    obtain ⟨b2, hbb⟩ : ∃ b2, b2 = s.extract p s.size := ⟨_, rfl⟩
    have hbs : b2.size < 64 := by rw [hbb, ByteArray.size_extract]; have := HP.out; have := HK.out; omega
    have HB2 : Hid (b2 = s.extract p s.size) := hbb
    have HBS2 : Hid (b2.size < 64) := hbs
    obtain ⟨r, hr⟩ : ∃ r, r = str (padL b2.data.toList s.size) := ⟨_, rfl⟩
    have hrs : r.size = 64 * padN b2.data.toList := by rw [hr, str_size, padL_size _ _ (by rw [list_len]; exact hbs)]
    have hrn : r.size ≤ 128 := by rw [hrs]; unfold padN; split <;> omega
    have HR : Hid (r = str (padL b2.data.toList s.size)) := hr
    have HRS : Hid (r.size = 64 * padN b2.data.toList) := hrs
    obtain ⟨x, hx⟩ : ∃ x, x = blocks m r.data.toList (padN b2.data.toList) := ⟨_, rfl⟩
    have hxo : x.ok := by rw [hx]; exact blocks_ok hmo _ _
    have HX : Hid (x = blocks m r.data.toList (padN b2.data.toList)) := hx
    clear hx hr hrs hbb hbs
    have hdd : DigW w wc.drew m := hdc.on ((Below.refl _ _).drew)
    go_upto_region 4 with fail
    go_cut [] (fun wx => DigW w wx x)
    case first =>
      obtain ⟨h0, h1, h2, h3, h4, h5, h6, h7⟩ := Eight.of_row hdc.s
      go_region_with (first
        | (go_at_call 36; rw [← HB2.out]; refine (pad_any b2 s.size _ HBS2.out hs).mono ?_; rintro e w' ⟨rfl, hbx⟩; rw [← HR.out]; have hdx := hdd.on hbx; obtain ⟨⟨z0, z1, z2, z3, z4, z5, z6, z7⟩, f0, f1, f2, f3, f4, f5, f6, f7⟩ := hdx.open)
        | (go_at_call 35; refine (absorb_from (by assumption) hk r (padN b2.data.toList) hmo HRS.out (by omega)).mono ?_; rintro e w' ⟨rfl, hdy⟩; rw [← HX.out]; unfold stV; obtain ⟨⟨y0, y1, y2, y3, y4, y5, y6, y7⟩, g0, g1, g2, g3, g4, g5, g6, g7⟩ := hdy.open))
      all_goals go_wp2_with fail
      all_goals go_meet
      all_goals exact hdy.put
    case rest =>
      clear hdc hdd
      have hdc : DigW w wc x := hcut
      clear hcut
      obtain ⟨la, lb, lc, ld, le, lf, lg, lh⟩ := hxo
      obtain ⟨wo, hwo⟩ : ∃ wo, wo = wc := ⟨_, rfl⟩
      rw [← hwo] at hdc ⊢
      clear hwo
      go_wp2_with (at_make; refine wpList_make_own _ rfl _ _ 45 rfl wo.heap.size 5 i0 (.int .u8 0) 1 Tryd.underlying45 hi hz0 hz1 _ _ _ 32 rfl rfl (by omega) ?b1 ?b2 ?b3 ?_)
      case b1 => omega
      case b2 => decide
      case b3 => exact Nat.le_refl _
      intro w2 hown1 hgrow1
      have hb1 : Below wo.heap.size wo w2 := (Below.refl _ _).grown hgrow1 (Nat.le_refl _) (by simp)
      obtain ⟨h0, h1, h2, h3, h4, h5, h6, h7⟩ := Eight.of_row (hdc.on hb1).s
      clear hgrow1
      go_wp2
      clear h0 h1 h2 h3 h4 h5 h6 h7
      go_loopw [5, 30] (fun v i wr => ∃ k : Nat, k ≤ 8 ∧ i = .int .i64 k ∧ wr.ownsRow wo.heap.size 5 1 v (4 * k) (bcells ((stB x).take (4 * k))) ∧ Below wo.heap.size wo wr)
        (fun _ i _ => 8 - (intOf i).toNat)
      case atStart => exact ⟨0, by omega, rfl, hown1, hb1⟩
      case round =>
        clear hown1 hb1
        obtain ⟨k, hk8, rfl, hown, hbel⟩ := hrel
        rcases (by omega : k = 0 ∨ k = 1 ∨ k = 2 ∨ k = 3 ∨ k = 4 ∨ k = 5 ∨ k = 6 ∨ k = 7 ∨ k = 8) with rfl | rfl | rfl | rfl | rfl | rfl | rfl | rfl | rfl
        · obtain ⟨y, hy⟩ : ∃ y, y = x.a := ⟨_, rfl⟩
          have yl : y < 4294967296 := by rw [hy]; exact la
          have ix : ∀ w, (Instr.index 53 (.agg #[.int .u32 (x.a : Int), .int .u32 (x.b : Int), .int .u32 (x.c : Int), .int .u32 (x.d : Int), .int .u32 (x.e : Int), .int .u32 (x.f : Int), .int .u32 (x.g : Int), .int .u32 (x.h : Int)]) (.int .i64 0)).run Tryd.prog w = .ok (.int .u32 (y : Int)) w := fun _ => by rw [hy]; kernel_rfl
          have HY : Hid (y = x.a) := hy
          clear hy
          rw [show ((0 : Nat) : Int) = 0 from rfl]
          go_wp2_with (at_builtin; refine wpList_append_own _ rfl _ _ 45 rfl wo.heap.size 5 i0 (.int .u8 0) 1 1 Tryd.underlying45 hi hz0 hz1 hz2 rfl (by decide) _ _ _ rfl (hown.alloc _) ⟨wr.heap.size, 0, none⟩ 4 4 (bcells (wbytes y)) rfl rfl (fun j u hj => four_cells wr _ _ j u (wcells yl) hj) (bcells_one _) (by decide) (by decide) (by have := hbel.size; simp; omega) ?_)
          intro v3 w3 ho3 hg3 _
          have hb3 := app_step hbel hown hg3 (Nat.le_refl _) hbel.size
          clear hown hg3 hbel ix
          go_wp2
          go_roundw
          case rel => exact ⟨1, by omega, rfl, owns_eq ho3 (by rw [HY.out, ← bcells_append]; rfl), hb3⟩
          case measure => simp [intOf]
        · obtain ⟨y, hy⟩ : ∃ y, y = x.b := ⟨_, rfl⟩
          have yl : y < 4294967296 := by rw [hy]; exact lb
          have ix : ∀ w, (Instr.index 53 (.agg #[.int .u32 (x.a : Int), .int .u32 (x.b : Int), .int .u32 (x.c : Int), .int .u32 (x.d : Int), .int .u32 (x.e : Int), .int .u32 (x.f : Int), .int .u32 (x.g : Int), .int .u32 (x.h : Int)]) (.int .i64 1)).run Tryd.prog w = .ok (.int .u32 (y : Int)) w := fun _ => by rw [hy]; kernel_rfl
          have HY : Hid (y = x.b) := hy
          clear hy
          rw [show ((1 : Nat) : Int) = 1 from rfl]
          go_wp2_with (at_builtin; refine wpList_append_own _ rfl _ _ 45 rfl wo.heap.size 5 i0 (.int .u8 0) 1 1 Tryd.underlying45 hi hz0 hz1 hz2 rfl (by decide) _ _ _ rfl (hown.alloc _) ⟨wr.heap.size, 0, none⟩ 4 4 (bcells (wbytes y)) rfl rfl (fun j u hj => four_cells wr _ _ j u (wcells yl) hj) (bcells_one _) (by decide) (by decide) (by have := hbel.size; simp; omega) ?_)
          intro v3 w3 ho3 hg3 _
          have hb3 := app_step hbel hown hg3 (Nat.le_refl _) hbel.size
          clear hown hg3 hbel ix
          go_wp2
          go_roundw
          case rel => exact ⟨2, by omega, rfl, owns_eq ho3 (by rw [HY.out, ← bcells_append]; rfl), hb3⟩
          case measure => simp [intOf]
        · obtain ⟨y, hy⟩ : ∃ y, y = x.c := ⟨_, rfl⟩
          have yl : y < 4294967296 := by rw [hy]; exact lc
          have ix : ∀ w, (Instr.index 53 (.agg #[.int .u32 (x.a : Int), .int .u32 (x.b : Int), .int .u32 (x.c : Int), .int .u32 (x.d : Int), .int .u32 (x.e : Int), .int .u32 (x.f : Int), .int .u32 (x.g : Int), .int .u32 (x.h : Int)]) (.int .i64 2)).run Tryd.prog w = .ok (.int .u32 (y : Int)) w := fun _ => by rw [hy]; kernel_rfl
          have HY : Hid (y = x.c) := hy
          clear hy
          rw [show ((2 : Nat) : Int) = 2 from rfl]
          go_wp2_with (at_builtin; refine wpList_append_own _ rfl _ _ 45 rfl wo.heap.size 5 i0 (.int .u8 0) 1 1 Tryd.underlying45 hi hz0 hz1 hz2 rfl (by decide) _ _ _ rfl (hown.alloc _) ⟨wr.heap.size, 0, none⟩ 4 4 (bcells (wbytes y)) rfl rfl (fun j u hj => four_cells wr _ _ j u (wcells yl) hj) (bcells_one _) (by decide) (by decide) (by have := hbel.size; simp; omega) ?_)
          intro v3 w3 ho3 hg3 _
          have hb3 := app_step hbel hown hg3 (Nat.le_refl _) hbel.size
          clear hown hg3 hbel ix
          go_wp2
          go_roundw
          case rel => exact ⟨3, by omega, rfl, owns_eq ho3 (by rw [HY.out, ← bcells_append]; rfl), hb3⟩
          case measure => simp [intOf]
        · obtain ⟨y, hy⟩ : ∃ y, y = x.d := ⟨_, rfl⟩
          have yl : y < 4294967296 := by rw [hy]; exact ld
          have ix : ∀ w, (Instr.index 53 (.agg #[.int .u32 (x.a : Int), .int .u32 (x.b : Int), .int .u32 (x.c : Int), .int .u32 (x.d : Int), .int .u32 (x.e : Int), .int .u32 (x.f : Int), .int .u32 (x.g : Int), .int .u32 (x.h : Int)]) (.int .i64 3)).run Tryd.prog w = .ok (.int .u32 (y : Int)) w := fun _ => by rw [hy]; kernel_rfl
          have HY : Hid (y = x.d) := hy
          clear hy
          rw [show ((3 : Nat) : Int) = 3 from rfl]
          go_wp2_with (at_builtin; refine wpList_append_own _ rfl _ _ 45 rfl wo.heap.size 5 i0 (.int .u8 0) 1 1 Tryd.underlying45 hi hz0 hz1 hz2 rfl (by decide) _ _ _ rfl (hown.alloc _) ⟨wr.heap.size, 0, none⟩ 4 4 (bcells (wbytes y)) rfl rfl (fun j u hj => four_cells wr _ _ j u (wcells yl) hj) (bcells_one _) (by decide) (by decide) (by have := hbel.size; simp; omega) ?_)
          intro v3 w3 ho3 hg3 _
          have hb3 := app_step hbel hown hg3 (Nat.le_refl _) hbel.size
          clear hown hg3 hbel ix
          go_wp2
          go_roundw
          case rel => exact ⟨4, by omega, rfl, owns_eq ho3 (by rw [HY.out, ← bcells_append]; rfl), hb3⟩
          case measure => simp [intOf]
        · obtain ⟨y, hy⟩ : ∃ y, y = x.e := ⟨_, rfl⟩
          have yl : y < 4294967296 := by rw [hy]; exact le
          have ix : ∀ w, (Instr.index 53 (.agg #[.int .u32 (x.a : Int), .int .u32 (x.b : Int), .int .u32 (x.c : Int), .int .u32 (x.d : Int), .int .u32 (x.e : Int), .int .u32 (x.f : Int), .int .u32 (x.g : Int), .int .u32 (x.h : Int)]) (.int .i64 4)).run Tryd.prog w = .ok (.int .u32 (y : Int)) w := fun _ => by rw [hy]; kernel_rfl
          have HY : Hid (y = x.e) := hy
          clear hy
          rw [show ((4 : Nat) : Int) = 4 from rfl]
          go_wp2_with (at_builtin; refine wpList_append_own _ rfl _ _ 45 rfl wo.heap.size 5 i0 (.int .u8 0) 1 1 Tryd.underlying45 hi hz0 hz1 hz2 rfl (by decide) _ _ _ rfl (hown.alloc _) ⟨wr.heap.size, 0, none⟩ 4 4 (bcells (wbytes y)) rfl rfl (fun j u hj => four_cells wr _ _ j u (wcells yl) hj) (bcells_one _) (by decide) (by decide) (by have := hbel.size; simp; omega) ?_)
          intro v3 w3 ho3 hg3 _
          have hb3 := app_step hbel hown hg3 (Nat.le_refl _) hbel.size
          clear hown hg3 hbel ix
          go_wp2
          go_roundw
          case rel => exact ⟨5, by omega, rfl, owns_eq ho3 (by rw [HY.out, ← bcells_append]; rfl), hb3⟩
          case measure => simp [intOf]
        · obtain ⟨y, hy⟩ : ∃ y, y = x.f := ⟨_, rfl⟩
          have yl : y < 4294967296 := by rw [hy]; exact lf
          have ix : ∀ w, (Instr.index 53 (.agg #[.int .u32 (x.a : Int), .int .u32 (x.b : Int), .int .u32 (x.c : Int), .int .u32 (x.d : Int), .int .u32 (x.e : Int), .int .u32 (x.f : Int), .int .u32 (x.g : Int), .int .u32 (x.h : Int)]) (.int .i64 5)).run Tryd.prog w = .ok (.int .u32 (y : Int)) w := fun _ => by rw [hy]; kernel_rfl
          have HY : Hid (y = x.f) := hy
          clear hy
          rw [show ((5 : Nat) : Int) = 5 from rfl]
          go_wp2_with (at_builtin; refine wpList_append_own _ rfl _ _ 45 rfl wo.heap.size 5 i0 (.int .u8 0) 1 1 Tryd.underlying45 hi hz0 hz1 hz2 rfl (by decide) _ _ _ rfl (hown.alloc _) ⟨wr.heap.size, 0, none⟩ 4 4 (bcells (wbytes y)) rfl rfl (fun j u hj => four_cells wr _ _ j u (wcells yl) hj) (bcells_one _) (by decide) (by decide) (by have := hbel.size; simp; omega) ?_)
          intro v3 w3 ho3 hg3 _
          have hb3 := app_step hbel hown hg3 (Nat.le_refl _) hbel.size
          clear hown hg3 hbel ix
          go_wp2
          go_roundw
          case rel => exact ⟨6, by omega, rfl, owns_eq ho3 (by rw [HY.out, ← bcells_append]; rfl), hb3⟩
          case measure => simp [intOf]
        · obtain ⟨y, hy⟩ : ∃ y, y = x.g := ⟨_, rfl⟩
          have yl : y < 4294967296 := by rw [hy]; exact lg
          have ix : ∀ w, (Instr.index 53 (.agg #[.int .u32 (x.a : Int), .int .u32 (x.b : Int), .int .u32 (x.c : Int), .int .u32 (x.d : Int), .int .u32 (x.e : Int), .int .u32 (x.f : Int), .int .u32 (x.g : Int), .int .u32 (x.h : Int)]) (.int .i64 6)).run Tryd.prog w = .ok (.int .u32 (y : Int)) w := fun _ => by rw [hy]; kernel_rfl
          have HY : Hid (y = x.g) := hy
          clear hy
          rw [show ((6 : Nat) : Int) = 6 from rfl]
          go_wp2_with (at_builtin; refine wpList_append_own _ rfl _ _ 45 rfl wo.heap.size 5 i0 (.int .u8 0) 1 1 Tryd.underlying45 hi hz0 hz1 hz2 rfl (by decide) _ _ _ rfl (hown.alloc _) ⟨wr.heap.size, 0, none⟩ 4 4 (bcells (wbytes y)) rfl rfl (fun j u hj => four_cells wr _ _ j u (wcells yl) hj) (bcells_one _) (by decide) (by decide) (by have := hbel.size; simp; omega) ?_)
          intro v3 w3 ho3 hg3 _
          have hb3 := app_step hbel hown hg3 (Nat.le_refl _) hbel.size
          clear hown hg3 hbel ix
          go_wp2
          go_roundw
          case rel => exact ⟨7, by omega, rfl, owns_eq ho3 (by rw [HY.out, ← bcells_append]; rfl), hb3⟩
          case measure => simp [intOf]
        · obtain ⟨y, hy⟩ : ∃ y, y = x.h := ⟨_, rfl⟩
          have yl : y < 4294967296 := by rw [hy]; exact lh
          have ix : ∀ w, (Instr.index 53 (.agg #[.int .u32 (x.a : Int), .int .u32 (x.b : Int), .int .u32 (x.c : Int), .int .u32 (x.d : Int), .int .u32 (x.e : Int), .int .u32 (x.f : Int), .int .u32 (x.g : Int), .int .u32 (x.h : Int)]) (.int .i64 7)).run Tryd.prog w = .ok (.int .u32 (y : Int)) w := fun _ => by rw [hy]; kernel_rfl
          have HY : Hid (y = x.h) := hy
          clear hy
          rw [show ((7 : Nat) : Int) = 7 from rfl]
          go_wp2_with (at_builtin; refine wpList_append_own _ rfl _ _ 45 rfl wo.heap.size 5 i0 (.int .u8 0) 1 1 Tryd.underlying45 hi hz0 hz1 hz2 rfl (by decide) _ _ _ rfl (hown.alloc _) ⟨wr.heap.size, 0, none⟩ 4 4 (bcells (wbytes y)) rfl rfl (fun j u hj => four_cells wr _ _ j u (wcells yl) hj) (bcells_one _) (by decide) (by decide) (by have := hbel.size; simp; omega) ?_)
          intro v3 w3 ho3 hg3 _
          have hb3 := app_step hbel hown hg3 (Nat.le_refl _) hbel.size
          clear hown hg3 hbel ix
          go_wp2
          go_roundw
          case rel => exact ⟨8, by omega, rfl, owns_eq ho3 (by rw [HY.out, ← bcells_append]; rfl), hb3⟩
          case measure => simp [intOf]
        · rw [show ((8 : Nat) : Int) = 8 from rfl]
          have hcl := conv_owned (P := Tryd.prog) 45 9 5 Tryd.underlying45 Tryd.underlying5 Tryd.underlying9 hown
          clear hown
          go_wp2
          go_ret
          refine ⟨ret_str ?_, hdc.below.trans (hbel.mono hdc.below.size)⟩
          rw [List.take_of_length_le (Nat.le_of_eq (by rfl)), HX.out, HR.out, HM.out, HB2.out, HB.out, HU.out, HP.out, HK.out]
          rfl
end Go.Proofs.YtalbphlmebhjoaaDoor
