/-
  The walks of twoDigits, zoneText and Who.
-/
import Derived.Test.YtddmnibioacelaaGreatDoorCmWho
namespace Go.Proofs.YtddmnibioacelaaGreatDoor
open Go Go.RowKit

theorem itoa_dig {k : Nat} (h : k < 10) : Lib.itoa (k : Int) = [UInt8.ofNat (48 + k)] := by
  rw [Lib.itoa, if_neg (by omega)]
  simpa using Lib.decDigits_one h
theorem str_app (a b : List UInt8) : str a ++ str b = str (a ++ b) := ba_ext (by simp [str])

set_option maxHeartbeats 2000000 in
theorem two_any (k : Nat) (w : World) (hk : k < 100) (h : StrTab w) :
    Calls Tryz.prog 86 #[.int .i64 (k : Int)] w fun e w' => e = .returned (.string (str [UInt8.ofNat (48 + k / 10), UInt8.ofNat (48 + k % 10)])) ∧ Below w.heap.size w w' := by
  obtain ⟨a, ha⟩ : ∃ a, a = str [UInt8.ofNat (48 + k / 10)] := ⟨_, rfl⟩
  obtain ⟨b, hb⟩ : ∃ b, b = str [UInt8.ofNat (48 + k % 10)] := ⟨_, rfl⟩
  obtain ⟨q, hq⟩ : ∃ q : Nat, q = k / 10 := ⟨_, rfl⟩
  obtain ⟨r, hr⟩ : ∃ r : Nat, r = k % 10 := ⟨_, rfl⟩
  have HAB : Hid (a ++ b = str [UInt8.ofNat (48 + k / 10), UInt8.ofNat (48 + k % 10)]) := by show _ = _; rw [ha, hb, str_app]; rfl
  have HQ : Hid (∀ w', Below w.heap.size w w' → Calls Tryz.prog 62 #[.int .i64 (q : Int)] w' fun e w'' => e = .returned (.string a) ∧ Below w.heap.size w w'') := fun w' hb =>
    (itoa_any q w' (by omega) (by omega) (h.below hb)).mono fun e w'' ⟨he, hb2⟩ => ⟨by rw [he, itoa_dig (by omega), ha, hq], hb.trans (hb2.mono hb.size)⟩
  have HRR : Hid (∀ w', Below w.heap.size w w' → Calls Tryz.prog 62 #[.int .i64 (r : Int)] w' fun e w'' => e = .returned (.string b) ∧ Below w.heap.size w w'') := fun w' hb' =>
    (itoa_any r w' (by omega) (by omega) (h.below hb')).mono fun e w'' ⟨he, hb2⟩ => ⟨by rw [he, itoa_dig (by omega), hb, hr], hb'.trans (hb2.mono hb'.size)⟩
  have e1 : (k : Int) / 10 = (q : Int) := by omega
  have e2 : (k : Int) % 10 = (r : Int) := by omega
  have hsa : a.size = 1 := by rw [ha]; rfl
  have hsb : b.size = 1 := by rw [hb]; rfl
  have hb0 : Below w.heap.size w w := Below.refl _ _
  clear ha hb hq hr
  go_enter Tryz.func86, Tryz.ntmps86
  go_wp2_with (go_at_call 62; first
    | ((with_reducible refine (HQ.out _ hb0).mono ?_); rintro e w1 ⟨rfl, hb1⟩)
    | ((with_reducible refine (HRR.out _ hb1).mono ?_); rintro e w2 ⟨rfl, hb2⟩))
  go_ret
  exact ⟨by rw [← HAB.out]; rfl, hb2⟩

set_option maxHeartbeats 2000000 in
theorem zoneText_any (z : Int) (w : World) (hz : z.natAbs < 6000) (h : StrTab w) :
    Calls Tryz.prog 63 #[.int .i64 z] w fun e w' => e = .returned (.string (str (zonL z))) ∧ Below w.heap.size w w' := by
  obtain ⟨k, hk⟩ : ∃ k : Nat, k = z.natAbs := ⟨_, rfl⟩
  obtain ⟨q, hq⟩ : ∃ q : Nat, q = k / 60 := ⟨_, rfl⟩
  obtain ⟨r, hr⟩ : ∃ r : Nat, r = k % 60 := ⟨_, rfl⟩
  obtain ⟨a, ha⟩ : ∃ a, a = str [UInt8.ofNat (48 + q / 10), UInt8.ofNat (48 + q % 10)] := ⟨_, rfl⟩
  obtain ⟨b, hb⟩ : ∃ b, b = str [UInt8.ofNat (48 + r / 10), UInt8.ofNat (48 + r % 10)] := ⟨_, rfl⟩
  have HAB : Hid (str [if z < 0 then 45 else 43] ++ a ++ b = str (zonL z)) := by show _ = _; rw [ha, hb, str_app, str_app, zonL, ← hk, ← hq, ← hr]; rfl
  have HQ : Hid (∀ w', Below w.heap.size w w' → Calls Tryz.prog 86 #[.int .i64 (q : Int)] w' fun e w'' => e = .returned (.string a) ∧ Below w.heap.size w w'') := fun w' hb =>
    (two_any q w' (by omega) (h.below hb)).mono fun e w'' ⟨he, hb2⟩ => ⟨by rw [he, ha], hb.trans (hb2.mono hb.size)⟩
  have HRR : Hid (∀ w', Below w.heap.size w w' → Calls Tryz.prog 86 #[.int .i64 (r : Int)] w' fun e w'' => e = .returned (.string b) ∧ Below w.heap.size w w'') := fun w' hb' =>
    (two_any r w' (by omega) (h.below hb')).mono fun e w'' ⟨he, hb2⟩ => ⟨by rw [he, hb], hb'.trans (hb2.mono hb'.size)⟩
  have hsa : a.size = 2 := by rw [ha]; rfl
  have hsb : b.size = 2 := by rw [hb]; rfl
  have hb0 : Below w.heap.size w w := Below.refl _ _
  by_cases hn : z < 0
  · rw [if_pos hn] at HAB
    have e0 : -z = (k : Int) := by omega
    have e1 : (k : Int) / 60 = (q : Int) := by omega
    have e2 : (k : Int) % 60 = (r : Int) := by omega
    obtain rfl : z = -(k : Int) := by omega
    have e3 : k < 6000 := by omega
    clear ha hb hq hr hk hz e0
    go_enter Tryz.func63, Tryz.ntmps63
    go_wp2_with (go_at_call 86; first
      | ((with_reducible refine (HQ.out _ hb0).mono ?_); rintro e w1 ⟨rfl, hb1⟩)
      | ((with_reducible refine (HRR.out _ hb1).mono ?_); rintro e w2 ⟨rfl, hb2⟩))
    go_ret
    exact ⟨by rw [← HAB.out]; rfl, hb2⟩
  · rw [if_neg hn] at HAB
    have e1 : (k : Int) / 60 = (q : Int) := by omega
    have e2 : (k : Int) % 60 = (r : Int) := by omega
    obtain rfl : z = (k : Int) := by omega
    have e3 : k < 6000 := by omega
    clear ha hb hq hr hk hz hn
    go_enter Tryz.func63, Tryz.ntmps63
    go_wp2_with (go_at_call 86; first
      | ((with_reducible refine (HQ.out _ hb0).mono ?_); rintro e w1 ⟨rfl, hb1⟩)
      | ((with_reducible refine (HRR.out _ hb1).mono ?_); rintro e w2 ⟨rfl, hb2⟩))
    go_ret
    exact ⟨by rw [← HAB.out]; rfl, hb2⟩

/-- A person as in bodies. -/
def whoL (p : Pn) : ByteArray := p.n ++ ⟨#[32, 60]⟩ ++ p.m ++ ⟨#[62, 32]⟩ ++ str (Lib.itoa p.t) ++ ⟨#[32]⟩ ++ str (zonL p.z)
theorem zonL_len (z : Int) : (str (zonL z)).size = 5 := rfl
theorem nDig_le : ∀ (k u : Nat), u < 10 ^ (k + 1) → Lib.nDigits u ≤ k + 1
  | 0, u, h => by rw [Lib.nDigits_small (by simpa using h)]; omega
  | k + 1, u, h => by
    by_cases h1 : u < 10
    · rw [Lib.nDigits_small h1]; omega
    · rw [Lib.nDigits_big h1]
      have := nDig_le k (u / 10) (by rw [Nat.pow_succ] at h; omega)
      omega
theorem itoa_len {n : Int} (h0 : 0 ≤ n) (h1 : n ≤ 9223372036854775807) : (str (Lib.itoa n)).size ≤ 19 := by
  rw [str_size, Lib.itoa, if_neg (by omega), Lib.decDigits_length]
  have h10 : (10 : Nat) ^ (18 + 1) = 10000000000000000000 := by decide
  exact nDig_le 18 _ (by omega)

set_option maxHeartbeats 4000000 in
set_option maxRecDepth 4000 in
theorem fmt_any (p : Pn) (w : World) (h : StrTab w) (hn : p.n.size ≤ 140737488355328) (hm : p.m.size ≤ 140737488355328) (ht0 : 0 ≤ p.t) (ht : p.t ≤ 9223372036854775807) (hz : p.z.natAbs < 6000) :
    Calls Tryz.prog 25 #[.agg #[.string p.n, .string p.m, .int .i64 p.t, .int .i64 p.z]] w fun e w' => e = .returned (.string (whoL p)) ∧ Below w.heap.size w w' := by
  obtain ⟨n, m, t, z⟩ := p
  simp only at hn hm ht0 ht hz ⊢
  obtain ⟨R, hR⟩ : ∃ R, R = whoL ⟨n, m, t, z⟩ := ⟨_, rfl⟩
  rw [← hR]
  obtain ⟨a, ha⟩ : ∃ a, a = str (Lib.itoa t) := ⟨_, rfl⟩
  obtain ⟨b, hb⟩ : ∃ b, b = str (zonL z) := ⟨_, rfl⟩
  have HR : Hid (n ++ ⟨#[32, 60]⟩ ++ m ++ ⟨#[62, 32]⟩ ++ a ++ ⟨#[32]⟩ ++ b = R) := by show _ = _; rw [hR, ha, hb]; rfl
  have hsa : a.size ≤ 19 := by rw [ha]; exact itoa_len ht0 ht
  have hsb : b.size = 5 := by rw [hb]; rfl
  have hx := heap_alloc_new w (.cells #[.string n, .string m, .int .i64 t, .int .i64 z] 24)
  have hbx : Below w.heap.size w (w.alloc (.cells #[.string n, .string m, .int .i64 t, .int .i64 z] 24)) := below_new (Below.refl _ _) _
  have hbl : w.heap.size < (w.alloc (.cells #[.string n, .string m, .int .i64 t, .int .i64 z] 24)).heap.size := by simp
  obtain ⟨w1, hw1⟩ : ∃ w1, w1 = w.alloc (.cells #[.string n, .string m, .int .i64 t, .int .i64 z] 24) := ⟨_, rfl⟩
  have HW1 := Lib.hid hw1
  rw [← hw1] at hx hbx hbl
  have k0 : ∀ x : BelW w1, x.w.cell? ⟨w.heap.size, 0, none⟩ = some (.string n) := fun x => (x.h.cell (p := ⟨w.heap.size, 0, none⟩) hbl).trans (cell_of_row w1 _ 0 _ _ _ hx)
  have k1 : ∀ x : BelW w1, x.w.cell? ⟨w.heap.size, 1, none⟩ = some (.string m) := fun x => (x.h.cell (p := ⟨w.heap.size, 1, none⟩) hbl).trans (cell_of_row w1 _ 1 _ _ _ hx)
  have k2 : ∀ x : BelW w1, x.w.cell? ⟨w.heap.size, 2, none⟩ = some (.int .i64 t) := fun x => (x.h.cell (p := ⟨w.heap.size, 2, none⟩) hbl).trans (cell_of_row w1 _ 2 _ _ _ hx)
  have k3 : ∀ x : BelW w1, x.w.cell? ⟨w.heap.size, 3, none⟩ = some (.int .i64 z) := fun x => (x.h.cell (p := ⟨w.heap.size, 3, none⟩) hbl).trans (cell_of_row w1 _ 3 _ _ _ hx)
  have HB := Lib.hid hbx
  have h1 := h.below hbx
  have HI : Hid (∀ x : BelW w1, Calls Tryz.prog 62 #[.int .i64 t] x.w fun e w'' => e = .returned (.string a) ∧ ∃ y : BelW w1, w'' = y.w) := fun x =>
    Calls.bel_class ((itoa_any t x.w (by omega) ht (h1.below x.h)).mono fun e w' ⟨he, hw⟩ => ⟨by rw [he, ha], hw⟩)
  have HZ : Hid (∀ x : BelW w1, Calls Tryz.prog 63 #[.int .i64 z] x.w fun e w'' => e = .returned (.string b) ∧ ∃ y : BelW w1, w'' = y.w) := fun x =>
    Calls.bel_class ((zoneText_any z x.w hz (h1.below x.h)).mono fun e w' ⟨he, hw⟩ => ⟨by rw [he, hb], hw⟩)
  clear hR ha hb hw1 hx hbx h1 h hbl
  go_enter Tryz.func25, Tryz.ntmps25
  go_upto_region 1 with fail
  rw [← HW1.out]
  have hq : Nonempty (BelW w1) := ⟨⟨w1, Below.refl _ _⟩⟩
  refine wp_region_bel (w0 := w1) (Below.refl _ _) (by kernel_rfl) (by kernel_rfl) ?_
  repeat (go_big_quiet_step (first
    | (go_at_call 62; exact HI.out _)
    | (go_at_call 63; exact HZ.out _)))
  refine wpQuiet_nil ?_
  rintro _ ⟨x, rfl⟩
  have hx := x.h
  go_wp2
  go_ret
  exact ⟨by rw [← HR.out]; rfl, HB.out.trans (hx.mono HB.out.size)⟩
end Go.Proofs.YtddmnibioacelaaGreatDoor
