/-
  The walk of the reference's block.
-/
import Derived.Test.YtalbphlmebhjoaaDoorShaMix
import Derived.StillTailTactics
namespace Go.Proofs.YtalbphlmebhjoaaDoor
open Go.RowKit

def St.list (s : St) : List Nat := [s.a, s.b, s.c, s.d, s.e, s.f, s.g, s.h]

/-- The world in the rounds: the state, the words, the keys. -/
structure BlkW (w wr : World) (bs bw bk : Nat) (s : St) (l : List Nat) : Prop where
  below : Below w.heap.size w wr
  s : WTab wr bs s.list
  t : WTab wr bw l
  k : WTab wr bk kw
theorem BlkW.drewN {w wr : World} {bs bw bk : Nat} {s : St} {l : List Nat} (h : BlkW w wr bs bw bk s l) (n : Nat) : BlkW w (wr.drewN n) bs bw bk s l :=
  ⟨below_drewN h.below n, fun i hi => h.s i hi, fun i hi => h.t i hi, fun i hi => h.k i hi⟩

set_option maxHeartbeats 2000000 in
set_option maxRecDepth 4000 in
theorem block_any (s : St) (l : List Nat) (bs bw bk cs cw : Nat) (w : World) (hs : s.ok) (hl : l.length = 64) (hlw : ∀ x ∈ l, x < 4294967296) (h1 : WTab w bs s.list) (h2 : WTab w bw l) (h3 : WTab w bk kw) :
    Calls Tryd.prog 39 #[.slice (some ⟨bs, 0, none⟩) 8 cs, .slice (some ⟨bw, 0, none⟩) 64 cw, .slice (some ⟨bk, 0, none⟩) 64 64] w fun e w' => (∃ B, w.heap.size ≤ B ∧ B < w'.heap.size ∧ e = .returned (.slice (some ⟨B, 0, none⟩) 8 8) ∧ WTab w' B (s.add (rounds s l 64)).list) ∧ Below w.heap.size w w' := by
  have hm : ∀ n, BlkW w (w.drewN n) bs bw bk s l := fun n => BlkW.drewN ⟨Below.refl _ _, h1, h2, h3⟩ n
  have a0 : w.cell? ⟨bs, 0, none⟩ = some (.int .u32 (s.a : Int)) := h1 0 (show 0 < 8 by decide)
  have a1 : w.cell? ⟨bs, 1, none⟩ = some (.int .u32 (s.b : Int)) := h1 1 (show 1 < 8 by decide)
  have a2 : w.cell? ⟨bs, 2, none⟩ = some (.int .u32 (s.c : Int)) := h1 2 (show 2 < 8 by decide)
  have a3 : w.cell? ⟨bs, 3, none⟩ = some (.int .u32 (s.d : Int)) := h1 3 (show 3 < 8 by decide)
  have a4 : w.cell? ⟨bs, 4, none⟩ = some (.int .u32 (s.e : Int)) := h1 4 (show 4 < 8 by decide)
  have a5 : w.cell? ⟨bs, 5, none⟩ = some (.int .u32 (s.f : Int)) := h1 5 (show 5 < 8 by decide)
  have a6 : w.cell? ⟨bs, 6, none⟩ = some (.int .u32 (s.g : Int)) := h1 6 (show 6 < 8 by decide)
  have a7 : w.cell? ⟨bs, 7, none⟩ = some (.int .u32 (s.h : Int)) := h1 7 (show 7 < 8 by decide)
  clear h1 h2 h3
  go_enter Tryd.func39, Tryd.ntmps39
  go_wp2
  go_quiet (fail)
  obtain ⟨n1, hn1⟩ : ∃ n1, n1 = nq := ⟨_, rfl⟩
  subst hn1
  go_wp2
  go_quiet (fail)
  go_wp2
  rw [World.drewN_drewN]
  have hm0 := hm (n1 + nq)
  clear hm a0 a1 a2 a3 a4 a5 a6 a7
  go_loopw [7, 8, 9, 10, 11, 12, 13, 14, 15] (fun a b c d e f g h i wr => ∃ (t : Nat) (v : St), t ≤ 64 ∧ i = .int .i64 t ∧ v = rounds s l t ∧ a = .int .u32 (v.a : Int) ∧ b = .int .u32 (v.b : Int) ∧ c = .int .u32 (v.c : Int) ∧ d = .int .u32 (v.d : Int) ∧ e = .int .u32 (v.e : Int) ∧ f = .int .u32 (v.f : Int) ∧ g = .int .u32 (v.g : Int) ∧ h = .int .u32 (v.h : Int) ∧ BlkW w wr bs bw bk s l)
    (fun _ _ _ _ _ _ _ _ i _ => 64 - (intOf i).toNat)
  case atStart => exact ⟨0, s, by omega, rfl, rfl, rfl, rfl, rfl, rfl, rfl, rfl, rfl, rfl, hm0⟩
  case round =>
    obtain ⟨t, v, ht, rfl, hv, rfl, rfl, rfl, rfl, rfl, rfl, rfl, rfl, hmw⟩ := hrel
    have hvo : v.ok := by rw [hv]; exact rounds_ok hs l t
    have HV : Hid (v = rounds s l t) := hv
    clear hv hm0
    by_cases hlt : t < 64
    · obtain ⟨la, lb, lc, ld, le, lf, lg, lh⟩ := hvo
      obtain ⟨x1, hx1⟩ : ∃ x, x = bs1 v.e := ⟨_, rfl⟩
      obtain ⟨x2, hx2⟩ : ∃ x, x = chs v.e v.f v.g := ⟨_, rfl⟩
      obtain ⟨x3, hx3⟩ : ∃ x, x = bs0 v.a := ⟨_, rfl⟩
      obtain ⟨x4, hx4⟩ : ∃ x, x = maj v.a v.b v.c := ⟨_, rfl⟩
      have q1 := sig_eq (rotr_lt (n := 6) le) (rotr_lt (n := 11) le) (rotr_lt (n := 25) le)
      have q2 := chs_eq le lf lg
      have q3 := sig_eq (rotr_lt (n := 2) la) (rotr_lt (n := 13) la) (rotr_lt (n := 22) la)
      have q4 := maj_eq la lb lc
      rw [← bs1, ← hx1] at q1
      rw [← hx2] at q2
      have q5 : bits .xor .u32 (bits .and .u32 (v.e : Int) (v.f : Int)) (bits .and .u32 (bits .xor .u32 (if IntKind.u32.signed = true then -1 else IntKind.u32.max) (v.e : Int)) (v.g : Int)) = (x2 : Int) := q2
      rw [← bs0, ← hx3] at q3
      rw [← hx4] at q4
      have m1 : x1 < 4294967296 := by rw [hx1]; exact bs1_lt le
      have m2 : x2 < 4294967296 := by rw [hx2]; exact chs_lt le lg
      have m3 : x3 < 4294967296 := by rw [hx3]; exact bs0_lt la
      have m4 : x4 < 4294967296 := by rw [hx4]; exact maj_lt la lb
      have kt := hmw.k t hlt
      have wt := hmw.t t (by omega)
      have kl := kw_lt t
      obtain ⟨K, hK⟩ : ∃ K, K = kw.getD t 0 := ⟨_, rfl⟩
      obtain ⟨W, hW⟩ : ∃ W, W = l.getD t 0 := ⟨_, rfl⟩
      have wl : W < 4294967296 := by
        rw [hW, List.getD_eq_getElem?_getD, List.getElem?_eq_getElem (by omega)]
        exact hlw _ (List.getElem_mem _)
      rw [← hK] at kt kl
      rw [← hW] at wt
      obtain ⟨y1, hy1⟩ : ∃ y, y = (v.h + x1) % 4294967296 := ⟨_, rfl⟩
      obtain ⟨y2, hy2⟩ : ∃ y, y = (y1 + x2) % 4294967296 := ⟨_, rfl⟩
      obtain ⟨y3, hy3⟩ : ∃ y, y = (y2 + K) % 4294967296 := ⟨_, rfl⟩
      obtain ⟨y4, hy4⟩ : ∃ y, y = (y3 + W) % 4294967296 := ⟨_, rfl⟩
      have r1 : IntKind.u32.wrap ((v.h : Int) + x1) = (y1 : Int) := by rw [IntKind.wrap_u32', hy1]; rfl
      have r2 : IntKind.u32.wrap ((y1 : Int) + x2) = (y2 : Int) := by rw [IntKind.wrap_u32', hy2]; rfl
      have r3 : IntKind.u32.wrap ((y2 : Int) + K) = (y3 : Int) := by rw [IntKind.wrap_u32', hy3]; rfl
      have r4 : IntKind.u32.wrap ((y3 : Int) + W) = (y4 : Int) := by rw [IntKind.wrap_u32', hy4]; rfl
      have t1 : (0 : Int) ≤ t := by omega
      have t2 : (t : Int) < 64 := by omega
      have HX : Hid (rounds s l (t + 1) = ⟨(y4 + (x3 + x4) % 4294967296) % 4294967296, v.a, v.b, v.c, (v.d + y4) % 4294967296, v.e, v.f, v.g⟩) := by
        show _ = _
        rw [rounds, ← HV.out, rnd, ← hx1, ← hx2, ← hx3, ← hx4, ← hK, ← hW, ← hy1, ← hy2, ← hy3, ← hy4]
      clear hx1 hx2 hx3 hx4 hy1 hy2 hy3 hy4 hK hW
      go_wp2
      go_quiet ((go_at_call 50; first | with_reducible exact Calls.quiet_of (turn_6 v.e _ le) | with_reducible exact Calls.quiet_of (turn_11 v.e _ le) | with_reducible exact Calls.quiet_of (turn_25 v.e _ le)))
      go_wp2_with (go_at_call 50; first
        | ((with_reducible refine (turn_2 _ _ (by assumption)).mono ?_); rintro e w' ⟨rfl, dn, rfl⟩)
        | ((with_reducible refine (turn_13 _ _ (by assumption)).mono ?_); rintro e w' ⟨rfl, dn, rfl⟩)
        | ((with_reducible refine (turn_22 _ _ (by assumption)).mono ?_); rintro e w' ⟨rfl, dn, rfl⟩))
      go_roundw
      case rel => exact ⟨t + 1, _, by omega, by go_num, HX.out.symm, val_int (by show _ = (((y4 + (x3 + x4) % 4294967296) % 4294967296 : Nat) : Int); omega), rfl, rfl, rfl, val_int (by show _ = (((v.d + y4) % 4294967296 : Nat) : Int); omega), rfl, rfl, rfl, hmw.drewN _⟩
      case measure => simp [intOf]; omega
    · obtain rfl : t = 64 := by omega
      have a0 : wr.cell? ⟨bs, 0, none⟩ = some (.int .u32 (s.a : Int)) := hmw.s 0 (show 0 < 8 by decide)
      have a1 : wr.cell? ⟨bs, 1, none⟩ = some (.int .u32 (s.b : Int)) := hmw.s 1 (show 1 < 8 by decide)
      have a2 : wr.cell? ⟨bs, 2, none⟩ = some (.int .u32 (s.c : Int)) := hmw.s 2 (show 2 < 8 by decide)
      have a3 : wr.cell? ⟨bs, 3, none⟩ = some (.int .u32 (s.d : Int)) := hmw.s 3 (show 3 < 8 by decide)
      have a4 : wr.cell? ⟨bs, 4, none⟩ = some (.int .u32 (s.e : Int)) := hmw.s 4 (show 4 < 8 by decide)
      have a5 : wr.cell? ⟨bs, 5, none⟩ = some (.int .u32 (s.f : Int)) := hmw.s 5 (show 5 < 8 by decide)
      have a6 : wr.cell? ⟨bs, 6, none⟩ = some (.int .u32 (s.g : Int)) := hmw.s 6 (show 6 < 8 by decide)
      have a7 : wr.cell? ⟨bs, 7, none⟩ = some (.int .u32 (s.h : Int)) := hmw.s 7 (show 7 < 8 by decide)
      obtain ⟨u, hu⟩ : ∃ u, u = s.add v := ⟨_, rfl⟩
      have HU : Hid (u = s.add v) := hu
      have e0 : IntKind.u32.wrap ((s.a : Int) + v.a) = (u.a : Int) := by rw [IntKind.wrap_u32', hu]; rfl
      have e1 : IntKind.u32.wrap ((s.b : Int) + v.b) = (u.b : Int) := by rw [IntKind.wrap_u32', hu]; rfl
      have e2 : IntKind.u32.wrap ((s.c : Int) + v.c) = (u.c : Int) := by rw [IntKind.wrap_u32', hu]; rfl
      have e3 : IntKind.u32.wrap ((s.d : Int) + v.d) = (u.d : Int) := by rw [IntKind.wrap_u32', hu]; rfl
      have e4 : IntKind.u32.wrap ((s.e : Int) + v.e) = (u.e : Int) := by rw [IntKind.wrap_u32', hu]; rfl
      have e5 : IntKind.u32.wrap ((s.f : Int) + v.f) = (u.f : Int) := by rw [IntKind.wrap_u32', hu]; rfl
      have e6 : IntKind.u32.wrap ((s.g : Int) + v.g) = (u.g : Int) := by rw [IntKind.wrap_u32', hu]; rfl
      have e7 : IntKind.u32.wrap ((s.h : Int) + v.h) = (u.h : Int) := by rw [IntKind.wrap_u32', hu]; rfl
      clear hu
      have hbl := hmw.below
      clear hmw hs hvo
      go_wp2
      go_still_tail 40, (by kernel_rfl)
      change wpList _ _ _ _ _ wr.drew
      go_wp2
      go_ret
      have hx := WTab.new wr.drew (s.add v).list 52
      rw [← HU.out] at hx
      refine ⟨⟨wr.heap.size, hbl.size, ?_, rfl, ?_⟩, (hbl.drew).alloc hbl.size _⟩
      · show wr.heap.size < (wr.heap.push _).size
        simp
      · rw [← HV.out, ← HU.out]
        exact hx
end Go.Proofs.YtalbphlmebhjoaaDoor
