/-
  The walk of the reference's words.
-/
import Derived.Test.YtalbphlmebhjoaaDoorShaRTab
import Derived.Test.YtalbphlmebhjoaaDoorIdHex
namespace Go.Proofs.YtalbphlmebhjoaaDoor
open Go.RowKit

def ucells (l : List Nat) : List Value := l.map fun (n : Nat) => Value.int .u32 (n : Int)
theorem ucells_len (l : List Nat) : (ucells l).length = l.length := by simp [ucells]
theorem ucells_append (l m : List Nat) : ucells (l ++ m) = ucells l ++ ucells m := by simp [ucells]
theorem ucells_one (l : List Nat) : ∀ u ∈ ucells l, u.oneCell' = true := by
  intro u hu; simp only [ucells, List.mem_map] at hu; obtain ⟨b, _, rfl⟩ := hu; rfl
theorem Tryd.info32 : (Tryd.prog.info? 52).map (fun i => (i.zero, i.size, i.bytes)) = some (some (.int .u32 0), 1, 4) := by kernel_rfl
theorem words16_get (l : List UInt8) (i t : Nat) (ht : t < 16) : (words16 l i).take (t + 1) = (words16 l i).take t ++ [word4 l (i + 4 * t)] := by
  rw [List.take_succ_eq_append_getElem (by rw [words16_len]; exact ht)]
  simp [words16]

set_option maxHeartbeats 8000000 in
set_option maxRecDepth 4000 in
theorem rwords_any (s : ByteArray) (p : Nat) (w : World) (hp : p + 64 ≤ s.size) (hs : s.size ≤ 281474976710656) :
    Calls Tryd.prog 40 #[.string s, .int .i64 p] w fun e w' => ∃ v, e = .returned v ∧ w'.ownsRow w.heap.size 52 1 v 64 (ucells (sched (words16 s.data.toList p) 48)) ∧ Below w.heap.size w w' := by
  obtain ⟨i0, hi, hz0, hz1, hz2⟩ := info_parts Tryd.info32
  have hown1 : (w.alloc (.cells #[] 52)).ownsRow w.heap.size 52 1 (.slice (some ⟨w.heap.size, 0, none⟩) 0 0) 0 (ucells ((words16 s.data.toList p).take 0)) := World.ownsRow_lit w #[] 0 (Nat.le_refl _) (by decide) rfl
  have hb1 : Below w.heap.size w (w.alloc (.cells #[] 52)) := (Below.refl _ _).alloc (Nat.le_refl _) _
  go_enter Tryd.func40, Tryd.ntmps40
  go_wp2
  go_loopw [5, 6] (fun v i wr => ∃ k : Nat, k ≤ 16 ∧ i = .int .i64 k ∧ wr.ownsRow w.heap.size 52 1 v k (ucells ((words16 s.data.toList p).take k)) ∧ Below w.heap.size w wr)
    (fun _ i _ => 16 - (intOf i).toNat)
  case atStart => exact ⟨0, by omega, rfl, hown1, hb1⟩
  case round =>
    clear hown1 hb1
    obtain ⟨k, hk, rfl, hown, hbel⟩ := hrel
    by_cases hlt : k < 16
    · obtain ⟨q, hq⟩ : ∃ q, q = p + 4 * k := ⟨_, rfl⟩
      have q0 : IntKind.i64.wrap ((p : Int) + 4 * (k : Int)) = (q : Int) := by rw [IntWalk.i64_in _ (by omega)]; omega
      have q1 : IntKind.i64.wrap ((q : Int) + 1) = (q : Int) + 1 := IntWalk.i64_in _ (by omega)
      have q2 : IntKind.i64.wrap ((q : Int) + 2) = (q : Int) + 2 := IntWalk.i64_in _ (by omega)
      have q3 : IntKind.i64.wrap ((q : Int) + 3) = (q : Int) + 3 := IntWalk.i64_in _ (by omega)
      have s0 : q < s.size := by omega
      have s1 : q + 1 < s.size := by omega
      have s2 : q + 2 < s.size := by omega
      have s3 : q + 3 < s.size := by omega
      have t1 : (0 : Int) ≤ (q : Int) + 1 ∧ (q : Int) + 1 < s.size := by omega
      have t2 : (0 : Int) ≤ (q : Int) + 2 ∧ (q : Int) + 2 < s.size := by omega
      have t3 : (0 : Int) ≤ (q : Int) + 3 ∧ (q : Int) + 3 < s.size := by omega
      have n2 : ((q : Int) + 2).toNat = q + 2 := by omega
      have n3 : ((q : Int) + 3).toNat = q + 3 := by omega
      have b0 := UInt8.toNat_lt s[q]
      have b1 := UInt8.toNat_lt s[q + 1]
      have b2 := UInt8.toNat_lt s[q + 2]
      have b3 := UInt8.toNat_lt s[q + 3]
      have d0 : IntKind.u32.wrap (s[q].toNat : Int) = (s[q].toNat : Int) := IntWalk.u32_in _ (by omega)
      have d1 : IntKind.u32.wrap (s[q + 1].toNat : Int) = (s[q + 1].toNat : Int) := IntWalk.u32_in _ (by omega)
      have d2 : IntKind.u32.wrap (s[q + 2].toNat : Int) = (s[q + 2].toNat : Int) := IntWalk.u32_in _ (by omega)
      have d3 : IntKind.u32.wrap (s[q + 3].toNat : Int) = (s[q + 3].toNat : Int) := IntWalk.u32_in _ (by omega)
      obtain ⟨A0, hA0⟩ : ∃ A, A = s[q].toNat * 16777216 := ⟨_, rfl⟩
      obtain ⟨A1, hA1⟩ : ∃ A, A = s[q + 1].toNat * 65536 := ⟨_, rfl⟩
      obtain ⟨A2, hA2⟩ : ∃ A, A = s[q + 2].toNat * 256 := ⟨_, rfl⟩
      obtain ⟨B1, hB1⟩ : ∃ A, A = A0 + A1 := ⟨_, rfl⟩
      obtain ⟨B2, hB2⟩ : ∃ A, A = B1 + A2 := ⟨_, rfl⟩
      obtain ⟨B3, hB3⟩ : ∃ A, A = B2 + s[q + 3].toNat := ⟨_, rfl⟩
      have f0 : IntKind.u32.wrap ((s[q].toNat : Int) * 16777216) = (A0 : Int) := by rw [IntWalk.u32_in _ (by omega)]; omega
      have f1 : IntKind.u32.wrap ((s[q + 1].toNat : Int) * 65536) = (A1 : Int) := by rw [IntWalk.u32_in _ (by omega)]; omega
      have f2 : IntKind.u32.wrap ((s[q + 2].toNat : Int) * 256) = (A2 : Int) := by rw [IntWalk.u32_in _ (by omega)]; omega
      have g1 : IntKind.u32.wrap ((A0 : Int) + A1) = (B1 : Int) := by rw [IntWalk.u32_in _ (by omega)]; omega
      have g2 : IntKind.u32.wrap ((B1 : Int) + A2) = (B2 : Int) := by rw [IntWalk.u32_in _ (by omega)]; omega
      have g3 : IntKind.u32.wrap ((B2 : Int) + (s[q + 3].toNat : Int)) = (B3 : Int) := by rw [IntWalk.u32_in _ (by omega)]; omega
      have HB : Hid (B3 = word4 s.data.toList (p + 4 * k)) := by
        show _ = _
        rw [← hq, word4, getD_byte s _ s0, getD_byte s _ s1, getD_byte s _ s2, getD_byte s _ s3]
        omega
      clear hq hA0 hA1 hA2 hB1 hB2 hB3 b0 b1 b2 b3
      go_upto_region 6 with fail
      go_region_law (refine step_append_lies _ rfl (.tmp 22) (.tmp 48) 57 rfl w.heap.size 52 i0 (.int .u32 0) 1 4 Tryd.underlying57 hi hz0 hz1 hz2 rfl (by decide) _ _ _ rfl (World.ownsRow.alloc (w := wr.drew) hown _) ⟨wr.heap.size, 0, none⟩ 1 1 (ucells [B3]) rfl rfl (fun j u hj => new_cell wr.drew _ _ j u hj) (ucells_one _) (by decide) (by unfold maxLen; omega) (by omega) (by have := hbel.size; simp; omega) _ rfl ?_; intro g cap w3 ho3 hg3 _ _)
      all_goals
        have hb3 : Below w.heap.size w w3 := app_step hbel hown (grown_drew hg3) (Nat.le_refl _) hbel.size
        clear hown hg3 hbel
        go_wp2
        go_roundw
        case rel => exact ⟨k + 1, by omega, by go_num, owns_eq ho3 (by rw [words16_get _ _ _ hlt, ← HB.out, ucells_append]), hb3⟩
        case measure => simp [intOf]; omega
    · obtain rfl : k = 16 := by omega
      rw [show ((16 : Nat) : Int) = 16 from rfl]
      rw [List.take_of_length_le (Nat.le_of_eq (words16_len _ _))] at hown
      obtain ⟨W, hW⟩ : ∃ W, W = words16 s.data.toList p := ⟨_, rfl⟩
      have hWl : W.length = 16 := by rw [hW, words16_len]
      have hWw : ∀ x ∈ W, x < 4294967296 := by rw [hW]; exact words16_lt _ _
      rw [← hW] at hown
      have HW : Hid (W = words16 s.data.toList p) := hW
      clear hW hlt hk
      go_wp2
      go_loopw [5, 8] (fun v i wr => ∃ t : Nat, 16 ≤ t ∧ t ≤ 64 ∧ i = .int .i64 t ∧ wr.ownsRow w.heap.size 52 1 v t (ucells (sched W (t - 16))) ∧ Below w.heap.size w wr)
        (fun _ i _ => 64 - (intOf i).toNat)
      case atStart => exact ⟨16, by omega, by omega, rfl, hown, hbel⟩
      case round =>
        clear hown hbel
        obtain ⟨t, ht1, ht2, rfl, hown, hbel⟩ := hrel
        by_cases htl : t < 64
        · obtain ⟨L, hL⟩ : ∃ L, L = sched W (t - 16) := ⟨_, rfl⟩
          rw [← hL] at hown
          have hLl : L.length = t := by rw [hL, sched_len hWl]; omega
          have hLw : ∀ x ∈ L, x < 4294967296 := by rw [hL]; exact sched_lt hWw _
          obtain ⟨g, cap, rfl, hbg, hgl⟩ := hown.form (by omega)
          have lt {i : Nat} (hi : i < t) : L.getD i 0 < 4294967296 := by
            rw [List.getD_eq_getElem?_getD, List.getElem?_eq_getElem (by omega)]
            exact hLw _ (List.getElem_mem _)
          have ce {i : Nat} (hi : i < t) : wr.cell? ⟨g, i, none⟩ = some (.int .u32 (L.getD i 0 : Nat)) := by
            have h := hown.cells (g := g) rfl i (.int .u32 (L.getD i 0 : Nat)) (by simp [ucells, List.getD_eq_getElem?_getD, List.getElem?_eq_getElem (show i < L.length by omega)])
            rw [Addr.add_lit, Nat.zero_add] at h
            exact h
          have HNX : Hid (sched W (t + 1 - 16) = L ++ [nextW L t]) := by
            show _ = _
            rw [show t + 1 - 16 = (t - 16) + 1 by omega, sched, ← hL, show 16 + (t - 16) = t by omega]
          obtain ⟨a, ha⟩ : ∃ a, a = L.getD (t - 15) 0 := ⟨_, rfl⟩
          obtain ⟨b, hb⟩ : ∃ b, b = L.getD (t - 2) 0 := ⟨_, rfl⟩
          obtain ⟨c, hc⟩ : ∃ c, c = L.getD (t - 7) 0 := ⟨_, rfl⟩
          obtain ⟨d, hd⟩ : ∃ d, d = L.getD (t - 16) 0 := ⟨_, rfl⟩
          have ca := ce (i := t - 15) (by omega)
          have cb := ce (i := t - 2) (by omega)
          have cc := ce (i := t - 7) (by omega)
          have cd := ce (i := t - 16) (by omega)
          rw [← ha] at ca
          rw [← hb] at cb
          rw [← hc] at cc
          rw [← hd] at cd
          have la : a < 4294967296 := by rw [ha]; exact lt (by omega)
          have lb : b < 4294967296 := by rw [hb]; exact lt (by omega)
          have lc : c < 4294967296 := by rw [hc]; exact lt (by omega)
          have ld : d < 4294967296 := by rw [hd]; exact lt (by omega)
          have q1 : (0 : Int) ≤ (t : Int) - 15 := by omega
          have q2 : (t : Int) - 15 < t := by omega
          have q3 : (0 : Int) ≤ (t : Int) - 2 := by omega
          have q4 : (t : Int) - 2 < t := by omega
          have r1 : IntKind.i64.wrap ((t : Int) - 15) = (t : Int) - 15 := IntWalk.i64_in _ (by omega)
          have r2 : IntKind.i64.wrap ((t : Int) - 2) = (t : Int) - 2 := IntWalk.i64_in _ (by omega)
          have n1 : ((t : Int) - 15).toNat = t - 15 := by omega
          have n2 : ((t : Int) - 2).toNat = t - 2 := by omega
          obtain ⟨x1, hx1⟩ : ∃ x, x = ls0 a := ⟨_, rfl⟩
          obtain ⟨x2, hx2⟩ : ∃ x, x = ls1 b := ⟨_, rfl⟩
          have e1 := sig_eq (rotr_lt (n := 7) la) (rotr_lt (n := 18) la) (Nat.lt_of_le_of_lt (Nat.div_le_self a 8) la)
          have e2 := sig_eq (rotr_lt (n := 17) lb) (rotr_lt (n := 19) lb) (Nat.lt_of_le_of_lt (Nat.div_le_self b 1024) lb)
          rw [← ls0, ← hx1, show ((a / 8 : Nat) : Int) = (a : Int) / 8 from rfl] at e1
          rw [← ls1, ← hx2, show ((b / 1024 : Nat) : Int) = (b : Int) / 1024 from rfl] at e2
          have m1 : x1 < 4294967296 := by rw [hx1]; exact ls0_lt la
          have m2 : x2 < 4294967296 := by rw [hx2]; exact ls1_lt lb
          obtain ⟨y1, hy1⟩ : ∃ y, y = (x2 + c) % 4294967296 := ⟨_, rfl⟩
          obtain ⟨y2, hy2⟩ : ∃ y, y = (y1 + x1) % 4294967296 := ⟨_, rfl⟩
          obtain ⟨y3, hy3⟩ : ∃ y, y = (y2 + d) % 4294967296 := ⟨_, rfl⟩
          have u1 : IntKind.u32.wrap ((x2 : Int) + c) = (y1 : Int) := by rw [IntKind.wrap_u32', hy1]; rfl
          have u2 : IntKind.u32.wrap ((y1 : Int) + x1) = (y2 : Int) := by rw [IntKind.wrap_u32', hy2]; rfl
          have u3 : IntKind.u32.wrap ((y2 : Int) + d) = (y3 : Int) := by rw [IntKind.wrap_u32', hy3]; rfl
          have HY : Hid (nextW L t = y3) := by
            show _ = _
            rw [nextW, ← ha, ← hb, ← hc, ← hd, ← hx1, ← hx2, ← hy1, ← hy2, ← hy3]
          have HLL : Hid (L = sched W (t - 16)) := hL
          clear hy1 hy2 hy3 hx1 hx2 ha hb hc hd ce lt hLw hL hLl
          go_wp2
          go_quiet (fail)
          clear r1 r2
          go_wp2_with (go_at_call 50; first
            | ((with_reducible refine (turn_7 _ _ (by assumption)).mono ?_); rintro e w' ⟨rfl, dn, rfl⟩)
            | ((with_reducible refine (turn_18 _ _ (by assumption)).mono ?_); rintro e w' ⟨rfl, dn, rfl⟩)
            | ((with_reducible refine (turn_17 _ _ (by assumption)).mono ?_); rintro e w' ⟨rfl, dn, rfl⟩)
            | ((with_reducible refine (turn_19 _ _ (by assumption)).mono ?_); rintro e w' ⟨rfl, dn, rfl⟩))
          have hk (N : Nat) : (wr.drewN N).ownsRow w.heap.size 52 1 (.slice (some ⟨g, 0, none⟩) t cap) t (ucells L) ∧ Below w.heap.size w (wr.drewN N) ∧ (wr.drewN N).cell? ⟨g, t - 7, none⟩ = some (.int .u32 (c : Int)) ∧ (wr.drewN N).cell? ⟨g, t - 16, none⟩ = some (.int .u32 (d : Int)) := ⟨hown, below_drewN hbel N, cc, cd⟩
          generalize nq + _ + _ + _ + dn = N
          obtain ⟨wq, hwq⟩ : ∃ wq, wq = wr.drewN N := ⟨_, rfl⟩
          have hkN := hk N
          rw [← hwq] at hkN ⊢
          obtain ⟨hownq, hbelq, ccq, cdq⟩ := hkN
          clear hwq hk ca cb cc cd hown hbel e1 e2 q1 q2 q3 q4 n1 n2
          have q5 : (7 : Int) ≤ (t : Int) := by omega
          have q6 : (t : Int) - 7 < t := by omega
          have q7 : (16 : Int) ≤ (t : Int) := by omega
          have q8 : (t : Int) - 16 < t := by omega
          have r3 : IntKind.i64.wrap ((t : Int) - 7) = (t : Int) - 7 := IntWalk.i64_in _ (by omega)
          have r4 : IntKind.i64.wrap ((t : Int) - 16) = (t : Int) - 16 := IntWalk.i64_in _ (by omega)
          have n3 : ((t : Int) - 7).toNat = t - 7 := by omega
          have n4 : ((t : Int) - 16).toNat = t - 16 := by omega
          go_region_law (refine step_append_lies _ rfl (.tmp 80) (.tmp 96) 57 rfl w.heap.size 52 i0 (.int .u32 0) 1 4 Tryd.underlying57 hi hz0 hz1 hz2 rfl (by decide) _ _ _ rfl (World.ownsRow.alloc (w := wq.drew) hownq _) ⟨wq.heap.size, 0, none⟩ 1 1 (ucells [y3]) rfl rfl (fun j u hj => new_cell wq.drew _ _ j u hj) (ucells_one _) (by decide) (by unfold maxLen; omega) (by omega) (by have := hbelq.size; simp; omega) _ rfl ?_; intro g3 cap3 w3 ho3 hg3 _ _)
          all_goals
            have hb3 : Below w.heap.size w w3 := app_step hbelq hownq (grown_drew hg3) (Nat.le_refl _) hbelq.size
            clear hownq hg3 hbelq
            go_wp2
            go_roundw
            case rel => exact ⟨t + 1, by omega, by omega, by go_num, owns_eq ho3 (by rw [HNX.out, HY.out, ucells_append]), hb3⟩
            case measure => simp [intOf]; omega
        · obtain rfl : t = 64 := by omega
          go_wp2
          go_ret
          exact ⟨_, rfl, by rw [← HW.out]; exact hown, hbel⟩
end Go.Proofs.YtalbphlmebhjoaaDoor
