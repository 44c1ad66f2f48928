/-
  The walk of the reference's again.
-/
import Derived.Test.YtgdeefcgjaklhaaSqMatch
namespace Go.Proofs.Ytgdeefcgjaklhaa
open Go.RowKit

theorem best_hit {l : List UInt8} {a m d x n b : Nat} (hb : best l a m d = (n, b)) (hx : mrun l (a - (d + 1)) a m = x) (h4 : 4 ≤ x) (hn : n < x) : best l a m (d + 1) = (x, d + 1) := by
  rw [best, hx, hb, if_pos ⟨h4, hn⟩]
theorem best_miss {l : List UInt8} {a m d x n b : Nat} (hb : best l a m d = (n, b)) (hx : mrun l (a - (d + 1)) a m = x) (h : ¬ (4 ≤ x ∧ n < x)) : best l a m (d + 1) = (n, b) := by
  rw [best, hx, hb, if_neg h]

set_option maxHeartbeats 4000000 in
set_option maxRecDepth 4000 in
theorem ragain_any (s : ByteArray) (a : Nat) (w : World) (ha : a < s.size) (hs : s.size ≤ 1099511627776) (N B : Nat) (hr : again s.data.toList a = (N, B)) :
    Calls Try.prog 38 #[.string s, .int .i64 a] w fun e w' => e = .returned (.tuple #[.int .i64 N, .int .i64 B]) ∧ ∃ k, w' = w.drewN k := by
  obtain ⟨M, hM⟩ : ∃ M, M = most s.data.toList a := ⟨_, rfl⟩
  have hM2 : M = min 258 (s.size - a) := by rw [hM, most, list_len]
  obtain ⟨D, hD⟩ : ∃ D, D = min 4096 a := ⟨_, rfl⟩
  have HR : Hid (best s.data.toList a M D = (N, B)) := by show _ = _; rw [hM, hD]; exact hr
  have hm1 : M ≤ 258 := by omega
  have hm2 : a + M ≤ s.size := by omega
  have HM : Hid (M = 258 ∨ a + M = s.size) := by show _ ∨ _; omega
  have hd1 : D ≤ 4096 := by omega
  have hd2 : D ≤ a := by omega
  have HD : Hid (D = 4096 ∨ D = a) := by show _ ∨ _; omega
  clear hr hM hM2 hD
  go_enter Try.func38, Try.ntmps38
  go_wp2
  go_loopw [6, 7, 8] (fun u v dv wr => ∃ (d n b k : Nat), dv = .int .i64 d ∧ 1 ≤ d ∧ d ≤ D + 1 ∧ u = .int .i64 n ∧ v = .int .i64 b ∧ best s.data.toList a M (d - 1) = (n, b) ∧ wr = w.drewN k) (fun _ _ dv _ => D + 1 - (intOf dv).toNat)
  case atStart => exact ⟨1, 0, 0, 0, rfl, by omega, by omega, rfl, rfl, rfl, rfl⟩
  case round =>
    obtain ⟨d, n, b, k, rfl, h1d, hdD, rfl, rfl, hbest, rfl⟩ := hrel
    have HB : Hid (best s.data.toList a M (d - 1) = (n, b)) := hbest
    clear hbest
    by_cases hlt : d ≤ D
    · have c1 : d ≤ 4096 := by omega
      have c2 : d ≤ a := by omega
      obtain ⟨x, hx⟩ : ∃ x, mrun s.data.toList (a - d) a M = x := ⟨_, rfl⟩
      have HX : Hid (mrun s.data.toList (a - d) a M = x) := hx
      have hxM : x ≤ M := by rw [← hx]; exact mrun_le _ _ _ _
      clear hx
      go_wp2
      go_loopw [9] (fun jv wr => ∃ (j m : Nat), j ≤ M ∧ jv = .int .i64 j ∧ x = j + mrun s.data.toList (a - d + j) (a + j) (M - j) ∧ wr = w.drewN m) (fun jv _ => M - (intOf jv).toNat)
      case atStart => exact ⟨0, k, by omega, rfl, by rw [← HX.out]; simp, rfl⟩
      case round =>
        obtain ⟨j, m, hj, rfl, hxj, rfl⟩ := hrel
        have HJ : Hid (x = j + mrun s.data.toList (a - d + j) (a + j) (M - j)) := hxj
        clear hxj
        obtain ⟨g, hg⟩ : ∃ g, g = a + j := ⟨_, rfl⟩
        obtain ⟨f, hf⟩ : ∃ f, f = a - d + j := ⟨_, rfl⟩
        have i1 : IntKind.i64.wrap ((a : Int) + j) = (g : Int) := by rw [IntWalk.i64_in _ (by omega)]; omega
        have i2 : IntKind.i64.wrap ((g : Int) - d) = (f : Int) := by rw [IntWalk.i64_in _ (by omega)]; omega
        by_cases hjM : j < M
        · have q1 : g < s.size := by omega
          have q2 : f < s.size := by omega
          have hd3 : decide ((j : Int) < 258) = true := by simp; omega
          have hd4 : decide ((g : Int) < s.size) = true := by simp; omega
          have hm := mrun_at s f g (M - j - 1) q2 q1
          rw [show M - j - 1 + 1 = M - j by omega] at hm
          have HMM : Hid (mrun s.data.toList f g (M - j) = if s[f] = s[g] then mrun s.data.toList (f + 1) (g + 1) (M - j - 1) + 1 else 0) := hm
          have HF : Hid (f = a - d + j) := hf
          have HG : Hid (g = a + j) := hg
          clear hm hf hg
          by_cases he : s[f] = s[g]
          · have HXX : Hid (x = (j + 1) + mrun s.data.toList (a - d + (j + 1)) (a + (j + 1)) (M - (j + 1))) := by
              show _ = _
              rw [HJ.out, ← HF.out, ← HG.out, HMM.out, if_pos he, show M - (j + 1) = M - j - 1 by omega, show a - d + (j + 1) = f + 1 by have := HF.out; omega, show a + (j + 1) = g + 1 by have := HG.out; omega]
              omega
            obtain ⟨y, hy⟩ : ∃ y, y = s[f].toNat := ⟨_, rfl⟩
            have e1 : s[f].toNat = y := hy.symm
            have e2 : s[g].toNat = y := by rw [← he, e1]
            clear he hy HJ HMM
            go_wp2
            go_quiet (fail)
            go_wp2
            go_roundw
            case rel => exact ⟨j + 1, _, by omega, by go_num, HXX.out, rfl⟩
            case measure => simp [intOf]; omega
          · obtain rfl : x = j := by rw [HJ.out, ← HF.out, ← HG.out, HMM.out, if_neg he]; rfl
            have e3 : ((s[g].toNat : Int) == (s[f].toNat : Int)) = false := by
              simp only [beq_eq_false_iff_ne, ne_eq]
              intro h'
              exact he (UInt8.toNat_inj.1 (by omega))
            clear he HJ HMM
            by_cases h4 : 4 ≤ x
            · by_cases hnx : n < x
              · have HNX : Hid (best s.data.toList a M (d + 1 - 1) = (x, d)) := by
                  show best s.data.toList a M d = _
                  have := best_hit (d := d - 1) HB.out (x := x) (by rw [show d - 1 + 1 = d by omega]; exact HX.out) h4 hnx
                  rw [show d - 1 + 1 = d by omega] at this
                  exact this
                go_wp2
                go_quiet (fail)
                go_wp2
                go_roundw
                case rel => exact ⟨d + 1, x, d, _, by go_num, by omega, by omega, rfl, rfl, HNX.out, rfl⟩
                case measure => simp [intOf]; omega
              · have HNX : Hid (best s.data.toList a M (d + 1 - 1) = (n, b)) := by
                  show best s.data.toList a M d = _
                  have := best_miss (d := d - 1) HB.out (x := x) (by rw [show d - 1 + 1 = d by omega]; exact HX.out) (by omega)
                  rw [show d - 1 + 1 = d by omega] at this
                  exact this
                go_wp2
                go_quiet (fail)
                go_wp2
                go_roundw
                case rel => exact ⟨d + 1, n, b, _, by go_num, by omega, by omega, rfl, rfl, HNX.out, rfl⟩
                case measure => simp [intOf]; omega
            · have HNX : Hid (best s.data.toList a M (d + 1 - 1) = (n, b)) := by
                show best s.data.toList a M d = _
                have := best_miss (d := d - 1) HB.out (x := x) (by rw [show d - 1 + 1 = d by omega]; exact HX.out) (by omega)
                rw [show d - 1 + 1 = d by omega] at this
                exact this
              go_wp2
              go_quiet (fail)
              go_wp2
              go_roundw
              case rel => exact ⟨d + 1, n, b, _, by go_num, by omega, by omega, rfl, rfl, HNX.out, rfl⟩
              case measure => simp [intOf]; omega
        · obtain rfl : x = j := by rw [HJ.out, show M - j = 0 by omega]; rfl
          have HG : Hid (g = a + x) := hg
          have HF : Hid (f = a - d + x) := hf
          clear HJ hf
          by_cases h258 : x < 258
          · have hd2 : decide (g < s.size) = false := by
              have : a + M = s.size := by rcases HM.out with h | h <;> omega
              simp; omega
            have hd3 : decide ((x : Int) < 258) = true := by simp; omega
            clear hg
            by_cases h4 : 4 ≤ x
            · by_cases hnx : n < x
              · have HNX : Hid (best s.data.toList a M (d + 1 - 1) = (x, d)) := by
                  show best s.data.toList a M d = _
                  have := best_hit (d := d - 1) HB.out (x := x) (by rw [show d - 1 + 1 = d by omega]; exact HX.out) h4 hnx
                  rw [show d - 1 + 1 = d by omega] at this
                  exact this
                go_wp2
                go_quiet (fail)
                go_wp2
                go_roundw
                case rel => exact ⟨d + 1, x, d, _, by go_num, by omega, by omega, rfl, rfl, HNX.out, rfl⟩
                case measure => simp [intOf]; omega
              · have HNX : Hid (best s.data.toList a M (d + 1 - 1) = (n, b)) := by
                  show best s.data.toList a M d = _
                  have := best_miss (d := d - 1) HB.out (x := x) (by rw [show d - 1 + 1 = d by omega]; exact HX.out) (by omega)
                  rw [show d - 1 + 1 = d by omega] at this
                  exact this
                go_wp2
                go_quiet (fail)
                go_wp2
                go_roundw
                case rel => exact ⟨d + 1, n, b, _, by go_num, by omega, by omega, rfl, rfl, HNX.out, rfl⟩
                case measure => simp [intOf]; omega
            · have HNX : Hid (best s.data.toList a M (d + 1 - 1) = (n, b)) := by
                show best s.data.toList a M d = _
                have := best_miss (d := d - 1) HB.out (x := x) (by rw [show d - 1 + 1 = d by omega]; exact HX.out) (by omega)
                rw [show d - 1 + 1 = d by omega] at this
                exact this
              go_wp2
              go_quiet (fail)
              go_wp2
              go_roundw
              case rel => exact ⟨d + 1, n, b, _, by go_num, by omega, by omega, rfl, rfl, HNX.out, rfl⟩
              case measure => simp [intOf]; omega
          · have hd2 : decide ((x : Int) < 258) = false := by simp; omega
            clear hg
            by_cases h4 : 4 ≤ x
            · by_cases hnx : n < x
              · have HNX : Hid (best s.data.toList a M (d + 1 - 1) = (x, d)) := by
                  show best s.data.toList a M d = _
                  have := best_hit (d := d - 1) HB.out (x := x) (by rw [show d - 1 + 1 = d by omega]; exact HX.out) h4 hnx
                  rw [show d - 1 + 1 = d by omega] at this
                  exact this
                go_wp2
                go_quiet (fail)
                go_wp2
                go_roundw
                case rel => exact ⟨d + 1, x, d, _, by go_num, by omega, by omega, rfl, rfl, HNX.out, rfl⟩
                case measure => simp [intOf]; omega
              · have HNX : Hid (best s.data.toList a M (d + 1 - 1) = (n, b)) := by
                  show best s.data.toList a M d = _
                  have := best_miss (d := d - 1) HB.out (x := x) (by rw [show d - 1 + 1 = d by omega]; exact HX.out) (by omega)
                  rw [show d - 1 + 1 = d by omega] at this
                  exact this
                go_wp2
                go_quiet (fail)
                go_wp2
                go_roundw
                case rel => exact ⟨d + 1, n, b, _, by go_num, by omega, by omega, rfl, rfl, HNX.out, rfl⟩
                case measure => simp [intOf]; omega
            · exfalso; omega
    · have hdd : d = D + 1 := by omega
      have HE : Hid ((n, b) = (N, B)) := by show _ = _; rw [← HB.out, ← HR.out, hdd]; rfl
      have HEN : Hid ((n : Int) = (N : Int)) := by show _ = _; rw [(Prod.mk.inj HE.out).1]
      have HEB : Hid ((b : Int) = (B : Int)) := by show _ = _; rw [(Prod.mk.inj HE.out).2]
      by_cases hc : d ≤ 4096
      · have hd2 : decide (d ≤ a) = false := by
          have : D = a := by rcases HD.out with h | h <;> omega
          simp; omega
        clear hdd hlt
        go_wp2
        go_ret2
        exact ⟨ret_ii HEN.out HEB.out, k, rfl⟩
      · have hd2 : decide ((d : Int) ≤ 4096) = false := by simp; omega
        clear hdd
        go_wp2
        go_ret2
        exact ⟨ret_ii HEN.out HEB.out, k, rfl⟩
end Go.Proofs.Ytgdeefcgjaklhaa
