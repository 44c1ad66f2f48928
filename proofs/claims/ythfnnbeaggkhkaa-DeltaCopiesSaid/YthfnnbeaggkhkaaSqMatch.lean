/-
  The walks of matchSize and longestMatch.
-/
import Derived.Test.YthfnnbeaggkhkaaOwn
import Derived.Test.YthfnnbeaggkhkaaSqPlain
import Derived.IntWalk
import Derived.BigQuiet
import Derived.Deep.QuietTactic
namespace Go.Proofs.Ythfnnbeaggkhkaa
open Go.RowKit

theorem mrun_at (s : ByteArray) (f a m : Nat) (hf : f < s.size) (ha : a < s.size) : mrun s.data.toList f a (m + 1) = if s[f] = s[a] then mrun s.data.toList (f + 1) (a + 1) m + 1 else 0 := by
  rw [mrun, getD_at s f hf, getD_at s a ha]

set_option maxHeartbeats 1000000 in
set_option maxRecDepth 4000 in
theorem matchSize_any (s : ByteArray) (f a m : Nat) (w : World) (hf : f + m ≤ s.size) (ha : a + m ≤ s.size) (hs : s.size ≤ 1099511627776) (r : Nat) (hr : mrun s.data.toList f a m = r) :
    Calls Try.prog 56 #[.string s, .int .i64 f, .int .i64 a, .int .i64 m] w fun e w' => e = .returned (.int .i64 r) ∧ ∃ k, w' = w.drewN k := by
  have HR : Hid (mrun s.data.toList f a m = r) := hr
  clear hr
  go_enter Try.func56, Try.ntmps56
  go_wp2
  go_loopw [9] (fun i wr => ∃ n k : Nat, n ≤ m ∧ i = .int .i64 n ∧ r = n + mrun s.data.toList (f + n) (a + n) (m - n) ∧ wr = w.drewN k) (fun i _ => m - (intOf i).toNat)
  case atStart => exact ⟨0, 0, by omega, rfl, by rw [← HR.out]; simp, rfl⟩
  case round =>
    obtain ⟨n, k, hn, rfl, hr, rfl⟩ := hrel
    have HN : Hid (r = n + mrun s.data.toList (f + n) (a + n) (m - n)) := hr
    clear hr HR
    have i1 : IntKind.i64.wrap ((f : Int) + n) = (f : Int) + n := IntWalk.i64_in _ (by omega)
    have i2 : IntKind.i64.wrap ((a : Int) + n) = (a : Int) + n := IntWalk.i64_in _ (by omega)
    have n1 : ((f : Int) + n).toNat = f + n := by omega
    have n2 : ((a : Int) + n).toNat = a + n := by omega
    have b1 : (0 : Int) ≤ (f : Int) + n := by omega
    have b3 : (0 : Int) ≤ (a : Int) + n := by omega
    by_cases hlt : n < m
    · have b2 : (f : Int) + n < s.size := by omega
      have b4 : (a : Int) + n < s.size := by omega
      have q1 : f + n < s.size := by omega
      have q2 : a + n < s.size := by omega
      have hlt' : (n : Int) < m := by omega
      have hm := mrun_at s (f + n) (a + n) (m - n - 1) q1 q2
      rw [show m - n - 1 + 1 = m - n by omega] at hm
      have HM : Hid (mrun s.data.toList (f + n) (a + n) (m - n) = if s[f + n] = s[a + n] then mrun s.data.toList (f + n + 1) (a + n + 1) (m - n - 1) + 1 else 0) := hm
      clear hm
      by_cases he : s[f + n] = s[a + n]
      · have HX : Hid (r = (n + 1) + mrun s.data.toList (f + (n + 1)) (a + (n + 1)) (m - (n + 1))) := by
          show _ = _
          rw [HN.out, HM.out, if_pos he, show m - (n + 1) = m - n - 1 by omega]
          simp only [← Nat.add_assoc]; omega
        obtain ⟨x, hx⟩ : ∃ x, x = s[f + n].toNat := ⟨_, rfl⟩
        have h1 : s[f + n].toNat = x := hx.symm
        have h2 : s[a + n].toNat = x := by rw [← he, h1]
        clear he hx HM HN
        go_wp2
        go_quiet (fail)
        go_wp2
        go_roundw
        case rel => exact ⟨n + 1, _, by omega, by go_num, HX.out, rfl⟩
        case measure => simp [intOf]; omega
      · have HX : Hid (r = n) := by show _ = _; rw [HN.out, HM.out, if_neg he]; rfl
        have h1 : ((s[f + n].toNat : Int) == (s[a + n].toNat : Int)) = false := by
          simp only [beq_eq_false_iff_ne, ne_eq]
          intro h'
          exact he (UInt8.toNat_inj.1 (by omega))
        clear he HM HN
        go_wp2
        go_quiet (fail)
        go_wp2
        go_ret
        exact ⟨ret_int (by rw [HX.out]), _, by first | rfl | exact World.drewN_drewN _ _ _⟩
    · obtain rfl : n = m := by omega
      have HX : Hid (r = n) := by show _ = _; rw [HN.out, Nat.sub_self]; rfl
      have hd : decide ((n : Int) < n) = false := by simp
      clear hlt HN
      go_wp2
      go_quiet (fail)
      go_wp2
      go_ret
      exact ⟨ret_int (by rw [HX.out]), _, by first | rfl | exact World.drewN_drewN _ _ _⟩

/-- The row of the chain. -/
def LRow (w : World) (B : Nat) (l : List UInt8) : Prop := ∀ i, i + 4 ≤ l.length → w.cell? ⟨B, i, none⟩ = some (.int .i64 (lk l i))
theorem LRow.drewN {w : World} {B : Nat} {l : List UInt8} (h : LRow w B l) (n : Nat) : LRow (w.drewN n) B l := fun i hi => h i hi
theorem LRow.below {w w' : World} {B X : Nat} {l : List UInt8} (h : LRow w B l) (hb : Below X w w') (hB : B < X) : LRow w' B l := fun i hi => (hb.cell (p := ⟨B, i, none⟩) hB).trans (h i hi)

theorem lm_none (s : ByteArray) (a n cap B : Nat) (w : World) (hn : n = s.size - 3) (ha : s.size < a + 4) (_hs : s.size ≤ 1099511627776) (_haa : a ≤ s.size) :
    Calls Try.prog 34 #[.string s, .int .i64 a, .slice (some ⟨B, 0, none⟩) n cap] w fun e w' => e = .returned (.tuple #[.int .i64 ((again s.data.toList a).1 : Nat), .int .i64 ((again s.data.toList a).2 : Nat)]) ∧ ∃ k, w' = w.drewN k := by
  rw [again_short (by rw [list_len]; exact ha)]
  have h1 : n ≤ a := by omega
  clear hn ha
  go_enter Try.func34, Try.ntmps34
  go_wp2
  go_ret2
  exact ⟨rfl, 0, rfl⟩
theorem ret_ii {k1 k2 : IntKind} {a1 a2 b1 b2 : Int} (h1 : a1 = b1) (h2 : a2 = b2) :
    Ending.returned (.tuple #[.int k1 a1, .int k2 a2]) = .returned (.tuple #[.int k1 b1, .int k2 b2]) := by rw [h1, h2]
theorem lk_lt (l : List UInt8) (g : Nat) : -1 ≤ lk l g ∧ lk l g < (g : Int) := by
  rcases down_cases (fun j => same4 l j g) g with ⟨h1, _⟩ | ⟨f, h1, h2, _⟩
  · have : lk l g = -1 := h1
    omega
  · have : lk l g = (f : Int) := h1
    omega

set_option maxHeartbeats 2000000 in
set_option maxRecDepth 4000 in
theorem lm_far (s : ByteArray) (a n cap B : Nat) (w : World) (hn : n = s.size - 3) (ha : a + 4 ≤ s.size) (hs : s.size ≤ 1099511627776) (hrow : LRow w B s.data.toList) (hq : 258 ≤ s.size - a) :
    Calls Try.prog 34 #[.string s, .int .i64 a, .slice (some ⟨B, 0, none⟩) n cap] w fun e w' => e = .returned (.tuple #[.int .i64 ((again s.data.toList a).1 : Nat), .int .i64 ((again s.data.toList a).2 : Nat)]) ∧ ∃ k, w' = w.drewN k := by
  have ha' : a + 4 ≤ s.data.toList.length := by rw [list_len]; exact ha
  have HM : Hid (most s.data.toList a = 258) := by show _ = _; unfold most; rw [list_len]; omega
  obtain ⟨A, hA⟩ : ∃ A, A = again s.data.toList a := ⟨_, rfl⟩
  rw [← hA]
  have HA : Hid (A = again s.data.toList a) := hA
  have i0 : IntKind.i64.wrap ((s.size : Int) - a) = (s.size : Int) - a := IntWalk.i64_in _ (by omega)
  have i2 : (258 : Int) ≤ (s.size : Int) - a := by omega
  have hMa : a + 258 ≤ s.size := by omega
  have han : a < n := by omega
  have hna : decide (n ≤ a) = false := by simp; omega
  have a0 : (0 : Int) ≤ a := by omega
  have a1 : (a : Int) < n := by omega
  have hc0 : w.cell? ⟨B, a, none⟩ = some (.int .i64 (lk s.data.toList a)) := hrow a ha'
  have HL : Hid (LRow w B s.data.toList) := hrow
  have hn4 : n + 3 = s.size := by omega
  clear hA hn hrow
  obtain ⟨f0, hf0⟩ : ∃ f0, f0 = lk s.data.toList a := ⟨_, rfl⟩
  rw [← hf0] at hc0
  have HF0 : Hid (f0 = lk s.data.toList a) := hf0
  clear hf0
  go_enter Try.func34, Try.ntmps34
  go_wp2
  clear hc0
  go_loopw [9, 10, 11] (fun sz bk fr wr => ∃ (x y k : Nat) (f : Int), sz = .int .i64 x ∧ bk = .int .i64 y ∧ fr = .int .i64 f ∧ Chase s.data.toList a f (x, y) ∧ wr = w.drewN k) (fun _ _ f _ => (intOf f + 1).toNat)
  case atStart => exact ⟨0, 0, 0, f0, rfl, rfl, rfl, by rw [HF0.out]; exact chase_start ha', rfl⟩
  case round =>
    clear HF0
    obtain ⟨x, y, k, f, rfl, rfl, rfl, hch, rfl⟩ := hrel
    have HC : Hid (Chase s.data.toList a f (x, y)) := hch
    rcases hch.next with hf | ⟨g, hf, hga, hgl, hsm, _⟩
    · clear hch
      subst hf
      go_wp2
      go_ret2
      exact ⟨ret_ii (by rw [HA.out, chase_end HC.out]) (by rw [HA.out, chase_end HC.out]), _, rfl⟩
    · subst hf
      clear hch hsm
      rw [list_len] at hgl
      have i1 : IntKind.i64.wrap ((a : Int) - g) = (a : Int) - g := IntWalk.i64_in _ (by omega)
      by_cases hfar : 4096 < a - g
      · have hd : decide ((a : Int) - g ≤ 4096) = false := by simp; omega
        clear i1
        go_wp2
        go_ret2
        exact ⟨ret_ii (by rw [HA.out, chase_far HC.out hfar]) (by rw [HA.out, chase_far HC.out hfar]), _, rfl⟩
      · by_cases hfull : x < 258
        · have j1 : IntKind.i64.wrap ((g : Int) + x) = (g : Int) + x := IntWalk.i64_in _ (by omega)
          have j2 : IntKind.i64.wrap ((a : Int) + x) = (a : Int) + x := IntWalk.i64_in _ (by omega)
          have n1 : ((g : Int) + x).toNat = g + x := by omega
          have n2 : ((a : Int) + x).toNat = a + x := by omega
          have b1 : (0 : Int) ≤ (g : Int) + x := by omega
          have b2 : (g : Int) + x < s.size := by omega
          have b3 : (0 : Int) ≤ (a : Int) + x := by omega
          have b4 : (a : Int) + x < s.size := by omega
          have q1 : g + x < s.size := by omega
          have q2 : a + x < s.size := by omega
          have hc : (w.drewN k).cell? ⟨B, g, none⟩ = some (.int .i64 (lk s.data.toList g)) := HL.out g (by rw [list_len]; exact hgl)
          obtain ⟨wo, hwo⟩ : ∃ wo, wo = w.drewN k := ⟨_, rfl⟩
          have HWO : Hid (wo = w.drewN k) := hwo
          rw [← hwo] at hc ⊢
          have hlk := lk_lt s.data.toList g
          obtain ⟨f2, hf2⟩ : ∃ f2, f2 = lk s.data.toList g := ⟨_, rfl⟩
          rw [← hf2] at hc hlk
          have HF2 : Hid (f2 = lk s.data.toList g) := hf2
          have g0 : (0 : Int) ≤ g := by omega
          have g1 : (g : Int) < n := by omega
          have g2 : g < n := by omega
          clear hwo hf2
          by_cases he : s[g + x] = s[a + x]
          · obtain ⟨z, hz⟩ : ∃ z, z = s[g + x].toNat := ⟨_, rfl⟩
            have h1 : s[g + x].toNat = z := hz.symm
            have h2 : s[a + x].toNat = z := by rw [← he, h1]
            obtain ⟨r, hr⟩ : ∃ r, mrun s.data.toList g a 258 = r := ⟨_, rfl⟩
            have HR : Hid (mrun s.data.toList g a 258 = r) := hr
            have hrl : r ≤ 258 := by rw [← hr]; exact mrun_le _ _ _ _
            clear he hz hr
            by_cases hlt : x < r
            · have HN : Hid (Chase s.data.toList a f2 (r, a - g)) := by
                show Chase _ _ _ _
                rw [HF2.out]
                exact (chase_step ha' HC.out (by omega) (by rw [HM.out, HR.out, if_pos hlt])).2.2
              clear HC
              go_wp2
              go_quiet (fail)
              clear j1 j2
              go_wp2_with (go_at_call 56; refine (matchSize_any s g a 258 _ (by omega) hMa hs r HR.out).mono ?_; rintro e w' ⟨rfl, dn, rfl⟩)
              go_roundw
              case rel => exact ⟨r, a - g, _, f2, by go_num, by first | rfl | (exact val_int (by omega)), rfl, HN.out, by rw [HWO.out]; simp [World.drewN_drewN]; rfl⟩
              case measure => simp [intOf]; omega
            · have HN : Hid (Chase s.data.toList a f2 (x, y)) := by
                show Chase _ _ _ _
                rw [HF2.out]
                exact (chase_step ha' HC.out (by omega) (by rw [HM.out, HR.out, if_neg hlt])).2.2
              clear HC
              go_wp2
              go_quiet (fail)
              clear j1 j2
              go_wp2_with (go_at_call 56; refine (matchSize_any s g a 258 _ (by omega) hMa hs r HR.out).mono ?_; rintro e w' ⟨rfl, dn, rfl⟩)
              go_roundw
              case rel => exact ⟨x, y, _, f2, rfl, rfl, rfl, HN.out, by rw [HWO.out]; simp [World.drewN_drewN]; rfl⟩
              case measure => simp [intOf]; omega
          · have h1 : ((s[g + x].toNat : Int) == (s[a + x].toNat : Int)) = false := by
              simp only [beq_eq_false_iff_ne, ne_eq]
              intro h'
              exact he (UInt8.toNat_inj.1 (by omega))
            have h2 : ((s[g + x].toNat : Int) != (s[a + x].toNat : Int)) = true := by
              simp only [bne, h1]; rfl
            have HN : Hid (Chase s.data.toList a f2 (x, y)) := by
              show Chase _ _ _ _
              rw [HF2.out]
              have hle := mrun_differ s.data.toList (most s.data.toList a) g a x (by rw [getD_at s _ q1, getD_at s _ q2]; exact he)
              exact (chase_step ha' HC.out (by omega) (by rw [if_neg (by show ¬ x < _; omega)])).2.2
            clear HC he
            go_wp2
            go_quiet (fail)
            clear j1 j2
            go_wp2
            go_roundw
            case rel => exact ⟨x, y, _, f2, rfl, rfl, rfl, HN.out, by rw [HWO.out]; simp [World.drewN_drewN]; rfl⟩
            case measure => simp [intOf]; omega
        · have hx : 258 ≤ x := by omega
          go_wp2
          go_ret2
          exact ⟨ret_ii (by rw [HA.out, chase_full HC.out (by rw [HM.out]; exact hx)]) (by rw [HA.out, chase_full HC.out (by rw [HM.out]; exact hx)]), _, rfl⟩

set_option maxHeartbeats 2000000 in
set_option maxRecDepth 4000 in
theorem lm_near (s : ByteArray) (a n cap B q : Nat) (w : World) (hn : n = s.size - 3) (ha : a + 4 ≤ s.size) (hs : s.size ≤ 1099511627776) (hrow : LRow w B s.data.toList) (hq : q = s.size - a) (hq2 : q < 258) :
    Calls Try.prog 34 #[.string s, .int .i64 a, .slice (some ⟨B, 0, none⟩) n cap] w fun e w' => e = .returned (.tuple #[.int .i64 ((again s.data.toList a).1 : Nat), .int .i64 ((again s.data.toList a).2 : Nat)]) ∧ ∃ k, w' = w.drewN k := by
  have ha' : a + 4 ≤ s.data.toList.length := by rw [list_len]; exact ha
  have HM : Hid (most s.data.toList a = q) := by show _ = _; unfold most; rw [list_len]; omega
  obtain ⟨A, hA⟩ : ∃ A, A = again s.data.toList a := ⟨_, rfl⟩
  rw [← hA]
  have HA : Hid (A = again s.data.toList a) := hA
  have i0 : IntKind.i64.wrap ((s.size : Int) - a) = (q : Int) := by rw [IntWalk.i64_in _ (by omega)]; omega
  have i2 : (q : Int) < 258 := by omega
  have hq3 : a + q = s.size := by omega
  clear hq
  have hMa : a + q ≤ s.size := by omega
  have han : a < n := by omega
  have hna : decide (n ≤ a) = false := by simp; omega
  have a0 : (0 : Int) ≤ a := by omega
  have a1 : (a : Int) < n := by omega
  have hc0 : w.cell? ⟨B, a, none⟩ = some (.int .i64 (lk s.data.toList a)) := hrow a ha'
  have HL : Hid (LRow w B s.data.toList) := hrow
  have hn4 : n + 3 = s.size := by omega
  clear hA hn hrow
  obtain ⟨f0, hf0⟩ : ∃ f0, f0 = lk s.data.toList a := ⟨_, rfl⟩
  rw [← hf0] at hc0
  have HF0 : Hid (f0 = lk s.data.toList a) := hf0
  clear hf0
  go_enter Try.func34, Try.ntmps34
  go_wp2
  clear hc0
  go_loopw [9, 10, 11] (fun sz bk fr wr => ∃ (x y k : Nat) (f : Int), sz = .int .i64 x ∧ bk = .int .i64 y ∧ fr = .int .i64 f ∧ Chase s.data.toList a f (x, y) ∧ wr = w.drewN k) (fun _ _ f _ => (intOf f + 1).toNat)
  case atStart => exact ⟨0, 0, 0, f0, rfl, rfl, rfl, by rw [HF0.out]; exact chase_start ha', rfl⟩
  case round =>
    clear HF0
    obtain ⟨x, y, k, f, rfl, rfl, rfl, hch, rfl⟩ := hrel
    have HC : Hid (Chase s.data.toList a f (x, y)) := hch
    rcases hch.next with hf | ⟨g, hf, hga, hgl, hsm, _⟩
    · clear hch
      subst hf
      go_wp2
      go_ret2
      exact ⟨ret_ii (by rw [HA.out, chase_end HC.out]) (by rw [HA.out, chase_end HC.out]), _, rfl⟩
    · subst hf
      clear hch hsm
      rw [list_len] at hgl
      have i1 : IntKind.i64.wrap ((a : Int) - g) = (a : Int) - g := IntWalk.i64_in _ (by omega)
      by_cases hfar : 4096 < a - g
      · have hd : decide ((a : Int) - g ≤ 4096) = false := by simp; omega
        clear i1
        go_wp2
        go_ret2
        exact ⟨ret_ii (by rw [HA.out, chase_far HC.out hfar]) (by rw [HA.out, chase_far HC.out hfar]), _, rfl⟩
      · by_cases hfull : x < q
        · have j1 : IntKind.i64.wrap ((g : Int) + x) = (g : Int) + x := IntWalk.i64_in _ (by omega)
          have j2 : IntKind.i64.wrap ((a : Int) + x) = (a : Int) + x := IntWalk.i64_in _ (by omega)
          have n1 : ((g : Int) + x).toNat = g + x := by omega
          have n2 : ((a : Int) + x).toNat = a + x := by omega
          have b1 : (0 : Int) ≤ (g : Int) + x := by omega
          have b2 : (g : Int) + x < s.size := by omega
          have b3 : (0 : Int) ≤ (a : Int) + x := by omega
          have b4 : (a : Int) + x < s.size := by omega
          have q1 : g + x < s.size := by omega
          have q2 : a + x < s.size := by omega
          have hc : (w.drewN k).cell? ⟨B, g, none⟩ = some (.int .i64 (lk s.data.toList g)) := HL.out g (by rw [list_len]; exact hgl)
          obtain ⟨wo, hwo⟩ : ∃ wo, wo = w.drewN k := ⟨_, rfl⟩
          have HWO : Hid (wo = w.drewN k) := hwo
          rw [← hwo] at hc ⊢
          have hlk := lk_lt s.data.toList g
          obtain ⟨f2, hf2⟩ : ∃ f2, f2 = lk s.data.toList g := ⟨_, rfl⟩
          rw [← hf2] at hc hlk
          have HF2 : Hid (f2 = lk s.data.toList g) := hf2
          have g0 : (0 : Int) ≤ g := by omega
          have g1 : (g : Int) < n := by omega
          have g2 : g < n := by omega
          clear hwo hf2
          by_cases he : s[g + x] = s[a + x]
          · obtain ⟨z, hz⟩ : ∃ z, z = s[g + x].toNat := ⟨_, rfl⟩
            have h1 : s[g + x].toNat = z := hz.symm
            have h2 : s[a + x].toNat = z := by rw [← he, h1]
            obtain ⟨r, hr⟩ : ∃ r, mrun s.data.toList g a q = r := ⟨_, rfl⟩
            have HR : Hid (mrun s.data.toList g a q = r) := hr
            have hrl : r ≤ q := by rw [← hr]; exact mrun_le _ _ _ _
            clear he hz hr
            by_cases hlt : x < r
            · have HN : Hid (Chase s.data.toList a f2 (r, a - g)) := by
                show Chase _ _ _ _
                rw [HF2.out]
                exact (chase_step ha' HC.out (by omega) (by rw [HM.out, HR.out, if_pos hlt])).2.2
              clear HC
              go_wp2
              go_quiet (fail)
              clear j1 j2
              go_wp2_with (go_at_call 56; refine (matchSize_any s g a q _ (by omega) hMa hs r HR.out).mono ?_; rintro e w' ⟨rfl, dn, rfl⟩)
              go_roundw
              case rel => exact ⟨r, a - g, _, f2, by go_num, by first | rfl | (exact val_int (by omega)), rfl, HN.out, by rw [HWO.out]; simp [World.drewN_drewN]; rfl⟩
              case measure => simp [intOf]; omega
            · have HN : Hid (Chase s.data.toList a f2 (x, y)) := by
                show Chase _ _ _ _
                rw [HF2.out]
                exact (chase_step ha' HC.out (by omega) (by rw [HM.out, HR.out, if_neg hlt])).2.2
              clear HC
              go_wp2
              go_quiet (fail)
              clear j1 j2
              go_wp2_with (go_at_call 56; refine (matchSize_any s g a q _ (by omega) hMa hs r HR.out).mono ?_; rintro e w' ⟨rfl, dn, rfl⟩)
              go_roundw
              case rel => exact ⟨x, y, _, f2, rfl, rfl, rfl, HN.out, by rw [HWO.out]; simp [World.drewN_drewN]; rfl⟩
              case measure => simp [intOf]; omega
          · have h1 : ((s[g + x].toNat : Int) == (s[a + x].toNat : Int)) = false := by
              simp only [beq_eq_false_iff_ne, ne_eq]
              intro h'
              exact he (UInt8.toNat_inj.1 (by omega))
            have h2 : ((s[g + x].toNat : Int) != (s[a + x].toNat : Int)) = true := by
              simp only [bne, h1]; rfl
            have HN : Hid (Chase s.data.toList a f2 (x, y)) := by
              show Chase _ _ _ _
              rw [HF2.out]
              have hle := mrun_differ s.data.toList (most s.data.toList a) g a x (by rw [getD_at s _ q1, getD_at s _ q2]; exact he)
              exact (chase_step ha' HC.out (by omega) (by rw [if_neg (by show ¬ x < _; omega)])).2.2
            clear HC he
            go_wp2
            go_quiet (fail)
            clear j1 j2
            go_wp2
            go_roundw
            case rel => exact ⟨x, y, _, f2, rfl, rfl, rfl, HN.out, by rw [HWO.out]; simp [World.drewN_drewN]; rfl⟩
            case measure => simp [intOf]; omega
        · have hx : q ≤ x := by omega
          go_wp2
          go_ret2
          exact ⟨ret_ii (by rw [HA.out, chase_full HC.out (by rw [HM.out]; exact hx)]) (by rw [HA.out, chase_full HC.out (by rw [HM.out]; exact hx)]), _, rfl⟩

theorem longest_any (s : ByteArray) (a n cap B : Nat) (w : World) (hn : n = s.size - 3) (haa : a ≤ s.size) (hs : s.size ≤ 1099511627776) (hrow : LRow w B s.data.toList) :
    Calls Try.prog 34 #[.string s, .int .i64 a, .slice (some ⟨B, 0, none⟩) n cap] w fun e w' => e = .returned (.tuple #[.int .i64 ((again s.data.toList a).1 : Nat), .int .i64 ((again s.data.toList a).2 : Nat)]) ∧ ∃ k, w' = w.drewN k := by
  by_cases ha : a + 4 ≤ s.size
  · by_cases hq : 258 ≤ s.size - a
    · exact lm_far s a n cap B w hn ha hs hrow hq
    · exact lm_near s a n cap B (s.size - a) w hn ha hs hrow rfl (by omega)
  · exact lm_none s a n cap B w hn (by omega) hs haa
end Go.Proofs.Ythfnnbeaggkhkaa
