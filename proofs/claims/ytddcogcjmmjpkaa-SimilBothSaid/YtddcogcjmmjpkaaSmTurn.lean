/-
  The walks of the law package's few, lives and turned.
-/
import Derived.Test.YtddcogcjmmjpkaaSmBest
namespace Go.Proofs.Ytddcogcjmmjpkaa
open Go.RowKit Go.Maps Go.WideMaps

theorem common_inv {W w : World} (h : Below W.heap.size W w) (a b : ByteArray) (r : Nat) (ha : a.size ≤ 1048576) (hb : b.size ≤ 1048576) (hr : r = shS a b) :
    Calls Try.prog 23 #[.string a, .string b] w fun e w' => e = .returned (.int .i64 r) ∧ Below W.heap.size W w' := (common_any a b r w ha hb hr).mono fun _ _ x => ⟨x.1, h.trans (x.2.mono h.size)⟩
theorem score_inv {W w : World} (h : Below W.heap.size W w) (a b : ByteArray) (r : Nat) (ha : a.size ≤ 1048576) (hb : b.size ≤ 1048576) (hr : r = scS a b) :
    Calls Try.prog 25 #[.string a, .string b] w fun e w' => e = .returned (.int .i64 r) ∧ Below W.heap.size W w' := (score_any a b r w ha hb hr).mono fun _ _ x => ⟨x.1, h.trans (x.2.mono h.size)⟩
theorem split_inv {W w : World} (h : Below W.heap.size W w) (s : ByteArray) (hs : s.size ≤ 1048576) (n : Nat) (hn : n = (split s.data.toList).length) :
    Calls Try.prog 32 #[.string s] w fun e w' => (∃ p cap, e = .returned (.slice p n cap) ∧ SRw w' p (split s.data.toList) ∧ n ≤ cap) ∧ Below W.heap.size W w' := (rSplit_any s w hs n hn).mono fun _ _ x => ⟨x.1, h.trans (x.2.mono h.size)⟩

/-- A string that the laws look at. -/
def fewB (s : ByteArray) : Bool := decide (s.size ≤ 3000) && decide ((split s.data.toList).length ≤ 120)
set_option maxHeartbeats 1000000 in
theorem few_inv {W w : World} (h : Below W.heap.size W w) (s : ByteArray) (r : Bool) (hr : r = fewB s) :
    Calls Try.prog 21 #[.string s] w fun e w' => e = .returned (.bool r) ∧ Below W.heap.size W w' := by
  obtain ⟨n, hn⟩ : ∃ n, n = (split s.data.toList).length := ⟨_, rfl⟩
  unfold fewB at hr
  rw [← hn] at hr
  have HN := Lib.hid hn
  clear hn
  by_cases h1 : s.size ≤ 3000
  · have d1 : decide (s.size ≤ 3000) = true := decide_eq_true h1
    have hn2 : n ≤ s.size := by rw [HN.out]; exact split_lines s
    rw [d1, Bool.true_and] at hr
    have HR := Lib.hid hr
    clear hr
    go_enter Try.func21, Try.ntmps21
    go_wp2_with (go_at_call 32; ((with_reducible refine (split_inv h s (by omega) n HN.out).mono ?_); rintro e w1 ⟨⟨p1, c1, rfl, hp1, hc1⟩, hb1⟩))
    go_ret
    exact ⟨by simp [HR.out]; omega, hb1⟩
  · have d1 : decide (s.size ≤ 3000) = false := decide_eq_false h1
    rw [d1, Bool.false_and] at hr
    have HR := Lib.hid hr
    clear hr
    go_enter Try.func21, Try.ntmps21
    go_wp2
    go_ret
    exact ⟨by rw [HR.out]; rfl, h⟩

theorem lv1 : 2 = shS ⟨#[97, 10, 98, 10]⟩ ⟨#[98, 10, 99, 10]⟩ := by decide +kernel
theorem lv2 : 50 = scS ⟨#[97, 10, 98, 10]⟩ ⟨#[98, 10, 99, 10]⟩ := by decide +kernel
theorem lv3 : 0 = scS ⟨#[97, 98]⟩ ⟨#[97, 98, 99]⟩ := by decide +kernel
theorem lv4 : 100 = scS ⟨#[]⟩ ⟨#[]⟩ := by decide +kernel
set_option maxHeartbeats 1000000 in
theorem lives_inv {W w : World} (h : Below W.heap.size W w) : Calls Try.prog 22 #[] w fun e w' => e = .returned (.bool true) ∧ Below W.heap.size W w' := by
  go_enter Try.func22, Try.ntmps22
  go_wp2_with (first
    | (go_at_call 23; ((with_reducible refine (common_inv h _ _ 2 (by decide) (by decide) lv1).mono ?_); rintro e w1 ⟨rfl, h1⟩))
    | (go_at_call 25; first
      | ((with_reducible refine (score_inv h1 ⟨#[97, 10, 98, 10]⟩ ⟨#[98, 10, 99, 10]⟩ 50 (by decide) (by decide) lv2).mono ?_); rintro e w2 ⟨rfl, h2⟩)
      | ((with_reducible refine (score_inv h2 ⟨#[97, 98]⟩ ⟨#[97, 98, 99]⟩ 0 (by decide) (by decide) lv3).mono ?_); rintro e w3 ⟨rfl, h3⟩)
      | ((with_reducible refine (score_inv h3 ⟨#[]⟩ ⟨#[]⟩ 100 (by decide) (by decide) lv4).mono ?_); rintro e w4 ⟨rfl, h4⟩)))
  go_ret
  exact ⟨rfl, h4⟩

/-- How much more often a line comes in the first k lines of the one than of the other. -/
def dif (x y : List (List UInt8)) (s : List UInt8) (k : Nat) : Int := ((x.take k).count s : Int) - ((y.take k).count s : Int)
theorem dif_le (x y : List (List UInt8)) (s : List UInt8) (k : Nat) : dif x y s k ≤ k ∧ -(k : Int) ≤ dif x y s k := by
  unfold dif
  have h1 := @List.count_le_length _ _ s (x.take k)
  have h2 := @List.count_le_length _ _ s (y.take k)
  rw [List.length_take] at h1 h2
  omega
theorem dif_next (x y : List (List UInt8)) (s : List UInt8) (k : Nat) (h : k < x.length) (h2 : k < y.length) : dif x y s (k + 1) = dif x y s k + (if x[k] = s then 1 else 0) - (if y[k] = s then 1 else 0) := by
  unfold dif
  rw [count_next x k h s, count_next y k h2 s]
  split <;> split <;> omega

set_option maxHeartbeats 4000000 in
set_option maxRecDepth 8000 in
theorem turned_inv {W w : World} (h : Below W.heap.size W w) (a b : ByteArray) (r : Bool) (ha : a.size ≤ 1048576) (hb : b.size ≤ 1048576) (hr : r = true ↔ ((split a.data.toList).length = (split b.data.toList).length ∧ ∀ l ∈ split a.data.toList, (split a.data.toList).count l = (split b.data.toList).count l)) :
    Calls Try.prog 31 #[.string a, .string b] w fun e w' => e = .returned (.bool r) ∧ Below W.heap.size W w' := by
  obtain ⟨x, hx⟩ : ∃ x, x = split a.data.toList := ⟨_, rfl⟩
  obtain ⟨y, hy⟩ : ∃ y, y = split b.data.toList := ⟨_, rfl⟩
  obtain ⟨n, hn⟩ : ∃ n, n = x.length := ⟨_, rfl⟩
  obtain ⟨m, hm⟩ : ∃ m, m = y.length := ⟨_, rfl⟩
  have hn1 : n ≤ 1048576 := by rw [hn, hx]; have := split_lines a; omega
  have hm1 : m ≤ 1048576 := by rw [hm, hy]; have := split_lines b; omega
  have HA : Hid (∀ w, Below W.heap.size W w → Calls Try.prog 32 #[.string a] w fun e w' => (∃ p cap, e = .returned (.slice p n cap) ∧ SRw w' p x ∧ n ≤ cap) ∧ Below w.heap.size w w') := fun w h => by
    have h := rSplit_any a w ha n (by rw [hn, hx])
    rw [← hx] at h
    exact h
  have HB : Hid (∀ w, Below W.heap.size W w → Calls Try.prog 32 #[.string b] w fun e w' => (∃ p cap, e = .returned (.slice p m cap) ∧ SRw w' p y ∧ m ≤ cap) ∧ Below w.heap.size w w') := fun w h => by
    have h := rSplit_any b w hb m (by rw [hm, hy])
    rw [← hy] at h
    exact h
  rw [← hx, ← hy] at hr
  have HN := Lib.hid hn
  have HM := Lib.hid hm
  have HR := Lib.hid hr
  have HH := Lib.hid h
  clear hx hy hn hm hr ha hb
  by_cases hnm : n = m
  · subst hnm
    clear hm1
    go_enter Try.func31, Try.ntmps31
    go_upto_region 2 with (go_at_call 32; ((with_reducible refine (HA.out _ h).mono ?_); rintro e w1 ⟨⟨p1, c1, rfl, hp1, hc1⟩, hb1⟩))
    have h1 := h.trans (hb1.mono h.size)
    go_upto_region 3 with (go_at_call 32; ((with_reducible refine (HB.out _ h1).mono ?_); rintro e w2 ⟨⟨p2, c2, rfl, hp2, hc2⟩, hb2⟩))
    have HP1 := Lib.hid (hp1.below hb2)
    have HP2 := Lib.hid hp2
    have HB0 := Lib.hid (h1.trans (hb2.mono h1.size))
    clear hp1 hp2 hb1 hb2 HA HB h h1 HH
    go_wp2
    go_loopw [21] (fun iv wr => ∃ (i q : Nat), i ≤ n ∧ iv = .int .i64 i ∧ Hid (wr = w2.drewN q) ∧ Hid (∀ j (hj : j < x.length), j < i → x.count x[j] = y.count x[j])) (fun iv _ => n - (intOf iv).toNat)
    case atStart => exact ⟨0, 0, by omega, rfl, rfl, fun j _ h => absurd h (Nat.not_lt_zero _)⟩
    case round =>
      obtain ⟨i, q, hi, rfl, HQ, HI⟩ := hrel
      by_cases hlt : i < n
      · have hil : i < x.length := by rw [← HN.out]; exact hlt
        obtain ⟨s, hs⟩ : ∃ s, s = x[i] := ⟨_, rfl⟩
        have HS : Hid (∀ h : i < x.length, s = x[i]) := fun _ => hs
        clear hs hil
        go_wp2
        go_loopw [8, 26] (fun dv kv wx => ∃ (k z : Nat) (D : Int), k ≤ n ∧ dv = .int .i64 D ∧ kv = .int .i64 k ∧ D ≤ 1048576 ∧ -1048576 ≤ D ∧ Hid (wx = w2.drewN z) ∧ Hid (D = dif x y s k)) (fun _ kv _ => n - (intOf kv).toNat)
        case atStart => exact ⟨0, q, 0, by omega, rfl, rfl, by omega, by omega, HQ.out, rfl⟩
        case round =>
          clear HQ
          obtain ⟨k, z, D, hk, rfl, rfl, hD1, hD2, HZ, HD⟩ := hrel
          by_cases hkn : k < n
          · have hil : i < x.length := by rw [← HN.out]; exact hlt
            have hkl : k < x.length := by rw [← HN.out]; exact hkn
            have hky : k < y.length := by rw [← HM.out]; exact hkn
            have hb2 : Below w2.heap.size w2 wr := by rw [HZ.out]; exact below_drewN (Below.refl _ _) z
            obtain ⟨g, o, hpe, hg, a0⟩ := (HP1.out.below hb2) k hkl
            obtain ⟨g', o', hpe', hg', s0⟩ := (HP1.out.below hb2) i hil
            obtain ⟨gy, oy, rfl, hgy, b0⟩ := (HP2.out.below hb2) k hky
            rw [hpe] at hpe'
            simp only [Option.some.injEq, Addr.mk.injEq, and_true] at hpe'
            obtain ⟨rfl, rfl⟩ := hpe'
            subst hpe
            rw [← HS.out hil] at s0
            have hnx := dif_next x y s k hkl hky
            rw [← HD.out] at hnx
            have hdl := dif_le x y s (k + 1)
            have hb3 := hdl.1
            have hb4 := hdl.2
            clear hb2 hg hg' hgy hdl
            by_cases h1 : x[k] = s <;> by_cases h2 : y[k] = s
            · rw [if_pos h1, if_pos h2] at hnx
              have e1 := sm_is h1
              have e2 := sm_is h2
              obtain ⟨u, hu⟩ : ∃ u, u = str x[k] := ⟨_, rfl⟩
              obtain ⟨v, hv⟩ : ∃ v, v = str y[k] := ⟨_, rfl⟩
              obtain ⟨t, ht⟩ : ∃ t, t = str s := ⟨_, rfl⟩
              rw [← hu] at a0 e1
              rw [← hv] at b0 e2
              rw [← ht] at e1 e2 s0
              obtain ⟨E, hE⟩ : ∃ E, E = dif x y s (k + 1) := ⟨_, rfl⟩
              rw [← hE] at hnx hb3 hb4
              have HE := Lib.hid hE
              have HNX := Lib.hid hnx
              have hE1 : E ≤ 1048576 := by omega
              have hE2 : -1048576 ≤ E := by omega
              clear hu hv ht hE h1 h2 hkl hky hil hnx hb3 hb4
              go_wp2
              go_quiet (fail)
              go_wp2
              go_quiet (fail)
              go_wp2
              go_roundw
              case rel => exact ⟨k + 1, _, E, by omega, by have := HNX.out; go_num, by go_num, hE1, hE2, by show _ = _; rw [HZ.out, World.drewN_drewN], HE.out⟩
              case measure => simp [intOf]; omega
            · rw [if_pos h1, if_neg h2] at hnx
              have e1 := sm_is h1
              have e2 := sm_not h2
              obtain ⟨u, hu⟩ : ∃ u, u = str x[k] := ⟨_, rfl⟩
              obtain ⟨v, hv⟩ : ∃ v, v = str y[k] := ⟨_, rfl⟩
              obtain ⟨t, ht⟩ : ∃ t, t = str s := ⟨_, rfl⟩
              rw [← hu] at a0 e1
              rw [← hv] at b0 e2
              rw [← ht] at e1 e2 s0
              obtain ⟨E, hE⟩ : ∃ E, E = dif x y s (k + 1) := ⟨_, rfl⟩
              rw [← hE] at hnx hb3 hb4
              have HE := Lib.hid hE
              have HNX := Lib.hid hnx
              have hE1 : E ≤ 1048576 := by omega
              have hE2 : -1048576 ≤ E := by omega
              clear hu hv ht hE h1 h2 hkl hky hil hnx hb3 hb4
              go_wp2
              go_quiet (fail)
              go_wp2
              go_quiet (fail)
              go_wp2
              go_roundw
              case rel => exact ⟨k + 1, _, E, by omega, by have := HNX.out; go_num, by go_num, hE1, hE2, by show _ = _; rw [HZ.out, World.drewN_drewN], HE.out⟩
              case measure => simp [intOf]; omega
            · rw [if_neg h1, if_pos h2] at hnx
              have e1 := sm_not h1
              have e2 := sm_is h2
              obtain ⟨u, hu⟩ : ∃ u, u = str x[k] := ⟨_, rfl⟩
              obtain ⟨v, hv⟩ : ∃ v, v = str y[k] := ⟨_, rfl⟩
              obtain ⟨t, ht⟩ : ∃ t, t = str s := ⟨_, rfl⟩
              rw [← hu] at a0 e1
              rw [← hv] at b0 e2
              rw [← ht] at e1 e2 s0
              obtain ⟨E, hE⟩ : ∃ E, E = dif x y s (k + 1) := ⟨_, rfl⟩
              rw [← hE] at hnx hb3 hb4
              have HE := Lib.hid hE
              have HNX := Lib.hid hnx
              have hE1 : E ≤ 1048576 := by omega
              have hE2 : -1048576 ≤ E := by omega
              clear hu hv ht hE h1 h2 hkl hky hil hnx hb3 hb4
              go_wp2
              go_quiet (fail)
              go_wp2
              go_quiet (fail)
              go_wp2
              go_roundw
              case rel => exact ⟨k + 1, _, E, by omega, by have := HNX.out; go_num, by go_num, hE1, hE2, by show _ = _; rw [HZ.out, World.drewN_drewN], HE.out⟩
              case measure => simp [intOf]; omega
            · rw [if_neg h1, if_neg h2] at hnx
              have e1 := sm_not h1
              have e2 := sm_not h2
              obtain ⟨u, hu⟩ : ∃ u, u = str x[k] := ⟨_, rfl⟩
              obtain ⟨v, hv⟩ : ∃ v, v = str y[k] := ⟨_, rfl⟩
              obtain ⟨t, ht⟩ : ∃ t, t = str s := ⟨_, rfl⟩
              rw [← hu] at a0 e1
              rw [← hv] at b0 e2
              rw [← ht] at e1 e2 s0
              obtain ⟨E, hE⟩ : ∃ E, E = dif x y s (k + 1) := ⟨_, rfl⟩
              rw [← hE] at hnx hb3 hb4
              have HE := Lib.hid hE
              have HNX := Lib.hid hnx
              have hE1 : E ≤ 1048576 := by omega
              have hE2 : -1048576 ≤ E := by omega
              clear hu hv ht hE h1 h2 hkl hky hil hnx hb3 hb4
              go_wp2
              go_quiet (fail)
              go_wp2
              go_quiet (fail)
              go_wp2
              go_roundw
              case rel => exact ⟨k + 1, _, E, by omega, by have := HNX.out; go_num, by go_num, hE1, hE2, by show _ = _; rw [HZ.out, World.drewN_drewN], HE.out⟩
              case measure => simp [intOf]; omega
          · obtain rfl : k = n := by omega
            have hD0 : D = (x.count s : Int) - (y.count s : Int) := by rw [HD.out]; unfold dif; rw [List.take_of_length_le (by have := HN.out; omega), List.take_of_length_le (by have := HM.out; omega)]
            have hil : i < x.length := by rw [← HN.out]; exact hlt
            by_cases hd : D = 0
            · have HI2 : Hid (∀ j (hj : j < x.length), j < i + 1 → x.count x[j] = y.count x[j]) := fun j hj hji => by
                rcases Nat.lt_or_ge j i with hl | hge
                · exact HI.out j hj hl
                · have e : j = i := by omega
                  subst e
                  rw [← HS.out hj]
                  omega
              have d0 : (D != 0) = false := by rw [hd]; rfl
              clear hD0 hd HD HI hil
              go_wp2
              go_roundw
              case rel => exact ⟨i + 1, z, by omega, by go_num, HZ.out, HI2.out⟩
              case measure => simp [intOf]; omega
            · have HF : Hid (r = false) := by
                show _ = _
                cases hrb : r with
                | false => rfl
                | true =>
                  have h2 := (HR.out.1 hrb).2 x[i] (List.getElem_mem hil)
                  rw [← HS.out hil] at h2
                  omega
              have d0 : (D != 0) = true := bne_iff_ne.mpr hd
              clear hD0 hd HD HI hil
              go_wp2
              go_ret
              exact ⟨by rw [HF.out]; rfl, by rw [HZ.out]; exact below_drewN HB0.out _⟩
      · obtain rfl : i = n := by omega
        have HF : Hid (r = true) := by
          refine HR.out.2 ⟨by rw [← HN.out, ← HM.out], fun l hl => ?_⟩
          obtain ⟨j, hj, rfl⟩ := List.getElem_of_mem hl
          exact HI.out j hj (by rw [HN.out]; exact hj)
        clear HI
        go_wp2
        go_ret
        exact ⟨by rw [HF.out]; rfl, by rw [HQ.out]; exact below_drewN HB0.out _⟩
  · have HF : Hid (r = false) := by
      show _ = _
      cases hrb : r with
      | false => rfl
      | true =>
        have h2 := (HR.out.1 hrb).1
        rw [← HN.out, ← HM.out] at h2
        exact absurd h2 hnm
    have d0 : ((n : Int) != (m : Int)) = true := bne_iff_ne.mpr (by omega)
    clear hnm
    go_enter Try.func31, Try.ntmps31
    go_upto_region 2 with (go_at_call 32; ((with_reducible refine (HA.out _ h).mono ?_); rintro e w1 ⟨⟨p1, c1, rfl, hp1, hc1⟩, hb1⟩))
    have h1 := h.trans (hb1.mono h.size)
    go_upto_region 3 with (go_at_call 32; ((with_reducible refine (HB.out _ h1).mono ?_); rintro e w2 ⟨⟨p2, c2, rfl, hp2, hc2⟩, hb2⟩))
    have h2 := h1.trans (hb2.mono h1.size)
    clear hp1 hp2 hb1 hb2 HA HB
    go_wp2
    go_ret
    exact ⟨by rw [HF.out]; rfl, h2⟩
end Go.Proofs.Ytddcogcjmmjpkaa
