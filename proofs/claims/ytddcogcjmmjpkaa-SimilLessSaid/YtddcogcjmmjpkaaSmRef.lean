/-
  The walks of the reference's times, Common, Score, Best and Above.
-/
import Derived.Test.YtddcogcjmmjpkaaSmScore
namespace Go.Proofs.Ytddcogcjmmjpkaa
open Go.RowKit Go.Maps Go.WideMaps

theorem sm_is {x y : List UInt8} (h : x = y) : ((str x).toList == (str y).toList) = true := by rw [h]; exact beq_self_eq_true _
theorem sm_not {x y : List UInt8} (h : x ≠ y) : ((str x).toList == (str y).toList) = false := by
  rw [ByteArray.toList_eq, ByteArray.toList_eq, str_list, str_list]
  exact beq_eq_false_iff_ne.mpr h
theorem count_next (l : List (List UInt8)) (k : Nat) (h : k < l.length) (s : List UInt8) : (l.take (k + 1)).count s = (l.take k).count s + if l[k] = s then 1 else 0 := by
  rw [take_next l k h, List.count_append, List.count_singleton]
  congr 1
  by_cases e : l[k] = s
  · simp [e]
  · rw [if_neg e, if_neg (by simpa using e)]
theorem SRw.take {w : World} {p : Option Addr} {ls : List (List UInt8)} (h : SRw w p ls) (k : Nat) : SRw w p (ls.take k) := fun i hi => by
  have h2 : i < ls.length := by rw [List.length_take] at hi; omega
  obtain ⟨g, o, rfl, hg, hc⟩ := h i h2
  exact ⟨g, o, rfl, hg, by rw [hc]; congr 3; simp⟩

set_option maxHeartbeats 1000000 in
set_option maxRecDepth 4000 in
theorem times_any (la : List (List UInt8)) (s : List UInt8) (p : Option Addr) (c n C : Nat) (t : ByteArray) (w : World) (hn : n = la.length) (hp : SRw w p la) (hl : n ≤ 1048576) (ht : t = str s) (hC : C = la.count s) :
    Calls Try.prog 62 #[.slice p n c, .string t] w fun e w' => e = .returned (.int .i64 (C : Int)) ∧ w' = w := by
  have HN := Lib.hid hn
  have HC := Lib.hid hC
  have HP := Lib.hid hp
  have HT := Lib.hid ht
  clear hn hC hp ht
  go_enter Try.func62, Try.ntmps62
  go_wp2
  go_loopw [5, 9] (fun cv iv wr => ∃ k x : Nat, k ≤ n ∧ iv = .int .i64 k ∧ cv = .int .i64 x ∧ x ≤ k ∧ wr = w ∧ Hid (x = (la.take k).count s)) (fun _ iv _ => n - (intOf iv).toNat)
  case atStart => exact ⟨0, 0, by omega, rfl, rfl, Nat.le_refl _, rfl, rfl⟩
  case round =>
    obtain ⟨k, x, hk, rfl, rfl, hxk, rfl, HX⟩ := hrel
    by_cases hlt : k < n
    · have hkl : k < la.length := by rw [← HN.out]; exact hlt
      obtain ⟨g, o, rfl, hg, a0⟩ := HP.out k hkl
      have hnx := count_next la k hkl s
      by_cases he : la[k] = s
      · rw [if_pos he, ← HX.out] at hnx
        have HNX := Lib.hid hnx.symm
        have e1 := sm_is he
        obtain ⟨u, hu⟩ : ∃ u, u = str la[k] := ⟨_, rfl⟩
        rw [← hu] at a0 e1
        rw [← HT.out] at e1
        clear hu he hkl hnx HX hg
        go_wp2
        go_roundw
        case rel => exact ⟨k + 1, x + 1, by omega, by go_num, by go_num, by omega, trivial, HNX⟩
        case measure => simp [intOf]; omega
      · rw [if_neg he, ← HX.out, Nat.add_zero] at hnx
        have HNX := Lib.hid hnx.symm
        have e1 := sm_not he
        obtain ⟨u, hu⟩ : ∃ u, u = str la[k] := ⟨_, rfl⟩
        rw [← hu] at a0 e1
        rw [← HT.out] at e1
        clear hu he hkl hnx HX hg
        go_wp2
        go_roundw
        case rel => exact ⟨k + 1, x, by omega, by go_num, rfl, by omega, trivial, HNX⟩
        case measure => simp [intOf]; omega
    · have HE : Hid (C = x) := by show _ = _; rw [HC.out, HX.out, List.take_of_length_le (by have := HN.out; omega)]
      clear HX
      go_wp2
      go_ret
      exact ⟨by rw [HE.out]; rfl, rfl⟩

theorem rsum_drop (f : List UInt8 → Nat) (x : List (List UInt8)) (k : Nat) (h : k < x.length) : rsum f (x.take k) (x.drop k) = (if x[k] ∈ x.take k then 0 else f x[k]) + rsum f (x.take (k + 1)) (x.drop (k + 1)) := by
  rw [List.drop_eq_getElem_cons h, rsum, take_next x k h]

set_option maxHeartbeats 4000000 in
set_option maxRecDepth 8000 in
theorem rcommon_any (a b : ByteArray) (r : Nat) (w : World) (ha : a.size ≤ 1048576) (hb : b.size ≤ 1048576) (hr : r = shS a b) :
    Calls Try.prog 24 #[.string a, .string b] w fun e w' => e = .returned (.int .i64 r) ∧ Below w.heap.size w w' := by
  obtain ⟨x, hx⟩ : ∃ x, x = split a.data.toList := ⟨_, rfl⟩
  obtain ⟨y, hy⟩ : ∃ y, y = split b.data.toList := ⟨_, rfl⟩
  obtain ⟨n, hn⟩ : ∃ n, n = x.length := ⟨_, rfl⟩
  obtain ⟨m, hm⟩ : ∃ m, m = y.length := ⟨_, rfl⟩
  have hn1 : n ≤ 1048576 := by rw [hn, hx]; have := split_lines a; omega
  have hm1 : m ≤ 1048576 := by rw [hm, hy]; have := split_lines b; omega
  have hr1 : r ≤ 1048576 := by rw [hr]; have := shS_le a b; omega
  have hxs : ∀ l ∈ x, l.length ≤ 1048576 := fun l hl => by rw [hx] at hl; have := split_line_le a hl; omega
  have hrr : r = rsum (part x y) (x.take 0) (x.drop 0) := by rw [hr, shS, ← hx, ← hy, shr_dd, ← rsum_dd]; rfl
  have HA : Hid (∀ w, Calls Try.prog 32 #[.string a] w fun e w' => (∃ p cap, e = .returned (.slice p n cap) ∧ SRw w' p x ∧ n ≤ cap) ∧ Below w.heap.size w w') := fun w => by
    have h := rSplit_any a w ha n (by rw [hn, hx])
    rw [← hx] at h
    exact h
  have HB : Hid (∀ w, Calls Try.prog 32 #[.string b] w fun e w' => (∃ p cap, e = .returned (.slice p m cap) ∧ SRw w' p y ∧ m ≤ cap) ∧ Below w.heap.size w w') := fun w => by
    have h := rSplit_any b w hb m (by rw [hm, hy])
    rw [← hy] at h
    exact h
  have HN := Lib.hid hn
  have HM := Lib.hid hm
  have HX := Lib.hid hxs
  have HR := Lib.hid hrr
  clear hx hy hn hm hxs hrr hr ha hb
  go_enter Try.func24, Try.ntmps24
  go_upto_region 2 with (go_at_call 32; ((with_reducible refine (HA.out _).mono ?_); rintro e w1 ⟨⟨p1, c1, rfl, hp1, hc1⟩, hb1⟩))
  go_upto_region 3 with (go_at_call 32; ((with_reducible refine (HB.out _).mono ?_); rintro e w2 ⟨⟨p2, c2, rfl, hp2, hc2⟩, hb2⟩))
  have hp1' := hp1.below hb2
  have HP1 := Lib.hid hp1'
  have HP2 := Lib.hid hp2
  have HB0 := Lib.hid (hb1.trans (hb2.mono hb1.size))
  clear hp1 hp2 hb1 hb2 hp1' HA HB
  go_wp2
  go_loopw [7, 15] (fun sv iv wr => ∃ (k S q : Nat), k ≤ n ∧ iv = .int .i64 k ∧ sv = .int .i64 S ∧ Hid (wr = w2.drewN q) ∧ Hid (r = S + rsum (part x y) (x.take k) (x.drop k))) (fun _ iv _ => n - (intOf iv).toNat)
  case atStart => exact ⟨0, 0, 0, by omega, rfl, rfl, rfl, by show _ = _; rw [Nat.zero_add]; exact HR.out⟩
  case round =>
    obtain ⟨k, S, q, hk, rfl, rfl, HQ, HS⟩ := hrel
    have HP1' : Hid (SRw wr p1 x) := by show SRw _ _ _; rw [HQ.out]; exact HP1.out.below (below_drewN (Below.refl _ _) q)
    have HP2' : Hid (SRw wr p2 y) := by show SRw _ _ _; rw [HQ.out]; exact HP2.out.below (below_drewN (Below.refl _ _) q)
    have hS1 : S ≤ 1048576 := by have := HS.out; omega
    by_cases hlt : k < n
    · have hkl : k < x.length := by rw [← HN.out]; exact hlt
      have hkc : k ≤ c1 := by omega
      obtain ⟨s, hs⟩ : ∃ s, s = x[k] := ⟨_, rfl⟩
      obtain ⟨t, ht⟩ : ∃ t, t = str s := ⟨_, rfl⟩
      have hts : t.size = s.length := by rw [ht, str_size]
      have hts1 : t.size ≤ 1048576 := by rw [hts, hs]; exact HX.out _ (List.getElem_mem hkl)
      have hrd := rsum_drop (part x y) x k hkl
      rw [← hs] at hrd
      have hmem : s ∈ x.take k ↔ ¬ (x.take k).count s = 0 := by rw [List.count_eq_zero, Classical.not_not]
      obtain ⟨C0, hC0⟩ : ∃ C, C = (x.take k).count s := ⟨_, rfl⟩
      obtain ⟨C1, hC1⟩ : ∃ C, C = x.count s := ⟨_, rfl⟩
      obtain ⟨C2, hC2⟩ : ∃ C, C = y.count s := ⟨_, rfl⟩
      have HT0 : Hid (∀ j, Calls Try.prog 62 #[.slice p1 k c1, .string t] (wr.drewN j) fun e w' => e = .returned (.int .i64 (C0 : Int)) ∧ ∃ n, w' = wr.drewN n) := fun j => (times_any (x.take k) s p1 c1 k C0 t _ (by rw [List.length_take]; omega) ((HP1'.out.below (below_drewN (Below.refl _ _) _)).take k) (by omega) ht hC0).mono fun _ _ ⟨he, hw⟩ => ⟨he, j, hw⟩
      have HT1 : Hid (∀ q j, Calls Try.prog 62 #[.slice p1 n c1, .string t] (wr.drewN (q + j)) fun e w' => e = .returned (.int .i64 (C1 : Int)) ∧ ∃ n, w' = wr.drewN (q + n)) := fun q j => (times_any x s p1 c1 n C1 t _ HN.out (HP1'.out.below (below_drewN (Below.refl _ _) _)) (by omega) ht hC1).mono fun _ _ ⟨he, hw⟩ => ⟨he, j, hw⟩
      have HT2 : Hid (∀ q j, Calls Try.prog 62 #[.slice p2 m c2, .string t] (wr.drewN (q + j)) fun e w' => e = .returned (.int .i64 (C2 : Int)) ∧ ∃ n, w' = wr.drewN (q + n)) := fun q j => (times_any y s p2 c2 m C2 t _ HM.out (HP2'.out.below (below_drewN (Below.refl _ _) _)) (by omega) ht hC2).mono fun _ _ ⟨he, hw⟩ => ⟨he, j, hw⟩
      have hc0 : C0 ≤ n := by rw [hC0]; have h := @List.count_le_length _ _ s (x.take k); rw [List.length_take] at h; omega
      have hc1n : C1 ≤ n := by rw [hC1, HN.out]; exact List.count_le_length
      have hc2m : C2 ≤ m := by rw [hC2, HM.out]; exact List.count_le_length
      obtain ⟨M, hM⟩ : ∃ M, M = min C1 C2 := ⟨_, rfl⟩
      obtain ⟨Z, hZ⟩ : ∃ Z, Z = t.size * M := ⟨_, rfl⟩
      have hpart : part x y s = Z := by rw [hZ, hM, hts, hC1, hC2]; rfl
      rw [hpart] at hrd
      rw [← hC0] at hmem
      obtain ⟨g, o, rfl, hg, a0⟩ := HP1'.out k hkl
      rw [← hs, ← ht] at a0
      by_cases h0 : C0 = 0
      · rw [if_neg (fun h => hmem.1 h h0)] at hrd
        have HS2 : Hid (r = S + Z + rsum (part x y) (x.take (k + 1)) (x.drop (k + 1))) := by show _ = _; rw [HS.out, hrd]; omega
        have hSZ : S + Z ≤ 1048576 := by have := HS2.out; omega
        have d0 : ((C0 : Int) == 0) = true := by rw [h0]; rfl
        have hmin : (if C2 < C1 then (C2 : Int) else (C1 : Int)) = (M : Int) := by split <;> omega
        have hZ2 : (t.size : Int) * (M : Int) = (Z : Int) := by rw [hZ]; simp
        have hZ3 : IntKind.i64.wrap (Z : Int) = (Z : Int) := IntWalk.i64_in _ (by omega)
        obtain ⟨V, hV⟩ : ∃ V, V = S + Z := ⟨_, rfl⟩
        rw [← hV] at HS2 hSZ
        have hV2 : (S : Int) + (Z : Int) = (V : Int) := by omega
        have hV3 : IntKind.i64.wrap (V : Int) = (V : Int) := IntWalk.i64_in _ (by omega)
        clear h0 hs ht hts hrd hmem hC0 hC1 hC2 hpart hM hZ hV hg HS hkl
        go_wp2
        go_quiet ((go_at_call 62; (with_reducible exact HT0.out _)))
        go_wp2
        go_quiet ((go_at_call 62; first | (with_reducible exact HT1.out _ _) | (with_reducible exact HT2.out _ _)))
        go_wp2
        go_roundw
        case rel => exact ⟨k + 1, V, _, by omega, by go_num, rfl, by show _ = _; rw [HQ.out, World.drewN_drewN], HS2⟩
        case measure => simp [intOf]; omega
      · rw [if_pos (hmem.2 h0), Nat.zero_add] at hrd
        have HS2 : Hid (r = S + rsum (part x y) (x.take (k + 1)) (x.drop (k + 1))) := by show _ = _; rw [HS.out, hrd]
        have d0 : ((C0 : Int) == 0) = false := by rw [beq_eq_false_iff_ne]; omega
        clear h0 hs ht hts hrd hmem hC0 hC1 hC2 hpart hM hZ hg HS hkl
        go_wp2
        go_quiet ((go_at_call 62; (with_reducible exact HT0.out _)))
        go_wp2
        go_roundw
        case rel => exact ⟨k + 1, S, _, by omega, by go_num, rfl, by show _ = _; rw [HQ.out, World.drewN_drewN], HS2⟩
        case measure => simp [intOf]; omega
    · obtain rfl : k = n := by omega
      have HE : Hid (r = S) := by
        show _ = _
        rw [HS.out, List.drop_of_length_le (by have := HN.out; omega)]
        rfl
      clear HS
      go_wp2
      go_ret
      refine ⟨by rw [HE.out]; rfl, ?_⟩
      rw [HQ.out]
      exact below_drewN HB0.out _
end Go.Proofs.Ytddcogcjmmjpkaa
