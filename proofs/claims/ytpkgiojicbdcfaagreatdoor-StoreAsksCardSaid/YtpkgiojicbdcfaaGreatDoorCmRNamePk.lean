/-
 The walk of the reference's named.
-/
import Derived.Test.YtpkgiojicbdcfaaGreatDoorCmNamePk
import Derived.Test.YtpkgiojicbdcfaaGreatDoorSoFndPk
import Derived.Test.YtpkgiojicbdcfaaGreatDoorCmIdmPk
import Derived.Deep.RegionHeld3
namespace Go.Proofs.YtpkgiojicbdcfaaGreatDoor
open Go Go.RowKit
def okB (c : UInt8) : Bool := decide (32 ≤ c.toNat) && (decide (c.toNat ≠ 60) && decide (c.toNat ≠ 62))
theorem okB_all (l : List UInt8) : (!(l.any fun b => ([60, 62] : List UInt8).contains b) && (l.all fun b => decide (32 ≤ b.toNat))) = l.all okB := by
 induction l with
 | nil => rfl
 | cons c l ih =>
  rw [List.any_cons, List.all_cons, List.all_cons, ← ih]
  have : ([60, 62] : List UInt8).contains c = !(decide (c.toNat ≠ 60) && decide (c.toNat ≠ 62)) := by
   rw [Bool.eq_iff_iff, List.contains_iff_mem]
   simp only [List.mem_cons, List.not_mem_nil, or_false, Bool.not_eq_true', Bool.and_eq_false_iff, decide_eq_false_iff_not, Decidable.not_not]
   constructor
   ·rintro (rfl | rfl)
    ·exact .inl rfl
    ·exact .inr rfl
   ·rintro (h | h)
    ·exact .inl (UInt8.toNat_inj.mp h)
    ·exact .inr (UInt8.toNat_inj.mp h)
  rw [this, okB]
  cases decide (32 ≤ c.toNat) <;> cases decide (c.toNat ≠ 60) <;> cases decide (c.toNat ≠ 62) <;> simp
theorem pre_one {c : UInt8} {l : List UInt8} : Lib.hasPrefix (c :: l) [32] = decide (c = 32) := by
 unfold Lib.hasPrefix
 rw [Bool.eq_iff_iff, List.isPrefixOf_iff_prefix, decide_eq_true_eq, List.cons_prefix_cons]
 simp [eq_comm]
theorem suf_one {c : UInt8} {l : List UInt8} : Lib.hasSuffix (l ++ [c]) [32] = decide (c = 32) := by
 unfold Lib.hasSuffix
 rw [Bool.eq_iff_iff, List.isSuffixOf_iff_suffix, decide_eq_true_eq]
 constructor
 ·rintro ⟨t, ht⟩
  have := congrArg List.getLast? ht
  simpa using this.symm
 ·rintro rfl
  exact ⟨l, rfl⟩
theorem nameB_eq (s : ByteArray) (h : 0 < s.size) : nameB s.data.toList = (decide (s.size ≤ 64) && (decide (s[0] ≠ 32) && (decide (s[s.size - 1] ≠ 32) && s.data.toList.all okB))) := by
 have hn : decide (s.data.toList ≠ []) = true := decide_eq_true (fun e => by have := list_len s; rw [e] at this; simp at this; omega)
 have hp : Lib.hasPrefix s.data.toList [32] = decide (s[0] = 32) := by
  have := drop_byte s 0 h
  rw [List.drop_zero] at this
  rw [this, pre_one]
 have hq : Lib.hasSuffix s.data.toList [32] = decide (s[s.size - 1] = 32) := by
  have := take_snoc s (s.size - 1) (by omega)
  rw [show s.size - 1 + 1 = s.size by omega, take_all] at this
  rw [this, suf_one]
 rw [nameB, hn, hp, hq, list_len, ← okB_all]
 by_cases h1 : s[0] = 32 <;> by_cases h2 : s[s.size - 1] = 32 <;> simp [h1, h2, Bool.and_assoc]
set_option maxHeartbeats 1000000 in
set_option maxRecDepth 4000 in
theorem rnamed_any (s : ByteArray) (w : World) (hs : s.size ≤ 140737488355328) :
  Calls Tryz.prog 130 #[.string s] w fun e w' => e = .returned (.bool (nameB s.data.toList)) ∧ w' = w := by
 obtain ⟨R, hR⟩ : ∃ R, R = nameB s.data.toList := ⟨_, rfl⟩
 rw [← hR]
 by_cases h1 : s.size < 1
 ·have HR : Hid (R = false) := by show _ = _; rw [hR, nameB, show s.data.toList = [] from List.eq_nil_of_length_eq_zero (by rw [list_len]; omega)]; rfl
  clear hR
  go_enter Tryz.func130, Tryz.ntmps130
  go_wp2
  go_ret
  exact ⟨by rw [HR.out]; rfl, rfl⟩
 have h0 : 0 < s.size := by omega
 have hl : s.size - 1 < s.size := by omega
 rw [nameB_eq s h0] at hR
 by_cases h2 : 64 < s.size
 ·have HR : Hid (R = false) := by show _ = _; rw [hR, decide_eq_false (show ¬ s.size ≤ 64 by omega)]; rfl
  clear hR
  go_enter Tryz.func130, Tryz.ntmps130
  go_wp2
  go_ret
  exact ⟨by rw [HR.out]; rfl, rfl⟩
 obtain ⟨x, hx⟩ : ∃ x, x = s[0] := ⟨_, rfl⟩
 obtain ⟨y, hy⟩ : ∃ y, y = s[s.size - 1] := ⟨_, rfl⟩
 have hxn : (x.toNat : Int) = 32 ↔ x = 32 := ⟨fun e => UInt8.toNat_inj.mp (by show _ = 32; omega), fun e => by rw [e]; rfl⟩
 have hyn : (y.toNat : Int) = 32 ↔ y = 32 := ⟨fun e => UInt8.toNat_inj.mp (by show _ = 32; omega), fun e => by rw [e]; rfl⟩
 rw [decide_eq_true (show s.size ≤ 64 by omega), Bool.true_and, ← hx, ← hy] at hR
 rw [hx] at hxn
 rw [hy] at hyn
 by_cases h3 : (s[0].toNat : Int) = 32
 ·have HR : Hid (R = false) := by show _ = _; rw [hR, hx, decide_eq_false (by simpa using hxn.mp h3)]; rfl
  clear hR hx hy hxn hyn
  go_enter Tryz.func130, Tryz.ntmps130
  go_wp2
  go_ret
  exact ⟨by rw [HR.out]; rfl, rfl⟩
 rw [hx, decide_eq_true (show s[0] ≠ 32 from fun e => h3 (hxn.mpr e)), Bool.true_and] at hR
 by_cases h4 : (s[s.size - 1].toNat : Int) = 32
 ·have HR : Hid (R = false) := by show _ = _; rw [hR, hy, decide_eq_false (by simpa using hyn.mp h4)]; rfl
  clear hR hx hy hxn hyn
  go_enter Tryz.func130, Tryz.ntmps130
  go_wp2
  go_ret
  exact ⟨by rw [HR.out]; rfl, rfl⟩
 rw [hy, decide_eq_true (show s[s.size - 1] ≠ 32 from fun e => h4 (hyn.mpr e)), Bool.true_and] at hR
 have HR : Hid (R = (s.data.toList.drop 0).all okB) := hR
 have e3 : ((s[0].toNat : Int) == 32) = false := beq_eq_false_iff_ne.mpr h3
 have e4 : ((s[s.size - 1].toNat : Int) == 32) = false := beq_eq_false_iff_ne.mpr h4
 have e1 : decide ((s.size : Int) < 1) = false := decide_eq_false (by omega)
 have e2 : decide (64 < (s.size : Int)) = false := decide_eq_false (by omega)
 clear hR hx hy hxn hyn h3 h4
 go_enter Tryz.func130, Tryz.ntmps130
 go_wp2
 go_loopg [3] s.size (fun g iv wx => ∃ k : Nat, k + g = s.size ∧ iv = .int .i64 k ∧ Hid (R = (s.data.toList.drop k).all okB) ∧ wx = w)
 case atStart => exact ⟨0, by omega, rfl, HR.out, rfl⟩
 case round =>
  obtain ⟨k, hk, rfl, HM, rfl⟩ := hrel
  clear HR e1 e2 e3 e4
  cases gk with
  | zero =>
   obtain rfl : k = s.size := by omega
   have HQ : Hid (R = true) := by show _ = _; rw [HM.out, List.drop_of_length_le (by rw [list_len]; exact Nat.le_refl _)]; rfl
   clear HM
   go_wp2
   go_ret
   exact ⟨by rw [HQ.out]; rfl, rfl⟩
  | succ g =>
   have hi : k < s.size := by omega
   have hM := HM.out
   rw [drop_byte s k hi, List.all_cons] at hM
   have hc : (s[k]'hi).toNat < 32 ∨ (¬ (s[k]'hi).toNat < 32 ∧ (s[k]'hi).toNat = 60) ∨ (¬ (s[k]'hi).toNat < 32 ∧ ¬ (s[k]'hi).toNat = 60 ∧ (s[k]'hi).toNat = 62) ∨ (¬ (s[k]'hi).toNat < 32 ∧ ¬ (s[k]'hi).toNat = 60 ∧ ¬ (s[k]'hi).toNat = 62) := by omega
   rcases hc with hc | ⟨c1, c2⟩ | ⟨c1, c2, c3⟩ | ⟨c1, c2, c3⟩
   ·have HQ : Hid (R = false) := by show _ = _; rw [hM, okB, decide_eq_false (by omega)]; rfl
    clear HM hM
    go_wp2
    go_ret
    exact ⟨by rw [HQ.out]; rfl, rfl⟩
   ·have HQ : Hid (R = false) := by show _ = _; rw [hM, okB]; simp [c2]
    clear HM hM
    go_wp2
    go_ret
    exact ⟨by rw [HQ.out]; rfl, rfl⟩
   ·have HQ : Hid (R = false) := by show _ = _; rw [hM, okB]; simp [c3]
    clear HM hM
    go_wp2
    go_ret
    exact ⟨by rw [HQ.out]; rfl, rfl⟩
   ·have HQ : Hid (R = (s.data.toList.drop (k + 1)).all okB) := by show _ = _; rw [hM, okB, decide_eq_true (show 32 ≤ (s[k]'hi).toNat by omega), decide_eq_true c2, decide_eq_true c3]; rfl
    have e5 : decide (((s[k]'hi).toNat : Int) < 32) = false := decide_eq_false (by omega)
    have e6 : (((s[k]'hi).toNat : Int) == 60) = false := beq_eq_false_iff_ne.mpr (by omega)
    have e7 : (((s[k]'hi).toNat : Int) == 62) = false := beq_eq_false_iff_ne.mpr (by omega)
    clear HM hM c1 c2 c3
    go_wp2
    go_roundg g
    case measure => omega
    case rel => exact ⟨k + 1, by omega, rfl, HQ.out, rfl⟩
end Go.Proofs.YtpkgiojicbdcfaaGreatDoor
/-
  The walk of the reference's Person.
-/
namespace Go.Proofs.YtpkgiojicbdcfaaGreatDoor
open Go Go.RowKit
set_option maxHeartbeats 2000000 in
set_option maxRecDepth 4000 in
theorem rperson_any (p : Pn) (w : World) (hn : p.n.size ≤ 140737488355328) (hi : p.m.size ≤ 140737488355328) :
    Calls Tryz.prog 100 #[.agg #[.string p.n, .string p.m, .int .i64 p.t, .int .i64 p.z]] w fun x w' => x = .returned (.bool (okPn p)) ∧ Below w.heap.size w w' := by
  obtain ⟨n, m, t, z⟩ := p
  simp only at hn hi ⊢
  obtain ⟨N, hN⟩ : ∃ N, N = nameB n.data.toList := ⟨_, rfl⟩
  obtain ⟨M, hM⟩ : ∃ M, M = nameB m.data.toList := ⟨_, rfl⟩
  obtain ⟨R, hR⟩ : ∃ R, R = okPn ⟨n, m, t, z⟩ := ⟨_, rfl⟩
  rw [← hR]
  have HR : Hid (R = (N && (M && (decide (0 ≤ t) && (decide (t ≤ 1099511627776) && (decide (-840 ≤ z) && decide (z ≤ 840))))))) := by
    show _ = _
    rw [hR, okPn, hN, hM]
  have HN : Hid (∀ w', Calls Tryz.prog 130 #[.string n] w' fun e w'' => e = .returned (.bool N) ∧ Below w'.heap.size w' w'') := fun w' => by
    rw [hN]
    exact (rnamed_any n w' hn).mono fun e w'' ⟨he, hw⟩ => ⟨he, by rw [hw]; exact Below.refl _ _⟩
  have HM : Hid (∀ w', Calls Tryz.prog 130 #[.string m] w' fun e w'' => e = .returned (.bool M) ∧ Below w'.heap.size w' w'') := fun w' => by
    rw [hM]
    exact (rnamed_any m w' hi).mono fun e w'' ⟨he, hw⟩ => ⟨he, by rw [hw]; exact Below.refl _ _⟩
  have hx := heap_alloc_new w (.cells #[.string n, .string m, .int .i64 t, .int .i64 z] 61)
  have hbx : Below w.heap.size w (w.alloc (.cells #[.string n, .string m, .int .i64 t, .int .i64 z] 61)) := below_new (Below.refl _ _) _
  have hbl : w.heap.size < (w.alloc (.cells #[.string n, .string m, .int .i64 t, .int .i64 z] 61)).heap.size := by simp
  obtain ⟨w1, hw1⟩ : ∃ w1, w1 = w.alloc (.cells #[.string n, .string m, .int .i64 t, .int .i64 z] 61) := ⟨_, rfl⟩
  have HW1 := Lib.hid hw1
  rw [← hw1] at hx hbx hbl
  have a0 : w1.cell? ⟨w.heap.size, 0, none⟩ = some (.string n) := cell_of_row w1 _ 0 _ _ _ hx
  have a1 : w1.cell? ⟨w.heap.size, 1, none⟩ = some (.string m) := cell_of_row w1 _ 1 _ _ _ hx
  have a2 : w1.cell? ⟨w.heap.size, 2, none⟩ = some (.int .i64 t) := cell_of_row w1 _ 2 _ _ _ hx
  have a3 : w1.cell? ⟨w.heap.size, 3, none⟩ = some (.int .i64 z) := cell_of_row w1 _ 3 _ _ _ hx
  have HB := Lib.hid hbx
  clear hN hM hR hw1 hx hbx hn hi
  rcases N with _ | _
  · have HX : Hid (R = false) := by show _ = _; rw [HR.out]; rfl
    clear HR
    go_enter Tryz.func100, Tryz.ntmps100
    go_upto_region 1 with fail
    rw [← HW1.out]
    go_wp2_with (go_at_call 130; ((with_reducible refine (HN.out _).mono ?_); rintro e w2 ⟨rfl, hb2⟩))
    go_ret
    exact ⟨by rw [HX.out]; rfl, HB.out.trans (hb2.mono HB.out.size)⟩
  rcases M with _ | _
  · have HX : Hid (R = false) := by show _ = _; rw [HR.out]; rfl
    clear HR
    go_enter Tryz.func100, Tryz.ntmps100
    go_upto_region 1 with fail
    rw [← HW1.out]
    go_wp2_with (first
      | (go_at_call 130; ((with_reducible refine (HM.out _).mono ?_); rintro e w3 ⟨rfl, hb3⟩))
      | (go_at_call 130; ((with_reducible refine (HN.out _).mono ?_); rintro e w2 ⟨rfl, hb2⟩; have b1 := cell_bel a1 hb2)))
    go_ret
    exact ⟨by rw [HX.out]; rfl, HB.out.trans ((hb2.trans (hb3.mono hb2.size)).mono HB.out.size)⟩
  have hc : (¬ 0 ≤ t) ∨ (0 ≤ t ∧ ¬ t ≤ 1099511627776) ∨ (0 ≤ t ∧ t ≤ 1099511627776 ∧ ¬ -840 ≤ z) ∨ (0 ≤ t ∧ t ≤ 1099511627776 ∧ -840 ≤ z ∧ ¬ z ≤ 840) ∨ (0 ≤ t ∧ t ≤ 1099511627776 ∧ -840 ≤ z ∧ z ≤ 840) := by omega
  have HX : Hid (R = decide (0 ≤ t ∧ t ≤ 1099511627776 ∧ -840 ≤ z ∧ z ≤ 840)) := by
    show _ = _
    rw [HR.out]
    simp
  clear HR
  rcases hc with h1 | ⟨h1, h2⟩ | ⟨h1, h2, h3⟩ | ⟨h1, h2, h3, h4⟩ | ⟨h1, h2, h3, h4⟩
  all_goals
    go_enter Tryz.func100, Tryz.ntmps100
    go_upto_region 1 with fail
    rw [← HW1.out]
    go_wp2_with (first
      | (go_at_call 130; ((with_reducible refine (HM.out _).mono ?_); rintro e w3 ⟨rfl, hb3⟩; have c2 := cell_bel b2 hb3; have c3 := cell_bel b3 hb3))
      | (go_at_call 130; ((with_reducible refine (HN.out _).mono ?_); rintro e w2 ⟨rfl, hb2⟩; have b1 := cell_bel a1 hb2; have b2 := cell_bel a2 hb2; have b3 := cell_bel a3 hb2)))
    go_ret
    refine ⟨?_, HB.out.trans ((hb2.trans (hb3.mono hb2.size)).mono HB.out.size)⟩
    first
      | (have hy : R = true := by rw [HX.out]; exact decide_eq_true (by omega)
         rw [hy]; rfl)
      | (have hy : R = false := by rw [HX.out]; exact decide_eq_false (by omega)
         rw [hy]; rfl)
      | (have hy : R = decide (z ≤ 840) := by rw [HX.out, Bool.eq_iff_iff]; simp only [decide_eq_true_eq]; omega
         rw [hy]; rfl)
end Go.Proofs.YtpkgiojicbdcfaaGreatDoor
/-
  The walk of the reference's ParseWho.
-/
namespace Go.Proofs.YtpkgiojicbdcfaaGreatDoor
open Go Go.RowKit
theorem findI_zero (l t : List UInt8) : findI l t 0 = Lib.index l t := by
  unfold findI
  rw [List.drop_zero]
  by_cases h : Lib.index l t = -1
  · simp [h]
  · have : (Lib.index l t == -1) = false := by rw [beq_eq_false_iff_ne]; exact h
    simp [this]
theorem findI_cut {l t : List UInt8} {i : Nat} (h : (Lib.cut (l.drop i) t).2.2 = true) : findI l t i = ((i + (Lib.cut (l.drop i) t).1.length : Nat) : Int) := by
  have h1 := (ccut_yes h).2.2
  have : (Lib.index (l.drop i) t == -1) = false := by rw [beq_eq_false_iff_ne, h1]; omega
  unfold findI
  rw [this, h1]
  simp
  omega
theorem findI_none {l t : List UInt8} {i : Nat} (h : (Lib.cut (l.drop i) t).2.2 = false) : findI l t i = -1 := by
  unfold findI
  rw [(ccut_no h).2]
  rfl
theorem index_two (r : List UInt8) : Lib.index (32 :: 60 :: r) [62, 32] = if Lib.index r [62, 32] = -1 then -1 else Lib.index r [62, 32] + 2 := by
  have h1 : List.isPrefixOf ([62, 32] : List UInt8) (32 :: 60 :: r) = false := by simp [List.isPrefixOf]
  have h2 : List.isPrefixOf ([62, 32] : List UInt8) (60 :: r) = false := by simp [List.isPrefixOf]
  have hge := Lib.index_ge r [62, 32]
  rw [Lib.index, h1, Lib.index, h2]
  by_cases h : Lib.index r [62, 32] = -1
  · simp [h]
  · have e1 : (Lib.index r [62, 32] == -1) = false := by rw [beq_eq_false_iff_ne]; exact h
    have e2 : (Lib.index r [62, 32] + 1 == -1) = false := by rw [beq_eq_false_iff_ne]; omega
    simp only [e1, e2, Bool.false_eq_true, if_false, h]
    omega
theorem whoR_none {l : List UInt8} (h : whoZ l = []) : whoR l = (2, Pn.zero) := by
  rw [whoR, h, codeW, if_pos (.inr (.inl rfl))]
theorem ext_all (s : ByteArray) (a b : Nat) (x y z : List UInt8) (h : s.data.toList = x ++ (y ++ z)) (ha : a = x.length) (hb : b = x.length + y.length) : s.extract a b = str y := by
  refine ba_ext ?_
  rw [ext_bytes, h, ha, hb, str_list, List.drop_left, Nat.add_sub_cancel_left, List.take_left]
theorem ib_anyW (c : UInt8) : ∀ l : List UInt8, decide (0 ≤ Lib.indexByte l c) = l.any fun b => b == c
  | [] => rfl
  | b :: l => by
    have ih := ib_anyW c l
    rw [Lib.indexByte, List.any_cons]
    cases hb : b == c with
    | true => simp
    | false =>
      rw [← ih]
      by_cases h : Lib.indexByte l c = -1
      · rw [h]; rfl
      · have h1 : (Lib.indexByte l c == -1) = false := by rw [beq_eq_false_iff_ne]; exact h
        rw [h1]
        simp only [Bool.false_eq_true, if_false, Bool.false_or]
        rw [Bool.eq_iff_iff, decide_eq_true_eq, decide_eq_true_eq]
        have h2 : -1 ≤ Lib.indexByte l c := by
          have := Lib.index_ge l [c]
          rwa [Lib.index_one] at this
        omega
theorem angle_find (l : List UInt8) : angle l = (decide (0 ≤ Lib.index l [60]) || decide (0 ≤ Lib.index l [62])) := by
  rw [Lib.index_one, Lib.index_one, ib_anyW, ib_anyW]
  unfold angle
  induction l with
  | nil => rfl
  | cons b l ih =>
    simp only [List.any_cons, ih]
    have : ([60, 62] : List UInt8).contains b = ((b == 60) || (b == 62)) := by
      rw [List.contains_cons, List.contains_cons, List.contains_nil, Bool.or_false]
    rw [this]
    cases b == 60 <;> cases b == 62 <;> simp
theorem drop_at {α : Type} {l x y : List α} (h : l = x ++ y) : l.drop x.length = y := by
  subst h
  exact List.drop_left
theorem who_at (l : List UInt8) :
    (findI l [32, 60] 0 = -1 ∧ whoR l = (2, Pn.zero)) ∨
    ∃ a : Nat, findI l [32, 60] 0 = (a : Int) ∧ a ≤ l.length ∧
      ((findI l [62, 32] a = -1 ∧ whoR l = (2, Pn.zero)) ∨
       ∃ b : Nat, findI l [62, 32] a = (b : Int) ∧ a + 2 ≤ b ∧ b ≤ l.length ∧
        ((findI l [32] (b + 2) = -1 ∧ whoR l = (2, Pn.zero)) ∨
         ∃ c : Nat, findI l [32] (b + 2) = (c : Int) ∧ b + 2 ≤ c ∧ c + 1 ≤ l.length ∧
          l = whoN l ++ ([32, 60] ++ (whoM l ++ ([62, 32] ++ (whoT l ++ ([32] ++ whoZ l))))) ∧ a = (whoN l).length ∧ b = (whoN l).length + 2 + (whoM l).length ∧ c = (whoN l).length + 2 + (whoM l).length + 2 + (whoT l).length)) := by
  cases f1 : (Lib.cut l [32, 60]).2.2 with
  | false =>
    left
    refine ⟨by rw [findI_zero]; exact (ccut_no f1).2, whoR_none ?_⟩
    unfold whoZ
    rw [(ccut_no f1).1, ccut_nil1, ccut_nil2]
  | true =>
    right
    have s1 := (ccut_yes f1).1
    refine ⟨(whoN l).length, by rw [findI_zero]; exact (ccut_yes f1).2.2, ?_, ?_⟩
    · have := congrArg List.length s1
      simp only [List.length_append] at this
      show (Lib.cut l [32, 60]).1.length ≤ _
      omega
    have hd : l.drop (whoN l).length = 32 :: 60 :: (Lib.cut l [32, 60]).2.1 := by
      show l.drop (Lib.cut l [32, 60]).1.length = _
      exact drop_at s1
    cases f2 : (Lib.cut (Lib.cut l [32, 60]).2.1 [62, 32]).2.2 with
    | false =>
      left
      refine ⟨?_, whoR_none ?_⟩
      · unfold findI
        rw [hd, index_two, if_pos (ccut_no f2).2]
        rfl
      · unfold whoZ
        rw [(ccut_no f2).1, ccut_nil2]
    | true =>
      right
      have s2 := (ccut_yes f2).1
      have i2 := (ccut_yes f2).2.2
      have hM : (whoM l) = (Lib.cut (Lib.cut l [32, 60]).2.1 [62, 32]).1 := rfl
      have hb : findI l [62, 32] (whoN l).length = (((whoN l).length + 2 + (whoM l).length : Nat) : Int) := by
        have hi : Lib.index (l.drop (whoN l).length) [62, 32] = ((whoM l).length : Int) + 2 := by
          rw [hd, index_two, i2, if_neg (by omega)]
          rfl
        have : (((whoM l).length : Int) + 2 == -1) = false := by rw [beq_eq_false_iff_ne]; omega
        unfold findI
        rw [hi, this]
        simp
        omega
      have hl2 : l.length = (whoN l).length + 2 + (whoM l).length + 2 + (Lib.cut (Lib.cut l [32, 60]).2.1 [62, 32]).2.1.length := by
        have h1 := congrArg List.length s1
        have h2 := congrArg List.length s2
        have hN : (whoN l).length = (Lib.cut l [32, 60]).1.length := rfl
        simp only [List.length_append, List.length_cons, List.length_nil] at h1 h2
        rw [hM, hN]
        omega
      refine ⟨_, hb, by omega, by omega, ?_⟩
      have hd2 : l.drop ((whoN l).length + 2 + (whoM l).length + 2) = (Lib.cut (Lib.cut l [32, 60]).2.1 [62, 32]).2.1 := by
        rw [show (whoN l).length + 2 + (whoM l).length + 2 = (whoN l).length + (2 + ((whoM l).length + 2)) by omega, ← List.drop_drop, hd, ← List.drop_drop]
        show List.drop ((whoM l).length + 2) (Lib.cut l [32, 60]).2.1 = _
        rw [← List.drop_drop, hM]
        rw [drop_at s2]
        rfl
      cases f3 : (Lib.cut (Lib.cut (Lib.cut l [32, 60]).2.1 [62, 32]).2.1 [32]).2.2 with
      | false =>
        left
        refine ⟨?_, whoR_none ?_⟩
        · unfold findI
          rw [hd2, (ccut_no f3).2]
          rfl
        · unfold whoZ
          rw [(ccut_no f3).1]
      | true =>
        right
        have s3 := (ccut_yes f3).1
        have i3 := (ccut_yes f3).2.2
        have hT : (whoT l) = (Lib.cut (Lib.cut (Lib.cut l [32, 60]).2.1 [62, 32]).2.1 [32]).1 := rfl
        have hc : findI l [32] ((whoN l).length + 2 + (whoM l).length + 2) = (((whoN l).length + 2 + (whoM l).length + 2 + (whoT l).length : Nat) : Int) := by
          unfold findI
          rw [hd2, i3, hT]
          have : (((Lib.cut (Lib.cut (Lib.cut l [32, 60]).2.1 [62, 32]).2.1 [32]).1.length : Int) == -1) = false := by rw [beq_eq_false_iff_ne]; omega
          rw [this]
          simp
          omega
        have h3 := congrArg List.length s3
        simp only [List.length_append, List.length_cons, List.length_nil] at h3
        refine ⟨_, hc, by omega, by rw [hT]; omega, ?_, rfl, rfl, rfl⟩
        show l = (Lib.cut l [32, 60]).1 ++ ([32, 60] ++ ((Lib.cut (Lib.cut l [32, 60]).2.1 [62, 32]).1 ++ ([62, 32] ++ ((Lib.cut (Lib.cut (Lib.cut l [32, 60]).2.1 [62, 32]).2.1 [32]).1 ++ ([32] ++ (Lib.cut (Lib.cut (Lib.cut l [32, 60]).2.1 [62, 32]).2.1 [32]).2.1)))))
        rw [← s3, ← s2, ← s1]
end Go.Proofs.YtpkgiojicbdcfaaGreatDoor
/-
 The walk of the reference's ParseWho.
-/
namespace Go.Proofs.YtpkgiojicbdcfaaGreatDoor
open Go Go.RowKit
set_option maxHeartbeats 8000000 in
set_option maxRecDepth 8000 in
theorem rwhop_any (s : ByteArray) (w : World) (hs : s.size ≤ 1048576) : Calls Tryz.prog 122 #[.string s] w (WhoR (whoR s.data.toList) w) := by
 obtain ⟨R, hR⟩ : ∃ R, R = whoR s.data.toList := ⟨_, rfl⟩
 have hR0 := hR
 rw [← hR]
 have hat := who_at s.data.toList
 rw [← hR] at hat
 have hx := heap_alloc_new w (.cells #[.string ⟨#[]⟩, .string ⟨#[]⟩, .int .i64 0, .int .i64 0] 61)
 obtain ⟨w1, hw1⟩ : ∃ w1, w1 = w.alloc (.cells #[.string ⟨#[]⟩, .string ⟨#[]⟩, .int .i64 0, .int .i64 0] 61) := ⟨_, rfl⟩
 have hbx : Below w.heap.size w w1 := by rw [hw1]; exact below_new (Below.refl _ _) _
 rw [← hw1] at hx
 have HW1 := Lib.hid hw1
 have HRW := Lib.hid hx
 have HBX := Lib.hid hbx
 obtain ⟨y0, y1, y2, y3, z0, z1, z2, z3⟩ := pn_end hx
 have h1 : Hid (∀ w', Calls Tryz.prog 120 #[.string s, .string ⟨#[32, 60]⟩, .int .i64 ((0 : Nat) : Int)] w' fun e w'' => e = .returned (.int .i64 (findI s.data.toList [32, 60] 0)) ∧ w'' = w') := fun w' => rfnd_any s ⟨#[32, 60]⟩ 0 w' (by decide) (by decide) (by omega) (by omega)
 have h2 : Hid (∀ a : Nat, a ≤ s.size → ∀ w', Calls Tryz.prog 120 #[.string s, .string ⟨#[62, 32]⟩, .int .i64 (a : Int)] w' fun e w'' => e = .returned (.int .i64 (findI s.data.toList [62, 32] a)) ∧ w'' = w') := fun a ha w' => rfnd_any s ⟨#[62, 32]⟩ a w' (by decide) (by decide) (by omega) (by omega)
 have h3 : Hid (∀ a : Nat, a ≤ s.size + 2 → ∀ w', Calls Tryz.prog 120 #[.string s, .string ⟨#[32]⟩, .int .i64 (a : Int)] w' fun e w'' => e = .returned (.int .i64 (findI s.data.toList [32] a)) ∧ w'' = w') := fun a ha w' => rfnd_any s ⟨#[32]⟩ a w' (by decide) (by decide) (by omega) (by omega)
 clear hx hbx hw1
 rcases hat with ⟨ha, hq⟩ | ⟨a, ha, hal, hat⟩
 ·have HQ := Lib.hid hq
  have HF1 : Hid (∀ w', Calls Tryz.prog 120 #[.string s, .string ⟨#[32, 60]⟩, .int .i64 0] w' fun e w'' => e = .returned (.int .i64 (-1)) ∧ w' = w'') := fun w' => (h1.out w').mono fun e w'' ⟨he, hw⟩ => ⟨by rw [he, ha], hw.symm⟩
  have HF2 := HF1
  have HF3 := HF1
  clear ha hq h1 h2 h3 hR hR0
  go_enter Tryz.func122, Tryz.ntmps122
  go_upto_region 1 with fail
  rw [← HW1.out]
  go_wp2_with (go_at_call 120; first
   | ((with_reducible refine (HF1.out _).mono ?_); rintro e wa ⟨rfl, rfl⟩)
   | ((with_reducible refine (HF2.out _).mono ?_); rintro e wb ⟨rfl, rfl⟩)
   | ((with_reducible refine (HF3.out _).mono ?_); rintro e wc ⟨rfl, rfl⟩))
  obtain ⟨d0, d1, d2, d3, _⟩ := pn_end (pn_row (v0 := .string ⟨#[]⟩) (v1 := .string ⟨#[]⟩) (v2 := .int .i64 0) (v3 := .int .i64 0) HRW.out)
  refine bodyPost_ret (v := .tuple #[.agg #[.string ⟨#[]⟩, .string ⟨#[]⟩, .int .i64 0, .int .i64 0], .int .i64 2]) (by simp [results, Tryz.results122, go_sem, d0, d1, d2, d3]) rfl (whoR_bad HQ.out (set4_below HBX.out (Nat.le_refl _)))
 have HF1 : Hid (∀ w', Calls Tryz.prog 120 #[.string s, .string ⟨#[32, 60]⟩, .int .i64 0] w' fun e w'' => e = .returned (.int .i64 (a : Int)) ∧ w' = w'') := fun w' => (h1.out w').mono fun e w'' ⟨he, hw⟩ => ⟨by rw [he, ha], hw.symm⟩
 rw [list_len] at hal
 rcases hat with ⟨hb, hq⟩ | ⟨b, hb, hb1, hb2, hat⟩
 ·have HQ := Lib.hid hq
  have HF2 : Hid (∀ w', Calls Tryz.prog 120 #[.string s, .string ⟨#[62, 32]⟩, .int .i64 (a : Int)] w' fun e w'' => e = .returned (.int .i64 (-1)) ∧ w' = w'') := fun w' => (h2.out a hal w').mono fun e w'' ⟨he, hw⟩ => ⟨by rw [he, hb], hw.symm⟩
  have HF3 := HF1
  clear ha hb hq h1 h2 h3 hR hR0
  go_enter Tryz.func122, Tryz.ntmps122
  go_upto_region 1 with fail
  rw [← HW1.out]
  go_wp2_with (go_at_call 120; first
   | ((with_reducible refine (HF1.out _).mono ?_); rintro e wa ⟨rfl, rfl⟩)
   | ((with_reducible refine (HF2.out _).mono ?_); rintro e wb ⟨rfl, rfl⟩)
   | ((with_reducible refine (HF3.out _).mono ?_); rintro e wc ⟨rfl, rfl⟩))
  obtain ⟨d0, d1, d2, d3, _⟩ := pn_end (pn_row (v0 := .string ⟨#[]⟩) (v1 := .string ⟨#[]⟩) (v2 := .int .i64 0) (v3 := .int .i64 0) HRW.out)
  refine bodyPost_ret (v := .tuple #[.agg #[.string ⟨#[]⟩, .string ⟨#[]⟩, .int .i64 0, .int .i64 0], .int .i64 2]) (by simp [results, Tryz.results122, go_sem, d0, d1, d2, d3]) rfl (whoR_bad HQ.out (set4_below HBX.out (Nat.le_refl _)))
 have HF2 : Hid (∀ w', Calls Tryz.prog 120 #[.string s, .string ⟨#[62, 32]⟩, .int .i64 (a : Int)] w' fun e w'' => e = .returned (.int .i64 (b : Int)) ∧ w' = w'') := fun w' => (h2.out a hal w').mono fun e w'' ⟨he, hw⟩ => ⟨by rw [he, hb], hw.symm⟩
 rw [list_len] at hb2
 obtain ⟨b2, hbb⟩ : ∃ b2, b2 = b + 2 := ⟨_, rfl⟩
 have eb2 : (b : Int) + 2 = (b2 : Int) := by omega
 rw [← hbb] at hat
 rcases hat with ⟨hc, hq⟩ | ⟨c, hc, hc1, hc2, hl, ea, eb, ec⟩
 ·have HQ := Lib.hid hq
  have HF3 : Hid (∀ w', Calls Tryz.prog 120 #[.string s, .string ⟨#[32]⟩, .int .i64 (b2 : Int)] w' fun e w'' => e = .returned (.int .i64 (-1)) ∧ w' = w'') := fun w' => (h3.out b2 (by omega) w').mono fun e w'' ⟨he, hw⟩ => ⟨by rw [he, hc], hw.symm⟩
  clear ha hb hc hq h1 h2 h3 hbb hR hR0
  go_enter Tryz.func122, Tryz.ntmps122
  go_upto_region 1 with fail
  rw [← HW1.out]
  go_wp2_with (go_at_call 120; first
   | ((with_reducible refine (HF1.out _).mono ?_); rintro e wa ⟨rfl, rfl⟩)
   | ((with_reducible refine (HF2.out _).mono ?_); rintro e wb ⟨rfl, rfl⟩)
   | ((with_reducible refine (HF3.out _).mono ?_); rintro e wc ⟨rfl, rfl⟩))
  obtain ⟨d0, d1, d2, d3, _⟩ := pn_end (pn_row (v0 := .string ⟨#[]⟩) (v1 := .string ⟨#[]⟩) (v2 := .int .i64 0) (v3 := .int .i64 0) HRW.out)
  refine bodyPost_ret (v := .tuple #[.agg #[.string ⟨#[]⟩, .string ⟨#[]⟩, .int .i64 0, .int .i64 0], .int .i64 2]) (by simp [results, Tryz.results122, go_sem, d0, d1, d2, d3]) rfl (whoR_bad HQ.out (set4_below HBX.out (Nat.le_refl _)))
 have HF3 : Hid (∀ w', Calls Tryz.prog 120 #[.string s, .string ⟨#[32]⟩, .int .i64 (b2 : Int)] w' fun e w'' => e = .returned (.int .i64 (c : Int)) ∧ w' = w'') := fun w' => (h3.out b2 (by omega) w').mono fun e w'' ⟨he, hw⟩ => ⟨by rw [he, hc], hw.symm⟩
 rw [list_len] at hc2
 obtain ⟨n, hn⟩ : ∃ n, n = str (whoN s.data.toList) := ⟨_, rfl⟩
 obtain ⟨m, hm⟩ : ∃ m, m = str (whoM s.data.toList) := ⟨_, rfl⟩
 obtain ⟨d, hd⟩ : ∃ d, d = str (whoT s.data.toList) := ⟨_, rfl⟩
 obtain ⟨g, hg⟩ : ∃ g, g = str (whoZ s.data.toList) := ⟨_, rfl⟩
 obtain ⟨a2, haa⟩ : ∃ a2, a2 = a + 2 := ⟨_, rfl⟩
 obtain ⟨c1, hcc⟩ : ∃ c1, c1 = c + 1 := ⟨_, rfl⟩
 have ea2 : (a : Int) + 2 = (a2 : Int) := by omega
 have ec1 : (c : Int) + 1 = (c1 : Int) := by omega
 have en : s.extract 0 a = n := by rw [hn]; exact ext_all s 0 a [] _ _ hl rfl (by simp [ea])
 have em : s.extract a2 b = m := by
  rw [hm]
  refine ext_all s a2 b (whoN s.data.toList ++ [32, 60]) (whoM s.data.toList) ([62, 32] ++ (whoT s.data.toList ++ ([32] ++ whoZ s.data.toList))) ?_ ?_ ?_
  ·rw [List.append_assoc]; exact hl
  ·simp; omega
  ·simp; omega
 have ed : s.extract b2 c = d := by
  rw [hd]
  refine ext_all s b2 c (whoN s.data.toList ++ ([32, 60] ++ (whoM s.data.toList ++ [62, 32]))) (whoT s.data.toList) ([32] ++ whoZ s.data.toList) ?_ ?_ ?_
  ·simp only [List.append_assoc]; exact hl
  ·simp; omega
  ·simp; omega
 have hsz : s.size = (whoN s.data.toList).length + 2 + (whoM s.data.toList).length + 2 + (whoT s.data.toList).length + 1 + (whoZ s.data.toList).length := by
  have := congrArg List.length hl
  rw [list_len] at this
  simp only [List.length_append, List.length_cons, List.length_nil] at this
  omega
 have eg : s.extract c1 s.size = g := by
  rw [hg]
  refine ext_all s c1 s.size (whoN s.data.toList ++ ([32, 60] ++ (whoM s.data.toList ++ ([62, 32] ++ (whoT s.data.toList ++ [32]))))) (whoZ s.data.toList) [] ?_ ?_ ?_
  ·simp only [List.append_assoc, List.append_nil]; exact hl
  ·simp; omega
  ·simp; omega
 obtain ⟨I, hI⟩ : ∃ I, I = timeI d.data.toList := ⟨_, rfl⟩
 obtain ⟨T, hT⟩ : ∃ T, T = timeB d.data.toList := ⟨_, rfl⟩
 obtain ⟨K, hK⟩ : ∃ K, K = zoneI g.data.toList := ⟨_, rfl⟩
 obtain ⟨B, hB⟩ : ∃ B, B = zoneB g.data.toList := ⟨_, rfl⟩
 obtain ⟨O, hO⟩ : ∃ O, O = okPn ⟨n, m, I, K⟩ := ⟨_, rfl⟩
 obtain ⟨u1, hu1⟩ : ∃ u, u = Lib.index n.data.toList [60] := ⟨_, rfl⟩
 obtain ⟨u2, hu2⟩ : ∃ u, u = Lib.index n.data.toList [62] := ⟨_, rfl⟩
 obtain ⟨u3, hu3⟩ : ∃ u, u = Lib.index m.data.toList [60] := ⟨_, rfl⟩
 obtain ⟨u4, hu4⟩ : ∃ u, u = Lib.index m.data.toList [62] := ⟨_, rfl⟩
 have HR : Hid (R = codeW T B (decide (0 ≤ u1) || decide (0 ≤ u2) || decide (0 ≤ u3) || decide (0 ≤ u4)) O ⟨n, m, I, K⟩) := by
  show _ = _
  have e5 : whoP s.data.toList = ⟨n, m, I, K⟩ := by rw [whoP, hI, hK, hn, hm, hd, hg]; rfl
  have e6 : angle (whoN s.data.toList ++ whoM s.data.toList) = (decide (0 ≤ u1) || decide (0 ≤ u2) || decide (0 ≤ u3) || decide (0 ≤ u4)) := by
   rw [angle_app, angle_find, angle_find, hu1, hu2, hu3, hu4, hn, hm, str_list, str_list, Bool.or_assoc, Bool.or_assoc, Bool.or_assoc]
  rw [hR0, whoR, e5, e6, hT, hB, hO, hd, hg]
  rfl
 have hds : d.size ≤ s.size ∧ g.size ≤ s.size ∧ n.size ≤ s.size ∧ m.size ≤ s.size := by
  rw [hd, hg, hn, hm, str_size, str_size, str_size, str_size]
  omega
 have HN60 : Hid (∀ w', Calls Tryz.prog 120 #[.string n, .string ⟨#[60]⟩, .int .i64 0] w' fun e w'' => e = .returned (.int .i64 u1) ∧ w' = w'') := fun w' => (rfnd_any n ⟨#[60]⟩ 0 w' (by decide) (by decide) (by omega) (by omega)).mono fun e w'' ⟨he, hw⟩ => ⟨by rw [he, hu1, findI_zero], hw.symm⟩
 have HN62 : Hid (∀ w', Calls Tryz.prog 120 #[.string n, .string ⟨#[62]⟩, .int .i64 0] w' fun e w'' => e = .returned (.int .i64 u2) ∧ w' = w'') := fun w' => (rfnd_any n ⟨#[62]⟩ 0 w' (by decide) (by decide) (by omega) (by omega)).mono fun e w'' ⟨he, hw⟩ => ⟨by rw [he, hu2, findI_zero], hw.symm⟩
 have HM60 : Hid (∀ w', Calls Tryz.prog 120 #[.string m, .string ⟨#[60]⟩, .int .i64 0] w' fun e w'' => e = .returned (.int .i64 u3) ∧ w' = w'') := fun w' => (rfnd_any m ⟨#[60]⟩ 0 w' (by decide) (by decide) (by omega) (by omega)).mono fun e w'' ⟨he, hw⟩ => ⟨by rw [he, hu3, findI_zero], hw.symm⟩
 have HM62 : Hid (∀ w', Calls Tryz.prog 120 #[.string m, .string ⟨#[62]⟩, .int .i64 0] w' fun e w'' => e = .returned (.int .i64 u4) ∧ w' = w'') := fun w' => (rfnd_any m ⟨#[62]⟩ 0 w' (by decide) (by decide) (by omega) (by omega)).mono fun e w'' ⟨he, hw⟩ => ⟨by rw [he, hu4, findI_zero], hw.symm⟩
 have HD : Hid (∀ w', Calls Tryz.prog 141 #[.string d] w' fun e w'' => e = .returned (.bool T) ∧ w' = w'') := fun w' => (rdigs_any d w' (by omega)).mono fun e w'' ⟨he, hw⟩ => ⟨by rw [he, hT], hw.symm⟩
 have HZ : Hid (∀ w', Calls Tryz.prog 140 #[.string g] w' fun e w'' => e = .returned (.tuple #[.int .i64 K, .bool B]) ∧ w' = w'') := fun w' => (rzone_any g w' (by omega)).mono fun e w'' ⟨he, hw⟩ => ⟨by rw [he, hK, hB], hw.symm⟩
 have HP : Hid (∀ w', Calls Tryz.prog 100 #[.agg #[.string n, .string m, .int .i64 I, .int .i64 K]] w' fun e w'' => e = .returned (.bool O) ∧ Below w'.heap.size w' w'') := fun w' => by rw [hO]; exact rperson_any ⟨n, m, I, K⟩ w' (by simp only; omega) (by simp only; omega)
 have hdV : T = true → ∃ v : Nat, Lib.decFrom 0 d.data.toList = some v ∧ v < 1000000000000000000 ∧ I = (v : Int) := fun h => by
  rw [hT] at h
  obtain ⟨v, hv⟩ := Option.isSome_iff_exists.mp h
  refine ⟨v, ?_, by have := numK_lt hv; omega, by rw [hI, timeI, hv]⟩
  unfold numR at hv
  split at hv
  ·cases hv
  ·exact hv
 have HV : Hid (T = true → ∀ w', Calls Tryz.prog 142 #[.string d] w' fun e w'' => e = .returned (.int .i64 I) ∧ w' = w'') := fun h w' => by
  obtain ⟨v, h1, h2, h3⟩ := hdV h
  exact (rvalue_any d v w' h1 h2 (by omega)).mono fun e w'' ⟨he, hw⟩ => ⟨by rw [he, h3], hw.symm⟩
 have l1 : (a : Int) ≤ (s.size : Int) := by omega
 have l2 : (a2 : Int) ≤ (b : Int) := by omega
 have l3 : (b : Int) ≤ (s.size : Int) := by omega
 have l4 : (c1 : Int) ≤ (s.size : Int) := by omega
 have l5 : (b2 : Int) ≤ (c : Int) := by omega
 have l6 : (c : Int) ≤ (s.size : Int) := by omega
 have m1 : a ≤ s.size := by omega
 have m2 : a2 ≤ b := by omega
 have m3 : b ≤ s.size := by omega
 have m4 : c1 ≤ s.size := by omega
 have m5 : b2 ≤ c := by omega
 have m6 : c ≤ s.size := by omega
 have w2 : IntKind.i64.wrap ((a : Int) + 2) = (a2 : Int) := by rw [IntWalk.i64_in _ (by omega)]; omega
 have w3 : IntKind.i64.wrap ((b : Int) + 2) = (b2 : Int) := by rw [IntWalk.i64_in _ (by omega)]; omega
 have w4 : IntKind.i64.wrap ((c : Int) + 1) = (c1 : Int) := by rw [IntWalk.i64_in _ (by omega)]; omega
 clear hR hR0 hdV hn hm hd hg hI hT hK hB hO hu1 hu2 hu3 hu4 hsz hl ea eb ec ha hb hc h1 h2 h3 hbb haa hcc hal hb1 hb2 hc1 hc2 hds
 go_enter Tryz.func122, Tryz.ntmps122
 go_upto_region 1 with fail
 rw [← HW1.out]
 go_upto_region 10 with (go_at_call 120; first
 | ((with_reducible refine (HF1.out _).mono ?_); rintro e wa ⟨rfl, rfl⟩)
 | ((with_reducible refine (HF2.out _).mono ?_); rintro e wb ⟨rfl, rfl⟩)
 | ((with_reducible refine (HF3.out _).mono ?_); rintro e wc ⟨rfl, rfl⟩))
 have one : Below w1.heap.size w1 w1.drew := (Below.refl _ _).drew
 go_region
 obtain ⟨P, hP⟩ : ∃ P, P = w1.heap.size := ⟨_, rfl⟩
 obtain ⟨w2, hw2⟩ : ∃ w2, w2 = (w1.alloc (.cells #[.string n, .string m, .int .i64 0, .int .i64 0] 61)).drew := ⟨_, rfl⟩
 have hb2 : Below w1.heap.size w1 w2 := by rw [hw2]; exact (below_new (Below.refl _ _) _).drew
 have hp2 : w2.heap[P]? = some (.cells #[.string n, .string m, .int .i64 0, .int .i64 0] 61 (0, 0)) := by rw [hw2, hP]; exact heap_alloc_new w1 _
 have hr2 := (hb2.block _ (row_lt HRW.out)).trans HRW.out
 have hPA : w.heap.size < P := by rw [hP]; exact row_lt HRW.out
 rw [← hw2, ← hP]
 have HP2 := Lib.hid hp2
 have HRW1 := HRW
 clear HRW
 have HRW := Lib.hid hr2
 have HBB := Lib.hid (HBX.out.trans (hb2.mono HBX.out.size))
 obtain ⟨x0, x1, x2, x3, f0, f1, f2, f3⟩ := pn_end hp2
 clear hw2 hb2 hr2 hP y0 y1 y2 y3 z0 z1 z2 z3 one HRW1 HW1
 go_upto_region 12 with (go_at_call 140; ((with_reducible refine (HZ.out _).mono ?_); rintro e wa ⟨rfl, rfl⟩))
 rcases B with _ | _
 ·have HQ : Hid (R = (2, Pn.zero)) := by show _ = _; rw [HR.out, codeW, if_pos (.inr (.inl rfl))]
  clear HR
  obtain ⟨y0, y1, y2, y3, z0, z1, z2, z3⟩ := pn_end HRW.out
  go_wp2_with (first
   | (go_at_call 141; ((with_reducible refine (HD.out _).mono ?_); rintro e wa ⟨rfl, rfl⟩))
   | (go_at_call 120; first
    | ((with_reducible refine (HN60.out _).mono ?_); rintro e wa ⟨rfl, rfl⟩)
    | ((with_reducible refine (HN62.out _).mono ?_); rintro e wa ⟨rfl, rfl⟩)
    | ((with_reducible refine (HM60.out _).mono ?_); rintro e wa ⟨rfl, rfl⟩)
    | ((with_reducible refine (HM62.out _).mono ?_); rintro e wa ⟨rfl, rfl⟩)))
  obtain ⟨d0, d1, d2, d3, _⟩ := pn_end (pn_row (v0 := .string ⟨#[]⟩) (v1 := .string ⟨#[]⟩) (v2 := .int .i64 0) (v3 := .int .i64 0) HRW.out)
  refine bodyPost_ret (v := .tuple #[.agg #[.string ⟨#[]⟩, .string ⟨#[]⟩, .int .i64 0, .int .i64 0], .int .i64 2]) (by simp [results, Tryz.results122, go_sem, d0, d1, d2, d3]) rfl (whoR_bad HQ.out (set4_below HBB.out (Nat.le_refl _)))
 rcases T with _ | _
 ·have HQ : Hid (R = (2, Pn.zero)) := by show _ = _; rw [HR.out, codeW, if_pos (.inl rfl)]
  clear HR
  obtain ⟨y0, y1, y2, y3, z0, z1, z2, z3⟩ := pn_end HRW.out
  go_wp2_with (first
   | (go_at_call 141; ((with_reducible refine (HD.out _).mono ?_); rintro e wa ⟨rfl, rfl⟩))
   | (go_at_call 120; first
    | ((with_reducible refine (HN60.out _).mono ?_); rintro e wa ⟨rfl, rfl⟩)
    | ((with_reducible refine (HN62.out _).mono ?_); rintro e wa ⟨rfl, rfl⟩)
    | ((with_reducible refine (HM60.out _).mono ?_); rintro e wa ⟨rfl, rfl⟩)
    | ((with_reducible refine (HM62.out _).mono ?_); rintro e wa ⟨rfl, rfl⟩)))
  obtain ⟨d0, d1, d2, d3, _⟩ := pn_end (pn_row (v0 := .string ⟨#[]⟩) (v1 := .string ⟨#[]⟩) (v2 := .int .i64 0) (v3 := .int .i64 0) HRW.out)
  refine bodyPost_ret (v := .tuple #[.agg #[.string ⟨#[]⟩, .string ⟨#[]⟩, .int .i64 0, .int .i64 0], .int .i64 2]) (by simp [results, Tryz.results122, go_sem, d0, d1, d2, d3]) rfl (whoR_bad HQ.out (set4_below HBB.out (Nat.le_refl _)))
 have HV2 := Lib.hid (HV.out rfl)
 by_cases k1 : 0 ≤ u1
 ·have HQ : Hid (R = (2, Pn.zero)) := by show _ = _; rw [HR.out, codeW, if_pos (.inr (.inr (by simp [k1])))]
  clear HR
  obtain ⟨y0, y1, y2, y3, z0, z1, z2, z3⟩ := pn_end HRW.out
  go_wp2_with (first
   | (go_at_call 141; ((with_reducible refine (HD.out _).mono ?_); rintro e wa ⟨rfl, rfl⟩))
   | (go_at_call 120; first
    | ((with_reducible refine (HN60.out _).mono ?_); rintro e wa ⟨rfl, rfl⟩)
    | ((with_reducible refine (HN62.out _).mono ?_); rintro e wa ⟨rfl, rfl⟩)
    | ((with_reducible refine (HM60.out _).mono ?_); rintro e wa ⟨rfl, rfl⟩)
    | ((with_reducible refine (HM62.out _).mono ?_); rintro e wa ⟨rfl, rfl⟩)))
  obtain ⟨d0, d1, d2, d3, _⟩ := pn_end (pn_row (v0 := .string ⟨#[]⟩) (v1 := .string ⟨#[]⟩) (v2 := .int .i64 0) (v3 := .int .i64 0) HRW.out)
  refine bodyPost_ret (v := .tuple #[.agg #[.string ⟨#[]⟩, .string ⟨#[]⟩, .int .i64 0, .int .i64 0], .int .i64 2]) (by simp [results, Tryz.results122, go_sem, d0, d1, d2, d3]) rfl (whoR_bad HQ.out (set4_below HBB.out (Nat.le_refl _)))
 by_cases k2 : 0 ≤ u2
 ·have HQ : Hid (R = (2, Pn.zero)) := by show _ = _; rw [HR.out, codeW, if_pos (.inr (.inr (by simp [k2])))]
  clear HR
  obtain ⟨y0, y1, y2, y3, z0, z1, z2, z3⟩ := pn_end HRW.out
  go_wp2_with (first
   | (go_at_call 141; ((with_reducible refine (HD.out _).mono ?_); rintro e wa ⟨rfl, rfl⟩))
   | (go_at_call 120; first
    | ((with_reducible refine (HN60.out _).mono ?_); rintro e wa ⟨rfl, rfl⟩)
    | ((with_reducible refine (HN62.out _).mono ?_); rintro e wa ⟨rfl, rfl⟩)
    | ((with_reducible refine (HM60.out _).mono ?_); rintro e wa ⟨rfl, rfl⟩)
    | ((with_reducible refine (HM62.out _).mono ?_); rintro e wa ⟨rfl, rfl⟩)))
  obtain ⟨d0, d1, d2, d3, _⟩ := pn_end (pn_row (v0 := .string ⟨#[]⟩) (v1 := .string ⟨#[]⟩) (v2 := .int .i64 0) (v3 := .int .i64 0) HRW.out)
  refine bodyPost_ret (v := .tuple #[.agg #[.string ⟨#[]⟩, .string ⟨#[]⟩, .int .i64 0, .int .i64 0], .int .i64 2]) (by simp [results, Tryz.results122, go_sem, d0, d1, d2, d3]) rfl (whoR_bad HQ.out (set4_below HBB.out (Nat.le_refl _)))
 by_cases k3 : 0 ≤ u3
 ·have HQ : Hid (R = (2, Pn.zero)) := by show _ = _; rw [HR.out, codeW, if_pos (.inr (.inr (by simp [k3])))]
  clear HR
  obtain ⟨y0, y1, y2, y3, z0, z1, z2, z3⟩ := pn_end HRW.out
  go_wp2_with (first
   | (go_at_call 141; ((with_reducible refine (HD.out _).mono ?_); rintro e wa ⟨rfl, rfl⟩))
   | (go_at_call 120; first
    | ((with_reducible refine (HN60.out _).mono ?_); rintro e wa ⟨rfl, rfl⟩)
    | ((with_reducible refine (HN62.out _).mono ?_); rintro e wa ⟨rfl, rfl⟩)
    | ((with_reducible refine (HM60.out _).mono ?_); rintro e wa ⟨rfl, rfl⟩)
    | ((with_reducible refine (HM62.out _).mono ?_); rintro e wa ⟨rfl, rfl⟩)))
  obtain ⟨d0, d1, d2, d3, _⟩ := pn_end (pn_row (v0 := .string ⟨#[]⟩) (v1 := .string ⟨#[]⟩) (v2 := .int .i64 0) (v3 := .int .i64 0) HRW.out)
  refine bodyPost_ret (v := .tuple #[.agg #[.string ⟨#[]⟩, .string ⟨#[]⟩, .int .i64 0, .int .i64 0], .int .i64 2]) (by simp [results, Tryz.results122, go_sem, d0, d1, d2, d3]) rfl (whoR_bad HQ.out (set4_below HBB.out (Nat.le_refl _)))
 by_cases k4 : 0 ≤ u4
 ·have HQ : Hid (R = (2, Pn.zero)) := by show _ = _; rw [HR.out, codeW, if_pos (.inr (.inr (by simp [k4])))]
  clear HR
  obtain ⟨y0, y1, y2, y3, z0, z1, z2, z3⟩ := pn_end HRW.out
  go_wp2_with (first
   | (go_at_call 141; ((with_reducible refine (HD.out _).mono ?_); rintro e wa ⟨rfl, rfl⟩))
   | (go_at_call 120; first
    | ((with_reducible refine (HN60.out _).mono ?_); rintro e wa ⟨rfl, rfl⟩)
    | ((with_reducible refine (HN62.out _).mono ?_); rintro e wa ⟨rfl, rfl⟩)
    | ((with_reducible refine (HM60.out _).mono ?_); rintro e wa ⟨rfl, rfl⟩)
    | ((with_reducible refine (HM62.out _).mono ?_); rintro e wa ⟨rfl, rfl⟩)))
  obtain ⟨d0, d1, d2, d3, _⟩ := pn_end (pn_row (v0 := .string ⟨#[]⟩) (v1 := .string ⟨#[]⟩) (v2 := .int .i64 0) (v3 := .int .i64 0) HRW.out)
  refine bodyPost_ret (v := .tuple #[.agg #[.string ⟨#[]⟩, .string ⟨#[]⟩, .int .i64 0, .int .i64 0], .int .i64 2]) (by simp [results, Tryz.results122, go_sem, d0, d1, d2, d3]) rfl (whoR_bad HQ.out (set4_below HBB.out (Nat.le_refl _)))
 have HR2 : Hid (R = if O = false then (1, Pn.zero) else (0, ⟨n, m, I, K⟩)) := by show _ = _; rw [HR.out, codeW, if_neg (by simp [k1, k2, k3, k4])]
 clear HR HV
 go_upto_region 14 with (first
 | (go_at_call 141; ((with_reducible refine (HD.out _).mono ?_); rintro e wa ⟨rfl, rfl⟩))
 | (go_at_call 120; first
  | ((with_reducible refine (HN60.out _).mono ?_); rintro e wa ⟨rfl, rfl⟩)
  | ((with_reducible refine (HN62.out _).mono ?_); rintro e wa ⟨rfl, rfl⟩)
  | ((with_reducible refine (HM60.out _).mono ?_); rintro e wa ⟨rfl, rfl⟩)
  | ((with_reducible refine (HM62.out _).mono ?_); rintro e wa ⟨rfl, rfl⟩)))
 clear k1 k2 k3 k4 HN60 HN62 HM60 HM62 HD HZ HF1 HF2 HF3
 go_upto_region 15 with (go_at_call 142; ((with_reducible refine (HV2.out _).mono ?_); rintro e wa ⟨rfl, rfl⟩))
 go_upto_region 16 with fail
 obtain ⟨w3, hw3⟩ : ∃ w3, w3 = (w2.setCell ⟨P, 2, none⟩ (.int .i64 I)).setCell ⟨P, 3, none⟩ (.int .i64 K) := ⟨_, rfl⟩
 have hp3 : w3.heap[P]? = some (.cells #[.string n, .string m, .int .i64 I, .int .i64 K] 61 (0, 0)) := by
  rw [hw3]
  have h := heap_setCell_same w2 P 2 _ 61 (.int .i64 I) HP2.out
  simp only [List.setIfInBounds_toArray, List.set_cons_zero, List.set_cons_succ] at h
  have h := heap_setCell_same _ P 3 _ 61 (.int .i64 K) h
  simp only [List.setIfInBounds_toArray, List.set_cons_zero, List.set_cons_succ] at h
  exact h
 have hr3 : w3.heap[w.heap.size]? = some (.cells #[.string ⟨#[]⟩, .string ⟨#[]⟩, .int .i64 0, .int .i64 0] 61 (0, 0)) := by
  rw [hw3]
  exact (Below.heap_setCell _ ⟨P, 3, none⟩ _ _ (by show w.heap.size ≠ P; omega)).trans ((Below.heap_setCell _ ⟨P, 2, none⟩ _ _ (by show w.heap.size ≠ P; omega)).trans HRW.out)
 have hb3 : Below w.heap.size w w3 := by
  rw [hw3]
  exact (HBB.out.setCell (p := ⟨P, 2, none⟩) (by show _ ≤ P; omega) _).setCell (p := ⟨P, 3, none⟩) (by show _ ≤ P; omega) _
 rw [← hw3]
 obtain ⟨c0, c1', c2', c3, -⟩ := pn_end hp3
 have HP3 := Lib.hid hp3
 have HR3 := Lib.hid hr3
 have HB3 := Lib.hid hb3
 clear hw3 hp3 hr3 hb3 x0 x1 x2 x3 f0 f1 f2 f3 HP2 HRW
 rcases O with _ | _
 ·have HQ : Hid (R = (1, Pn.zero)) := by show _ = _; rw [HR2.out, if_pos rfl]
  clear HR2
  go_upto_region 17 with (go_at_call 100; ((with_reducible refine (HP.out _).mono ?_); rintro e w4 ⟨rfl, hb4⟩))
  have hr4 := (hb4.block _ (row_lt HR3.out)).trans HR3.out
  have HRW := Lib.hid hr4
  have HB4 := Lib.hid (HB3.out.trans (hb4.mono HB3.out.size))
  obtain ⟨y0, y1, y2, y3, z0, z1, z2, z3⟩ := pn_end hr4
  clear hr4 hb4 c0 c1' c2' c3
  go_wp2
  obtain ⟨d0, d1, d2, d3, _⟩ := pn_end (pn_row (v0 := .string ⟨#[]⟩) (v1 := .string ⟨#[]⟩) (v2 := .int .i64 0) (v3 := .int .i64 0) HRW.out)
  refine bodyPost_ret (v := .tuple #[.agg #[.string ⟨#[]⟩, .string ⟨#[]⟩, .int .i64 0, .int .i64 0], .int .i64 1]) (by simp [results, Tryz.results122, go_sem, d0, d1, d2, d3]) rfl (whoR_bad HQ.out (set4_below HB4.out (Nat.le_refl _)))
 ·have HQ : Hid (R = (0, ⟨n, m, I, K⟩)) := by show _ = _; rw [HR2.out, if_neg (by decide)]
  clear HR2
  go_upto_region 18 with (go_at_call 100; ((with_reducible refine (HP.out _).mono ?_); rintro e w4 ⟨rfl, hb4⟩))
  have hr4 := (hb4.block _ (row_lt HR3.out)).trans HR3.out
  have hp4 := (hb4.block _ (row_lt HP3.out)).trans HP3.out
  have HRW := Lib.hid hr4
  have HB4 := Lib.hid (HB3.out.trans (hb4.mono HB3.out.size))
  obtain ⟨y0, y1, y2, y3, z0, z1, z2, z3⟩ := pn_end hr4
  obtain ⟨v0, v1, v2, v3, -⟩ := pn_end hp4
  clear hr4 hb4 hp4 c0 c1' c2' c3
  go_wp2
  obtain ⟨d0, d1, d2, d3, _⟩ := pn_end (pn_row (v0 := .string n) (v1 := .string m) (v2 := .int .i64 I) (v3 := .int .i64 K) HRW.out)
  refine bodyPost_ret (v := .tuple #[.agg #[.string n, .string m, .int .i64 I, .int .i64 K], .int .i64 0]) (by simp [results, Tryz.results122, go_sem, d0, d1, d2, d3]) rfl ?_
  rw [HQ.out]
  exact ⟨rfl, set4_below HB4.out (Nat.le_refl _)⟩
end Go.Proofs.YtpkgiojicbdcfaaGreatDoor
