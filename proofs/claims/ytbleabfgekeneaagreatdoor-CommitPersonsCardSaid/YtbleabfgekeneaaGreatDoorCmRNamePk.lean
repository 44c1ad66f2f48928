/-
  The walk of the reference's named.
-/
import Derived.Test.YtbleabfgekeneaaGreatDoorCmNamePk
import Derived.Test.YtbleabfgekeneaaGreatDoorCmRdPk
import Derived.Test.YtbleabfgekeneaaGreatDoorObLenPk
namespace Go.Proofs.YtbleabfgekeneaaGreatDoor
open Go Go.RowKit

def okB (c : UInt8) : Bool := decide (32 ≤ c.toNat) && (decide (c.toNat ≠ 60) && decide (c.toNat ≠ 62))
theorem okB_all (l : List UInt8) : (!(l.any fun b => ([60, 62] : List UInt8).contains b) && (l.all fun b => decide (32 ≤ b.toNat))) = l.all okB := by
  induction l with
  | nil => rfl
  | cons c l ih =>
    rw [List.any_cons, List.all_cons, List.all_cons, ← ih]
    have : ([60, 62] : List UInt8).contains c = !(decide (c.toNat ≠ 60) && decide (c.toNat ≠ 62)) := by
      rw [Bool.eq_iff_iff, List.contains_iff_mem]
      simp only [List.mem_cons, List.not_mem_nil, or_false, Bool.not_eq_true', Bool.and_eq_false_iff, decide_eq_false_iff_not, Decidable.not_not]
      constructor
      · rintro (rfl | rfl)
        · exact .inl rfl
        · exact .inr rfl
      · rintro (h | h)
        · exact .inl (UInt8.toNat_inj.mp h)
        · exact .inr (UInt8.toNat_inj.mp h)
    rw [this, okB]
    cases decide (32 ≤ c.toNat) <;> cases decide (c.toNat ≠ 60) <;> cases decide (c.toNat ≠ 62) <;> simp
theorem pre_one {c : UInt8} {l : List UInt8} : Lib.hasPrefix (c :: l) [32] = decide (c = 32) := by
  unfold Lib.hasPrefix
  rw [Bool.eq_iff_iff, List.isPrefixOf_iff_prefix, decide_eq_true_eq, List.cons_prefix_cons]
  simp [eq_comm]
theorem suf_one {c : UInt8} {l : List UInt8} : Lib.hasSuffix (l ++ [c]) [32] = decide (c = 32) := by
  unfold Lib.hasSuffix
  rw [Bool.eq_iff_iff, List.isSuffixOf_iff_suffix, decide_eq_true_eq]
  constructor
  · rintro ⟨t, ht⟩
    have := congrArg List.getLast? ht
    simpa using this.symm
  · rintro rfl
    exact ⟨l, rfl⟩
theorem nameB_eq (s : ByteArray) (h : 0 < s.size) : nameB s.data.toList = (decide (s.size ≤ 64) && (decide (s[0] ≠ 32) && (decide (s[s.size - 1] ≠ 32) && s.data.toList.all okB))) := by
  have hn : decide (s.data.toList ≠ []) = true := decide_eq_true (fun e => by have := list_len s; rw [e] at this; simp at this; omega)
  have hp : Lib.hasPrefix s.data.toList [32] = decide (s[0] = 32) := by
    have := drop_byte s 0 h
    rw [List.drop_zero] at this
    rw [this, pre_one]
  have hq : Lib.hasSuffix s.data.toList [32] = decide (s[s.size - 1] = 32) := by
    have := take_snoc s (s.size - 1) (by omega)
    rw [show s.size - 1 + 1 = s.size by omega, take_all] at this
    rw [this, suf_one]
  rw [nameB, hn, hp, hq, list_len, ← okB_all]
  by_cases h1 : s[0] = 32 <;> by_cases h2 : s[s.size - 1] = 32 <;> simp [h1, h2, Bool.and_assoc]

set_option maxHeartbeats 1000000 in
set_option maxRecDepth 4000 in
theorem rnamed_any (s : ByteArray) (w : World) (hs : s.size ≤ 140737488355328) :
    Calls Tryz.prog 64 #[.string s] w fun e w' => e = .returned (.bool (nameB s.data.toList)) ∧ w' = w := by
  obtain ⟨R, hR⟩ : ∃ R, R = nameB s.data.toList := ⟨_, rfl⟩
  rw [← hR]
  by_cases h1 : s.size < 1
  · have HR : Hid (R = false) := by show _ = _; rw [hR, nameB, show s.data.toList = [] from List.eq_nil_of_length_eq_zero (by rw [list_len]; omega)]; rfl
    clear hR
    go_enter Tryz.func64, Tryz.ntmps64
    go_wp2
    go_ret
    exact ⟨by rw [HR.out]; rfl, rfl⟩
  have h0 : 0 < s.size := by omega
  have hl : s.size - 1 < s.size := by omega
  rw [nameB_eq s h0] at hR
  by_cases h2 : 64 < s.size
  · have HR : Hid (R = false) := by show _ = _; rw [hR, decide_eq_false (show ¬ s.size ≤ 64 by omega)]; rfl
    clear hR
    go_enter Tryz.func64, Tryz.ntmps64
    go_wp2
    go_ret
    exact ⟨by rw [HR.out]; rfl, rfl⟩
  obtain ⟨x, hx⟩ : ∃ x, x = s[0] := ⟨_, rfl⟩
  obtain ⟨y, hy⟩ : ∃ y, y = s[s.size - 1] := ⟨_, rfl⟩
  have hxn : (x.toNat : Int) = 32 ↔ x = 32 := ⟨fun e => UInt8.toNat_inj.mp (by show _ = 32; omega), fun e => by rw [e]; rfl⟩
  have hyn : (y.toNat : Int) = 32 ↔ y = 32 := ⟨fun e => UInt8.toNat_inj.mp (by show _ = 32; omega), fun e => by rw [e]; rfl⟩
  rw [decide_eq_true (show s.size ≤ 64 by omega), Bool.true_and, ← hx, ← hy] at hR
  rw [hx] at hxn
  rw [hy] at hyn
  by_cases h3 : (s[0].toNat : Int) = 32
  · have HR : Hid (R = false) := by show _ = _; rw [hR, hx, decide_eq_false (by simpa using hxn.mp h3)]; rfl
    clear hR hx hy hxn hyn
    go_enter Tryz.func64, Tryz.ntmps64
    go_wp2
    go_ret
    exact ⟨by rw [HR.out]; rfl, rfl⟩
  rw [hx, decide_eq_true (show s[0] ≠ 32 from fun e => h3 (hxn.mpr e)), Bool.true_and] at hR
  by_cases h4 : (s[s.size - 1].toNat : Int) = 32
  · have HR : Hid (R = false) := by show _ = _; rw [hR, hy, decide_eq_false (by simpa using hyn.mp h4)]; rfl
    clear hR hx hy hxn hyn
    go_enter Tryz.func64, Tryz.ntmps64
    go_wp2
    go_ret
    exact ⟨by rw [HR.out]; rfl, rfl⟩
  rw [hy, decide_eq_true (show s[s.size - 1] ≠ 32 from fun e => h4 (hyn.mpr e)), Bool.true_and] at hR
  have HR : Hid (R = (s.data.toList.drop 0).all okB) := hR
  have e3 : ((s[0].toNat : Int) == 32) = false := beq_eq_false_iff_ne.mpr h3
  have e4 : ((s[s.size - 1].toNat : Int) == 32) = false := beq_eq_false_iff_ne.mpr h4
  have e1 : decide ((s.size : Int) < 1) = false := decide_eq_false (by omega)
  have e2 : decide (64 < (s.size : Int)) = false := decide_eq_false (by omega)
  clear hR hx hy hxn hyn h3 h4
  go_enter Tryz.func64, Tryz.ntmps64
  go_wp2
  go_loopg [3] s.size (fun g iv wx => ∃ k : Nat, k + g = s.size ∧ iv = .int .i64 k ∧ Hid (R = (s.data.toList.drop k).all okB) ∧ wx = w)
  case atStart => exact ⟨0, by omega, rfl, HR.out, rfl⟩
  case round =>
    obtain ⟨k, hk, rfl, HM, rfl⟩ := hrel
    clear HR e1 e2 e3 e4
    cases gk with
    | zero =>
      obtain rfl : k = s.size := by omega
      have HQ : Hid (R = true) := by show _ = _; rw [HM.out, List.drop_of_length_le (by rw [list_len]; exact Nat.le_refl _)]; rfl
      clear HM
      go_wp2
      go_ret
      exact ⟨by rw [HQ.out]; rfl, rfl⟩
    | succ g =>
      have hi : k < s.size := by omega
      have hM := HM.out
      rw [drop_byte s k hi, List.all_cons] at hM
      have hc : (s[k]'hi).toNat < 32 ∨ (¬ (s[k]'hi).toNat < 32 ∧ (s[k]'hi).toNat = 60) ∨ (¬ (s[k]'hi).toNat < 32 ∧ ¬ (s[k]'hi).toNat = 60 ∧ (s[k]'hi).toNat = 62) ∨ (¬ (s[k]'hi).toNat < 32 ∧ ¬ (s[k]'hi).toNat = 60 ∧ ¬ (s[k]'hi).toNat = 62) := by omega
      rcases hc with hc | ⟨c1, c2⟩ | ⟨c1, c2, c3⟩ | ⟨c1, c2, c3⟩
      · have HQ : Hid (R = false) := by show _ = _; rw [hM, okB, decide_eq_false (by omega)]; rfl
        clear HM hM
        go_wp2
        go_ret
        exact ⟨by rw [HQ.out]; rfl, rfl⟩
      · have HQ : Hid (R = false) := by show _ = _; rw [hM, okB]; simp [c2]
        clear HM hM
        go_wp2
        go_ret
        exact ⟨by rw [HQ.out]; rfl, rfl⟩
      · have HQ : Hid (R = false) := by show _ = _; rw [hM, okB]; simp [c3]
        clear HM hM
        go_wp2
        go_ret
        exact ⟨by rw [HQ.out]; rfl, rfl⟩
      · have HQ : Hid (R = (s.data.toList.drop (k + 1)).all okB) := by show _ = _; rw [hM, okB, decide_eq_true (show 32 ≤ (s[k]'hi).toNat by omega), decide_eq_true c2, decide_eq_true c3]; rfl
        have e5 : decide (((s[k]'hi).toNat : Int) < 32) = false := decide_eq_false (by omega)
        have e6 : (((s[k]'hi).toNat : Int) == 60) = false := beq_eq_false_iff_ne.mpr (by omega)
        have e7 : (((s[k]'hi).toNat : Int) == 62) = false := beq_eq_false_iff_ne.mpr (by omega)
        clear HM hM c1 c2 c3
        go_wp2
        go_roundg g
        case measure => omega
        case rel => exact ⟨k + 1, by omega, rfl, HQ.out, rfl⟩
end Go.Proofs.YtbleabfgekeneaaGreatDoor
/-
  The walk of the reference's Person.
-/
namespace Go.Proofs.YtbleabfgekeneaaGreatDoor
open Go Go.RowKit

set_option maxHeartbeats 2000000 in
set_option maxRecDepth 4000 in
theorem rperson_any (p : Pn) (w : World) (hn : p.n.size ≤ 140737488355328) (hi : p.m.size ≤ 140737488355328) :
    Calls Tryz.prog 26 #[.agg #[.string p.n, .string p.m, .int .i64 p.t, .int .i64 p.z]] w fun x w' => x = .returned (.bool (okPn p)) ∧ Below w.heap.size w w' := by
  obtain ⟨n, m, t, z⟩ := p
  simp only at hn hi ⊢
  obtain ⟨N, hN⟩ : ∃ N, N = nameB n.data.toList := ⟨_, rfl⟩
  obtain ⟨M, hM⟩ : ∃ M, M = nameB m.data.toList := ⟨_, rfl⟩
  obtain ⟨R, hR⟩ : ∃ R, R = okPn ⟨n, m, t, z⟩ := ⟨_, rfl⟩
  rw [← hR]
  have HR : Hid (R = (N && (M && (decide (0 ≤ t) && (decide (t ≤ 1099511627776) && (decide (-840 ≤ z) && decide (z ≤ 840))))))) := by
    show _ = _
    rw [hR, okPn, hN, hM]
  have HN : Hid (∀ w', Calls Tryz.prog 64 #[.string n] w' fun e w'' => e = .returned (.bool N) ∧ Below w'.heap.size w' w'') := fun w' => by
    rw [hN]
    exact (rnamed_any n w' hn).mono fun e w'' ⟨he, hw⟩ => ⟨he, by rw [hw]; exact Below.refl _ _⟩
  have HM : Hid (∀ w', Calls Tryz.prog 64 #[.string m] w' fun e w'' => e = .returned (.bool M) ∧ Below w'.heap.size w' w'') := fun w' => by
    rw [hM]
    exact (rnamed_any m w' hi).mono fun e w'' ⟨he, hw⟩ => ⟨he, by rw [hw]; exact Below.refl _ _⟩
  have hx := heap_alloc_new w (.cells #[.string n, .string m, .int .i64 t, .int .i64 z] 24)
  have hbx : Below w.heap.size w (w.alloc (.cells #[.string n, .string m, .int .i64 t, .int .i64 z] 24)) := below_new (Below.refl _ _) _
  have hbl : w.heap.size < (w.alloc (.cells #[.string n, .string m, .int .i64 t, .int .i64 z] 24)).heap.size := by simp
  obtain ⟨w1, hw1⟩ : ∃ w1, w1 = w.alloc (.cells #[.string n, .string m, .int .i64 t, .int .i64 z] 24) := ⟨_, rfl⟩
  have HW1 := Lib.hid hw1
  rw [← hw1] at hx hbx hbl
  have a0 : w1.cell? ⟨w.heap.size, 0, none⟩ = some (.string n) := cell_of_row w1 _ 0 _ _ _ hx
  have a1 : w1.cell? ⟨w.heap.size, 1, none⟩ = some (.string m) := cell_of_row w1 _ 1 _ _ _ hx
  have a2 : w1.cell? ⟨w.heap.size, 2, none⟩ = some (.int .i64 t) := cell_of_row w1 _ 2 _ _ _ hx
  have a3 : w1.cell? ⟨w.heap.size, 3, none⟩ = some (.int .i64 z) := cell_of_row w1 _ 3 _ _ _ hx
  have HB := Lib.hid hbx
  clear hN hM hR hw1 hx hbx hn hi
  rcases N with _ | _
  · have HX : Hid (R = false) := by show _ = _; rw [HR.out]; rfl
    clear HR
    go_enter Tryz.func26, Tryz.ntmps26
    go_upto_region 1 with fail
    rw [← HW1.out]
    go_wp2_with (go_at_call 64; ((with_reducible refine (HN.out _).mono ?_); rintro e w2 ⟨rfl, hb2⟩))
    go_ret
    exact ⟨by rw [HX.out]; rfl, HB.out.trans (hb2.mono HB.out.size)⟩
  rcases M with _ | _
  · have HX : Hid (R = false) := by show _ = _; rw [HR.out]; rfl
    clear HR
    go_enter Tryz.func26, Tryz.ntmps26
    go_upto_region 1 with fail
    rw [← HW1.out]
    go_wp2_with (first
      | (go_at_call 64; ((with_reducible refine (HM.out _).mono ?_); rintro e w3 ⟨rfl, hb3⟩))
      | (go_at_call 64; ((with_reducible refine (HN.out _).mono ?_); rintro e w2 ⟨rfl, hb2⟩; have b1 := cell_bel a1 hb2)))
    go_ret
    exact ⟨by rw [HX.out]; rfl, HB.out.trans ((hb2.trans (hb3.mono hb2.size)).mono HB.out.size)⟩
  have hc : (¬ 0 ≤ t) ∨ (0 ≤ t ∧ ¬ t ≤ 1099511627776) ∨ (0 ≤ t ∧ t ≤ 1099511627776 ∧ ¬ -840 ≤ z) ∨ (0 ≤ t ∧ t ≤ 1099511627776 ∧ -840 ≤ z ∧ ¬ z ≤ 840) ∨ (0 ≤ t ∧ t ≤ 1099511627776 ∧ -840 ≤ z ∧ z ≤ 840) := by omega
  have HX : Hid (R = decide (0 ≤ t ∧ t ≤ 1099511627776 ∧ -840 ≤ z ∧ z ≤ 840)) := by
    show _ = _
    rw [HR.out]
    simp
  clear HR
  rcases hc with h1 | ⟨h1, h2⟩ | ⟨h1, h2, h3⟩ | ⟨h1, h2, h3, h4⟩ | ⟨h1, h2, h3, h4⟩
  all_goals
    go_enter Tryz.func26, Tryz.ntmps26
    go_upto_region 1 with fail
    rw [← HW1.out]
    go_wp2_with (first
      | (go_at_call 64; ((with_reducible refine (HM.out _).mono ?_); rintro e w3 ⟨rfl, hb3⟩; have c2 := cell_bel b2 hb3; have c3 := cell_bel b3 hb3))
      | (go_at_call 64; ((with_reducible refine (HN.out _).mono ?_); rintro e w2 ⟨rfl, hb2⟩; have b1 := cell_bel a1 hb2; have b2 := cell_bel a2 hb2; have b3 := cell_bel a3 hb2)))
    go_ret
    refine ⟨?_, HB.out.trans ((hb2.trans (hb3.mono hb2.size)).mono HB.out.size)⟩
    first
      | (have hy : R = true := by rw [HX.out]; exact decide_eq_true (by omega)
         rw [hy]; rfl)
      | (have hy : R = false := by rw [HX.out]; exact decide_eq_false (by omega)
         rw [hy]; rfl)
      | (have hy : R = decide (z ≤ 840) := by rw [HX.out, Bool.eq_iff_iff]; simp only [decide_eq_true_eq]; omega
         rw [hy]; rfl)
end Go.Proofs.YtbleabfgekeneaaGreatDoor
/-
  The walk of the reference's Num.
-/
namespace Go.Proofs.YtbleabfgekeneaaGreatDoor
open Go Go.RowKit

set_option maxHeartbeats 2000000 in
set_option maxRecDepth 4000 in
theorem rnum_any (n : Nat) (w : World) (hn : n ≤ 1000000000000000000) :
    Calls Tryz.prog 65 #[.int .i64 (n : Int)] w fun e w' => e = .returned (.string (str (Lib.decDigits n))) ∧ Below w.heap.size w w' := by
  obtain ⟨R, hR⟩ : ∃ R, R = Lib.decDigits n := ⟨_, rfl⟩
  rw [← hR]
  have HR : Hid (R = Lib.decDigits n ++ (⟨#[]⟩ : ByteArray).data.toList) := by show _ = _; rw [hR]; simp
  clear hR
  go_enter Tryz.func65, Tryz.ntmps65
  go_wp2
  go_loopw [0, 3] (fun iv sv wr => ∃ (k : Nat) (s : ByteArray), k ≤ n ∧ s.size + k ≤ 2000000000000000000 ∧ iv = .int .i64 (k : Int) ∧ sv = .string s ∧ Hid (R = Lib.decDigits k ++ s.data.toList) ∧ Hid (Below w.heap.size w wr)) (fun iv _ _ => (intOf iv).toNat)
  case atStart => exact ⟨n, ⟨#[]⟩, Nat.le_refl _, by show 0 + n ≤ _; omega, rfl, rfl, HR.out, Below.refl _ _⟩
  case round =>
    clear HR
    obtain ⟨k, s, hk, hs, rfl, rfl, HR, HB⟩ := hrel
    obtain ⟨d, hd⟩ : ∃ d, d = k % 10 := ⟨_, rfl⟩
    obtain ⟨k2, hk2⟩ : ∃ k2, k2 = k / 10 := ⟨_, rfl⟩
    obtain ⟨T, hT⟩ : ∃ T, T = str [UInt8.ofNat (48 + d)] := ⟨_, rfl⟩
    have HT1 : T.size = 1 := by rw [hT, str_size]; rfl
    have hcv := conv_one (P := Tryz.prog) wr (48 + (d : Int)) (48 + d) (by omega) (by omega) 78 9 5 5 1 Tryz.underlying78 Tryz.underlying5 Tryz.underlying9
    rw [← hT] at hcv
    have e5 : IntKind.u8.wrap (48 + (d : Int)) = 48 + (d : Int) := IntWalk.u8_in _ (by omega)
    have hB2 : Hid (Below w.heap.size w (wr.alloc (.cells #[.int .u8 (48 + (d : Int))] 5))) := HB.out.alloc HB.out.size _
    by_cases h10 : k < 10
    · have HX : Hid (R = (T ++ s).data.toList) := by
        show _ = _
        rw [HR.out, Lib.decDigits_one h10, app_list, hT, hd, show k % 10 = k by omega]
        rfl
      obtain rfl : d = k := by omega
      clear hd hk2 hT HR HB
      go_wp2
      go_ret
      exact ⟨by rw [HX.out]; rfl, hB2.out⟩
    · have HX : Hid (R = Lib.decDigits k2 ++ (T ++ s).data.toList) := by
        show _ = _
        rw [HR.out, decDigits_big h10, app_list, hT, hd, hk2]
        simp [str]
      have e1 : (k : Int) % 10 = (d : Int) := by omega
      have e2 : (k : Int) / 10 = (k2 : Int) := by omega
      have hk2n : k2 ≤ n ∧ k2 < k := by omega
      have hsz : (T ++ s).size + k2 ≤ 2000000000000000000 := by rw [ByteArray.size_append, HT1]; omega
      clear hd hk2 hT HR HB
      go_wp2
      go_roundw
      case rel => exact ⟨k2, T ++ s, hk2n.1, hsz, rfl, rfl, HX.out, hB2.out⟩
      case measure => simp [intOf]; omega
end Go.Proofs.YtbleabfgekeneaaGreatDoor
/-
  The walk of the reference's Who.
-/
namespace Go.Proofs.YtbleabfgekeneaaGreatDoor
open Go Go.RowKit

set_option maxHeartbeats 8000000 in
set_option maxRecDepth 8000 in
theorem rfmt_any (p : Pn) (w : World) (hn : p.n.size ≤ 140737488355328) (hm : p.m.size ≤ 140737488355328) (ht0 : 0 ≤ p.t) (ht : p.t ≤ 1099511627776) (hz : p.z.natAbs < 6000) :
    Calls Tryz.prog 27 #[.agg #[.string p.n, .string p.m, .int .i64 p.t, .int .i64 p.z]] w fun e w' => e = .returned (.string (whoL p)) ∧ Below w.heap.size w w' := by
  obtain ⟨n, m, t, z⟩ := p
  simp only at hn hm ht0 ht hz ⊢
  obtain ⟨T, rfl⟩ : ∃ T : Nat, t = (T : Int) := ⟨t.toNat, by omega⟩
  obtain ⟨R, hR⟩ : ∃ R, R = whoL ⟨n, m, (T : Int), z⟩ := ⟨_, rfl⟩
  rw [← hR]
  obtain ⟨a, ha⟩ : ∃ a, a = str (Lib.decDigits T) := ⟨_, rfl⟩
  have hsa : a.size ≤ 19 := by
    have := itoa_len (n := (T : Int)) (by omega) (by omega)
    rw [Lib.itoa, if_neg (by omega), Int.toNat_natCast] at this
    rw [ha]
    exact this
  obtain ⟨k, hk⟩ : ∃ k, k = z.natAbs := ⟨_, rfl⟩
  obtain ⟨sg, hsg⟩ : ∃ sg : ByteArray, sg = if z < 0 then ⟨#[45]⟩ else ⟨#[43]⟩ := ⟨_, rfl⟩
  obtain ⟨q1, h1⟩ : ∃ q, q = k / 600 := ⟨_, rfl⟩
  obtain ⟨q5, h5⟩ : ∃ q, q = k / 60 := ⟨_, rfl⟩
  obtain ⟨q2, h2⟩ : ∃ q, q = q5 % 10 := ⟨_, rfl⟩
  obtain ⟨q6, h6⟩ : ∃ q, q = k % 60 := ⟨_, rfl⟩
  obtain ⟨q3, h3⟩ : ∃ q, q = q6 / 10 := ⟨_, rfl⟩
  obtain ⟨q4, h4⟩ : ∃ q, q = k % 10 := ⟨_, rfl⟩
  obtain ⟨zb, hzb⟩ : ∃ zb, zb = str [UInt8.ofNat (48 + q1), UInt8.ofNat (48 + q2), UInt8.ofNat (48 + q3), UInt8.ofNat (48 + q4)] := ⟨_, rfl⟩
  have hzs : zb.size = 4 := by rw [hzb]; rfl
  have hss : sg.size = 1 := by rw [hsg]; split <;> rfl
  have HR : Hid (n ++ ⟨#[32, 60]⟩ ++ m ++ ⟨#[62, 32]⟩ ++ a ++ ⟨#[32]⟩ ++ sg ++ zb = R) := by
    show _ = _
    rw [hR]
    refine ba_ext ?_
    unfold whoL
    have hd : Lib.itoa (T : Int) = Lib.decDigits T := by rw [Lib.itoa, if_neg (by omega), Int.toNat_natCast]
    have hzl : sg.data.toList ++ zb.data.toList = zonL z := by
      unfold zonL
      rw [hsg, hzb, str_list, ← hk]
      have e1 : k / 60 / 10 = q1 := by omega
      have e2 : k / 60 % 10 = q2 := by omega
      have e3 : k % 60 / 10 = q3 := by omega
      have e4 : k % 60 % 10 = q4 := by omega
      rw [e1, e2, e3, e4]
      split <;> rfl
    simp only [app_list, ha, str_list, hd, ← hzl, List.append_assoc]
  have d1 : q1 < 10 := by omega
  have d2 : q2 < 10 := by omega
  have d3 : q3 < 10 := by omega
  have d4 : q4 < 10 := by omega
  have e1 : IntKind.u8.wrap (48 + (q1 : Int)) = 48 + (q1 : Int) := IntWalk.u8_in _ (by omega)
  have e2 : IntKind.u8.wrap (48 + (q2 : Int)) = 48 + (q2 : Int) := IntWalk.u8_in _ (by omega)
  have e3 : IntKind.u8.wrap (48 + (q3 : Int)) = 48 + (q3 : Int) := IntWalk.u8_in _ (by omega)
  have e4 : IntKind.u8.wrap (48 + (q4 : Int)) = 48 + (q4 : Int) := IntWalk.u8_in _ (by omega)
  have i1 : (k : Int) / 600 = (q1 : Int) := by omega
  have i5 : (k : Int) / 60 = (q5 : Int) := by omega
  have i2 : (q5 : Int) % 10 = (q2 : Int) := by omega
  have i6 : (k : Int) % 60 = (q6 : Int) := by omega
  have i3 : (q6 : Int) / 10 = (q3 : Int) := by omega
  have i4 : (k : Int) % 10 = (q4 : Int) := by omega
  have hx := heap_alloc_new w (.cells #[.string n, .string m, .int .i64 (T : Int), .int .i64 z] 24)
  have hbx : Below w.heap.size w (w.alloc (.cells #[.string n, .string m, .int .i64 (T : Int), .int .i64 z] 24)) := below_new (Below.refl _ _) _
  obtain ⟨w1, hw1⟩ : ∃ w1, w1 = w.alloc (.cells #[.string n, .string m, .int .i64 (T : Int), .int .i64 z] 24) := ⟨_, rfl⟩
  have HW1 := Lib.hid hw1
  rw [← hw1] at hx hbx
  have HBX := Lib.hid hbx
  have HX := Lib.hid hx
  have k3 : ∀ x : BelW w1, x.w.cell? ⟨w.heap.size, 3, none⟩ = some (.int .i64 z) := fun x => cell_bel (cell_of_row w1 _ 3 _ _ _ hx) x.h
  have HNM := Lib.hid (fun w' => rnum_any T w' (by omega))
  rw [← ha] at HNM
  have HZB := Lib.hid hzb
  have hk6 : k < 6000 := by omega
  have hcv : ∀ w', (convert 78 9 (.slice (some ⟨(w' : World).heap.size, 0, none⟩) 4 4)).run Tryz.prog (w'.alloc (.cells #[.int .u8 (48 + (q1 : Int)), .int .u8 (48 + (q2 : Int)), .int .u8 (48 + (q3 : Int)), .int .u8 (48 + (q4 : Int))] 5)) = .ok (.string zb) (w'.alloc (.cells #[.int .u8 (48 + (q1 : Int)), .int .u8 (48 + (q2 : Int)), .int .u8 (48 + (q3 : Int)), .int .u8 (48 + (q4 : Int))] 5)) := fun w' => by
    rw [hzb]
    refine conv_cells w' _ 4 [UInt8.ofNat (48 + q1), UInt8.ofNat (48 + q2), UInt8.ofNat (48 + q3), UInt8.ofNat (48 + q4)] ?_ rfl 78 9 5 5 4 Tryz.underlying78 Tryz.underlying5 Tryz.underlying9
    simp only [bcells, List.map_cons, List.map_nil, u8nat (show 48 + q1 < 256 by omega), u8nat (show 48 + q2 < 256 by omega), u8nat (show 48 + q3 < 256 by omega), u8nat (show 48 + q4 < 256 by omega)]
    rfl
  have HCV := Lib.hid hcv
  have hq : Nonempty (BelW w1) := ⟨⟨w1, Below.refl _ _⟩⟩
  have hzk : z = (k : Int) ∨ z = -(k : Int) := by omega
  have hpos : 0 ≤ z → z = (k : Int) := fun h => by omega
  have hneg : z < 0 → z = -(k : Int) ∧ 0 < k := fun h => by omega
  clear hR ha hk h1 h2 h3 h4 h5 h6 hzb hw1 hx hbx hzk hcv
  go_enter Tryz.func27, Tryz.ntmps27
  go_upto_region 1 with fail
  rw [← HW1.out]
  refine wp_region_bel (w0 := w1) (Below.refl _ _) (by kernel_rfl) (by kernel_rfl) ?_
  repeat (go_big_quiet_step (fail))
  refine wpQuiet_nil ?_
  rintro _ ⟨x, rfl⟩
  have HXB := Lib.hid x.h
  obtain ⟨wx, hwx⟩ : ∃ wx, wx = x.w := ⟨_, rfl⟩
  rw [← hwx] at HXB ⊢
  clear hwx k3 hq
  clear x
  have hcx := HCV.out wx
  by_cases hn0 : z < 0
  · obtain ⟨rfl, hk0⟩ := hneg hn0
    have hs45 : sg = ⟨#[45]⟩ := by rw [hsg, if_pos hn0]
    subst hs45
    have g0 : decide (-(k : Int) < 0) = true := decide_eq_true (by omega)
    have g1 : -(-(k : Int)) = (k : Int) := by omega
    clear hsg hneg hpos hn0
    go_upto_region 5 with fail
    obtain ⟨w5, hw5⟩ : ∃ w5, w5 = wx.alloc (.cells #[.int .u8 (48 + (q1 : Int)), .int .u8 (48 + (q2 : Int)), .int .u8 (48 + (q3 : Int)), .int .u8 (48 + (q4 : Int))] 5) := ⟨_, rfl⟩
    have hb5 : Below w1.heap.size w1 w5 := HXB.out.trans (by rw [hw5]; exact (below_new (Below.refl _ _) _).mono HXB.out.size)
    rw [← hw5]
    have hr5 := (hb5.block _ (row_lt HX.out)).trans HX.out
    have c0 : ∀ y : BelW w5, y.w.cell? ⟨w.heap.size, 0, none⟩ = some (.string n) := fun y => cell_bel (cell_of_row w5 _ 0 _ _ _ hr5) y.h
    have c1 : ∀ y : BelW w5, y.w.cell? ⟨w.heap.size, 1, none⟩ = some (.string m) := fun y => cell_bel (cell_of_row w5 _ 1 _ _ _ hr5) y.h
    have c2 : ∀ y : BelW w5, y.w.cell? ⟨w.heap.size, 2, none⟩ = some (.int .i64 (T : Int)) := fun y => cell_bel (cell_of_row w5 _ 2 _ _ _ hr5) y.h
    have HN5 : Hid (∀ y : BelW w5, Calls Tryz.prog 65 #[.int .i64 (T : Int)] y.w fun e w'' => e = .returned (.string a) ∧ ∃ z : BelW w5, w'' = z.w) := fun y => Calls.bel_class (HNM.out y.w)
    have HB5 := Lib.hid hb5
    have hq : Nonempty (BelW w5) := ⟨⟨w5, Below.refl _ _⟩⟩
    clear hw5 hb5 hr5 hcx
    refine wp_region_bel (w0 := w5) (Below.refl _ _) (by kernel_rfl) (by kernel_rfl) ?_
    repeat (go_big_quiet_step (first | (go_at_call 65; (with_reducible exact HN5.out _))))
    refine wpQuiet_nil ?_
    rintro _ ⟨y, rfl⟩
    have HY := Lib.hid y.h
    obtain ⟨wy, hwy⟩ : ∃ wy, wy = y.w := ⟨_, rfl⟩
    rw [← hwy] at HY ⊢
    clear hwy c0 c1 c2 hq
    clear y
    go_wp2_with fail
    go_ret
    exact ⟨by rw [← HR.out]; rfl, HBX.out.trans ((HB5.out.trans (HY.out.mono HB5.out.size)).mono HBX.out.size)⟩
  · obtain rfl := hpos (by omega)
    have hs43 : sg = ⟨#[43]⟩ := by rw [hsg, if_neg hn0]
    subst hs43
    have g0 : decide ((k : Int) < 0) = false := decide_eq_false (by omega)
    clear hsg hneg hpos hn0
    go_upto_region 5 with fail
    obtain ⟨w5, hw5⟩ : ∃ w5, w5 = wx.alloc (.cells #[.int .u8 (48 + (q1 : Int)), .int .u8 (48 + (q2 : Int)), .int .u8 (48 + (q3 : Int)), .int .u8 (48 + (q4 : Int))] 5) := ⟨_, rfl⟩
    have hb5 : Below w1.heap.size w1 w5 := HXB.out.trans (by rw [hw5]; exact (below_new (Below.refl _ _) _).mono HXB.out.size)
    rw [← hw5]
    have hr5 := (hb5.block _ (row_lt HX.out)).trans HX.out
    have c0 : ∀ y : BelW w5, y.w.cell? ⟨w.heap.size, 0, none⟩ = some (.string n) := fun y => cell_bel (cell_of_row w5 _ 0 _ _ _ hr5) y.h
    have c1 : ∀ y : BelW w5, y.w.cell? ⟨w.heap.size, 1, none⟩ = some (.string m) := fun y => cell_bel (cell_of_row w5 _ 1 _ _ _ hr5) y.h
    have c2 : ∀ y : BelW w5, y.w.cell? ⟨w.heap.size, 2, none⟩ = some (.int .i64 (T : Int)) := fun y => cell_bel (cell_of_row w5 _ 2 _ _ _ hr5) y.h
    have HN5 : Hid (∀ y : BelW w5, Calls Tryz.prog 65 #[.int .i64 (T : Int)] y.w fun e w'' => e = .returned (.string a) ∧ ∃ z : BelW w5, w'' = z.w) := fun y => Calls.bel_class (HNM.out y.w)
    have HB5 := Lib.hid hb5
    have hq : Nonempty (BelW w5) := ⟨⟨w5, Below.refl _ _⟩⟩
    clear hw5 hb5 hr5 hcx
    refine wp_region_bel (w0 := w5) (Below.refl _ _) (by kernel_rfl) (by kernel_rfl) ?_
    repeat (go_big_quiet_step (first | (go_at_call 65; (with_reducible exact HN5.out _))))
    refine wpQuiet_nil ?_
    rintro _ ⟨y, rfl⟩
    have HY := Lib.hid y.h
    obtain ⟨wy, hwy⟩ : ∃ wy, wy = y.w := ⟨_, rfl⟩
    rw [← hwy] at HY ⊢
    clear hwy c0 c1 c2 hq
    clear y
    go_wp2_with fail
    go_ret
    exact ⟨by rw [← HR.out]; rfl, HBX.out.trans ((HB5.out.trans (HY.out.mono HB5.out.size)).mono HBX.out.size)⟩
end Go.Proofs.YtbleabfgekeneaaGreatDoor
/-
  The walk of the reference's find.
-/
namespace Go.Proofs.YtbleabfgekeneaaGreatDoor
open Go Go.RowKit

/-- What the reference's find answers. -/
def findI (l t : List UInt8) (i : Nat) : Int := if Lib.index (l.drop i) t == -1 then -1 else Lib.index (l.drop i) t + i
theorem findI_past {l t : List UInt8} {i : Nat} (ht : 0 < t.length) (h : l.length < i + t.length) : findI l t i = -1 := by
  have : Lib.index (l.drop i) t = -1 := Lib.index_past (i := 0) (fun e => by rw [e] at ht; simp at ht) (fun _ h => absurd h (Nat.not_lt_zero _)) (by rw [List.length_drop]; omega)
  rw [findI, this]
  rfl
theorem findI_hit {l t : List UInt8} {i : Nat} (h : t.isPrefixOf (l.drop i) = true) : findI l t i = i := by
  have : Lib.index (l.drop i) t = 0 := Lib.index_hit (i := 0) (fun _ h => absurd h (Nat.not_lt_zero _)) (Nat.zero_le _) h
  rw [findI, this]
  simp
theorem findI_next {l t : List UInt8} {i : Nat} (hi : i < l.length) (h : t.isPrefixOf (l.drop i) = false) : findI l t i = findI l t (i + 1) := by
  unfold findI
  have hge := Lib.index_ge (l.drop (i + 1)) t
  rw [List.drop_eq_getElem_cons hi] at h ⊢
  rw [Lib.index, h]
  simp only [Bool.false_eq_true, if_false]
  by_cases hm : Lib.index (l.drop (i + 1)) t = -1
  · rw [hm]; rfl
  · have e1 : (Lib.index (l.drop (i + 1)) t == -1) = false := by simpa using hm
    have e2 : (Lib.index (l.drop (i + 1)) t + 1 == -1) = false := by rw [beq_eq_false_iff_ne]; omega
    rw [e1]
    simp only [Bool.false_eq_true, if_false]
    rw [e2]
    simp only [Bool.false_eq_true, if_false]
    omega
theorem ext_pre {s t : ByteArray} {i : Nat} (h : i + t.size ≤ s.size) : t.data.toList.isPrefixOf (s.data.toList.drop i) = (((s.extract i (i + t.size)).toList == t.toList)) := by
  rw [ByteArray.toList_eq, ByteArray.toList_eq, ext_bytes, Nat.add_sub_cancel_left, Bool.eq_iff_iff, List.isPrefixOf_iff_prefix, beq_iff_eq, List.prefix_iff_eq_take, list_len]
  exact ⟨fun h => h.symm, fun h => h.symm⟩

set_option maxHeartbeats 1000000 in
set_option maxRecDepth 4000 in
theorem rfnd_any (s t : ByteArray) (i0 : Nat) (w : World) (ht : 0 < t.size) (ht2 : t.size ≤ 1048576) (hs : s.size ≤ 140737488355328) (hi0 : i0 ≤ 140737488355328) :
    Calls Tryz.prog 58 #[.string s, .string t, .int .i64 (i0 : Int)] w fun e w' => e = .returned (.int .i64 (findI s.data.toList t.data.toList i0)) ∧ w' = w := by
  obtain ⟨R, hR⟩ : ∃ R, R = findI s.data.toList t.data.toList i0 := ⟨_, rfl⟩
  rw [← hR]
  have HR := Lib.hid hR
  clear hR
  go_enter Tryz.func58, Tryz.ntmps58
  go_wp2
  go_loopg [7] (s.size + 1 - i0) (fun g iv wx => ∃ i : Nat, iv = .int .i64 i ∧ i0 ≤ i ∧ (i ≤ s.size + 1 ∨ i = i0) ∧ g = s.size + 1 - i ∧ Hid (R = findI s.data.toList t.data.toList i) ∧ wx = w)
  case atStart => exact ⟨i0, rfl, Nat.le_refl _, .inr rfl, rfl, HR.out, rfl⟩
  case round =>
    obtain ⟨i, rfl, h0, h1, hg, HI, rfl⟩ := hrel
    by_cases hp : s.size < i + t.size
    · have HQ : Hid (R = -1) := by show _ = _; rw [HI.out]; exact findI_past (by rw [list_len]; exact ht) (by rw [list_len, list_len]; exact hp)
      clear HI HR
      go_wp2
      go_ret
      exact ⟨by rw [HQ.out]; rfl, rfl⟩
    · have hin : i < s.size := by omega
      have hpre := ext_pre (s := s) (t := t) (i := i) (by omega)
      by_cases he : ((s.extract i (i + t.size)).toList == t.toList) = true
      · have HQ : Hid (R = i) := by show _ = _; rw [HI.out]; exact findI_hit (hpre.trans he)
        clear HI HR hpre
        go_wp2
        go_ret
        exact ⟨by rw [HQ.out]; rfl, rfl⟩
      · have he := Bool.eq_false_iff.mpr he
        have HQ : Hid (R = findI s.data.toList t.data.toList (i + 1)) := by show _ = _; rw [HI.out]; exact findI_next (by rw [list_len]; exact hin) (hpre.trans he)
        clear HI HR hpre
        go_wp2
        go_roundg (s.size + 1 - (i + 1))
        case measure => omega
        case rel => exact ⟨i + 1, rfl, by omega, .inl (by omega), rfl, HQ.out, rfl⟩
end Go.Proofs.YtbleabfgekeneaaGreatDoor
/-
  The walks of the reference's Value and Digits.
-/
namespace Go.Proofs.YtbleabfgekeneaaGreatDoor
open Go Go.RowKit

theorem decFrom_le : ∀ (l : List UInt8) (m v : Nat), Lib.decFrom m l = some v → m ≤ v
  | [], m, v, h => by
    rw [Lib.decFrom, Option.some.injEq] at h
    omega
  | c :: l, m, v, h => by
    rw [Lib.decFrom] at h
    cases hd : Lib.digitVal c with
    | none => rw [hd] at h; cases h
    | some d =>
      rw [hd] at h
      have := decFrom_le l _ v h
      omega
theorem decFrom_step {m v : Nat} {c : UInt8} {l : List UInt8} (h : Lib.decFrom m (c :: l) = some v) : ∃ d, c.toNat = 48 + d ∧ d < 10 ∧ Lib.decFrom (m * 10 + d) l = some v := by
  rw [Lib.decFrom] at h
  cases hd : Lib.digitVal c with
  | none => rw [hd] at h; cases h
  | some d =>
    rw [hd] at h
    obtain ⟨h10, he⟩ := digitVal_lt hd
    exact ⟨d, by rw [he, UInt8.toNat_ofNat']; omega, h10, h⟩

set_option maxHeartbeats 1000000 in
set_option maxRecDepth 4000 in
theorem rvalue_any (s : ByteArray) (v : Nat) (w : World) (hv : Lib.decFrom 0 s.data.toList = some v) (hb : v < 1000000000000000000) (hs : s.size ≤ 1048576) :
    Calls Tryz.prog 61 #[.string s] w fun e w' => e = .returned (.int .i64 (v : Int)) ∧ w' = w := by
  have HV := Lib.hid hv
  clear hv
  go_enter Tryz.func61, Tryz.ntmps61
  go_wp2
  go_loopg [3, 4] s.size (fun g nv iv wx => ∃ (k m : Nat), k + g = s.size ∧ nv = .int .i64 m ∧ iv = .int .i64 k ∧ Hid (Lib.decFrom m (s.data.toList.drop k) = some v) ∧ wx = w)
  case atStart => exact ⟨0, 0, by omega, rfl, rfl, by rw [List.drop_zero]; exact HV.out, rfl⟩
  case round =>
    obtain ⟨k, m, hk, rfl, rfl, HM, rfl⟩ := hrel
    cases gk with
    | zero =>
      obtain rfl : k = s.size := by omega
      have hm : m = v := by
        have := HM.out
        rw [List.drop_of_length_le (by rw [list_len]; exact Nat.le_refl _), Lib.decFrom, Option.some.injEq] at this
        exact this
      subst hm
      go_wp2
      go_ret
      exact ⟨rfl, rfl⟩
    | succ g =>
      have hi : k < s.size := by omega
      have hst := HM.out
      rw [drop_byte s k hi] at hst
      obtain ⟨d, hd, hd10, hn⟩ := decFrom_step hst
      have hle := decFrom_le _ _ _ hn
      have HN := Lib.hid hn
      obtain ⟨x, hx⟩ : ∃ x, x = (s[k]'hi).toNat := ⟨_, rfl⟩
      rw [← hx] at hd
      clear hst hn
      go_wp2
      go_roundg g
      case measure => omega
      case rel => exact ⟨k + 1, m * 10 + d, by omega, congrArg (Value.int .i64) (by omega), rfl, HN.out, rfl⟩

def dgs (l : List UInt8) : Bool := l.all fun c => decide (48 ≤ c.toNat) && decide (c.toNat ≤ 57)
theorem dgs_some : ∀ (l : List UInt8) (m : Nat), (Lib.decFrom m l).isSome = dgs l
  | [], _ => rfl
  | c :: l, m => by
    rw [Lib.decFrom, Lib.digitVal, dgs, List.all_cons]
    by_cases h : 48 ≤ c.toNat ∧ c.toNat ≤ 57
    · rw [if_pos h, decide_eq_true h.1, decide_eq_true h.2]
      exact dgs_some l _
    · rw [if_neg h]
      have : (decide (48 ≤ c.toNat) && decide (c.toNat ≤ 57)) = false := by simpa using h
      rw [this]
      rfl
theorem dgs_cons {c : UInt8} {l : List UInt8} (h1 : 48 ≤ c.toNat) (h2 : c.toNat ≤ 57) : dgs (c :: l) = dgs l := by
  rw [dgs, List.all_cons, decide_eq_true h1, decide_eq_true h2]
  rfl
theorem dgs_bad {c : UInt8} {l : List UInt8} (h : c.toNat < 48 ∨ 57 < c.toNat) : dgs (c :: l) = false := by
  rw [dgs, List.all_cons]
  have : (decide (48 ≤ c.toNat) && decide (c.toNat ≤ 57)) = false := by simp; omega
  rw [this]
  rfl

set_option maxHeartbeats 1000000 in
set_option maxRecDepth 4000 in
theorem rdigs_any (s : ByteArray) (w : World) (hs : s.size ≤ 140737488355328) :
    Calls Tryz.prog 60 #[.string s] w fun e w' => e = .returned (.bool (timeB s.data.toList)) ∧ w' = w := by
  obtain ⟨R, hR⟩ : ∃ R, R = timeB s.data.toList := ⟨_, rfl⟩
  have hlen : s.data.toList.length = s.size := list_len s
  rw [← hR]
  by_cases h1 : s.size < 1
  · have HR : Hid (R = false) := by show _ = _; rw [hR, timeB, numR, if_pos (.inl (by omega))]; rfl
    clear hR hlen
    go_enter Tryz.func60, Tryz.ntmps60
    go_wp2
    go_ret
    exact ⟨by rw [HR.out]; rfl, rfl⟩
  by_cases h2 : 18 < s.size
  · have HR : Hid (R = false) := by show _ = _; rw [hR, timeB, numR, if_pos (.inr (.inl (by omega)))]; rfl
    clear hR hlen
    go_enter Tryz.func60, Tryz.ntmps60
    go_wp2
    go_ret
    exact ⟨by rw [HR.out]; rfl, rfl⟩
  have h0 : 0 < s.size := by omega
  have hhead : s.data.toList.head? = some s[0] := by
    have := drop_byte s 0 h0
    rw [List.drop_zero] at this
    rw [this]
    rfl
  by_cases h3 : 1 < s.size ∧ s[0] = 48
  · have HR : Hid (R = false) := by show _ = _; rw [hR, timeB, numR, if_pos (.inr (.inr ⟨by omega, by rw [hhead, h3.2]⟩))]; rfl
    have hx : ((s[0].toNat : Int) == 48) = true := by rw [h3.2]; rfl
    have h31 := h3.1
    clear hR hlen h3 hhead
    go_enter Tryz.func60, Tryz.ntmps60
    go_wp2
    go_ret
    exact ⟨by rw [HR.out]; rfl, rfl⟩
  have HR : Hid (R = dgs (s.data.toList.drop 0)) := by
    show _ = _
    rw [hR, timeB, numR, if_neg, List.drop_zero, dgs_some]
    rintro (h | h | ⟨h, h'⟩)
    · omega
    · omega
    · exact h3 ⟨by omega, by rw [hhead, Option.some.injEq] at h'; exact h'⟩
  have hx : s.size = 1 ∨ (1 < s.size ∧ ((s[0].toNat : Int) == 48) = false) := by
    by_cases h : 1 < s.size
    · refine .inr ⟨h, ?_⟩
      rw [beq_eq_false_iff_ne]
      intro e
      exact h3 ⟨h, UInt8.toNat_inj.mp (by show _ = 48; omega)⟩
    · exact .inl (by omega)
  clear hR hlen h3 hhead
  rcases hx with hx | ⟨hx, hx2⟩
  all_goals
    go_enter Tryz.func60, Tryz.ntmps60
    go_wp2
    go_loopg [3] s.size (fun g iv wx => ∃ k : Nat, k + g = s.size ∧ iv = .int .i64 k ∧ Hid (R = dgs (s.data.toList.drop k)) ∧ wx = w)
    case atStart => exact ⟨0, by omega, rfl, HR.out, rfl⟩
    case round =>
      obtain ⟨k, hk, rfl, HM, rfl⟩ := hrel
      cases gk with
      | zero =>
        obtain rfl : k = s.size := by omega
        have HQ : Hid (R = true) := by show _ = _; rw [HM.out, List.drop_of_length_le (by rw [list_len]; exact Nat.le_refl _)]; rfl
        clear HM HR
        go_wp2
        go_ret
        exact ⟨by rw [HQ.out]; rfl, rfl⟩
      | succ g =>
        have hi : k < s.size := by omega
        have hM := HM.out
        rw [drop_byte s k hi] at hM
        by_cases hlo : (s[k]'hi).toNat < 48
        · have HQ : Hid (R = false) := by show _ = _; rw [hM, dgs_bad (.inl hlo)]
          clear HM HR hM
          go_wp2
          go_ret
          exact ⟨by rw [HQ.out]; rfl, rfl⟩
        by_cases hup : 57 < (s[k]'hi).toNat
        · have HQ : Hid (R = false) := by show _ = _; rw [hM, dgs_bad (.inr hup)]
          clear HM HR hM
          go_wp2
          go_ret
          exact ⟨by rw [HQ.out]; rfl, rfl⟩
        have HQ : Hid (R = dgs (s.data.toList.drop (k + 1))) := by show _ = _; rw [hM, dgs_cons (by omega) (by omega)]
        clear HM HR hM
        go_wp2
        go_roundg g
        case measure => omega
        case rel => exact ⟨k + 1, by omega, rfl, HQ.out, rfl⟩
end Go.Proofs.YtbleabfgekeneaaGreatDoor
