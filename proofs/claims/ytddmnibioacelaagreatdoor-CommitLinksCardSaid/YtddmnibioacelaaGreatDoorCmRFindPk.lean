/-
  The walk of the reference's find.
-/
import Derived.Test.YtddmnibioacelaaGreatDoorCmFmtPk
import Derived.Test.YtddmnibioacelaaGreatDoorObWordPk
import Derived.Test.YtddmnibioacelaaGreatDoorRow
namespace Go.Proofs.YtddmnibioacelaaGreatDoor
open Go Go.RowKit

/-- What the reference's find answers. -/
def findI (l t : List UInt8) (i : Nat) : Int := if Lib.index (l.drop i) t == -1 then -1 else Lib.index (l.drop i) t + i
theorem findI_past {l t : List UInt8} {i : Nat} (ht : 0 < t.length) (h : l.length < i + t.length) : findI l t i = -1 := by
  have : Lib.index (l.drop i) t = -1 := Lib.index_past (i := 0) (fun e => by rw [e] at ht; simp at ht) (fun _ h => absurd h (Nat.not_lt_zero _)) (by rw [List.length_drop]; omega)
  rw [findI, this]
  rfl
theorem findI_hit {l t : List UInt8} {i : Nat} (h : t.isPrefixOf (l.drop i) = true) : findI l t i = i := by
  have : Lib.index (l.drop i) t = 0 := Lib.index_hit (i := 0) (fun _ h => absurd h (Nat.not_lt_zero _)) (Nat.zero_le _) h
  rw [findI, this]
  simp
theorem findI_next {l t : List UInt8} {i : Nat} (hi : i < l.length) (h : t.isPrefixOf (l.drop i) = false) : findI l t i = findI l t (i + 1) := by
  unfold findI
  have hge := Lib.index_ge (l.drop (i + 1)) t
  rw [List.drop_eq_getElem_cons hi] at h ⊢
  rw [Lib.index, h]
  simp only [Bool.false_eq_true, if_false]
  by_cases hm : Lib.index (l.drop (i + 1)) t = -1
  · rw [hm]; rfl
  · have e1 : (Lib.index (l.drop (i + 1)) t == -1) = false := by simpa using hm
    have e2 : (Lib.index (l.drop (i + 1)) t + 1 == -1) = false := by rw [beq_eq_false_iff_ne]; omega
    rw [e1]
    simp only [Bool.false_eq_true, if_false]
    rw [e2]
    simp only [Bool.false_eq_true, if_false]
    omega
theorem ext_pre {s t : ByteArray} {i : Nat} (h : i + t.size ≤ s.size) : t.data.toList.isPrefixOf (s.data.toList.drop i) = (((s.extract i (i + t.size)).toList == t.toList)) := by
  rw [ByteArray.toList_eq, ByteArray.toList_eq, ext_bytes, Nat.add_sub_cancel_left, Bool.eq_iff_iff, List.isPrefixOf_iff_prefix, beq_iff_eq, List.prefix_iff_eq_take, list_len]
  exact ⟨fun h => h.symm, fun h => h.symm⟩

set_option maxHeartbeats 1000000 in
set_option maxRecDepth 4000 in
theorem rfnd_any (s t : ByteArray) (i0 : Nat) (w : World) (ht : 0 < t.size) (ht2 : t.size ≤ 1048576) (hs : s.size ≤ 140737488355328) (hi0 : i0 ≤ 140737488355328) :
    Calls Tryz.prog 58 #[.string s, .string t, .int .i64 (i0 : Int)] w fun e w' => e = .returned (.int .i64 (findI s.data.toList t.data.toList i0)) ∧ w' = w := by
  obtain ⟨R, hR⟩ : ∃ R, R = findI s.data.toList t.data.toList i0 := ⟨_, rfl⟩
  rw [← hR]
  have HR := Lib.hid hR
  clear hR
  go_enter Tryz.func58, Tryz.ntmps58
  go_wp2
  go_loopg [7] (s.size + 1 - i0) (fun g iv wx => ∃ i : Nat, iv = .int .i64 i ∧ i0 ≤ i ∧ (i ≤ s.size + 1 ∨ i = i0) ∧ g = s.size + 1 - i ∧ Hid (R = findI s.data.toList t.data.toList i) ∧ wx = w)
  case atStart => exact ⟨i0, rfl, Nat.le_refl _, .inr rfl, rfl, HR.out, rfl⟩
  case round =>
    obtain ⟨i, rfl, h0, h1, hg, HI, rfl⟩ := hrel
    by_cases hp : s.size < i + t.size
    · have HQ : Hid (R = -1) := by show _ = _; rw [HI.out]; exact findI_past (by rw [list_len]; exact ht) (by rw [list_len, list_len]; exact hp)
      clear HI HR
      go_wp2
      go_ret
      exact ⟨by rw [HQ.out]; rfl, rfl⟩
    · have hin : i < s.size := by omega
      have hpre := ext_pre (s := s) (t := t) (i := i) (by omega)
      by_cases he : ((s.extract i (i + t.size)).toList == t.toList) = true
      · have HQ : Hid (R = i) := by show _ = _; rw [HI.out]; exact findI_hit (hpre.trans he)
        clear HI HR hpre
        go_wp2
        go_ret
        exact ⟨by rw [HQ.out]; rfl, rfl⟩
      · have he := Bool.eq_false_iff.mpr he
        have HQ : Hid (R = findI s.data.toList t.data.toList (i + 1)) := by show _ = _; rw [HI.out]; exact findI_next (by rw [list_len]; exact hin) (hpre.trans he)
        clear HI HR hpre
        go_wp2
        go_roundg (s.size + 1 - (i + 1))
        case measure => omega
        case rel => exact ⟨i + 1, rfl, by omega, .inl (by omega), rfl, HQ.out, rfl⟩
end Go.Proofs.YtddmnibioacelaaGreatDoor
/-
  The walks of the reference's Value and Digits.
-/
namespace Go.Proofs.YtddmnibioacelaaGreatDoor
open Go Go.RowKit

theorem decFrom_le : ∀ (l : List UInt8) (m v : Nat), Lib.decFrom m l = some v → m ≤ v
  | [], m, v, h => by
    rw [Lib.decFrom, Option.some.injEq] at h
    omega
  | c :: l, m, v, h => by
    rw [Lib.decFrom] at h
    cases hd : Lib.digitVal c with
    | none => rw [hd] at h; cases h
    | some d =>
      rw [hd] at h
      have := decFrom_le l _ v h
      omega
theorem decFrom_step {m v : Nat} {c : UInt8} {l : List UInt8} (h : Lib.decFrom m (c :: l) = some v) : ∃ d, c.toNat = 48 + d ∧ d < 10 ∧ Lib.decFrom (m * 10 + d) l = some v := by
  rw [Lib.decFrom] at h
  cases hd : Lib.digitVal c with
  | none => rw [hd] at h; cases h
  | some d =>
    rw [hd] at h
    obtain ⟨h10, he⟩ := digitVal_lt hd
    exact ⟨d, by rw [he, UInt8.toNat_ofNat']; omega, h10, h⟩

set_option maxHeartbeats 1000000 in
set_option maxRecDepth 4000 in
theorem rvalue_any (s : ByteArray) (v : Nat) (w : World) (hv : Lib.decFrom 0 s.data.toList = some v) (hb : v < 1000000000000000000) (hs : s.size ≤ 1048576) :
    Calls Tryz.prog 61 #[.string s] w fun e w' => e = .returned (.int .i64 (v : Int)) ∧ w' = w := by
  have HV := Lib.hid hv
  clear hv
  go_enter Tryz.func61, Tryz.ntmps61
  go_wp2
  go_loopg [3, 4] s.size (fun g nv iv wx => ∃ (k m : Nat), k + g = s.size ∧ nv = .int .i64 m ∧ iv = .int .i64 k ∧ Hid (Lib.decFrom m (s.data.toList.drop k) = some v) ∧ wx = w)
  case atStart => exact ⟨0, 0, by omega, rfl, rfl, by rw [List.drop_zero]; exact HV.out, rfl⟩
  case round =>
    obtain ⟨k, m, hk, rfl, rfl, HM, rfl⟩ := hrel
    cases gk with
    | zero =>
      obtain rfl : k = s.size := by omega
      have hm : m = v := by
        have := HM.out
        rw [List.drop_of_length_le (by rw [list_len]; exact Nat.le_refl _), Lib.decFrom, Option.some.injEq] at this
        exact this
      subst hm
      go_wp2
      go_ret
      exact ⟨rfl, rfl⟩
    | succ g =>
      have hi : k < s.size := by omega
      have hst := HM.out
      rw [drop_byte s k hi] at hst
      obtain ⟨d, hd, hd10, hn⟩ := decFrom_step hst
      have hle := decFrom_le _ _ _ hn
      have HN := Lib.hid hn
      obtain ⟨x, hx⟩ : ∃ x, x = (s[k]'hi).toNat := ⟨_, rfl⟩
      rw [← hx] at hd
      clear hst hn
      go_wp2
      go_roundg g
      case measure => omega
      case rel => exact ⟨k + 1, m * 10 + d, by omega, congrArg (Value.int .i64) (by omega), rfl, HN.out, rfl⟩

def dgs (l : List UInt8) : Bool := l.all fun c => decide (48 ≤ c.toNat) && decide (c.toNat ≤ 57)
theorem dgs_some : ∀ (l : List UInt8) (m : Nat), (Lib.decFrom m l).isSome = dgs l
  | [], _ => rfl
  | c :: l, m => by
    rw [Lib.decFrom, Lib.digitVal, dgs, List.all_cons]
    by_cases h : 48 ≤ c.toNat ∧ c.toNat ≤ 57
    · rw [if_pos h, decide_eq_true h.1, decide_eq_true h.2]
      exact dgs_some l _
    · rw [if_neg h]
      have : (decide (48 ≤ c.toNat) && decide (c.toNat ≤ 57)) = false := by simpa using h
      rw [this]
      rfl
theorem dgs_cons {c : UInt8} {l : List UInt8} (h1 : 48 ≤ c.toNat) (h2 : c.toNat ≤ 57) : dgs (c :: l) = dgs l := by
  rw [dgs, List.all_cons, decide_eq_true h1, decide_eq_true h2]
  rfl
theorem dgs_bad {c : UInt8} {l : List UInt8} (h : c.toNat < 48 ∨ 57 < c.toNat) : dgs (c :: l) = false := by
  rw [dgs, List.all_cons]
  have : (decide (48 ≤ c.toNat) && decide (c.toNat ≤ 57)) = false := by simp; omega
  rw [this]
  rfl

set_option maxHeartbeats 1000000 in
set_option maxRecDepth 4000 in
theorem rdigs_any (s : ByteArray) (w : World) (hs : s.size ≤ 140737488355328) :
    Calls Tryz.prog 60 #[.string s] w fun e w' => e = .returned (.bool (timeB s.data.toList)) ∧ w' = w := by
  obtain ⟨R, hR⟩ : ∃ R, R = timeB s.data.toList := ⟨_, rfl⟩
  have hlen : s.data.toList.length = s.size := list_len s
  rw [← hR]
  by_cases h1 : s.size < 1
  · have HR : Hid (R = false) := by show _ = _; rw [hR, timeB, numR, if_pos (.inl (by omega))]; rfl
    clear hR hlen
    go_enter Tryz.func60, Tryz.ntmps60
    go_wp2
    go_ret
    exact ⟨by rw [HR.out]; rfl, rfl⟩
  by_cases h2 : 18 < s.size
  · have HR : Hid (R = false) := by show _ = _; rw [hR, timeB, numR, if_pos (.inr (.inl (by omega)))]; rfl
    clear hR hlen
    go_enter Tryz.func60, Tryz.ntmps60
    go_wp2
    go_ret
    exact ⟨by rw [HR.out]; rfl, rfl⟩
  have h0 : 0 < s.size := by omega
  have hhead : s.data.toList.head? = some s[0] := by
    have := drop_byte s 0 h0
    rw [List.drop_zero] at this
    rw [this]
    rfl
  by_cases h3 : 1 < s.size ∧ s[0] = 48
  · have HR : Hid (R = false) := by show _ = _; rw [hR, timeB, numR, if_pos (.inr (.inr ⟨by omega, by rw [hhead, h3.2]⟩))]; rfl
    have hx : ((s[0].toNat : Int) == 48) = true := by rw [h3.2]; rfl
    have h31 := h3.1
    clear hR hlen h3 hhead
    go_enter Tryz.func60, Tryz.ntmps60
    go_wp2
    go_ret
    exact ⟨by rw [HR.out]; rfl, rfl⟩
  have HR : Hid (R = dgs (s.data.toList.drop 0)) := by
    show _ = _
    rw [hR, timeB, numR, if_neg, List.drop_zero, dgs_some]
    rintro (h | h | ⟨h, h'⟩)
    · omega
    · omega
    · exact h3 ⟨by omega, by rw [hhead, Option.some.injEq] at h'; exact h'⟩
  have hx : s.size = 1 ∨ (1 < s.size ∧ ((s[0].toNat : Int) == 48) = false) := by
    by_cases h : 1 < s.size
    · refine .inr ⟨h, ?_⟩
      rw [beq_eq_false_iff_ne]
      intro e
      exact h3 ⟨h, UInt8.toNat_inj.mp (by show _ = 48; omega)⟩
    · exact .inl (by omega)
  clear hR hlen h3 hhead
  rcases hx with hx | ⟨hx, hx2⟩
  all_goals
    go_enter Tryz.func60, Tryz.ntmps60
    go_wp2
    go_loopg [3] s.size (fun g iv wx => ∃ k : Nat, k + g = s.size ∧ iv = .int .i64 k ∧ Hid (R = dgs (s.data.toList.drop k)) ∧ wx = w)
    case atStart => exact ⟨0, by omega, rfl, HR.out, rfl⟩
    case round =>
      obtain ⟨k, hk, rfl, HM, rfl⟩ := hrel
      cases gk with
      | zero =>
        obtain rfl : k = s.size := by omega
        have HQ : Hid (R = true) := by show _ = _; rw [HM.out, List.drop_of_length_le (by rw [list_len]; exact Nat.le_refl _)]; rfl
        clear HM HR
        go_wp2
        go_ret
        exact ⟨by rw [HQ.out]; rfl, rfl⟩
      | succ g =>
        have hi : k < s.size := by omega
        have hM := HM.out
        rw [drop_byte s k hi] at hM
        by_cases hlo : (s[k]'hi).toNat < 48
        · have HQ : Hid (R = false) := by show _ = _; rw [hM, dgs_bad (.inl hlo)]
          clear HM HR hM
          go_wp2
          go_ret
          exact ⟨by rw [HQ.out]; rfl, rfl⟩
        by_cases hup : 57 < (s[k]'hi).toNat
        · have HQ : Hid (R = false) := by show _ = _; rw [hM, dgs_bad (.inr hup)]
          clear HM HR hM
          go_wp2
          go_ret
          exact ⟨by rw [HQ.out]; rfl, rfl⟩
        have HQ : Hid (R = dgs (s.data.toList.drop (k + 1))) := by show _ = _; rw [hM, dgs_cons (by omega) (by omega)]
        clear HM HR hM
        go_wp2
        go_roundg g
        case measure => omega
        case rel => exact ⟨k + 1, by omega, rfl, HQ.out, rfl⟩
end Go.Proofs.YtddmnibioacelaaGreatDoor
/-
  The walk of the reference's zone.
-/
namespace Go.Proofs.YtddmnibioacelaaGreatDoor
open Go Go.RowKit

set_option maxHeartbeats 2000000 in
set_option maxRecDepth 4000 in
theorem rzone_any (s : ByteArray) (w : World) (hs : s.size ≤ 140737488355328) :
    Calls Tryz.prog 59 #[.string s] w fun e w' => e = .returned (.tuple #[.int .i64 (zoneI s.data.toList), .bool (zoneB s.data.toList)]) ∧ w' = w := by
  obtain ⟨I, hI⟩ : ∃ I, I = zoneI s.data.toList := ⟨_, rfl⟩
  obtain ⟨B, hB⟩ : ∃ B, B = zoneB s.data.toList := ⟨_, rfl⟩
  rw [← hI, ← hB]
  have none_case : zonO s.data.toList = none → Hid (I = 0 ∧ B = false) := fun h => ⟨by rw [hI, zoneI, h], by rw [hB, zoneB, h]; rfl⟩
  have some_case : ∀ z, zonO s.data.toList = some z → Hid (I = z ∧ B = true) := fun m h => ⟨by rw [hI, zoneI, h], by rw [hB, zoneB, h]; rfl⟩
  clear hI hB
  by_cases h5 : s.size = 5
  case neg =>
    have HR := none_case (zon_len (by rw [list_len]; exact h5))
    clear none_case some_case
    go_enter Tryz.func59, Tryz.ntmps59
    go_wp2
    go_ret2
    exact ⟨by rw [HR.out.1, HR.out.2]; rfl, rfl⟩
  have hl : s.data.toList = [s[0], s[1], s[2], s[3], s[4]] := by
    have e := drop_byte s 0 (by omega)
    rw [drop_byte s 1 (by omega), drop_byte s 2 (by omega), drop_byte s 3 (by omega), drop_byte s 4 (by omega), show s.data.toList.drop (4 + 1) = [] from List.drop_eq_nil_of_le (by rw [list_len]; omega)] at e
    simpa using e
  have h0 : 0 < s.size := by omega
  by_cases hsg : s[0] = 43 ∨ s[0] = 45
  case neg =>
    have HR := none_case (by rw [hl]; exact zon_sign hsg)
    have n1 : ¬ (s[0].toNat : Int) = 43 := fun e => hsg (.inl (UInt8.toNat_inj.mp (by show _ = 43; omega)))
    have n2 : ¬ (s[0].toNat : Int) = 45 := fun e => hsg (.inr (UInt8.toNat_inj.mp (by show _ = 45; omega)))
    clear none_case some_case hl hsg
    go_enter Tryz.func59, Tryz.ntmps59
    go_wp2
    go_ret2
    exact ⟨by rw [HR.out.1, HR.out.2]; rfl, rfl⟩
  by_cases hz : s = ⟨#[45, 48, 48, 48, 48]⟩
  · have HR := none_case (by rw [hz]; exact zon_zero)
    have he : (s.toList == [45, 48, 48, 48, 48]) = true := by rw [hz, ByteArray.toList_eq]; rfl
    have e45 : s[0] = 45 := by
      have := congrArg ByteArray.data hz
      subst hz
      rfl
    have e0 : ¬ (s[0].toNat : Int) = 43 := by rw [e45]; decide
    have e1 : (s[0].toNat : Int) = 45 := by rw [e45]; rfl
    clear none_case some_case hl hsg hz e45
    go_enter Tryz.func59, Tryz.ntmps59
    go_wp2
    go_ret2
    exact ⟨by rw [HR.out.1, HR.out.2]; rfl, rfl⟩
  have hne : (s.toList == [45, 48, 48, 48, 48]) = false := by
    have e := ba_ne hz
    rw [ByteArray.toList_eq ⟨#[45, 48, 48, 48, 48]⟩] at e
    exact e
  have hx : Hid (((s[0].toNat : Int) = 43) ∨ (¬ (s[0].toNat : Int) = 43 ∧ (s[0].toNat : Int) = 45)) := by
    rcases hsg with e | e
    · exact .inl (by rw [e]; rfl)
    · exact .inr ⟨by rw [e]; decide, by rw [e]; rfl⟩
  have hd1 : s.data.toList.drop 1 = [s[1], s[2], s[3], s[4]] := by rw [hl]; rfl
  obtain ⟨D, hD⟩ : ∃ D, D = dgs (s.data.toList.drop 1) := ⟨_, rfl⟩
  rcases D with _ | _
  · have HR := none_case (by
      rw [hd1] at hD
      rw [hl]
      unfold zonO
      simp only
      split
      · cases h1 : Lib.decFrom 0 [s[1], s[2]] with
        | none => rfl
        | some h =>
          cases h2 : Lib.decFrom 0 [s[3], s[4]] with
          | none => rfl
          | some m =>
            have e4 := dgs_some [s[1], s[2], s[3], s[4]] 0
            rw [dec_four, h1, h2, ← hD] at e4
            cases e4
      · rfl)
    have HD := Lib.hid hD
    clear none_case some_case hl hsg hz hD hd1
    rcases hx.out with e0 | ⟨e0, e1⟩
    all_goals
      go_enter Tryz.func59, Tryz.ntmps59
      go_wp2
      go_loopg [4] 4 (fun g iv wx => ∃ k : Nat, k + g = 5 ∧ 1 ≤ k ∧ iv = .int .i64 k ∧ Hid (false = dgs (s.data.toList.drop k)) ∧ wx = w)
      case atStart => exact ⟨1, rfl, Nat.le_refl _, rfl, HD.out, rfl⟩
      case round =>
        obtain ⟨k, hk, hk1, rfl, HM, rfl⟩ := hrel
        cases gk with
        | zero =>
          obtain rfl : k = 5 := by omega
          have := HM.out
          rw [List.drop_of_length_le (by rw [list_len]; omega)] at this
          cases this
        | succ g =>
          have hi : k < s.size := by omega
          have hM := HM.out
          rw [drop_byte s k hi] at hM
          by_cases hlo : (s[k]'hi).toNat < 48
          · clear HM hM HD
            go_wp2
            go_ret2
            exact ⟨by rw [HR.out.1, HR.out.2]; rfl, rfl⟩
          by_cases hup : 57 < (s[k]'hi).toNat
          · clear HM hM HD
            go_wp2
            go_ret2
            exact ⟨by rw [HR.out.1, HR.out.2]; rfl, rfl⟩
          have HQ : Hid (false = dgs (s.data.toList.drop (k + 1))) := by show _ = _; rw [hM, dgs_cons (by omega) (by omega)]
          clear HM hM HD
          go_wp2
          go_roundg g
          case measure => omega
          case rel => exact ⟨k + 1, by omega, by omega, rfl, HQ.out, rfl⟩
  · rw [hd1] at hD
    have e4 := dgs_some [s[1], s[2], s[3], s[4]] 0
    rw [dec_four, ← hD] at e4
    cases hh : Lib.decFrom 0 [s[1], s[2]] with
    | none => rw [hh] at e4; cases e4
    | some h =>
      cases hm : Lib.decFrom 0 [s[3], s[4]] with
      | none => rw [hh, hm] at e4; cases e4
      | some m =>
        have hb1 := dec_two_lt hh
        have hb2 := dec_two_lt hm
        have HV3 : Hid (∀ w', Calls Tryz.prog 61 #[.string (s.extract 3 5)] w' fun e w'' => e = .returned (.int .i64 (m : Int)) ∧ w'' = w') := fun w' =>
          rvalue_any _ m w' (by rw [ext_bytes, hl]; exact hm) (by omega) (by simp; omega)
        have HV1 : Hid (∀ w', Calls Tryz.prog 61 #[.string (s.extract 1 3)] w' fun e w'' => e = .returned (.int .i64 (h : Int)) ∧ w'' = w') := fun w' =>
          rvalue_any _ h w' (by rw [ext_bytes, hl]; exact hh) (by omega) (by simp; omega)
        have hzn : zonO s.data.toList = if m < 60 then some (zonV s[0] h m) else none := by
          rw [hl]
          unfold zonO
          simp only
          rw [if_pos ⟨hsg, fun e => hz (ba_ext (by rw [hl, e]))⟩, hh, hm]
          rfl
        have HD : Hid (true = dgs (s.data.toList.drop 1)) := by show _ = _; rw [hd1]; exact hD
        have HQ : Hid ((m < 60 → (I = zonV s[0] h m ∧ B = true)) ∧ (¬ m < 60 → (I = 0 ∧ B = false))) := by
          constructor
          · intro hm6
            rw [if_pos hm6] at hzn
            exact (some_case _ hzn).out
          · intro hm6
            rw [if_neg hm6] at hzn
            exact (none_case hzn).out
        have hs45 : (s[0].toNat : Int) = 45 ↔ s[0] = 45 := ⟨fun e => UInt8.toNat_inj.mp (by show _ = 45; omega), fun e => by rw [e]; rfl⟩
        have HS : Hid (zonV s[0] h m = if (s[0].toNat : Int) = 45 then -((60 * h + m : Nat) : Int) else ((60 * h + m : Nat) : Int)) := by
          show _ = _
          rw [zonV]
          by_cases e : s[0] = 45
          · rw [if_pos e, if_pos (hs45.mpr e)]
          · rw [if_neg e, if_neg (fun e' => e (hs45.mp e'))]
        clear none_case some_case hl hsg hz hD hd1 e4 hh hm hzn hs45
        rcases hx.out with e0 | ⟨e0, e1⟩
        all_goals
          go_enter Tryz.func59, Tryz.ntmps59
          go_wp2
          go_loopg [4] 4 (fun g iv wx => ∃ k : Nat, k + g = 5 ∧ 1 ≤ k ∧ iv = .int .i64 k ∧ Hid (true = dgs (s.data.toList.drop k)) ∧ wx = w)
          case atStart => exact ⟨1, rfl, Nat.le_refl _, rfl, HD.out, rfl⟩
          case round =>
            obtain ⟨k, hk, hk1, rfl, HM, rfl⟩ := hrel
            cases gk with
            | zero =>
              obtain rfl : k = 5 := by omega
              clear HM HD
              by_cases hm6 : m < 60
              · have HX := Lib.hid (HQ.out.1 hm6)
                have HS2 := HS.out
                first
                  | (rw [if_pos e1] at HS2
                     have HS3 := Lib.hid HS2
                     clear HQ HS HS2
                     go_wp2_with (go_at_call 61; first
                       | ((with_reducible refine (HV3.out _).mono ?_); rintro e wa ⟨rfl, rfl⟩)
                       | ((with_reducible refine (HV1.out _).mono ?_); rintro e wb ⟨rfl, rfl⟩))
                     go_ret2
                     exact ⟨by rw [HX.out.1, HX.out.2, HS3.out]; exact congrArg Ending.returned (by simp), rfl⟩)
                  | (rw [if_neg (by omega)] at HS2
                     have HS3 := Lib.hid HS2
                     clear HQ HS HS2
                     go_wp2_with (go_at_call 61; first
                       | ((with_reducible refine (HV3.out _).mono ?_); rintro e wa ⟨rfl, rfl⟩)
                       | ((with_reducible refine (HV1.out _).mono ?_); rintro e wb ⟨rfl, rfl⟩))
                     go_ret2
                     exact ⟨by rw [HX.out.1, HX.out.2, HS3.out]; exact congrArg Ending.returned (by simp), rfl⟩)
              · have HX := Lib.hid (HQ.out.2 hm6)
                clear HQ HS
                go_wp2_with (go_at_call 61; first
                  | ((with_reducible refine (HV3.out _).mono ?_); rintro e wa ⟨rfl, rfl⟩)
                  | ((with_reducible refine (HV1.out _).mono ?_); rintro e wb ⟨rfl, rfl⟩))
                go_ret2
                exact ⟨by rw [HX.out.1, HX.out.2]; rfl, rfl⟩
            | succ g =>
              have hi : k < s.size := by omega
              have hM := HM.out
              rw [drop_byte s k hi] at hM
              have hlo : 48 ≤ (s[k]'hi).toNat ∧ (s[k]'hi).toNat ≤ 57 := by
                refine Decidable.byContradiction fun hc => ?_
                rw [dgs_bad (by omega)] at hM
                cases hM
              obtain ⟨hlo, hup⟩ := hlo
              have HQ2 : Hid (true = dgs (s.data.toList.drop (k + 1))) := by show _ = _; rw [hM, dgs_cons hlo hup]
              clear HM hM HD HQ HS
              go_wp2
              go_roundg g
              case measure => omega
              case rel => exact ⟨k + 1, by omega, by omega, rfl, HQ2.out, rfl⟩
end Go.Proofs.YtddmnibioacelaaGreatDoor
