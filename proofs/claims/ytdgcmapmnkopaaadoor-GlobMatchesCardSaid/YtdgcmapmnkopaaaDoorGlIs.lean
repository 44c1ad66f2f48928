/-
  The walks of element, isPart and Is.
-/
import Derived.Test.YtdgcmapmnkopaaaDoorGlChar
import Derived.Test.YtdgcmapmnkopaaaDoorPtIs
namespace Go.Proofs.YtdgcmapmnkopaaaDoor
open Go.RowKit

/-- What element answers. -/
def elR (p : ByteArray) (k : Nat) (b : UInt8) (c : UInt8) : Bool × Nat := if c = 63 then (true, k + 1) else if c = 91 then classR p (k + 1) b else (cv (p.data.toList.drop k) == b, k + ck c)
theorem el_some {p : ByteArray} {k n : Nat} {b : UInt8} {t : Tok} (h : k < p.size) (ht : tk (p.data.toList.drop k) = some (t, n)) : elR p k b p[k] = (tm t b, k + n) := by
  rw [pt_drop p k h, tk] at ht
  unfold elR
  by_cases h1 : p[k] = 63
  · rw [if_pos h1] at ht ⊢
    simp only [Option.some.injEq, Prod.mk.injEq] at ht
    obtain ⟨rfl, rfl⟩ := ht
    rfl
  · rw [if_neg h1] at ht ⊢
    by_cases h2 : p[k] = 91
    · rw [if_pos h2] at ht ⊢
      unfold classR cg
      rw [← List.drop_drop]
      obtain ⟨⟨is, m⟩, h3, h4⟩ := Option.map_eq_some_iff.mp ht
      simp only [Prod.mk.injEq] at h4
      obtain ⟨rfl, rfl⟩ := h4
      rw [h3]
      simp only [Bool.false_or, tm, Nat.add_assoc]
    · rw [if_neg h2] at ht ⊢
      split at ht
      · cases ht
      · simp only [Option.some.injEq, Prod.mk.injEq] at ht
        obtain ⟨rfl, rfl⟩ := ht
        rw [pt_drop p k h, tm]
theorem el_none {p : ByteArray} {k : Nat} {b : UInt8} (h : k < p.size) (ht : tk (p.data.toList.drop k) = none) : (elR p k b p[k]).2 = p.size + 1 := by
  have hd := pt_drop p k h
  rw [hd, tk] at ht
  unfold elR
  by_cases h1 : p[k] = 63
  · rw [if_pos h1] at ht
    cases ht
  · rw [if_neg h1] at ht ⊢
    by_cases h2 : p[k] = 91
    · rw [if_pos h2] at ht ⊢
      unfold classR cg
      rw [← List.drop_drop, Option.map_eq_none_iff.mp ht]
    · rw [if_neg h2] at ht ⊢
      split at ht
      · rename_i h3
        have h4 := congrArg List.length h3.2
        rw [List.length_drop, list_len, List.length_nil] at h4
        simp only [ck, if_pos h3.1]
        omega
      · cases ht

set_option maxHeartbeats 1000000 in
set_option maxRecDepth 4000 in
theorem element_any (p : ByteArray) (k : Nat) (b : UInt8) (B : Bool) (N : Nat) (w : World) (hk : k < p.size) (hs : p.size ≤ 1048576) (hR : elR p k b p[k] = (B, N)) :
    Calls Tryd.prog 70 #[.string p, .int .i64 (k : Int), .int .i32 (b.toNat : Int)] w fun e w' => e = .returned (.tuple #[.bool B, .int .i64 (N : Int)]) ∧ w = w' := by
  unfold elR at hR
  by_cases h1 : p[k] = 63
  · rw [if_pos h1] at hR
    simp only [Prod.mk.injEq] at hR
    have a1 : (((p[k]'hk).toNat : Int) == 63) = true := by rw [beq_iff_eq, h1]; rfl
    have HB : Hid (B = true) := hR.1.symm
    have i1 : IntKind.i64.wrap ((k : Int) + 1) = (N : Int) := by rw [IntWalk.i64_in _ (by omega)]; omega
    clear hR h1
    go_enter Tryd.func70, Tryd.ntmps70
    go_wp2
    go_ret2
    exact ⟨bt2 HB.out.symm rfl, rfl⟩
  · rw [if_neg h1] at hR
    have a1 : (((p[k]'hk).toNat : Int) == 63) = false := u8_not (n := 63) (by decide) h1
    by_cases h2 : p[k] = 91
    · rw [if_pos h2] at hR
      have a2 : (((p[k]'hk).toNat : Int) == 91) = true := by rw [beq_iff_eq, h2]; rfl
      have HC := Lib.hid (fun w => class_any p (k + 1) b B N w (by omega) hs hR)
      have i1 : IntKind.i64.wrap ((k : Int) + 1) = ((k + 1 : Nat) : Int) := by rw [IntWalk.i64_in _ (by omega)]; omega
      clear hR h1 h2
      go_enter Tryd.func70, Tryd.ntmps70
      go_wp2_with (go_at_call 84; ((refine (HC.out _).mono ?_); rintro e w' ⟨rfl, rfl⟩))
      go_ret2
      exact ⟨rfl, rfl⟩
    · rw [if_neg h2] at hR
      simp only [Prod.mk.injEq] at hR
      have a2 : (((p[k]'hk).toNat : Int) == 91) = false := u8_not (n := 91) (by decide) h2
      obtain ⟨V, hV⟩ : ∃ V, V = cv (p.data.toList.drop k) := ⟨_, rfl⟩
      have HC := Lib.hid (fun w => char_any p k V N w hk hs hV hR.2.symm)
      have hB : B = (V == b) := by rw [hV]; exact hR.1.symm
      have HB : Hid (B = ((V.toNat : Int) == (b.toNat : Int))) := by
        show _ = _
        rw [hB, Bool.eq_iff_iff, beq_iff_eq, beq_iff_eq, Int.natCast_inj, UInt8.toNat_inj]
      clear hR h1 h2 hV hB
      go_enter Tryd.func70, Tryd.ntmps70
      go_wp2_with (go_at_call 85; ((with_reducible refine (HC.out _).mono ?_); rintro e w' ⟨rfl, rfl⟩))
      go_ret2
      exact ⟨bt2 HB.out.symm rfl, rfl⟩

/-- What is left of a part pattern is right. -/
def okFrom (p : ByteArray) (a : Nat) : Bool := decide (a ≤ p.size) && (tks (p.data.toList.drop a)).isSome
theorem okFrom_end (p : ByteArray) : okFrom p p.size = true := by
  unfold okFrom
  rw [List.drop_of_length_le (by rw [list_len]; exact Nat.le_refl _), tks_nil]
  simp
theorem okFrom_over (p : ByteArray) {a : Nat} (h : p.size < a) : okFrom p a = false := by
  unfold okFrom
  rw [decide_eq_false (by omega)]
  rfl
theorem okFrom_on {p : ByteArray} {a : Nat} (h : a < p.size) (b : UInt8) : okFrom p a = okFrom p (elR p a b p[a]).2 ∧ a < (elR p a b p[a]).2 ∧ (elR p a b p[a]).2 ≤ p.size + 1 := by
  cases ht : tk (p.data.toList.drop a) with
  | none =>
    have e := okFrom_over p (a := p.size + 1) (Nat.lt_succ_self _)
    rw [el_none h ht, e]
    refine ⟨?_, by omega, by omega⟩
    unfold okFrom
    rw [pt_drop p a h] at ht ⊢
    rw [tks_bad ht]
    simp
  | some x =>
    obtain ⟨t, n⟩ := x
    rw [el_some h ht]
    have hle := tk_le ht
    rw [List.length_drop, list_len] at hle
    refine ⟨?_, by simp only; omega, by simp only; omega⟩
    unfold okFrom
    rw [decide_eq_true (by omega), decide_eq_true (by simp only; omega)]
    rw [pt_drop p a h] at ht ⊢
    rw [tks_on ht, ← pt_drop p a h, List.drop_drop]
    cases tks (p.data.toList.drop (a + n)) <;> rfl

set_option maxHeartbeats 1000000 in
set_option maxRecDepth 4000 in
theorem isPart_any (p : ByteArray) (B : Bool) (w : World) (hs : p.size ≤ 1048576) (hB : B = isPt p.data.toList) :
    Calls Tryd.prog 54 #[.string p] w fun e w' => e = .returned (.bool B) ∧ w = w' := by
  have HEL := Lib.hid (fun (k : Nat) (hk : k < p.size) (B : Bool) (N : Nat) (hR : elR p k 0 p[k] = (B, N)) (w : World) => element_any p k 0 B N w hk hs hR)
  by_cases h0 : p.size = 0
  · have he := none_true h0
    have HX : Hid (B = false) := by
      show _ = _
      rw [hB, isPt, List.eq_nil_of_length_eq_zero (l := p.data.toList) (by rw [list_len]; exact h0)]
      rfl
    have he2 : (!p.toList.isEmpty) = false := by rw [he]; rfl
    have hz : p.toList = [] := List.isEmpty_iff.mp he
    clear hB
    go_enter Tryd.func54, Tryd.ntmps54
    go_wp2
    go_loop [3] (fun av => av = .int .i64 0) (fun _ => 0)
    case atStart => rfl
    case round =>
      obtain rfl := hrel
      go_wp2
      go_ret
      exact ⟨by rw [HX.out]; rfl, rfl⟩
  · have he := none_false (s := p) (by omega)
    have he2 : (!p.toList.isEmpty) = true := by rw [he]; rfl
    have HB : Hid (B = okFrom p 0) := by
      show _ = _
      rw [hB, isPt, okFrom]
      have : p.data.toList.isEmpty = false := by
        rw [List.isEmpty_eq_false_iff]
        intro e
        have := congrArg List.length e
        rw [list_len] at this
        exact h0 this
      rw [this]
      simp
    clear hB h0
    go_enter Tryd.func54, Tryd.ntmps54
    go_wp2
    go_loop [3] (fun av => ∃ a : Nat, a ≤ p.size + 1 ∧ av = .int .i64 (a : Int) ∧ Hid (B = okFrom p a)) (fun av => p.size + 1 - (intOf av).toNat)
    case atStart => exact ⟨0, by omega, rfl, HB.out⟩
    case round =>
      clear HB
      obtain ⟨a, ha, rfl, HB⟩ := hrel
      by_cases hlt : a < p.size
      · obtain ⟨h1, h2, h3⟩ := okFrom_on hlt 0
        obtain ⟨C, N, hR⟩ : ∃ C N, elR p a 0 p[a] = (C, N) := ⟨_, _, rfl⟩
        rw [hR] at h1 h2 h3
        simp only at h1 h2 h3
        have HC := Lib.hid (HEL.out a hlt C N hR)
        have HX : Hid (B = okFrom p N) := by show _ = _; rw [HB.out, h1]
        clear hR h1 HB
        go_wp2_with (go_at_call 70; ((refine (HC.out _).mono ?_); rintro e w' ⟨rfl, rfl⟩))
        go_round
        case rel => exact ⟨N, h3, rfl, HX.out⟩
        case measure => simp [intOf]; omega
      · by_cases heq : a = p.size
        · have HX : Hid (B = true) := by show _ = _; rw [HB.out, heq, okFrom_end]
          have e1 : ((a : Int) == (p.size : Int)) = true := by rw [beq_iff_eq]; omega
          clear HB heq
          go_wp2
          go_ret
          exact ⟨by rw [HX.out]; rfl, rfl⟩
        · have HX : Hid (B = false) := by show _ = _; rw [HB.out, okFrom_over p (by omega)]
          have e1 : ((a : Int) == (p.size : Int)) = false := by rw [beq_eq_false_iff_ne]; omega
          clear HB heq
          go_wp2
          go_ret
          exact ⟨by rw [HX.out]; rfl, rfl⟩

/-- What Is answers. -/
def gIs (p : ByteArray) : Bool := decide (0 < p.size) && (decide (p.size ≤ 255) && (prts p).all isPt)
set_option maxHeartbeats 1000000 in
set_option maxRecDepth 4000 in
theorem gis_any (p : ByteArray) (m : Int) (B : Bool) (w : World) (hs : p.size ≤ 140737488355328) (hm : w.cell? ⟨0, 0, none⟩ = some (.int .i64 m)) (hB : B = gIs p) :
    Calls Tryd.prog 36 #[.string p] w fun e w' => e = .returned (.bool B) ∧ Below w.heap.size w w' := by
  by_cases h0 : p.size = 0
  · have he := none_true h0
    have hz : p.toList = [] := List.isEmpty_iff.mp he
    have HX : Hid (B = false) := by show _ = _; rw [hB, gIs, decide_eq_false (by omega)]; rfl
    clear hB
    go_enter Tryd.func36, Tryd.ntmps36
    go_wp2
    go_ret
    exact ⟨by rw [HX.out]; rfl, Below.refl _ _⟩
  · have he := none_false (s := p) (by omega)
    by_cases h255 : 255 < p.size
    · have HX : Hid (B = false) := by show _ = _; rw [hB, gIs, decide_eq_false (p := p.size ≤ 255) (by omega)]; simp
      clear hB h0
      go_enter Tryd.func36, Tryd.ntmps36
      go_wp2
      go_ret
      exact ⟨by rw [HX.out]; rfl, Below.refl _ _⟩
    · have HP := Lib.hid (parts_any p m w (by omega) hm)
      have HLN := Lib.hid (fun t (ht : t ∈ prts p) => Nat.le_trans (prts_len ht) (by omega : p.size ≤ 1048576))
      have HB : Hid (B = ((prts p).drop 0).all isPt) := by
        show _ = _
        rw [hB, gIs, decide_eq_true (by omega), decide_eq_true (p := p.size ≤ 255) (by omega)]
        rfl
      obtain ⟨ls, hls⟩ : ∃ ls, ls = prts p := ⟨_, rfl⟩
      rw [← hls] at HP HB HLN
      have HPN : Hid (ls.length ≤ 1048576) := by
        show _ ≤ _
        rw [hls]
        exact Nat.le_trans (prts_count p) (by omega)
      obtain ⟨n, hn⟩ : ∃ n, n = ls.length := ⟨_, rfl⟩
      rw [← hn] at HP HPN
      have HN := Lib.hid hn
      have hn2 := HPN.out
      clear hB hls hn h0
      go_enter Tryd.func36, Tryd.ntmps36
      go_wp2_with (go_at_call 19; ((with_reducible refine HP.out.mono ?_); rintro e w1 ⟨⟨q, cap, rfl, hr⟩, hb1⟩; have HR := Lib.hid hr; clear hr))
      go_loop [15] (fun iv => ∃ k : Nat, k ≤ n ∧ iv = .int .i64 (k : Int) ∧ Hid (B = (ls.drop k).all isPt)) (fun iv => n - (intOf iv).toNat)
      case atStart => exact ⟨0, by omega, rfl, HB.out⟩
      case round =>
        clear HB
        obtain ⟨k, hk, rfl, HB⟩ := hrel
        by_cases hlt : k < n
        · have hka : k < ls.length := by rw [← HN.out]; exact hlt
          obtain ⟨g, o, rfl, hg, a0⟩ := HR.out k hka
          have hX := HB.out
          rw [List.drop_eq_getElem_cons hka, List.all_cons] at hX
          obtain ⟨x, hx⟩ : ∃ x, x = ls[k] := ⟨_, rfl⟩
          have hxl : x.length ≤ 1048576 := by rw [hx]; exact HLN.out _ (List.getElem_mem hka)
          rw [← hx] at a0 hX
          obtain ⟨t, ht⟩ : ∃ t, t = str x := ⟨_, rfl⟩
          rw [← ht] at a0
          have htx : t.data.toList = x := by rw [ht, str_list]
          obtain ⟨C, hC⟩ : ∃ C, C = isPt x := ⟨_, rfl⟩
          rw [← hC] at hX
          have HC := Lib.hid (fun w => isPart_any t C w (by rw [ht, str_size]; exact hxl) (by rw [htx]; exact hC))
          have HX := Lib.hid hX
          clear hX hx ht htx hC hka hg HB
          rcases C with _ | _
          · go_wp2_with (go_at_call 54; ((with_reducible refine (HC.out _).mono ?_); rintro e w' ⟨rfl, rfl⟩))
            go_ret
            exact ⟨by rw [HX.out]; rfl, hb1⟩
          · go_wp2_with (go_at_call 54; ((with_reducible refine (HC.out _).mono ?_); rintro e w' ⟨rfl, rfl⟩))
            go_round
            case rel => exact ⟨k + 1, by omega, by go_num, by show _ = _; rw [HX.out]; rfl⟩
            case measure => simp [intOf]; omega
        · obtain rfl : k = n := by omega
          have HX : Hid (B = true) := by show _ = _; rw [HB.out, HN.out, List.drop_length]; rfl
          clear HB
          go_wp2
          go_ret
          exact ⟨by rw [HX.out]; rfl, hb1⟩
end Go.Proofs.YtdgcmapmnkopaaaDoor
