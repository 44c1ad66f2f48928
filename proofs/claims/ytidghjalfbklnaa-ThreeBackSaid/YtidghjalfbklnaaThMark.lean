/-
  Plain mathematics of conflict markers, and the walks that tell one.
-/
import Derived.Test.YtidghjalfbklnaaSpSplitPk
import Derived.Test.YtidghjalfbklnaaShelf
namespace Go.Proofs.Ytidghjalfbklnaa
open Go.RowKit

def opnL : List UInt8 := [60, 60, 60, 60, 60, 60, 60, 32]
def clsL : List UInt8 := [62, 62, 62, 62, 62, 62, 62, 32]
def basL : List UInt8 := [124, 124, 124, 124, 124, 124, 124]
def divL : List UInt8 := [61, 61, 61, 61, 61, 61, 61]
/-- A line without its line feed. -/
def bareL (l : List UInt8) : List UInt8 := if l.getLast? = some 10 then l.dropLast else l
/-- The kind of marker that a line is; 0: none. -/
def mkL (l : List UInt8) : Nat := if opnL.isPrefixOf l = true then 1 else if clsL.isPrefixOf l = true then 4 else if bareL l = basL then 2 else if bareL l = divL then 3 else 0
theorem mkL_le (l : List UInt8) : mkL l ≤ 4 := by
  unfold mkL
  repeat' split
  all_goals omega
theorem beq_dec (a b : List UInt8) : (a == b) = decide (a = b) := by rw [Bool.eq_iff_iff]; simp
theorem suf10 (l : List UInt8) : Lib.hasSuffix l [10] = decide (l.getLast? = some 10) := by
  show [10].isSuffixOf l = _
  rw [Bool.eq_iff_iff, List.isSuffixOf_iff_suffix, decide_eq_true_eq]
  constructor
  · rintro ⟨t, rfl⟩
    simp
  · intro h
    have hne : l ≠ [] := fun e => by rw [e] at h; cases h
    rw [List.getLast?_eq_some_getLast hne, Option.some.injEq] at h
    exact ⟨l.dropLast, by rw [← h]; exact List.dropLast_concat_getLast hne⟩
theorem trim10 (l : List UInt8) : Lib.trimSuffix l [10] = bareL l := by
  unfold Lib.trimSuffix bareL
  rw [suf10]
  by_cases h : l.getLast? = some 10
  · rw [if_pos (decide_eq_true h), if_pos h, List.dropLast_eq_take]
    rfl
  · rw [if_neg (by simpa using h), if_neg h]
theorem pfx_take (p l : List UInt8) : p.isPrefixOf l = true ↔ p.length ≤ l.length ∧ l.take p.length = p := by
  rw [List.isPrefixOf_iff_prefix, List.prefix_iff_eq_take]
  constructor
  · intro h
    exact ⟨by have := congrArg List.length h; rw [List.length_take] at this; omega, h.symm⟩
  · intro h; exact h.2.symm
theorem str_selfE (t : ByteArray) : str t.data.toList = t := ba_ext rfl
theorem bareL_le (l : List UInt8) : (bareL l).length ≤ l.length := by unfold bareL; split <;> simp

set_option maxHeartbeats 1000000 in
theorem marker_any (t : ByteArray) (k : Nat) (w : World) (ht : t.size ≤ 1048576) (hk : k = mkL t.data.toList) :
    Calls Try.prog 52 #[.string t] w fun e w' => e = .returned (.int .i64 (k : Int)) ∧ w' = w := by
  obtain ⟨b, hb⟩ : ∃ b, b = str (bareL t.data.toList) := ⟨_, rfl⟩
  have HT : Hid (∀ w, Calls Try.prog 83 #[.string t, .string ⟨#[10]⟩] w fun e w' => e = .returned (.string b) ∧ w' = w) := fun w => by
    have h := Try.strings_TrimSuffix t ⟨#[10]⟩ w (by omega)
    rw [show Lib.trimSuffix t.data.toList (⟨#[10]⟩ : ByteArray).data.toList = bareL t.data.toList from trim10 _] at h
    rw [hb]
    exact h
  obtain ⟨p1, hp1⟩ : ∃ p, p = opnL.isPrefixOf t.data.toList := ⟨_, rfl⟩
  obtain ⟨p2, hp2⟩ : ∃ p, p = clsL.isPrefixOf t.data.toList := ⟨_, rfl⟩
  have HP1 : Hid (∀ w, Calls Try.prog 84 #[.string t, .string ⟨#[60, 60, 60, 60, 60, 60, 60, 32]⟩] w fun e w' => e = .returned (.bool p1) ∧ w' = w) := fun w => by
    rw [hp1]
    exact Try.strings_HasPrefix t ⟨#[60, 60, 60, 60, 60, 60, 60, 32]⟩ w
  have HP2 : Hid (∀ w, Calls Try.prog 84 #[.string t, .string ⟨#[62, 62, 62, 62, 62, 62, 62, 32]⟩] w fun e w' => e = .returned (.bool p2) ∧ w' = w) := fun w => by
    rw [hp2]
    exact Try.strings_HasPrefix t ⟨#[62, 62, 62, 62, 62, 62, 62, 32]⟩ w
  have e1 : (b.toList == [124, 124, 124, 124, 124, 124, 124]) = decide (bareL t.data.toList = basL) := by rw [ByteArray.toList_eq, hb, str_list]; exact beq_dec _ _
  have e2 : (b.toList == [61, 61, 61, 61, 61, 61, 61]) = decide (bareL t.data.toList = divL) := by rw [ByteArray.toList_eq, hb, str_list]; exact beq_dec _ _
  obtain ⟨q1, hq1⟩ : ∃ q, q = decide (bareL t.data.toList = basL) := ⟨_, rfl⟩
  obtain ⟨q2, hq2⟩ : ∃ q, q = decide (bareL t.data.toList = divL) := ⟨_, rfl⟩
  have hkk : k = if p1 = true then 1 else if p2 = true then 4 else if q1 = true then 2 else if q2 = true then 3 else 0 := by
    rw [hk, mkL, hp1, hp2, hq1, hq2]
    simp only [decide_eq_true_eq]
  rw [← hq1] at e1
  rw [← hq2] at e2
  have HK := Lib.hid hkk
  clear hk hkk hb hp1 hp2 hq1 hq2
  rcases p1 with _ | _
  · rcases p2 with _ | _
    · rcases q1 with _ | _
      · rcases q2 with _ | _
        all_goals go_enter Try.func52, Try.ntmps52
        all_goals go_wp2_with (first
          | (go_at_call 83; ((with_reducible refine (HT.out _).mono ?_); rintro e w1 ⟨rfl, rfl⟩))
          | (go_at_call 84; first | ((with_reducible refine (HP1.out _).mono ?_); rintro e w1 ⟨rfl, rfl⟩) | ((with_reducible refine (HP2.out _).mono ?_); rintro e w1 ⟨rfl, rfl⟩)))
        all_goals go_ret
        all_goals exact ⟨by rw [HK.out]; rfl, rfl⟩
      · go_enter Try.func52, Try.ntmps52
        go_wp2_with (first
          | (go_at_call 83; ((with_reducible refine (HT.out _).mono ?_); rintro e w1 ⟨rfl, rfl⟩))
          | (go_at_call 84; first | ((with_reducible refine (HP1.out _).mono ?_); rintro e w1 ⟨rfl, rfl⟩) | ((with_reducible refine (HP2.out _).mono ?_); rintro e w1 ⟨rfl, rfl⟩)))
        go_ret
        exact ⟨by rw [HK.out]; rfl, rfl⟩
    · go_enter Try.func52, Try.ntmps52
      go_wp2_with (first
        | (go_at_call 83; ((with_reducible refine (HT.out _).mono ?_); rintro e w1 ⟨rfl, rfl⟩))
        | (go_at_call 84; first | ((with_reducible refine (HP1.out _).mono ?_); rintro e w1 ⟨rfl, rfl⟩) | ((with_reducible refine (HP2.out _).mono ?_); rintro e w1 ⟨rfl, rfl⟩)))
      go_ret
      exact ⟨by rw [HK.out]; rfl, rfl⟩
  · go_enter Try.func52, Try.ntmps52
    go_wp2_with (first
      | (go_at_call 83; ((with_reducible refine (HT.out _).mono ?_); rintro e w1 ⟨rfl, rfl⟩))
      | (go_at_call 84; first | ((with_reducible refine (HP1.out _).mono ?_); rintro e w1 ⟨rfl, rfl⟩) | ((with_reducible refine (HP2.out _).mono ?_); rintro e w1 ⟨rfl, rfl⟩)))
    go_ret
    exact ⟨by rw [HK.out]; rfl, rfl⟩

set_option maxHeartbeats 1000000 in
theorem bare_any (t : ByteArray) (w : World) (ht : t.size ≤ 1048576) (b : ByteArray) (hb : b = str (bareL t.data.toList)) :
    Calls Try.prog 86 #[.string t] w fun e w' => e = .returned (.string b) ∧ w' = w := by
  by_cases h0 : t.size = 0
  · have hl : t.data.toList = [] := List.eq_nil_of_length_eq_zero (by rw [list_len]; exact h0)
    have e0 : t.toList.isEmpty = true := by rw [ByteArray.toList_eq, hl]; rfl
    have HB : Hid (b = t) := by
      show _ = _
      rw [hb, hl]
      refine ba_ext ?_
      rw [str_list, hl]
      rfl
    clear hb hl h0
    go_enter Try.func86, Try.ntmps86
    go_wp2
    go_ret
    exact ⟨by rw [HB.out]; rfl, rfl⟩
  · obtain ⟨k, hk⟩ : ∃ k, k + 1 = t.size := ⟨t.size - 1, by omega⟩
    have hk2 : k < t.size := by omega
    have i1 : IntKind.i64.wrap ((t.size : Int) - 1) = (k : Int) := by rw [IntWalk.i64_in _ (by omega)]; omega
    have e0 : t.toList.isEmpty = false := by
      rw [ByteArray.toList_eq]
      cases hl : t.data.toList with
      | nil => have := congrArg List.length hl; rw [list_len] at this; exact absurd (by simpa using this) h0
      | cons x r => rfl
    have hla := last_at hk
    by_cases h10 : t[k] = 10
    · have a1 : ((t[k].toNat : Int) == 10) = true := u8_is (n := 10) (by decide) h10
      have HB : Hid (t.extract 0 k = b) := by
        show _ = _
        rw [hb, bareL, if_pos (by rw [hla, h10]), drop_last hk]
        exact (str_selfE _).symm
      clear hb hla h10 h0 hk
      go_enter Try.func86, Try.ntmps86
      go_wp2
      go_ret
      exact ⟨by rw [← HB.out]; rfl, rfl⟩
    · have a1 : ((t[k].toNat : Int) == 10) = false := u8_not (n := 10) (by decide) h10
      have HB : Hid (b = t) := by
        show _ = _
        rw [hb, bareL, if_neg (by rw [hla]; intro e; exact h10 (Option.some.inj e))]
        exact str_selfE _
      clear hb hla h10 h0 hk
      go_enter Try.func86, Try.ntmps86
      go_wp2
      go_ret
      exact ⟨by rw [HB.out]; rfl, rfl⟩

theorem pfx8 (t : ByteArray) (p : List UInt8) (hp : p.length = 8) (h : 8 ≤ t.size) : ((t.extract 0 8).toList == p) = p.isPrefixOf t.data.toList := by
  rw [ByteArray.toList_eq, ext_bytes, beq_dec, Bool.eq_iff_iff, decide_eq_true_eq, pfx_take, list_len, hp]
  simp only [List.drop_zero, Nat.sub_zero]
  exact ⟨fun e => ⟨h, e⟩, fun e => e.2⟩
theorem pfx_no (t : ByteArray) (p : List UInt8) (hp : p.length = 8) (h : ¬ 8 ≤ t.size) : p.isPrefixOf t.data.toList = false := by
  rw [Bool.eq_false_iff]
  intro e
  rw [pfx_take, list_len, hp] at e
  exact h e.1

set_option maxHeartbeats 1000000 in
theorem rmark_any (t : ByteArray) (k : Nat) (w : World) (ht : t.size ≤ 1048576) (hk : k = mkL t.data.toList) :
    Calls Try.prog 56 #[.string t] w fun e w' => e = .returned (.int .i64 (k : Int)) ∧ w' = w := by
  obtain ⟨b, hb⟩ : ∃ b, b = str (bareL t.data.toList) := ⟨_, rfl⟩
  have HT : Hid (∀ w, Calls Try.prog 86 #[.string t] w fun e w' => e = .returned (.string b) ∧ w' = w) := fun w => bare_any t w ht b hb
  obtain ⟨p1, hp1⟩ : ∃ p, p = opnL.isPrefixOf t.data.toList := ⟨_, rfl⟩
  obtain ⟨p2, hp2⟩ : ∃ p, p = clsL.isPrefixOf t.data.toList := ⟨_, rfl⟩
  have e1 : (b.toList == [124, 124, 124, 124, 124, 124, 124]) = decide (bareL t.data.toList = basL) := by rw [ByteArray.toList_eq, hb, str_list]; exact beq_dec _ _
  have e2 : (b.toList == [61, 61, 61, 61, 61, 61, 61]) = decide (bareL t.data.toList = divL) := by rw [ByteArray.toList_eq, hb, str_list]; exact beq_dec _ _
  obtain ⟨q1, hq1⟩ : ∃ q, q = decide (bareL t.data.toList = basL) := ⟨_, rfl⟩
  obtain ⟨q2, hq2⟩ : ∃ q, q = decide (bareL t.data.toList = divL) := ⟨_, rfl⟩
  have hkk : k = if p1 = true then 1 else if p2 = true then 4 else if q1 = true then 2 else if q2 = true then 3 else 0 := by
    rw [hk, mkL, hp1, hp2, hq1, hq2]
    simp only [decide_eq_true_eq]
  rw [← hq1] at e1
  rw [← hq2] at e2
  have HK := Lib.hid hkk
  by_cases h8 : 8 ≤ t.size
  · have x1 := pfx8 t opnL rfl h8
    have x2 := pfx8 t clsL rfl h8
    rw [← hp1] at x1
    rw [← hp2] at x2
    simp only [opnL, clsL] at x1 x2
    have d1 : decide ((8 : Int) ≤ (t.size : Int)) = true := decide_eq_true (by omega)
    clear hk hkk hb hp1 hp2 hq1 hq2
    rcases p1 with _ | _
    · rcases p2 with _ | _
      · rcases q1 with _ | _
        · rcases q2 with _ | _
          all_goals go_enter Try.func56, Try.ntmps56
          all_goals go_wp2_with (go_at_call 86; ((with_reducible refine (HT.out _).mono ?_); rintro e w1 ⟨rfl, rfl⟩))
          all_goals go_ret
          all_goals exact ⟨by rw [HK.out]; rfl, rfl⟩
        · go_enter Try.func56, Try.ntmps56
          go_wp2_with (go_at_call 86; ((with_reducible refine (HT.out _).mono ?_); rintro e w1 ⟨rfl, rfl⟩))
          go_ret
          exact ⟨by rw [HK.out]; rfl, rfl⟩
      · go_enter Try.func56, Try.ntmps56
        go_wp2_with (go_at_call 86; ((with_reducible refine (HT.out _).mono ?_); rintro e w1 ⟨rfl, rfl⟩))
        go_ret
        exact ⟨by rw [HK.out]; rfl, rfl⟩
    · go_enter Try.func56, Try.ntmps56
      go_wp2_with (go_at_call 86; ((with_reducible refine (HT.out _).mono ?_); rintro e w1 ⟨rfl, rfl⟩))
      go_ret
      exact ⟨by rw [HK.out]; rfl, rfl⟩
  · have hp1' : p1 = false := by rw [hp1]; exact pfx_no t opnL rfl h8
    have hp2' : p2 = false := by rw [hp2]; exact pfx_no t clsL rfl h8
    have d1 : decide ((8 : Int) ≤ (t.size : Int)) = false := decide_eq_false (by omega)
    have HK2 : Hid (k = if q1 = true then 2 else if q2 = true then 3 else 0) := by show _ = _; rw [HK.out, hp1', hp2']; rfl
    clear hk hkk hb hp1 hp2 hq1 hq2 HK hp1' hp2'
    rcases q1 with _ | _
    · rcases q2 with _ | _
      all_goals go_enter Try.func56, Try.ntmps56
      all_goals go_wp2_with (go_at_call 86; ((with_reducible refine (HT.out _).mono ?_); rintro e w1 ⟨rfl, rfl⟩))
      all_goals go_ret
      all_goals exact ⟨by rw [HK2.out]; rfl, rfl⟩
    · go_enter Try.func56, Try.ntmps56
      go_wp2_with (go_at_call 86; ((with_reducible refine (HT.out _).mono ?_); rintro e w1 ⟨rfl, rfl⟩))
      go_ret
      exact ⟨by rw [HK2.out]; rfl, rfl⟩

/-- A text holds a marker line. -/
def mkdL (ls : List (List UInt8)) : Bool := ls.any fun l => decide (mkL l ≠ 0)
theorem mkd_drop (ls : List (List UInt8)) (k : Nat) (h : k < ls.length) : mkdL (ls.drop k) = (decide (mkL ls[k] ≠ 0) || mkdL (ls.drop (k + 1))) := by
  rw [List.drop_eq_getElem_cons h]
  rfl
theorem split_pos (s : ByteArray) : ∀ x ∈ split s.data.toList, x.length ≤ s.size := fun x h => by
  have h2 : x.length ≤ (join (split s.data.toList)).length := (List.sublist_flatten_of_mem h).length_le
  rw [split_join, list_len] at h2
  exact h2
theorem split_cnt : ∀ (l cur : List UInt8), (spl cur l).length ≤ l.length + 1
  | [], cur => by unfold spl; split <;> simp
  | c :: l, cur => by
    unfold spl
    split
    · have := split_cnt l []
      simp only [List.length_cons]
      omega
    · have := split_cnt l (cur ++ [c])
      simp only [List.length_cons]
      omega

set_option maxHeartbeats 1000000 in
set_option maxRecDepth 4000 in
theorem marked_any (s : ByteArray) (B : Bool) (W : World) (hs : s.size ≤ 1000000) (hB : B = mkdL (split s.data.toList)) :
    Calls Try.prog 25 #[.string s] W fun e w' => e = .returned (.bool B) ∧ Below W.heap.size W w' := by
  obtain ⟨L, hL⟩ : ∃ L, L = split s.data.toList := ⟨_, rfl⟩
  obtain ⟨n, hn⟩ : ∃ n, n = L.length := ⟨_, rfl⟩
  have hn1 : n ≤ 1048576 := by rw [hn, hL]; have := split_cnt s.data.toList []; rw [list_len] at this; show (spl [] _).length ≤ _; omega
  have HX : Hid (∀ x ∈ L, x.length ≤ 1048576) := fun x hx => by rw [hL] at hx; have := split_pos s x hx; omega
  have HSP : Hid (∀ W, Calls Try.prog 51 #[.string s] W fun e w' => (∃ p cap, e = .returned (.slice p n cap) ∧ SRw w' p L) ∧ Below W.heap.size W w') := fun W => by
    have h := split_any s W (by omega) n (by rw [hn, hL])
    rw [← hL] at h
    exact h
  rw [← hL] at hB
  have HB : Hid (B = mkdL (L.drop 0)) := hB
  have HN := Lib.hid hn
  clear hL hn hB
  go_enter Try.func25, Try.ntmps25
  go_wp2_with (go_at_call 51; ((with_reducible refine (HSP.out _).mono ?_); rintro e w1 ⟨⟨p, cap, rfl, hp⟩, hb1⟩))
  have HP := Lib.hid hp
  clear hp
  go_loopw [8] (fun iv wr => ∃ k, k ≤ n ∧ iv = .int .i64 (k : Int) ∧ wr = w1 ∧ Hid (B = mkdL (L.drop k))) (fun iv _ => n - (intOf iv).toNat)
  case atStart => exact ⟨0, by omega, rfl, rfl, HB.out⟩
  case round =>
    clear HB
    obtain ⟨k, hk, rfl, rfl, HB⟩ := hrel
    by_cases hlt : k < n
    · have hkl : k < L.length := by rw [← HN.out]; exact hlt
      obtain ⟨g, o, rfl, hg, a0⟩ := HP.out k hkl
      have hdr := mkd_drop L k hkl
      obtain ⟨t, ht⟩ : ∃ t, t = str L[k] := ⟨_, rfl⟩
      have hts : t.size ≤ 1048576 := by rw [ht, str_size]; exact HX.out _ (List.getElem_mem hkl)
      rw [← ht] at a0
      obtain ⟨m, hm⟩ : ∃ m, m = mkL L[k] := ⟨_, rfl⟩
      rw [← hm] at hdr
      have HM := Lib.hid (fun w => marker_any t m w hts (by rw [hm, ht, str_list]))
      by_cases h0 : m = 0
      · have HB2 : Hid (B = mkdL (L.drop (k + 1))) := by show _ = _; rw [HB.out, hdr, h0]; rfl
        have d0 : ((m : Int) != 0) = false := by rw [h0]; rfl
        clear ht hm hdr hkl hg h0 HB
        go_wp2_with (go_at_call 52; ((with_reducible refine (HM.out _).mono ?_); rintro e w2 ⟨rfl, rfl⟩))
        go_roundw
        case rel => exact ⟨k + 1, by omega, by go_num, trivial, HB2.out⟩
        case measure => simp [intOf]; omega
      · have HB2 : Hid (B = true) := by show _ = _; rw [HB.out, hdr, decide_eq_true h0]; rfl
        have d0 : ((m : Int) != 0) = true := bne_iff_ne.mpr (by omega)
        clear ht hm hdr hkl hg h0 HB
        go_wp2_with (go_at_call 52; ((with_reducible refine (HM.out _).mono ?_); rintro e w2 ⟨rfl, rfl⟩))
        go_ret
        exact ⟨by rw [HB2.out]; rfl, hb1⟩
    · have HB2 : Hid (B = false) := by show _ = _; rw [HB.out, List.drop_of_length_le (by have := HN.out; omega)]; rfl
      clear HB
      go_wp2
      go_ret
      exact ⟨by rw [HB2.out]; rfl, hb1⟩

set_option maxHeartbeats 1000000 in
set_option maxRecDepth 4000 in
theorem rmarked_any (s : ByteArray) (B : Bool) (W : World) (hs : s.size ≤ 1000000) (hB : B = mkdL (split s.data.toList)) :
    Calls Try.prog 26 #[.string s] W fun e w' => e = .returned (.bool B) ∧ Below W.heap.size W w' := by
  obtain ⟨L, hL⟩ : ∃ L, L = split s.data.toList := ⟨_, rfl⟩
  obtain ⟨n, hn⟩ : ∃ n, n = L.length := ⟨_, rfl⟩
  have hn1 : n ≤ 1048576 := by rw [hn, hL]; have := split_cnt s.data.toList []; rw [list_len] at this; show (spl [] _).length ≤ _; omega
  have HX : Hid (∀ x ∈ L, x.length ≤ 1048576) := fun x hx => by rw [hL] at hx; have := split_pos s x hx; omega
  have HSP : Hid (∀ W, Calls Try.prog 55 #[.string s] W fun e w' => (∃ p cap, e = .returned (.slice p n cap) ∧ SRw w' p L) ∧ Below W.heap.size W w') := fun W =>
    (rSplit_any s W (by omega) n (by rw [hn, hL])).mono fun e w' ⟨⟨p, cap, he, hp, _⟩, hb⟩ => ⟨⟨p, cap, he, by rw [hL]; exact hp⟩, hb⟩
  rw [← hL] at hB
  have HB : Hid (B = mkdL (L.drop 0)) := hB
  have HN := Lib.hid hn
  clear hL hn hB
  go_enter Try.func26, Try.ntmps26
  go_wp2_with (go_at_call 55; ((with_reducible refine (HSP.out _).mono ?_); rintro e w1 ⟨⟨p, cap, rfl, hp⟩, hb1⟩))
  have HP := Lib.hid hp
  clear hp
  go_loopw [4] (fun iv wr => ∃ k, k ≤ n ∧ iv = .int .i64 (k : Int) ∧ wr = w1 ∧ Hid (B = mkdL (L.drop k))) (fun iv _ => n - (intOf iv).toNat)
  case atStart => exact ⟨0, by omega, rfl, rfl, HB.out⟩
  case round =>
    clear HB
    obtain ⟨k, hk, rfl, rfl, HB⟩ := hrel
    by_cases hlt : k < n
    · have hkl : k < L.length := by rw [← HN.out]; exact hlt
      obtain ⟨g, o, rfl, hg, a0⟩ := HP.out k hkl
      have hdr := mkd_drop L k hkl
      obtain ⟨t, ht⟩ : ∃ t, t = str L[k] := ⟨_, rfl⟩
      have hts : t.size ≤ 1048576 := by rw [ht, str_size]; exact HX.out _ (List.getElem_mem hkl)
      rw [← ht] at a0
      obtain ⟨m, hm⟩ : ∃ m, m = mkL L[k] := ⟨_, rfl⟩
      rw [← hm] at hdr
      have HM := Lib.hid (fun w => rmark_any t m w hts (by rw [hm, ht, str_list]))
      by_cases h0 : m = 0
      · have HB2 : Hid (B = mkdL (L.drop (k + 1))) := by show _ = _; rw [HB.out, hdr, h0]; rfl
        have d0 : ((m : Int) != 0) = false := by rw [h0]; rfl
        clear ht hm hdr hkl hg h0 HB
        go_wp2_with (go_at_call 56; ((with_reducible refine (HM.out _).mono ?_); rintro e w2 ⟨rfl, rfl⟩))
        go_roundw
        case rel => exact ⟨k + 1, by omega, by go_num, trivial, HB2.out⟩
        case measure => simp [intOf]; omega
      · have HB2 : Hid (B = true) := by show _ = _; rw [HB.out, hdr, decide_eq_true h0]; rfl
        have d0 : ((m : Int) != 0) = true := bne_iff_ne.mpr (by omega)
        clear ht hm hdr hkl hg h0 HB
        go_wp2_with (go_at_call 56; ((with_reducible refine (HM.out _).mono ?_); rintro e w2 ⟨rfl, rfl⟩))
        go_ret
        exact ⟨by rw [HB2.out]; rfl, hb1⟩
    · have HB2 : Hid (B = false) := by show _ = _; rw [HB.out, List.drop_of_length_le (by have := HN.out; omega)]; rfl
      clear HB
      go_wp2
      go_ret
      exact ⟨by rw [HB2.out]; rfl, hb1⟩
end Go.Proofs.Ytidghjalfbklnaa
