/-
  The walks of the reader's kind, of line and isTagName.
-/
import Derived.Test.YtddmnibioacelaaGreatDoorIdDigitPk
import Derived.Test.YtddmnibioacelaaGreatDoorObWord
namespace Go.Proofs.YtddmnibioacelaaGreatDoor
open Go Go.RowKit

set_option maxHeartbeats 1000000 in
set_option maxRecDepth 4000 in
theorem rdKind_any (b : Nat) (s word : ByteArray) (B : Bool) (W w : World) (h : Rd w b s B) (hT : StrTab W) (hO : WoTab W) (hW : Below W.heap.size W w) (hbW : W.heap.size ≤ b) (hs : s.size ≤ 1048576) (hw : word.size ≤ 1048576) :
    Calls Tryz.prog 48 #[.pointer (some ⟨b, 0, none⟩), .string word] w fun e w' => e = .returned (.int .i64 ((kindL (valV s.data.toList word.data.toList) : Nat) : Int)) ∧ w.grownBy w' (some b) ∧
      Rd w' b (str (valR s.data.toList)) ((B || !(valO s.data.toList word.data.toList)) || !(((kindL (valV s.data.toList word.data.toList) : Nat) : Int) != 0)) := by
  have hv := value_any b s word B w h (hT.below hW) hs hw
  obtain ⟨V, hV⟩ : ∃ V, V = str (valV s.data.toList word.data.toList) := ⟨_, rfl⟩
  have hV2 : valV s.data.toList word.data.toList = V.data.toList := by rw [hV]; rfl
  obtain ⟨C, hC⟩ : ∃ C, C = (B || !(valO s.data.toList word.data.toList)) := ⟨_, rfl⟩
  obtain ⟨r, hr⟩ : ∃ r, r = str (valR s.data.toList) := ⟨_, rfl⟩
  rw [← hV, ← hC, ← hr] at hv
  rw [hV2, ← hC, ← hr]
  obtain ⟨k, hk⟩ : ∃ k, k = kindL V.data.toList := ⟨_, rfl⟩
  rw [← hk]
  have hk4 : k ≤ 4 := by rw [hk]; exact kindL_le _
  have hWw := hW.size
  have HV := Lib.hid hv
  have HK : Hid (∀ w', w.grownBy w' (some b) → Calls Tryz.prog 80 #[.string V] w' fun e w'' => e = .returned (.int .i64 (k : Int)) ∧ w' = w'') := fun w' hg =>
    (kind_any V w' (hO.below (hW.trans (gb_low hg hbW hWw)))).mono fun e w'' ⟨he, hb⟩ => ⟨by rw [he, hk], hb.symm⟩
  have HE := Lib.hid (fun w' ok (h : Rd w' b r C) => expect_any b r C ok w' h)
  clear hv hV hV2 hC hr hk h hT hO hW hbW hWw hs
  go_enter Tryz.func48, Tryz.ntmps48
  go_wp2_with (first
    | (go_at_call 49; ((with_reducible refine (HV.out).mono ?_); rintro e w1 ⟨rfl, hg1, hr1⟩))
    | (go_at_call 80; ((with_reducible refine (HK.out _ hg1).mono ?_); rintro e w2 ⟨rfl, rfl⟩))
    | (go_at_call 77; ((with_reducible refine (HE.out _ _ hr1).mono ?_); rintro e w3 ⟨rfl, hg3, hr3⟩)))
  go_ret
  exact ⟨rfl, hg1.trans hg3, hr3⟩

/-- A line of a body. -/
def lineB (wd v : ByteArray) : ByteArray := wd ++ (⟨#[32]⟩ : ByteArray) ++ v ++ (⟨#[10]⟩ : ByteArray)
set_option maxHeartbeats 400000 in
theorem line_any (wd v : ByteArray) (w : World) (h1 : wd.size ≤ 1048576) (h2 : v.size ≤ 140737488355328) :
    Calls Tryz.prog 34 #[.string wd, .string v] w fun e w' => e = .returned (.string (lineB wd v)) ∧ w' = w := by
  go_enter Tryz.func34, Tryz.ntmps34
  go_wp2
  go_ret
  exact ⟨rfl, rfl⟩

/-- Which strings a tag may have as its name. -/
def tagN (l : List UInt8) : Bool := decide (l ≠ []) && (decide (l.length ≤ 64) && (l.all fun b => decide (33 ≤ b.toNat)))
set_option maxHeartbeats 1000000 in
set_option maxRecDepth 4000 in
theorem tagName_any (s : ByteArray) (w : World) (hs : s.size ≤ 140737488355328) :
    Calls Tryz.prog 53 #[.string s] w fun e w' => e = .returned (.bool (tagN s.data.toList)) ∧ w' = w := by
  obtain ⟨B, hB⟩ : ∃ B, B = tagN s.data.toList := ⟨_, rfl⟩
  rw [← hB]
  have hlen := list_len s
  by_cases h0 : s = ⟨#[]⟩
  · have HR : Hid (B = false) := by show _ = _; rw [hB, h0]; rfl
    have he : (s.toList == []) = true := by rw [h0, ByteArray.toList_eq]; rfl
    clear hB hlen h0
    go_enter Tryz.func53, Tryz.ntmps53
    go_wp2
    go_ret
    exact ⟨by rw [HR.out]; rfl, rfl⟩
  have he : (s.toList == []) = false := by
    have e := ba_ne h0
    rw [ByteArray.toList_eq ⟨#[]⟩] at e
    exact e
  have hpos : 0 < s.size := by
    rcases Nat.eq_zero_or_pos s.size with h | h
    · exact absurd (ba_ext (List.eq_nil_of_length_eq_zero (by rw [hlen]; exact h))) h0
    · exact h
  have hnil : decide (s.data.toList ≠ []) = true := decide_eq_true (fun h => by rw [h] at hlen; simp at hlen; omega)
  by_cases h64 : s.size ≤ 64
  case neg =>
    have HR : Hid (B = false) := by show _ = _; rw [hB, tagN, decide_eq_false (show ¬ s.data.toList.length ≤ 64 by omega)]; simp
    clear hB hlen h0 hnil
    go_enter Tryz.func53, Tryz.ntmps53
    go_wp2
    go_ret
    exact ⟨by rw [HR.out]; rfl, rfl⟩
  obtain ⟨L, hL⟩ : ∃ L, L = leastN s[0].toNat s.data.toList := ⟨_, rfl⟩
  have hall : (s.data.toList.all fun b => decide (33 ≤ b.toNat)) = decide (33 ≤ L) := by
    rw [hL, Bool.eq_iff_iff, List.all_eq_true, decide_eq_true_eq, leastN_ge]
    simp only [decide_eq_true_eq]
    refine ⟨fun h => ⟨h _ ?_, h⟩, fun h => h.2⟩
    have := drop_byte s 0 hpos
    rw [List.drop_zero] at this
    rw [this]
    exact List.mem_cons_self
  have HB : Hid (B = decide (33 ≤ L)) := by
    show _ = _
    rw [hB, tagN, hnil, decide_eq_true (show s.data.toList.length ≤ 64 by omega), hall]
    rfl
  have HE : Hid (∀ w', Calls Tryz.prog 81 #[.string s] w' fun e w'' => e = .returned (.int .u8 (L : Int)) ∧ w'' = w') := fun w' => by rw [hL]; exact least_any s w' hpos hs
  have hL2 : L ≤ 255 := by
    have := leastN_le s.data.toList s[0].toNat
    have := s[0].toNat_lt
    omega
  clear hB hL hall hlen h0 hnil
  by_cases h33 : 33 ≤ L
  · have HR : Hid (B = true) := by show _ = _; rw [HB.out]; exact decide_eq_true h33
    clear HB
    go_enter Tryz.func53, Tryz.ntmps53
    go_wp2_with (go_at_call 81; ((with_reducible refine (HE.out _).mono ?_); rintro e w2 ⟨rfl, rfl⟩))
    go_ret
    refine ⟨?_, rfl⟩
    rw [HR.out]
    first
      | rfl
      | (show Ending.returned (.bool (decide ((32 : Int) < (L : Int)))) = _
         rw [decide_eq_true (by omega)])
  · have HR : Hid (B = false) := by show _ = _; rw [HB.out]; exact decide_eq_false h33
    clear HB
    go_enter Tryz.func53, Tryz.ntmps53
    go_wp2_with (go_at_call 81; ((with_reducible refine (HE.out _).mono ?_); rintro e w2 ⟨rfl, rfl⟩))
    go_ret
    refine ⟨?_, rfl⟩
    rw [HR.out]
    first
      | rfl
      | (show Ending.returned (.bool (decide ((32 : Int) < (L : Int)))) = _
         rw [decide_eq_false (by omega)])
end Go.Proofs.YtddmnibioacelaaGreatDoor
/-
  What strings.Cut answers, plain: before and behind the first instance.
-/
namespace Go.Proofs.YtddmnibioacelaaGreatDoor
open Go Go.RowKit

theorem cocc_one {l : List UInt8} {c : UInt8} {j : Nat} (h : j < l.length) : Lib.occAt l [c] j = (c == l[j]) := by
  unfold Lib.occAt
  rw [List.drop_eq_getElem_cons h]
  simp [List.isPrefixOf]
theorem cocc_two {l : List UInt8} {x y : UInt8} {j : Nat} (h : j + 1 < l.length) : Lib.occAt l [x, y] j = (x == l[j] && y == l[j + 1]) := by
  unfold Lib.occAt
  rw [List.drop_eq_getElem_cons (by omega), List.drop_eq_getElem_cons h]
  simp [List.isPrefixOf]
theorem cocc_split {l sep : List UInt8} {i : Nat} (h : Lib.occAt l sep i = true) : l = l.take i ++ (sep ++ l.drop (i + sep.length)) := by
  obtain ⟨t, ht⟩ := List.isPrefixOf_iff_prefix.mp h
  have h1 : l.drop (i + sep.length) = t := by
    rw [← List.drop_drop, ← ht, List.drop_left]
  rw [h1, ht, List.take_append_drop]
theorem cidx_at {a sep r : List UInt8} (h : Lib.NoOcc (a ++ (sep ++ r)) sep a.length) : Lib.index (a ++ (sep ++ r)) sep = a.length := by
  refine Lib.index_hit h (by simp) ?_
  unfold Lib.occAt
  rw [List.drop_left]
  exact List.isPrefixOf_iff_prefix.mpr (List.prefix_append _ _)
theorem ccut_at {a sep r : List UInt8} (h : Lib.NoOcc (a ++ (sep ++ r)) sep a.length) : Lib.cut (a ++ (sep ++ r)) sep = (a, r, true) := by
  rw [Lib.cut, cidx_at h, if_pos (by omega), Int.toNat_natCast, List.take_left, ← List.drop_drop, List.drop_left, List.drop_left]
theorem cnoOcc_one {a r : List UInt8} {c : UInt8} (h : c ∉ a) : Lib.NoOcc (a ++ ([c] ++ r)) [c] a.length := fun j hj => by
  rw [cocc_one (by simp; omega), List.getElem_append_left hj, beq_eq_false_iff_ne]
  exact fun e => h (e ▸ List.getElem_mem hj)
theorem cnoOcc_fst {a r : List UInt8} {x y : UInt8} (h : x ∉ a) : Lib.NoOcc (a ++ ([x, y] ++ r)) [x, y] a.length := fun j hj => by
  rw [cocc_two (by simp; omega), List.getElem_append_left hj, Bool.and_eq_false_iff]
  exact .inl (beq_eq_false_iff_ne.mpr fun e => h (e ▸ List.getElem_mem hj))
theorem cnoOcc_snd {a r : List UInt8} {x y : UInt8} (h : y ∉ a) (hxy : x ≠ y) : Lib.NoOcc (a ++ ([x, y] ++ r)) [x, y] a.length := fun j hj => by
  rw [cocc_two (by simp; omega), Bool.and_eq_false_iff]
  refine .inr (beq_eq_false_iff_ne.mpr fun e => ?_)
  by_cases h1 : j + 1 < a.length
  · rw [List.getElem_append_left h1] at e
    exact h (e ▸ List.getElem_mem h1)
  · have h2 : j + 1 = a.length := by omega
    rw [List.getElem_append_right (by omega)] at e
    simp [h2] at e
    exact hxy e.symm
theorem ccut_one {a r : List UInt8} {c : UInt8} (h : c ∉ a) : Lib.cut (a ++ c :: r) [c] = (a, r, true) := ccut_at (sep := [c]) (cnoOcc_one h)
theorem ccut_fst {a r : List UInt8} {x y : UInt8} (h : x ∉ a) : Lib.cut (a ++ x :: y :: r) [x, y] = (a, r, true) := ccut_at (sep := [x, y]) (cnoOcc_fst h)
theorem ccut_snd {a r : List UInt8} {x y : UInt8} (h : y ∉ a) (hxy : x ≠ y) : Lib.cut (a ++ x :: y :: r) [x, y] = (a, r, true) := ccut_at (sep := [x, y]) (cnoOcc_snd h hxy)
/-- What is cut, cut. -/
theorem ccut_yes {l sep : List UInt8} (h : (Lib.cut l sep).2.2 = true) : l = (Lib.cut l sep).1 ++ (sep ++ (Lib.cut l sep).2.1) ∧ Lib.NoOcc l sep (Lib.cut l sep).1.length ∧ Lib.index l sep = (Lib.cut l sep).1.length := by
  rcases Lib.index_spec l sep with ⟨h1, _⟩ | ⟨i, h1, h2, h3, h4⟩
  · rw [Lib.cut, if_neg (by omega)] at h
    cases h
  · have hc : Lib.cut l sep = (l.take i, l.drop (i + sep.length), true) := by rw [Lib.cut, h1, if_pos (by omega), Int.toNat_natCast]
    rw [hc]
    have hl : (l.take i).length = i := by simp; omega
    simp only [hl]
    exact ⟨cocc_split h3, h4, h1⟩
theorem ccut_no {l sep : List UInt8} (h : (Lib.cut l sep).2.2 = false) : Lib.cut l sep = (l, [], false) ∧ Lib.index l sep = -1 := by
  rcases Lib.index_spec l sep with ⟨h1, _⟩ | ⟨i, h1, h2, h3, h4⟩
  · exact ⟨by rw [Lib.cut, if_neg (by omega)], h1⟩
  · rw [Lib.cut, h1, if_pos (by omega)] at h
    cases h
theorem cnot_mem_cut {l : List UInt8} {c : UInt8} (h : (Lib.cut l [c]).2.2 = true) : c ∉ (Lib.cut l [c]).1 := fun hm => by
  obtain ⟨h1, h2, _⟩ := ccut_yes h
  obtain ⟨j, hj, he⟩ := List.mem_iff_getElem.mp hm
  have h3 := h2 j hj
  have hjl : j < l.length := by
    have := congrArg List.length h1
    simp at this
    omega
  rw [cocc_one hjl, beq_eq_false_iff_ne] at h3
  refine h3 ?_
  have h4 : l[j] = (Lib.cut l [c]).1[j] := by
    have h5 : l[j]? = ((Lib.cut l [c]).1 ++ ([c] ++ (Lib.cut l [c]).2.1))[j]? := by rw [← h1]
    rw [List.getElem?_append_left hj, List.getElem?_eq_getElem hjl, List.getElem?_eq_getElem hj] at h5
    exact Option.some.inj h5
  rw [h4, he]
/-- A line, taken off. -/
theorem val_of {wd v r : List UInt8} (h1 : (10 : UInt8) ∉ wd) (h2 : (10 : UInt8) ∉ v) : valV (wd ++ 32 :: v ++ 10 :: r) wd = v ∧ valO (wd ++ 32 :: v ++ 10 :: r) wd = true ∧ valR (wd ++ 32 :: v ++ 10 :: r) = r := by
  have hc : Lib.cut (wd ++ 32 :: v ++ 10 :: r) [10] = (wd ++ 32 :: v, r, true) := ccut_one (by simp [h1, h2])
  have hp : Lib.hasPrefix (wd ++ 32 :: v) (wd ++ [32]) = true := List.isPrefixOf_iff_prefix.mpr ⟨v, by simp⟩
  refine ⟨?_, ?_, ?_⟩
  · rw [valV, hc, cutP, if_pos hp]
    simp
  · rw [valO, hc, hp]
    rfl
  · rw [valR, hc]
theorem val_back {l wd : List UInt8} (h : valO l wd = true) : l = wd ++ 32 :: valV l wd ++ 10 :: valR l ∧ (10 : UInt8) ∉ valV l wd := by
  rw [valO, Bool.and_eq_true] at h
  obtain ⟨h1, _⟩ := ccut_yes h.1
  have hn := cnot_mem_cut h.1
  obtain ⟨t, ht⟩ := List.isPrefixOf_iff_prefix.mp h.2
  have hv : valV l wd = t := by
    rw [valV, cutP, if_pos h.2, ← ht, List.drop_left]
  have hr : valR l = (Lib.cut l [10]).2.1 := rfl
  rw [hv, hr]
  refine ⟨?_, fun hm => hn (by rw [← ht]; simp [hm])⟩
  rw [← ht] at h1
  obtain ⟨R, hR⟩ : ∃ R, R = (Lib.cut l [10]).2.1 := ⟨_, rfl⟩
  rw [← hR] at h1 ⊢
  rw [h1]
  simp
end Go.Proofs.YtddmnibioacelaaGreatDoor
