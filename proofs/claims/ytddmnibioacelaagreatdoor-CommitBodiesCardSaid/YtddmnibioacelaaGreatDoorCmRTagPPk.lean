/-
  What the reference's CheckTag and Check look at, plain.
-/
import Derived.Test.YtddmnibioacelaaGreatDoorCmBody
import Derived.Test.YtddmnibioacelaaGreatDoorCmTag
import Derived.Test.YtddmnibioacelaaGreatDoorCmNamePk
namespace Go.Proofs.YtddmnibioacelaaGreatDoor
open Go Go.RowKit

/-- A byte that no tag's name may have. -/
def lowB (l : List UInt8) : Bool := l.any fun b => decide (b.toNat ≤ 32)
theorem lowB_all (l : List UInt8) : (l.all fun b => decide (33 ≤ b.toNat)) = !(lowB l) := by
  unfold lowB
  induction l with
  | nil => rfl
  | cons b l ih =>
    rw [List.all_cons, List.any_cons, ih, Bool.not_or]
    by_cases h : b.toNat ≤ 32
    · rw [decide_eq_true h, decide_eq_false (show ¬ 33 ≤ b.toNat by omega)]; rfl
    · rw [decide_eq_false h, decide_eq_true (show 33 ≤ b.toNat by omega)]; rfl
theorem tagN_low (l : List UInt8) : tagN l = !(decide (l.length < 1) || (decide (64 < l.length) || lowB l)) := by
  rw [tagN, lowB_all]
  cases l with
  | nil => rfl
  | cons b l =>
    rw [decide_eq_true (show b :: l ≠ [] by simp), decide_eq_false (show ¬ (b :: l).length < 1 by simp)]
    by_cases h : (b :: l).length ≤ 64
    · rw [decide_eq_true h, decide_eq_false (show ¬ 64 < (b :: l).length by omega)]; simp
    · rw [decide_eq_false h, decide_eq_true (show 64 < (b :: l).length by omega)]; simp
/-- What CheckTag finds wrong ahead of the name's bytes. -/
def badG (b1 : Bool) (k : Int) (n : Nat) (b4 z : Bool) : Bool := !b1 || (decide (k < 1) || (decide (4 < k) || (decide (n < 1) || (decide (64 < n) || (!b4 || z)))))
theorem okG_bad (g : Tg) : okG g = !(badG (isId g.o) g.k g.n.size (okPn g.g) (g.x.data.toList.any fun b => b == 0) || lowB g.n.data.toList) := by
  have hk : decide (wordL g.k ≠ []) = !(decide (g.k < 1) || decide (4 < g.k)) := by
    rw [Bool.eq_iff_iff]
    simp only [decide_eq_true_eq, ne_eq, wordL_nil, Bool.not_eq_true', Bool.or_eq_false_iff, decide_eq_false_iff_not]
    omega
  rw [okG, hk, tagN_low, noZ, badG, list_len]
  generalize isId g.o = a1
  generalize decide (g.k < 1) = a2
  generalize decide (4 < g.k) = a3
  generalize decide (g.n.size < 1) = a4
  generalize decide (64 < g.n.size) = a5
  generalize lowB g.n.data.toList = a6
  generalize okPn g.g = a7
  generalize (g.x.data.toList.any fun b => b == 0) = a8
  cases a1 <;> cases a2 <;> cases a3 <;> cases a4 <;> cases a5 <;> cases a6 <;> cases a7 <;> cases a8 <;> rfl
theorem chkG_bad (g : Tg) : chkG g = if (badG (isId g.o) g.k g.n.size (okPn g.g) (g.x.data.toList.any fun b => b == 0) || lowB g.n.data.toList) = true then 1 else if 4096 < g.x.size then 4 else 0 := by
  rw [chkG, okG_bad]
  cases (badG (isId g.o) g.k g.n.size (okPn g.g) (g.x.data.toList.any fun b => b == 0) || lowB g.n.data.toList) <;> rfl
theorem lowB_next (s : ByteArray) (k : Nat) (h : k < s.size) : lowB (s.data.toList.take (k + 1)) = (lowB (s.data.toList.take k) || decide (s[k].toNat ≤ 32)) := by
  have hl : k < s.data.toList.length := by rw [list_len]; exact h
  have e : s.data.toList[k] = s[k] := rfl
  rw [List.take_succ_eq_append_getElem hl, lowB, lowB, List.any_append, List.any_cons, List.any_nil, Bool.or_false, e]
/-- What Check finds wrong ahead of the parents. -/
def badC (b1 b3 b4 z : Bool) : Bool := !b1 || (!b3 || (!b4 || z))
theorem chkC_bad (c : Cm) : chkC c = if (badC (isId c.t) (okPn c.a) (okPn c.c) (c.x.data.toList.any fun b => b == 0) || !(allId c.ps)) = true then 1 else if 4096 < c.x.size ∨ 8 < c.ps.length then 4 else if c.ps.Nodup then 0 else 6 := by
  have ho : okC c = !(badC (isId c.t) (okPn c.a) (okPn c.c) (c.x.data.toList.any fun b => b == 0) || !(allId c.ps)) := by
    rw [okC, noZ, badC]
    cases isId c.t <;> cases allId c.ps <;> cases okPn c.a <;> cases okPn c.c <;> cases (c.x.data.toList.any fun b => b == 0) <;> rfl
  rw [chkC, ho]
  cases (badC (isId c.t) (okPn c.a) (okPn c.c) (c.x.data.toList.any fun b => b == 0) || !(allId c.ps)) <;> rfl
theorem allId_next {l : List (List UInt8)} {k : Nat} (h : k < l.length) : allId (l.take (k + 1)) = (allId (l.take k) && isId (str l[k])) := by
  rw [List.take_succ_eq_append_getElem h, allId, allId, List.all_append, List.all_cons, List.all_nil, Bool.and_true]
theorem nodup_next {l : List (List UInt8)} {k : Nat} (h : k < l.length) (hn : (l.take k).Nodup) (hx : l[k] ∉ l.take k) : (l.take (k + 1)).Nodup := by
  rw [List.take_succ_eq_append_getElem h, List.nodup_append]
  refine ⟨hn, by simp, fun a ha b hb e => ?_⟩
  rw [List.mem_singleton] at hb
  exact hx (by rw [← hb, ← e]; exact ha)
theorem nodup_not {l : List (List UInt8)} {i k : Nat} (hi : i < l.length) (hk : k < i) (he : l[i] = l[k]'(by omega)) : ¬ l.Nodup := fun h => by
  have := (List.nodup_iff_pairwise_ne.mp h)
  have h2 := List.pairwise_iff_getElem.mp this k i (by omega) hi hk
  exact h2 he.symm
theorem notin_next {l : List (List UInt8)} {x : List UInt8} {k : Nat} (h : k < l.length) (hn : x ∉ l.take k) (hx : x ≠ l[k]) : x ∉ l.take (k + 1) := by
  rw [List.take_succ_eq_append_getElem h, List.mem_append, List.mem_singleton]
  exact fun e => e.elim hn hx
end Go.Proofs.YtddmnibioacelaaGreatDoor
/-
  The walk of the reference's named.
-/
namespace Go.Proofs.YtddmnibioacelaaGreatDoor
open Go Go.RowKit

def okB (c : UInt8) : Bool := decide (32 ≤ c.toNat) && (decide (c.toNat ≠ 60) && decide (c.toNat ≠ 62))
theorem okB_all (l : List UInt8) : (!(l.any fun b => ([60, 62] : List UInt8).contains b) && (l.all fun b => decide (32 ≤ b.toNat))) = l.all okB := by
  induction l with
  | nil => rfl
  | cons c l ih =>
    rw [List.any_cons, List.all_cons, List.all_cons, ← ih]
    have : ([60, 62] : List UInt8).contains c = !(decide (c.toNat ≠ 60) && decide (c.toNat ≠ 62)) := by
      rw [Bool.eq_iff_iff, List.contains_iff_mem]
      simp only [List.mem_cons, List.not_mem_nil, or_false, Bool.not_eq_true', Bool.and_eq_false_iff, decide_eq_false_iff_not, Decidable.not_not]
      constructor
      · rintro (rfl | rfl)
        · exact .inl rfl
        · exact .inr rfl
      · rintro (h | h)
        · exact .inl (UInt8.toNat_inj.mp h)
        · exact .inr (UInt8.toNat_inj.mp h)
    rw [this, okB]
    cases decide (32 ≤ c.toNat) <;> cases decide (c.toNat ≠ 60) <;> cases decide (c.toNat ≠ 62) <;> simp
theorem pre_one {c : UInt8} {l : List UInt8} : Lib.hasPrefix (c :: l) [32] = decide (c = 32) := by
  unfold Lib.hasPrefix
  rw [Bool.eq_iff_iff, List.isPrefixOf_iff_prefix, decide_eq_true_eq, List.cons_prefix_cons]
  simp [eq_comm]
theorem suf_one {c : UInt8} {l : List UInt8} : Lib.hasSuffix (l ++ [c]) [32] = decide (c = 32) := by
  unfold Lib.hasSuffix
  rw [Bool.eq_iff_iff, List.isSuffixOf_iff_suffix, decide_eq_true_eq]
  constructor
  · rintro ⟨t, ht⟩
    have := congrArg List.getLast? ht
    simpa using this.symm
  · rintro rfl
    exact ⟨l, rfl⟩
theorem nameB_eq (s : ByteArray) (h : 0 < s.size) : nameB s.data.toList = (decide (s.size ≤ 64) && (decide (s[0] ≠ 32) && (decide (s[s.size - 1] ≠ 32) && s.data.toList.all okB))) := by
  have hn : decide (s.data.toList ≠ []) = true := decide_eq_true (fun e => by have := list_len s; rw [e] at this; simp at this; omega)
  have hp : Lib.hasPrefix s.data.toList [32] = decide (s[0] = 32) := by
    have := drop_byte s 0 h
    rw [List.drop_zero] at this
    rw [this, pre_one]
  have hq : Lib.hasSuffix s.data.toList [32] = decide (s[s.size - 1] = 32) := by
    have := take_snoc s (s.size - 1) (by omega)
    rw [show s.size - 1 + 1 = s.size by omega, take_all] at this
    rw [this, suf_one]
  rw [nameB, hn, hp, hq, list_len, ← okB_all]
  by_cases h1 : s[0] = 32 <;> by_cases h2 : s[s.size - 1] = 32 <;> simp [h1, h2, Bool.and_assoc]

set_option maxHeartbeats 1000000 in
set_option maxRecDepth 4000 in
theorem rnamed_any (s : ByteArray) (w : World) (hs : s.size ≤ 140737488355328) :
    Calls Tryz.prog 64 #[.string s] w fun e w' => e = .returned (.bool (nameB s.data.toList)) ∧ w' = w := by
  obtain ⟨R, hR⟩ : ∃ R, R = nameB s.data.toList := ⟨_, rfl⟩
  rw [← hR]
  by_cases h1 : s.size < 1
  · have HR : Hid (R = false) := by show _ = _; rw [hR, nameB, show s.data.toList = [] from List.eq_nil_of_length_eq_zero (by rw [list_len]; omega)]; rfl
    clear hR
    go_enter Tryz.func64, Tryz.ntmps64
    go_wp2
    go_ret
    exact ⟨by rw [HR.out]; rfl, rfl⟩
  have h0 : 0 < s.size := by omega
  have hl : s.size - 1 < s.size := by omega
  rw [nameB_eq s h0] at hR
  by_cases h2 : 64 < s.size
  · have HR : Hid (R = false) := by show _ = _; rw [hR, decide_eq_false (show ¬ s.size ≤ 64 by omega)]; rfl
    clear hR
    go_enter Tryz.func64, Tryz.ntmps64
    go_wp2
    go_ret
    exact ⟨by rw [HR.out]; rfl, rfl⟩
  obtain ⟨x, hx⟩ : ∃ x, x = s[0] := ⟨_, rfl⟩
  obtain ⟨y, hy⟩ : ∃ y, y = s[s.size - 1] := ⟨_, rfl⟩
  have hxn : (x.toNat : Int) = 32 ↔ x = 32 := ⟨fun e => UInt8.toNat_inj.mp (by show _ = 32; omega), fun e => by rw [e]; rfl⟩
  have hyn : (y.toNat : Int) = 32 ↔ y = 32 := ⟨fun e => UInt8.toNat_inj.mp (by show _ = 32; omega), fun e => by rw [e]; rfl⟩
  rw [decide_eq_true (show s.size ≤ 64 by omega), Bool.true_and, ← hx, ← hy] at hR
  rw [hx] at hxn
  rw [hy] at hyn
  by_cases h3 : (s[0].toNat : Int) = 32
  · have HR : Hid (R = false) := by show _ = _; rw [hR, hx, decide_eq_false (by simpa using hxn.mp h3)]; rfl
    clear hR hx hy hxn hyn
    go_enter Tryz.func64, Tryz.ntmps64
    go_wp2
    go_ret
    exact ⟨by rw [HR.out]; rfl, rfl⟩
  rw [hx, decide_eq_true (show s[0] ≠ 32 from fun e => h3 (hxn.mpr e)), Bool.true_and] at hR
  by_cases h4 : (s[s.size - 1].toNat : Int) = 32
  · have HR : Hid (R = false) := by show _ = _; rw [hR, hy, decide_eq_false (by simpa using hyn.mp h4)]; rfl
    clear hR hx hy hxn hyn
    go_enter Tryz.func64, Tryz.ntmps64
    go_wp2
    go_ret
    exact ⟨by rw [HR.out]; rfl, rfl⟩
  rw [hy, decide_eq_true (show s[s.size - 1] ≠ 32 from fun e => h4 (hyn.mpr e)), Bool.true_and] at hR
  have HR : Hid (R = (s.data.toList.drop 0).all okB) := hR
  have e3 : ((s[0].toNat : Int) == 32) = false := beq_eq_false_iff_ne.mpr h3
  have e4 : ((s[s.size - 1].toNat : Int) == 32) = false := beq_eq_false_iff_ne.mpr h4
  have e1 : decide ((s.size : Int) < 1) = false := decide_eq_false (by omega)
  have e2 : decide (64 < (s.size : Int)) = false := decide_eq_false (by omega)
  clear hR hx hy hxn hyn h3 h4
  go_enter Tryz.func64, Tryz.ntmps64
  go_wp2
  go_loopg [3] s.size (fun g iv wx => ∃ k : Nat, k + g = s.size ∧ iv = .int .i64 k ∧ Hid (R = (s.data.toList.drop k).all okB) ∧ wx = w)
  case atStart => exact ⟨0, by omega, rfl, HR.out, rfl⟩
  case round =>
    obtain ⟨k, hk, rfl, HM, rfl⟩ := hrel
    clear HR e1 e2 e3 e4
    cases gk with
    | zero =>
      obtain rfl : k = s.size := by omega
      have HQ : Hid (R = true) := by show _ = _; rw [HM.out, List.drop_of_length_le (by rw [list_len]; exact Nat.le_refl _)]; rfl
      clear HM
      go_wp2
      go_ret
      exact ⟨by rw [HQ.out]; rfl, rfl⟩
    | succ g =>
      have hi : k < s.size := by omega
      have hM := HM.out
      rw [drop_byte s k hi, List.all_cons] at hM
      have hc : (s[k]'hi).toNat < 32 ∨ (¬ (s[k]'hi).toNat < 32 ∧ (s[k]'hi).toNat = 60) ∨ (¬ (s[k]'hi).toNat < 32 ∧ ¬ (s[k]'hi).toNat = 60 ∧ (s[k]'hi).toNat = 62) ∨ (¬ (s[k]'hi).toNat < 32 ∧ ¬ (s[k]'hi).toNat = 60 ∧ ¬ (s[k]'hi).toNat = 62) := by omega
      rcases hc with hc | ⟨c1, c2⟩ | ⟨c1, c2, c3⟩ | ⟨c1, c2, c3⟩
      · have HQ : Hid (R = false) := by show _ = _; rw [hM, okB, decide_eq_false (by omega)]; rfl
        clear HM hM
        go_wp2
        go_ret
        exact ⟨by rw [HQ.out]; rfl, rfl⟩
      · have HQ : Hid (R = false) := by show _ = _; rw [hM, okB]; simp [c2]
        clear HM hM
        go_wp2
        go_ret
        exact ⟨by rw [HQ.out]; rfl, rfl⟩
      · have HQ : Hid (R = false) := by show _ = _; rw [hM, okB]; simp [c3]
        clear HM hM
        go_wp2
        go_ret
        exact ⟨by rw [HQ.out]; rfl, rfl⟩
      · have HQ : Hid (R = (s.data.toList.drop (k + 1)).all okB) := by show _ = _; rw [hM, okB, decide_eq_true (show 32 ≤ (s[k]'hi).toNat by omega), decide_eq_true c2, decide_eq_true c3]; rfl
        have e5 : decide (((s[k]'hi).toNat : Int) < 32) = false := decide_eq_false (by omega)
        have e6 : (((s[k]'hi).toNat : Int) == 60) = false := beq_eq_false_iff_ne.mpr (by omega)
        have e7 : (((s[k]'hi).toNat : Int) == 62) = false := beq_eq_false_iff_ne.mpr (by omega)
        clear HM hM c1 c2 c3
        go_wp2
        go_roundg g
        case measure => omega
        case rel => exact ⟨k + 1, by omega, rfl, HQ.out, rfl⟩
end Go.Proofs.YtddmnibioacelaaGreatDoor
