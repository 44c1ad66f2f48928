/-
  Commits and tags, plain: what Check, Body and Parse answer, and how they go back and forth.
-/
import Derived.Test.YtddmnibioacelaaGreatDoorCmIdmPk
namespace Go.Proofs.YtddmnibioacelaaGreatDoor
open Go Go.RowKit

def wTree : List UInt8 := [116, 114, 101, 101]
def wPar : List UInt8 := [112, 97, 114, 101, 110, 116]
def wAut : List UInt8 := [97, 117, 116, 104, 111, 114]
def wCom : List UInt8 := [99, 111, 109, 109, 105, 116, 116, 101, 114]
def wObj : List UInt8 := [111, 98, 106, 101, 99, 116]
def wTyp : List UInt8 := [116, 121, 112, 101]
def wTag : List UInt8 := [116, 97, 103]
def wTgr : List UInt8 := [116, 97, 103, 103, 101, 114]
/-- A commit. -/
structure Cm where
  t : ByteArray
  ps : List (List UInt8)
  a : Pn
  c : Pn
  x : ByteArray
def Cm.zero : Cm := ⟨⟨#[]⟩, [], Pn.zero, Pn.zero, ⟨#[]⟩⟩
/-- A tag. -/
structure Tg where
  o : ByteArray
  k : Int
  n : ByteArray
  g : Pn
  x : ByteArray
def Tg.zero : Tg := ⟨⟨#[]⟩, 0, ⟨#[]⟩, Pn.zero, ⟨#[]⟩⟩

def noZ (l : List UInt8) : Bool := !(l.any fun b => b == 0)
def allId (ps : List (List UInt8)) : Bool := ps.all fun p => isId (str p)
def okC (c : Cm) : Bool := isId c.t && (allId c.ps && (okPn c.a && (okPn c.c && noZ c.x.data.toList)))
def chkC (c : Cm) : Nat := if okC c = false then 1 else if 4096 < c.x.size ∨ 8 < c.ps.length then 4 else if c.ps.Nodup then 0 else 6
def lineL (wd v : List UInt8) : List UInt8 := wd ++ 32 :: v ++ [10]
def encC (c : Cm) : List UInt8 := lineL wTree c.t.data.toList ++ (c.ps.flatMap (lineL wPar) ++ (lineL wAut (whoL c.a).data.toList ++ (lineL wCom (whoL c.c).data.toList ++ 10 :: c.x.data.toList)))
def bodyC (c : Cm) : List UInt8 := if chkC c = 0 then encC c else []
def okG (g : Tg) : Bool := isId g.o && (decide (wordL g.k ≠ []) && (tagN g.n.data.toList && (okPn g.g && noZ g.x.data.toList)))
def chkG (g : Tg) : Nat := if okG g = false then 1 else if 4096 < g.x.size then 4 else 0
def encG (g : Tg) : List UInt8 := lineL wObj g.o.data.toList ++ (lineL wTyp (wordL g.k) ++ (lineL wTag g.n.data.toList ++ (lineL wTgr (whoL g.g).data.toList ++ 10 :: g.x.data.toList)))
def bodyG (g : Tg) : List UInt8 := if chkG g = 0 then encG g else []

theorem valR_lt {l : List UInt8} (h : l ≠ []) : (valR l).length < l.length := by
  have hpos : 0 < l.length := List.length_pos_iff.mpr h
  unfold valR
  cases hc : (Lib.cut l [10]).2.2 with
  | false => rw [(ccut_no hc).1]; exact hpos
  | true =>
    have h1 := congrArg List.length (ccut_yes hc).1
    simp at h1
    omega
theorem has_ne {l p : List UInt8} (hp : p ≠ []) (h : Lib.hasPrefix l p = true) : l ≠ [] := fun e => by
  have := has_len h
  rw [e] at this
  exact hp (List.eq_nil_of_length_eq_zero (by simpa using this))
/-- The parents' lines: the parents, what is left, whether something was wrong. -/
def parsP (l : List UInt8) (B : Bool) (ps : List (List UInt8)) : List (List UInt8) × List UInt8 × Bool :=
  if h : Lib.hasPrefix l (wPar ++ [32]) = true then parsP (valR l) ((B || !(valO l wPar)) || !(isId (str (valV l wPar)))) (ps ++ [valV l wPar]) else (ps, l, B)
termination_by l.length
decreasing_by exact valR_lt (has_ne (by decide) h)
theorem parsP_go {l : List UInt8} {B : Bool} {ps : List (List UInt8)} (h : Lib.hasPrefix l (wPar ++ [32]) = true) : parsP l B ps = parsP (valR l) ((B || !(valO l wPar)) || !(isId (str (valV l wPar)))) (ps ++ [valV l wPar]) := by rw [parsP, dif_pos h]
theorem parsP_end {l : List UInt8} {B : Bool} {ps : List (List UInt8)} (h : Lib.hasPrefix l (wPar ++ [32]) = false) : parsP l B ps = (ps, l, B) := by rw [parsP, dif_neg (by rw [h]; decide)]
theorem parsP_bad : ∀ (n : Nat) (l : List UInt8) (ps : List (List UInt8)), l.length ≤ n → (parsP l true ps).2.2 = true
  | n, l, ps, hn => by
    cases h : Lib.hasPrefix l (wPar ++ [32]) with
    | false => rw [parsP_end h]
    | true =>
      have := valR_lt (has_ne (by decide) h)
      rw [parsP_go h, Bool.true_or, Bool.true_or]
      cases n with
      | zero => omega
      | succ n => exact parsP_bad n _ _ (by omega)
theorem parsP_len : ∀ (n : Nat) (l : List UInt8) (B : Bool) (ps : List (List UInt8)), l.length ≤ n → (parsP l B ps).2.1.length ≤ l.length
  | n, l, B, ps, hn => by
    cases h : Lib.hasPrefix l (wPar ++ [32]) with
    | false => rw [parsP_end h]; exact Nat.le_refl _
    | true =>
      have := valR_lt (has_ne (by decide) h)
      rw [parsP_go h]
      cases n with
      | zero => omega
      | succ n =>
        have := parsP_len n (valR l) ((B || !(valO l wPar)) || !(isId (str (valV l wPar)))) (ps ++ [valV l wPar]) (by omega)
        omega
/-- A commit by its pieces. -/
structure PcC where
  t : List UInt8
  ps : List (List UInt8)
  a : Nat × Pn
  c : Nat × Pn
  x : List UInt8
  B : Bool
def pcC (l : List UInt8) : PcC :=
  let P := parsP (valR l) ((false || !(valO l wTree)) || !(isId (str (valV l wTree)))) []
  let A := whoR (valV P.2.1 wAut)
  let r3 := valR P.2.1
  let C := whoR (valV r3 wCom)
  let r4 := valR r3
  ⟨valV l wTree, P.1, A, C, cutP r4 [10], ((((P.2.2 || !(valO P.2.1 wAut)) || !(((A.1 : Nat) : Int) != 2)) || !(valO r3 wCom)) || !(((C.1 : Nat) : Int) != 2)) || !(Lib.hasPrefix r4 [10])⟩
def PcC.cm (p : PcC) : Cm := ⟨str p.t, p.ps, p.a.2, p.c.2, str p.x⟩
def parC (l : List UInt8) : Nat × Cm := if (pcC l).B = true then (2, Cm.zero) else if chkC (pcC l).cm = 0 then (0, (pcC l).cm) else (chkC (pcC l).cm, Cm.zero)
/-- A tag by its pieces. -/
structure PcG where
  o : List UInt8
  k : Nat
  n : List UInt8
  g : Nat × Pn
  x : List UInt8
  B : Bool
def pcG (l : List UInt8) : PcG :=
  let B1 := (false || !(valO l wObj)) || !(isId (str (valV l wObj)))
  let r1 := valR l
  let K := kindL (valV r1 wTyp)
  let B2 := (B1 || !(valO r1 wTyp)) || !(((K : Nat) : Int) != 0)
  let r2 := valR r1
  let B3 := B2 || !(valO r2 wTag)
  let r3 := valR r2
  let G := whoR (valV r3 wTgr)
  let B4 := (B3 || !(valO r3 wTgr)) || !(((G.1 : Nat) : Int) != 2)
  let r4 := valR r3
  ⟨valV l wObj, K, valV r2 wTag, G, cutP r4 [10], B4 || !(Lib.hasPrefix r4 [10])⟩
def PcG.tg (p : PcG) : Tg := ⟨str p.o, (p.k : Int), str p.n, p.g.2, str p.x⟩
def parG (l : List UInt8) : Nat × Tg := if (pcG l).B = true then (2, Tg.zero) else if chkG (pcG l).tg = 0 then (0, (pcG l).tg) else (chkG (pcG l).tg, Tg.zero)

theorem isId_line {s : ByteArray} (h : isId s = true) : (10 : UInt8) ∉ s.data.toList := fun hm => by
  simp only [isId, Bool.and_eq_true] at h
  have h2 := h.2
  rw [allDig, List.all_eq_true] at h2
  exact absurd (h2 _ hm) (by decide)
theorem tagN_line {l : List UInt8} (h : tagN l = true) : (10 : UInt8) ∉ l := fun hm => by
  simp only [tagN, Bool.and_eq_true, List.all_eq_true, decide_eq_true_eq] at h
  exact absurd (h.2.2 _ hm) (by decide)
theorem wordL_line (k : Int) : (10 : UInt8) ∉ wordL k := by
  unfold wordL
  repeat' split
  all_goals decide
theorem line_val {wd v r : List UInt8} (h1 : (10 : UInt8) ∉ wd) (h2 : (10 : UInt8) ∉ v) : valV (lineL wd v ++ r) wd = v ∧ valO (lineL wd v ++ r) wd = true ∧ valR (lineL wd v ++ r) = r := by
  have e : lineL wd v ++ r = wd ++ 32 :: v ++ 10 :: r := by simp [lineL]
  rw [e]
  exact val_of h1 h2
theorem line_not {wd v r p : List UInt8} (h : Lib.hasPrefix (wd ++ [32]) p = false) (hl : p.length ≤ wd.length + 1) : Lib.hasPrefix (lineL wd v ++ r) p = false := by
  rw [← Bool.not_eq_true] at h ⊢
  intro h2
  obtain ⟨t, ht⟩ := List.isPrefixOf_iff_prefix.mp h2
  have e : lineL wd v ++ r = (wd ++ [32]) ++ (v ++ 10 :: r) := by simp [lineL]
  rw [e] at ht
  exact h (List.isPrefixOf_iff_prefix.mpr (List.prefix_of_prefix_length_le ⟨t, ht⟩ (List.prefix_append _ _) (by simp; omega)))
theorem line_has (wd v r : List UInt8) : Lib.hasPrefix (lineL wd v ++ r) (wd ++ [32]) = true := List.isPrefixOf_iff_prefix.mpr ⟨v ++ 10 :: r, by simp [lineL]⟩
theorem parsP_lines : ∀ (ps : List (List UInt8)) (r : List UInt8) (qs : List (List UInt8)), allId ps = true → Lib.hasPrefix r (wPar ++ [32]) = false → parsP (ps.flatMap (lineL wPar) ++ r) false qs = (qs ++ ps, r, false)
  | [], r, qs, _, hr => by
    rw [List.flatMap_nil, List.nil_append, parsP_end hr, List.append_nil]
  | p :: ps, r, qs, hp, hr => by
    rw [allId, List.all_cons, Bool.and_eq_true] at hp
    obtain ⟨e1, e2, e3⟩ := line_val (wd := wPar) (v := p) (r := ps.flatMap (lineL wPar) ++ r) (by decide) (isId_line hp.1)
    rw [List.flatMap_cons, List.append_assoc, parsP_go (line_has _ _ _), e1, e2, e3, hp.1, show ((false || !true) || !true) = false from rfl, parsP_lines ps r _ hp.2 hr, List.append_assoc]
    rfl
theorem okC_parts {c : Cm} (h : okC c = true) : isId c.t = true ∧ allId c.ps = true ∧ okPn c.a = true ∧ okPn c.c = true ∧ noZ c.x.data.toList = true := by
  simpa only [okC, Bool.and_eq_true] using h
theorem chkC_ok {c : Cm} (h : chkC c = 0) : okC c = true ∧ c.x.size ≤ 4096 ∧ c.ps.length ≤ 8 ∧ c.ps.Nodup := by
  unfold chkC at h
  split at h
  · cases h
  · split at h
    · cases h
    · split at h
      · rename_i h1 h2 h3
        exact ⟨by simpa using h1, by omega, by omega, h3⟩
      · cases h
theorem cm_eta (c : Cm) : (⟨str c.t.data.toList, c.ps, c.a, c.c, str c.x.data.toList⟩ : Cm) = c := rfl
/-- What Body writes, Parse reads. -/
theorem pcC_enc {c : Cm} (h : okC c = true) : pcC (encC c) = ⟨c.t.data.toList, c.ps, (0, c.a), (0, c.c), c.x.data.toList, false⟩ := by
  obtain ⟨h1, h2, h3, h4, h5⟩ := okC_parts h
  obtain ⟨a1, a2, a3⟩ := line_val (wd := wTree) (r := c.ps.flatMap (lineL wPar) ++ (lineL wAut (whoL c.a).data.toList ++ (lineL wCom (whoL c.c).data.toList ++ 10 :: c.x.data.toList))) (by decide) (isId_line h1)
  obtain ⟨b1, b2, b3⟩ := line_val (wd := wAut) (r := lineL wCom (whoL c.c).data.toList ++ 10 :: c.x.data.toList) (by decide) (whoL_line h3)
  obtain ⟨d1, d2, d3⟩ := line_val (wd := wCom) (r := 10 :: c.x.data.toList) (by decide) (whoL_line h4)
  have hp := parsP_lines c.ps (lineL wAut (whoL c.a).data.toList ++ (lineL wCom (whoL c.c).data.toList ++ 10 :: c.x.data.toList)) [] h2 (line_not (by decide) (by decide))
  have hid : isId (str c.t.data.toList) = true := h1
  have hpx : Lib.hasPrefix (10 :: c.x.data.toList) [10] = true := List.isPrefixOf_iff_prefix.mpr ⟨c.x.data.toList, rfl⟩
  unfold pcC encC
  rw [a1, a2, a3, hid]
  have e0 : ((false || !true) || !true) = false := rfl
  rw [e0, hp]
  simp only [b1, b2, b3, d1, d2, d3, whoR_whoL h3, whoR_whoL h4, hpx, cutP, if_true, List.nil_append]
  rfl
theorem parC_enc {c : Cm} (h : chkC c = 0) : parC (encC c) = (0, c) := by
  have h0 := pcC_enc (chkC_ok h).1
  have h1 : (pcC (encC c)).cm = c := by rw [h0]; rfl
  have h2 : (pcC (encC c)).B = false := by rw [h0]
  rw [parC, h1, h2, if_neg (by decide), if_pos h]
theorem parsP_back : ∀ (n : Nat) (l : List UInt8) (qs : List (List UInt8)), l.length ≤ n → (parsP l false qs).2.2 = false → ∃ ps, (parsP l false qs).1 = qs ++ ps ∧ l = ps.flatMap (lineL wPar) ++ (parsP l false qs).2.1
  | n, l, qs, hn, hB => by
    cases h : Lib.hasPrefix l (wPar ++ [32]) with
    | false => rw [parsP_end h]; exact ⟨[], by simp, by simp⟩
    | true =>
      have hlt := valR_lt (has_ne (by decide) h)
      rw [parsP_go h] at hB ⊢
      cases hx : ((false || !(valO l wPar)) || !(isId (str (valV l wPar)))) with
      | true =>
        rw [hx, parsP_bad _ _ _ (Nat.le_refl _)] at hB
        cases hB
      | false =>
        rw [hx] at hB
        cases n with
        | zero => omega
        | succ n =>
          obtain ⟨ps, h1, h2⟩ := parsP_back n (valR l) (qs ++ [valV l wPar]) (by omega) hB
          simp only [Bool.false_or, Bool.or_eq_false_iff, Bool.not_eq_false'] at hx
          have h3 := (val_back hx.1).1
          refine ⟨valV l wPar :: ps, ?_, ?_⟩
          · rw [h1, List.append_assoc]; rfl
          · rw [List.flatMap_cons, List.append_assoc, ← h2]
            have e : lineL wPar (valV l wPar) ++ valR l = wPar ++ 32 :: valV l wPar ++ 10 :: valR l := by simp [lineL]
            rw [e]
            exact h3
theorem line_back {l wd : List UInt8} (h : valO l wd = true) : l = lineL wd (valV l wd) ++ valR l := by
  have e : lineL wd (valV l wd) ++ valR l = wd ++ 32 :: valV l wd ++ 10 :: valR l := by simp [lineL]
  rw [e]
  exact (val_back h).1
theorem who_zero {l : List UInt8} (h : okPn (whoR l).2 = true) : (whoR l).1 = 0 := by
  rw [whoR] at h ⊢
  unfold codeW at h ⊢
  split at h
  · exact absurd h (by decide)
  · split at h
    · exact absurd h (by decide)
    · rename_i h1 h2
      rw [if_neg h1, if_neg h2]
theorem text_back {l : List UInt8} (h : Lib.hasPrefix l [10] = true) : l = 10 :: cutP l [10] := by
  obtain ⟨t, ht⟩ := List.isPrefixOf_iff_prefix.mp h
  rw [cutP, if_pos h, ← ht]
  rfl
/-- What Parse takes, Body writes so. -/
theorem parC_back {l : List UInt8} (h : (parC l).1 = 0) : chkC (parC l).2 = 0 ∧ encC (parC l).2 = l := by
  unfold parC at h ⊢
  split at h
  · cases h
  · rename_i hB
    split at h
    · rename_i h0
      rw [if_neg hB, if_pos h0]
      refine ⟨h0, ?_⟩
      obtain ⟨p1, p2, p3, p4, p5⟩ := okC_parts (chkC_ok h0).1
      rw [Bool.not_eq_true] at hB
      unfold pcC at hB
      simp only [Bool.or_eq_false_iff, Bool.not_eq_false'] at hB
      obtain ⟨⟨⟨⟨⟨q1, q2⟩, q3⟩, q4⟩, q5⟩, q6⟩ := hB
      have hx : ((false || !(valO l wTree)) || !(isId (str (valV l wTree)))) = false := by
        rw [← Bool.not_eq_true]
        intro hx
        rw [hx, parsP_bad _ _ _ (Nat.le_refl _)] at q1
        cases q1
      obtain ⟨ps, e1, e2⟩ := parsP_back _ (valR l) [] (Nat.le_refl _) (by rw [hx] at q1; exact q1)
      rw [hx] at q2 q3 q4 q5 q6
      have hv : valO l wTree = true := by
        simp only [Bool.false_or, Bool.or_eq_false_iff, Bool.not_eq_false'] at hx
        exact hx.1
      have e3 := line_back hv
      have e4 := line_back q2
      have e5 := line_back q4
      have e6 := text_back q6
      have wa := (whoR_back (who_zero p3)).2
      have wc := (whoR_back (who_zero p4)).2
      unfold PcC.cm encC
      simp only [pcC, hx] at wa wc ⊢
      rw [wa, wc, e1, List.nil_append]
      show lineL wTree (valV l wTree) ++ (ps.flatMap (lineL wPar) ++ (lineL wAut _ ++ (lineL wCom _ ++ 10 :: cutP _ [10]))) = l
      rw [← e6, ← e5, ← e4, ← e2, ← e3]
    · rename_i h0
      exact absurd h h0
theorem encC_inj {c d : Cm} (hc : chkC c = 0) (hd : chkC d = 0) (h : encC c = encC d) : c = d := by
  have h1 := parC_enc hc
  rw [h, parC_enc hd] at h1
  exact (Prod.mk.inj h1).2.symm
theorem okG_parts {g : Tg} (h : okG g = true) : isId g.o = true ∧ wordL g.k ≠ [] ∧ tagN g.n.data.toList = true ∧ okPn g.g = true ∧ noZ g.x.data.toList = true := by
  simpa only [okG, Bool.and_eq_true, decide_eq_true_eq] using h
theorem chkG_ok {g : Tg} (h : chkG g = 0) : okG g = true ∧ g.x.size ≤ 4096 := by
  unfold chkG at h
  split at h
  · cases h
  · split at h
    · cases h
    · rename_i h1 h2
      exact ⟨by simpa using h1, by omega⟩
theorem word_kindZ {k : Int} (h : wordL k ≠ []) : ((kindL (wordL k) : Nat) : Int) = k ∧ kindL (wordL k) ≠ 0 := by
  have h1 : 1 ≤ k ∧ k ≤ 4 := by
    by_cases h' : 1 ≤ k ∧ k ≤ 4
    · exact h'
    · exact absurd (wordL_nil.mpr h') h
  have h2 := kind_word h1
  exact ⟨h2, by omega⟩
theorem pcG_enc {g : Tg} (h : okG g = true) : pcG (encG g) = ⟨g.o.data.toList, kindL (wordL g.k), g.n.data.toList, (0, g.g), g.x.data.toList, false⟩ := by
  obtain ⟨h1, h2, h3, h4, h5⟩ := okG_parts h
  obtain ⟨a1, a2, a3⟩ := line_val (wd := wObj) (r := lineL wTyp (wordL g.k) ++ (lineL wTag g.n.data.toList ++ (lineL wTgr (whoL g.g).data.toList ++ 10 :: g.x.data.toList))) (by decide) (isId_line h1)
  obtain ⟨b1, b2, b3⟩ := line_val (wd := wTyp) (r := lineL wTag g.n.data.toList ++ (lineL wTgr (whoL g.g).data.toList ++ 10 :: g.x.data.toList)) (by decide) (wordL_line g.k)
  obtain ⟨c1, c2, c3⟩ := line_val (wd := wTag) (r := lineL wTgr (whoL g.g).data.toList ++ 10 :: g.x.data.toList) (by decide) (tagN_line h3)
  obtain ⟨d1, d2, d3⟩ := line_val (wd := wTgr) (r := 10 :: g.x.data.toList) (by decide) (whoL_line h4)
  have hid : isId (str g.o.data.toList) = true := h1
  have hpx : Lib.hasPrefix (10 :: g.x.data.toList) [10] = true := List.isPrefixOf_iff_prefix.mpr ⟨g.x.data.toList, rfl⟩
  have hk : (((kindL (wordL g.k) : Nat) : Int) != 0) = true := by
    have := (word_kindZ h2).2
    simp only [bne_iff_ne, ne_eq]
    omega
  unfold pcG encG
  simp only [a1, a2, a3, hid, b1, b2, b3, c1, c2, c3, d1, d2, d3, whoR_whoL h4, hpx, hk, cutP, if_true]
  rfl
theorem parG_enc {g : Tg} (h : chkG g = 0) : parG (encG g) = (0, g) := by
  have h0 := pcG_enc (chkG_ok h).1
  have hk := (word_kindZ (okG_parts (chkG_ok h).1).2.1).1
  have h1 : (pcG (encG g)).tg = g := by
    rw [h0]
    unfold PcG.tg
    simp only [hk]
    rfl
  have h2 : (pcG (encG g)).B = false := by rw [h0]
  rw [parG, h1, h2, if_neg (by decide), if_pos h]
theorem parG_back {l : List UInt8} (h : (parG l).1 = 0) : chkG (parG l).2 = 0 ∧ encG (parG l).2 = l := by
  unfold parG at h ⊢
  split at h
  · cases h
  · rename_i hB
    split at h
    · rename_i h0
      rw [if_neg hB, if_pos h0]
      refine ⟨h0, ?_⟩
      obtain ⟨p1, p2, p3, p4, p5⟩ := okG_parts (chkG_ok h0).1
      rw [Bool.not_eq_true] at hB
      unfold pcG at hB
      simp only [Bool.or_eq_false_iff, Bool.not_eq_false', Bool.false_or] at hB
      obtain ⟨⟨⟨⟨⟨⟨⟨q1, q2⟩, q3⟩, q4⟩, q5⟩, q6⟩, q7⟩, q8⟩ := hB
      have e1 := line_back q1
      have e2 := line_back q3
      have e3 := line_back q5
      have e4 := line_back q6
      have e5 := text_back q8
      have hk : wordL ((kindL (valV (valR l) wTyp) : Nat) : Int) = valV (valR l) wTyp := word_kind (by
        simp only [bne_iff_ne, ne_eq] at q4
        omega)
      have hg2 : (pcG l).tg.g = (whoR (valV (valR (valR (valR l))) wTgr)).2 := by
        simp only [PcG.tg, pcG]
      have p4' := p4
      rw [hg2] at p4'
      have wg := (whoR_back (who_zero p4')).2
      have hg : pcG l = ⟨valV l wObj, kindL (valV (valR l) wTyp), valV (valR (valR l)) wTag, whoR (valV (valR (valR (valR l))) wTgr), cutP (valR (valR (valR (valR l)))) [10], (pcG l).B⟩ := rfl
      rw [hg]
      unfold PcG.tg encG
      simp only
      rw [wg, hk]
      clear hg
      clear h h0 p1 p2 p3 p4 p4' p5 q1 q2 q3 q4 q5 q6 q7 q8 wg hk
      generalize hv1 : valV l wObj = v1 at *
      generalize hr1 : valR l = r1 at *
      generalize hv2 : valV r1 wTyp = v2 at *
      generalize hr2 : valR r1 = r2 at *
      generalize hv3 : valV r2 wTag = v3 at *
      generalize hr3 : valR r2 = r3 at *
      generalize hv4 : valV r3 wTgr = v4 at *
      generalize hr4 : valR r3 = r4 at *
      generalize hx : cutP r4 [10] = x at *
      show lineL wObj v1 ++ (lineL wTyp v2 ++ (lineL wTag v3 ++ (lineL wTgr v4 ++ 10 :: x))) = l
      rw [← e5, ← e4, ← e3, ← e2, ← e1]
    · rename_i h0
      exact absurd h h0
end Go.Proofs.YtddmnibioacelaaGreatDoor
