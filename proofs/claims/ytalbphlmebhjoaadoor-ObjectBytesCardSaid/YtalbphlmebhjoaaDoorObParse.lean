/-
  The walk of Parse: plain mathematics of its two cuts, and the walk.
-/
import Derived.Test.YtalbphlmebhjoaaDoorObRBytes
import Derived.Lib.IndexLaws
namespace Go.Proofs.YtalbphlmebhjoaaDoor
open Go.RowKit

theorem idx_of : ∀ {l : List UInt8} {c : UInt8} {k : Nat}, l[k]? = some c → (∀ j : Nat, j < k → l[j]? ≠ some c) → Lib.indexByte l c = k
  | [], c, k, h, _ => by simp at h
  | b :: l, c, k, h, hn => by
    cases k with
    | zero =>
      simp only [List.getElem?_cons_zero, Option.some.injEq] at h
      subst h
      simp [Lib.indexByte]
    | succ k =>
      have hb : (b == c) = false := by
        rw [beq_eq_false_iff_ne]
        intro e
        exact hn 0 (by omega) (by simp [e])
      have ih := idx_of (l := l) (c := c) (k := k) (by simpa using h) (fun j hj => by have := hn (j + 1) (by omega); simpa using this)
      rw [Lib.indexByte, hb, if_neg Bool.false_ne_true, ih]
      have h1 : ((k : Int) == -1) = false := by rw [beq_eq_false_iff_ne]; omega
      rw [h1, if_neg Bool.false_ne_true]
      omega
theorem idx_no : ∀ {l : List UInt8} {c : UInt8}, (∀ j : Nat, l[j]? ≠ some c) → Lib.indexByte l c = -1
  | [], _, _ => rfl
  | b :: l, c, h => by
    have hb : (b == c) = false := by
      rw [beq_eq_false_iff_ne]
      intro e
      exact h 0 (by simp [e])
    have ih := idx_no (l := l) (c := c) (fun j => by have := h (j + 1); simpa using this)
    rw [Lib.indexByte, hb, if_neg Bool.false_ne_true, ih]
    rfl
theorem idx_nat (l : List UInt8) (c : UInt8) : Lib.indexByte l c = -1 ∨ ∃ k : Nat, Lib.indexByte l c = k ∧ k < l.length := by
  have h := Lib.indexByte_ge l c
  by_cases h1 : Lib.indexByte l c = -1
  · exact .inl h1
  · obtain ⟨k, hk⟩ : ∃ k : Nat, Lib.indexByte l c = k := ⟨(Lib.indexByte l c).toNat, by omega⟩
    exact .inr ⟨k, hk, (List.getElem?_eq_some_iff.mp (Lib.indexByte_some hk).1).1⟩
theorem idx_take (l : List UInt8) (c : UInt8) (b : Nat) : Lib.indexByte (l.take b) c = if 0 ≤ Lib.indexByte l c ∧ Lib.indexByte l c < b then Lib.indexByte l c else -1 := by
  rcases idx_nat l c with h | ⟨k, h, hk⟩
  · rw [h, if_neg (by omega)]
    refine idx_no fun j e => ?_
    rw [List.getElem?_take] at e
    split at e
    · exact Lib.indexByte_none h j e
    · cases e
  · rw [h]
    obtain ⟨h1, h2⟩ := Lib.indexByte_some h
    by_cases hlt : k < b
    · rw [if_pos (by omega)]
      refine idx_of ?_ fun j hj => ?_
      · rw [List.getElem?_take, if_pos hlt]
        exact h1
      · rw [List.getElem?_take, if_pos (by omega)]
        exact h2 j hj
    · rw [if_neg (by omega)]
      refine idx_no fun j e => ?_
      rw [List.getElem?_take] at e
      split at e
      · exact h2 j (by omega) e
      · cases e
/-- What Parse makes of what it has cut. -/
def codeP (kd : Nat) (I : Int) (B en : Bool) (bd : List UInt8) : Nat × List UInt8 × Nat :=
  if kd = 0 ∨ B = false ∨ en = false then (0, [], 2) else if 1048576 < I then (0, [], 4) else if (bd.length : Int) < I then (0, [], 3) else if I < (bd.length : Int) then (0, [], 2) else (kd, bd, 0)
theorem cut_one (l : List UInt8) (c : UInt8) : Lib.cut l [c] = if 0 ≤ Lib.indexByte l c then (l.take (Lib.indexByte l c).toNat, l.drop ((Lib.indexByte l c).toNat + 1), true) else (l, [], false) := by
  rw [Lib.cut, Lib.index_one]
  rfl
theorem kindL_nil : kindL [] = 0 := rfl
theorem lenB_nil : lenB [] = false := rfl
theorem cut_none {l : List UInt8} {c : UInt8} (h : Lib.indexByte l c = -1) : Lib.cut l [c] = (l, [], false) := by rw [cut_one, h, if_neg (by omega)]
theorem cut_some {l : List UInt8} {c : UInt8} {k : Nat} (h : Lib.indexByte l c = k) : Lib.cut l [c] = (l.take k, l.drop (k + 1), true) := by rw [cut_one, h, if_pos (by omega)]; rfl
theorem codeP_bad {kd : Nat} {I : Int} {B en : Bool} {bd : List UInt8} (h : kd = 0 ∨ B = false ∨ en = false) : codeP kd I B en bd = (0, [], 2) := by rw [codeP, if_pos h]
theorem prs_bad {l : List UInt8} (h : Lib.indexByte l 32 < 0 ∨ Lib.indexByte l 0 < Lib.indexByte l 32 ∨ kindL (l.take (Lib.indexByte l 32).toNat) = 0) : prs l = (0, [], 2) := by
  unfold prs
  simp only
  rw [if_pos h]
/-- The two cuts give what the reference reads. -/
theorem code_prs (l : List UInt8) : codeP (kindL (Lib.cut (Lib.cut l [0]).1 [32]).1) (lenI (Lib.cut (Lib.cut l [0]).1 [32]).2.1) (lenB (Lib.cut (Lib.cut l [0]).1 [32]).2.1) (Lib.cut l [0]).2.2 (Lib.cut l [0]).2.1 = prs l := by
  rcases idx_nat l 0 with hb | ⟨b, hb, hbl⟩
  · rw [cut_none hb, codeP_bad (.inr (.inr rfl)), prs_bad]
    rcases idx_nat l 32 with ha | ⟨a, ha, -⟩
    · exact .inl (by omega)
    · exact .inr (.inl (by omega))
  · rw [cut_some hb]
    simp only
    have ht := idx_take l 32 b
    rcases idx_nat l 32 with ha | ⟨a, ha, hal⟩
    · rw [ha, if_neg (by omega)] at ht
      rw [cut_none ht, codeP_bad (.inr (.inl lenB_nil)), prs_bad (.inl (by omega))]
    · by_cases hab : a < b
      · rw [ha, if_pos (by omega)] at ht
        rw [cut_some ht]
        simp only
        rw [List.take_take, Nat.min_eq_left (by omega)]
        by_cases hk : kindL (l.take a) = 0
        · rw [codeP_bad (.inl hk), prs_bad (.inr (.inr (by rw [ha]; exact hk)))]
        · unfold prs
          simp only [ha, hb, Int.toNat_natCast]
          rw [if_neg (c := _ ∨ _ ∨ kindL (l.take a) = 0) (by rintro (h | h | h); omega; omega; exact hk h)]
          cases hn : numR 7 ((l.take b).drop (a + 1)) with
          | none => rw [codeP_bad (.inr (.inl (by rw [lenB, hn]; rfl)))]
          | some n =>
            unfold codeP
            rw [if_neg (by rintro (h | h | h); exact hk h; (rw [lenB, hn] at h; cases h); cases h)]
            have hI : lenI ((l.take b).drop (a + 1)) = (n : Int) := by rw [lenI, hn]
            have hlen : (l.drop (b + 1)).length = l.length - b - 1 := by rw [List.length_drop]; omega
            rw [hI, hlen]
            simp only
            by_cases h1 : 1048576 < n
            · rw [if_pos (by omega), if_pos h1]
            · rw [if_neg (by omega), if_neg h1]
              by_cases h2 : l.length - b - 1 < n
              · rw [if_pos (by omega), if_pos h2]
              · rw [if_neg (by omega), if_neg h2]
                by_cases h3 : n < l.length - b - 1
                · rw [if_pos (by omega), if_pos h3]
                · rw [if_neg (by omega), if_neg h3]
      · rw [ha, if_neg (by omega)] at ht
        have hne : a ≠ b := by
          intro e
          subst e
          have h1 := (Lib.indexByte_some ha).1
          rw [(Lib.indexByte_some hb).1] at h1
          cases h1
        rw [cut_none ht, codeP_bad (.inr (.inl lenB_nil)), prs_bad (.inr (.inl (by omega)))]

/-- The cells of an object that is laid down. -/
theorem obj_end {w : World} {E : Nat} {c0 c1 v0 v1 : Value} (h : w.heap[E]? = some (.cells #[c0, c1] 23 (0, 0))) :
    ((w.setCell ⟨E, 0, none⟩ v0).setCell ⟨E, 1, none⟩ v1).cell? ⟨E, 0, none⟩ = some v0 ∧ ((w.setCell ⟨E, 0, none⟩ v0).setCell ⟨E, 1, none⟩ v1).cell? ⟨E, 1, none⟩ = some v1 := by
  have h0 : (w.setCell ⟨E, 0, none⟩ v0).heap[E]? = some (.cells #[v0, c1] 23 (0, 0)) := by
    have h := heap_setCell_same w E 0 _ 23 v0 h
    simp only [List.setIfInBounds_toArray, List.set_cons_zero] at h
    exact h
  have h1 : ((w.setCell ⟨E, 0, none⟩ v0).setCell ⟨E, 1, none⟩ v1).heap[E]? = some (.cells #[v0, v1] 23 (0, 0)) := by
    have h := heap_setCell_same (w.setCell ⟨E, 0, none⟩ v0) E 1 _ 23 v1 h0
    simp only [List.setIfInBounds_toArray, List.set_cons_zero, List.set_cons_succ] at h
    exact h
  exact ⟨cell_of_row _ _ 0 _ _ _ h1, cell_of_row _ _ 1 _ _ _ h1⟩
/-- What Parse answers. -/
def ParR (p : Nat × List UInt8 × Nat) (w : World) (e : Ending) (w' : World) : Prop := e = .returned (.tuple #[.agg #[.int .i64 (p.1 : Int), .string (str p.2.1)], .int .i64 (p.2.2 : Int)]) ∧ Below w.heap.size w w'
theorem parR_mk {p : Nat × List UInt8 × Nat} {w w' : World} {e : Ending} {a c : Nat} {b : ByteArray} (h : p = (a, b.data.toList, c)) (he : e = .returned (.tuple #[.agg #[.int .i64 (a : Int), .string b], .int .i64 (c : Int)])) (hb : Below w.heap.size w w') : ParR p w e w' := by
  subst h
  exact ⟨he, hb⟩

set_option maxHeartbeats 4000000 in
set_option maxRecDepth 4000 in
theorem parse_any (s : ByteArray) (w : World) (h : WoTab w) (h2 : StrTab w) (hs : s.size ≤ 4000000) :
    Calls Tryd.prog 12 #[.string s] w (ParR (prs s.data.toList) w) := by
  obtain ⟨R, hR⟩ : ∃ R, R = prs s.data.toList := ⟨_, rfl⟩
  rw [← hR]
  rw [← code_prs] at hR
  have hcl : ∀ (l : List UInt8) (c : UInt8), (Lib.cut l [c]).1.length ≤ l.length ∧ (Lib.cut l [c]).2.1.length ≤ l.length := fun l c => by
    rw [cut_one]
    split
    · simp only [List.length_take, List.length_drop]; omega
    · simp
  obtain ⟨hd, hhd⟩ : ∃ hd, hd = str (Lib.cut s.data.toList [0]).1 := ⟨_, rfl⟩
  obtain ⟨bd, hbd⟩ : ∃ bd, bd = str (Lib.cut s.data.toList [0]).2.1 := ⟨_, rfl⟩
  obtain ⟨en, hen⟩ : ∃ en, en = (Lib.cut s.data.toList [0]).2.2 := ⟨_, rfl⟩
  have hhs : hd.size ≤ 4000000 := by have := (hcl s.data.toList 0).1; rw [hhd, str_size]; rw [list_len] at this; omega
  have hbs : bd.size ≤ 4000000 := by have := (hcl s.data.toList 0).2; rw [hbd, str_size]; rw [list_len] at this; omega
  obtain ⟨wd, hwd⟩ : ∃ wd, wd = str (Lib.cut hd.data.toList [32]).1 := ⟨_, rfl⟩
  obtain ⟨dg, hdg⟩ : ∃ dg, dg = str (Lib.cut hd.data.toList [32]).2.1 := ⟨_, rfl⟩
  obtain ⟨x3, hx3⟩ : ∃ x3, x3 = (Lib.cut hd.data.toList [32]).2.2 := ⟨_, rfl⟩
  have hds : dg.size ≤ 4000000 := by have := (hcl hd.data.toList 32).2; rw [hdg, str_size]; rw [list_len] at this; omega
  obtain ⟨kd, hkd⟩ : ∃ kd, kd = kindL wd.data.toList := ⟨_, rfl⟩
  obtain ⟨I, hI⟩ : ∃ I, I = lenI dg.data.toList := ⟨_, rfl⟩
  obtain ⟨B, hB⟩ : ∃ B, B = lenB dg.data.toList := ⟨_, rfl⟩
  have hR2 : R = codeP kd I B en bd.data.toList := by rw [hR, hkd, hI, hB, hwd, hdg, hhd, hen, hbd]; rfl
  have HR := Lib.hid hR2
  obtain ⟨m, hm⟩ := h2.m
  have HC1 : Hid (∀ w', Below w.heap.size w w' → Calls Tryd.prog 23 #[.string s, .string ⟨#[0]⟩] w' fun e w'' => e = .returned (.tuple #[.string hd, .string bd, .bool en]) ∧ Below w.heap.size w w'' ∧ Below w'.heap.size w' w'') := fun w' hb =>
    (Tryd.strings_Cut s ⟨#[0]⟩ m w' (by omega) (cell_bel hm hb)).mono fun e w'' ⟨he, n, hw⟩ => ⟨by rw [he, hhd, hbd, hen]; rfl, by rw [hw]; exact below_drewN hb n, by rw [hw]; exact below_drewN (Below.refl _ _) n⟩
  have HC2 : Hid (∀ w', Below w.heap.size w w' → Calls Tryd.prog 23 #[.string hd, .string ⟨#[32]⟩] w' fun e w'' => e = .returned (.tuple #[.string wd, .string dg, .bool x3]) ∧ Below w.heap.size w w'' ∧ Below w'.heap.size w' w'') := fun w' hb =>
    (Tryd.strings_Cut hd ⟨#[32]⟩ m w' (by omega) (cell_bel hm hb)).mono fun e w'' ⟨he, n, hw⟩ => ⟨by rw [he, hwd, hdg, hx3]; rfl, by rw [hw]; exact below_drewN hb n, by rw [hw]; exact below_drewN (Below.refl _ _) n⟩
  have HKd : Hid (∀ w', Below w.heap.size w w' → Calls Tryd.prog 16 #[.string wd] w' fun e w'' => e = .returned (.int .i64 (kd : Int)) ∧ w' = w'') := fun w' hb =>
    (kind_any wd w' (h.below hb)).mono fun e w'' ⟨he, hw⟩ => ⟨by rw [he, hkd], hw.symm⟩
  have HLn : Hid (∀ w', Below w.heap.size w w' → Calls Tryd.prog 24 #[.string dg] w' fun e w'' => e = .returned (.tuple #[.int .i64 I, .bool B]) ∧ Below w.heap.size w w'' ∧ Below w'.heap.size w' w'') := fun w' hb =>
    (length_any dg w' (h2.below hb) (by omega)).mono fun e w'' ⟨he, hw⟩ => ⟨by rw [he, hI, hB], hb.trans (hw.mono hb.size), hw⟩
  have hx := heap_alloc_new w (.cells #[.int .i64 0, .string ⟨#[]⟩] 23)
  have hbx : Below w.heap.size w (w.alloc (.cells #[.int .i64 0, .string ⟨#[]⟩] 23)) := (Below.refl _ _).alloc (Nat.le_refl _) _
  obtain ⟨w1, hw1⟩ : ∃ w1, w1 = w.alloc (.cells #[.int .i64 0, .string ⟨#[]⟩] 23) := ⟨_, rfl⟩
  have HW1 := Lib.hid hw1
  rw [← hw1] at hx hbx
  have HX := Lib.hid hx
  have HBX := Lib.hid hbx
  have hlt1 : w.heap.size < w1.heap.size := by rw [hw1, World.size_alloc]; omega
  have hIb : 0 ≤ I ∧ I < 10000000 := by
    rw [hI, lenI]
    split
    · rename_i n hn
      have := numR_lt hn
      omega
    · omega
  clear hR hR2 hcl hhd hbd hen hwd hdg hx3 hkd hI hB hm hw1 hx hbx h h2
  by_cases c1 : kd = 0
  · have HQ : Hid (R = (0, (⟨#[]⟩ : ByteArray).data.toList, 2)) := by show _ = _; rw [HR.out, codeP, if_pos (.inl c1)]
    subst c1
    clear HR
    go_enter Tryd.func12, Tryd.ntmps12
    go_upto_region 1 with fail
    rw [← HW1.out]
    go_upto_region 5 with (first
      | (go_at_call 23; first
        | ((with_reducible refine (HC1.out _ HBX.out).mono ?_); rintro e w2 ⟨rfl, hb2, hc2⟩)
        | ((with_reducible refine (HC2.out _ hb2).mono ?_); rintro e w3 ⟨rfl, hb3, hc3⟩))
      | (go_at_call 16; ((with_reducible refine (HKd.out _ hb3).mono ?_); rintro e w4 ⟨rfl, rfl⟩))
      | (go_at_call 24; ((with_reducible refine (HLn.out _ hb3).mono ?_); rintro e w5 ⟨rfl, hb5, hc5⟩)))
    have hrow : w5.heap[w.heap.size]? = some (.cells #[.int .i64 0, .string ⟨#[]⟩] 23 (0, 0)) := (hc5.block _ (by have := hc2.size; have := hc3.size; omega)).trans ((hc3.block _ (by have := hc2.size; omega)).trans ((hc2.block _ hlt1).trans HX.out))
    have y0 := cell_of_row w5 w.heap.size 0 _ _ _ hrow
    have y1 := cell_of_row w5 w.heap.size 1 _ _ _ hrow
    have z0 := frozen_of_row w5 w.heap.size 0 _ _ hrow
    have z1 := frozen_of_row w5 w.heap.size 1 _ _ hrow
    have HRW := Lib.hid hrow
    have HB5 := Lib.hid hb5
    clear hrow hb2 hb3 hb5 hc2 hc3 hc5
    go_wp2
    obtain ⟨d0, d1⟩ := obj_end (v0 := .int .i64 0) (v1 := .string ⟨#[]⟩) HRW.out
    refine bodyPost_ret (v := .tuple #[.agg #[.int .i64 0, .string ⟨#[]⟩], .int .i64 2]) (by simp [results, Tryd.results12, go_sem, d0, d1]) rfl (parR_mk (b := ⟨#[]⟩) HQ.out rfl ((HB5.out.setCell (Nat.le_refl _) _).setCell (Nat.le_refl _) _))
  have e1 : ((kd : Int) == 0) = false := by simpa using c1
  rcases B with _ | _
  · have HQ : Hid (R = (0, (⟨#[]⟩ : ByteArray).data.toList, 2)) := by show _ = _; rw [HR.out, codeP, if_pos (.inr (.inl rfl))]
    clear HR c1
    go_enter Tryd.func12, Tryd.ntmps12
    go_upto_region 1 with fail
    rw [← HW1.out]
    go_upto_region 5 with (first
      | (go_at_call 23; first
        | ((with_reducible refine (HC1.out _ HBX.out).mono ?_); rintro e w2 ⟨rfl, hb2, hc2⟩)
        | ((with_reducible refine (HC2.out _ hb2).mono ?_); rintro e w3 ⟨rfl, hb3, hc3⟩))
      | (go_at_call 16; ((with_reducible refine (HKd.out _ hb3).mono ?_); rintro e w4 ⟨rfl, rfl⟩))
      | (go_at_call 24; ((with_reducible refine (HLn.out _ hb3).mono ?_); rintro e w5 ⟨rfl, hb5, hc5⟩)))
    have hrow : w5.heap[w.heap.size]? = some (.cells #[.int .i64 0, .string ⟨#[]⟩] 23 (0, 0)) := (hc5.block _ (by have := hc2.size; have := hc3.size; omega)).trans ((hc3.block _ (by have := hc2.size; omega)).trans ((hc2.block _ hlt1).trans HX.out))
    have y0 := cell_of_row w5 w.heap.size 0 _ _ _ hrow
    have y1 := cell_of_row w5 w.heap.size 1 _ _ _ hrow
    have z0 := frozen_of_row w5 w.heap.size 0 _ _ hrow
    have z1 := frozen_of_row w5 w.heap.size 1 _ _ hrow
    have HRW := Lib.hid hrow
    have HB5 := Lib.hid hb5
    clear hrow hb2 hb3 hb5 hc2 hc3 hc5
    go_wp2
    obtain ⟨d0, d1⟩ := obj_end (v0 := .int .i64 0) (v1 := .string ⟨#[]⟩) HRW.out
    refine bodyPost_ret (v := .tuple #[.agg #[.int .i64 0, .string ⟨#[]⟩], .int .i64 2]) (by simp [results, Tryd.results12, go_sem, d0, d1]) rfl (parR_mk (b := ⟨#[]⟩) HQ.out rfl ((HB5.out.setCell (Nat.le_refl _) _).setCell (Nat.le_refl _) _))
  rcases en with _ | _
  · have HQ : Hid (R = (0, (⟨#[]⟩ : ByteArray).data.toList, 2)) := by show _ = _; rw [HR.out, codeP, if_pos (.inr (.inr rfl))]
    clear HR c1
    go_enter Tryd.func12, Tryd.ntmps12
    go_upto_region 1 with fail
    rw [← HW1.out]
    go_upto_region 5 with (first
      | (go_at_call 23; first
        | ((with_reducible refine (HC1.out _ HBX.out).mono ?_); rintro e w2 ⟨rfl, hb2, hc2⟩)
        | ((with_reducible refine (HC2.out _ hb2).mono ?_); rintro e w3 ⟨rfl, hb3, hc3⟩))
      | (go_at_call 16; ((with_reducible refine (HKd.out _ hb3).mono ?_); rintro e w4 ⟨rfl, rfl⟩))
      | (go_at_call 24; ((with_reducible refine (HLn.out _ hb3).mono ?_); rintro e w5 ⟨rfl, hb5, hc5⟩)))
    have hrow : w5.heap[w.heap.size]? = some (.cells #[.int .i64 0, .string ⟨#[]⟩] 23 (0, 0)) := (hc5.block _ (by have := hc2.size; have := hc3.size; omega)).trans ((hc3.block _ (by have := hc2.size; omega)).trans ((hc2.block _ hlt1).trans HX.out))
    have y0 := cell_of_row w5 w.heap.size 0 _ _ _ hrow
    have y1 := cell_of_row w5 w.heap.size 1 _ _ _ hrow
    have z0 := frozen_of_row w5 w.heap.size 0 _ _ hrow
    have z1 := frozen_of_row w5 w.heap.size 1 _ _ hrow
    have HRW := Lib.hid hrow
    have HB5 := Lib.hid hb5
    clear hrow hb2 hb3 hb5 hc2 hc3 hc5
    go_wp2
    obtain ⟨d0, d1⟩ := obj_end (v0 := .int .i64 0) (v1 := .string ⟨#[]⟩) HRW.out
    refine bodyPost_ret (v := .tuple #[.agg #[.int .i64 0, .string ⟨#[]⟩], .int .i64 2]) (by simp [results, Tryd.results12, go_sem, d0, d1]) rfl (parR_mk (b := ⟨#[]⟩) HQ.out rfl ((HB5.out.setCell (Nat.le_refl _) _).setCell (Nat.le_refl _) _))
  have n1 : ¬ (kd = 0 ∨ true = false ∨ true = false) := by simp [c1]
  by_cases c4 : 1048576 < I
  · have HQ : Hid (R = (0, (⟨#[]⟩ : ByteArray).data.toList, 4)) := by show _ = _; rw [HR.out, codeP, if_neg n1, if_pos c4]
    clear HR c1 n1
    go_enter Tryd.func12, Tryd.ntmps12
    go_upto_region 1 with fail
    rw [← HW1.out]
    go_upto_region 5 with (first
      | (go_at_call 23; first
        | ((with_reducible refine (HC1.out _ HBX.out).mono ?_); rintro e w2 ⟨rfl, hb2, hc2⟩)
        | ((with_reducible refine (HC2.out _ hb2).mono ?_); rintro e w3 ⟨rfl, hb3, hc3⟩))
      | (go_at_call 16; ((with_reducible refine (HKd.out _ hb3).mono ?_); rintro e w4 ⟨rfl, rfl⟩))
      | (go_at_call 24; ((with_reducible refine (HLn.out _ hb3).mono ?_); rintro e w5 ⟨rfl, hb5, hc5⟩)))
    have hrow : w5.heap[w.heap.size]? = some (.cells #[.int .i64 0, .string ⟨#[]⟩] 23 (0, 0)) := (hc5.block _ (by have := hc2.size; have := hc3.size; omega)).trans ((hc3.block _ (by have := hc2.size; omega)).trans ((hc2.block _ hlt1).trans HX.out))
    have y0 := cell_of_row w5 w.heap.size 0 _ _ _ hrow
    have y1 := cell_of_row w5 w.heap.size 1 _ _ _ hrow
    have z0 := frozen_of_row w5 w.heap.size 0 _ _ hrow
    have z1 := frozen_of_row w5 w.heap.size 1 _ _ hrow
    have HRW := Lib.hid hrow
    have HB5 := Lib.hid hb5
    clear hrow hb2 hb3 hb5 hc2 hc3 hc5
    go_wp2
    obtain ⟨d0, d1⟩ := obj_end (v0 := .int .i64 0) (v1 := .string ⟨#[]⟩) HRW.out
    refine bodyPost_ret (v := .tuple #[.agg #[.int .i64 0, .string ⟨#[]⟩], .int .i64 4]) (by simp [results, Tryd.results12, go_sem, d0, d1]) rfl (parR_mk (b := ⟨#[]⟩) HQ.out rfl ((HB5.out.setCell (Nat.le_refl _) _).setCell (Nat.le_refl _) _))
  by_cases c5 : (bd.size : Int) < I
  · have HQ : Hid (R = (0, (⟨#[]⟩ : ByteArray).data.toList, 3)) := by show _ = _; rw [HR.out, codeP, if_neg n1, if_neg c4, list_len, if_pos c5]
    clear HR c1 n1
    go_enter Tryd.func12, Tryd.ntmps12
    go_upto_region 1 with fail
    rw [← HW1.out]
    go_upto_region 5 with (first
      | (go_at_call 23; first
        | ((with_reducible refine (HC1.out _ HBX.out).mono ?_); rintro e w2 ⟨rfl, hb2, hc2⟩)
        | ((with_reducible refine (HC2.out _ hb2).mono ?_); rintro e w3 ⟨rfl, hb3, hc3⟩))
      | (go_at_call 16; ((with_reducible refine (HKd.out _ hb3).mono ?_); rintro e w4 ⟨rfl, rfl⟩))
      | (go_at_call 24; ((with_reducible refine (HLn.out _ hb3).mono ?_); rintro e w5 ⟨rfl, hb5, hc5⟩)))
    have hrow : w5.heap[w.heap.size]? = some (.cells #[.int .i64 0, .string ⟨#[]⟩] 23 (0, 0)) := (hc5.block _ (by have := hc2.size; have := hc3.size; omega)).trans ((hc3.block _ (by have := hc2.size; omega)).trans ((hc2.block _ hlt1).trans HX.out))
    have y0 := cell_of_row w5 w.heap.size 0 _ _ _ hrow
    have y1 := cell_of_row w5 w.heap.size 1 _ _ _ hrow
    have z0 := frozen_of_row w5 w.heap.size 0 _ _ hrow
    have z1 := frozen_of_row w5 w.heap.size 1 _ _ hrow
    have HRW := Lib.hid hrow
    have HB5 := Lib.hid hb5
    clear hrow hb2 hb3 hb5 hc2 hc3 hc5
    go_wp2
    obtain ⟨d0, d1⟩ := obj_end (v0 := .int .i64 0) (v1 := .string ⟨#[]⟩) HRW.out
    refine bodyPost_ret (v := .tuple #[.agg #[.int .i64 0, .string ⟨#[]⟩], .int .i64 3]) (by simp [results, Tryd.results12, go_sem, d0, d1]) rfl (parR_mk (b := ⟨#[]⟩) HQ.out rfl ((HB5.out.setCell (Nat.le_refl _) _).setCell (Nat.le_refl _) _))
  by_cases c6 : I < (bd.size : Int)
  · have HQ : Hid (R = (0, (⟨#[]⟩ : ByteArray).data.toList, 2)) := by show _ = _; rw [HR.out, codeP, if_neg n1, if_neg c4, list_len, if_neg c5, if_pos c6]
    clear HR c1 n1
    go_enter Tryd.func12, Tryd.ntmps12
    go_upto_region 1 with fail
    rw [← HW1.out]
    go_upto_region 5 with (first
      | (go_at_call 23; first
        | ((with_reducible refine (HC1.out _ HBX.out).mono ?_); rintro e w2 ⟨rfl, hb2, hc2⟩)
        | ((with_reducible refine (HC2.out _ hb2).mono ?_); rintro e w3 ⟨rfl, hb3, hc3⟩))
      | (go_at_call 16; ((with_reducible refine (HKd.out _ hb3).mono ?_); rintro e w4 ⟨rfl, rfl⟩))
      | (go_at_call 24; ((with_reducible refine (HLn.out _ hb3).mono ?_); rintro e w5 ⟨rfl, hb5, hc5⟩)))
    have hrow : w5.heap[w.heap.size]? = some (.cells #[.int .i64 0, .string ⟨#[]⟩] 23 (0, 0)) := (hc5.block _ (by have := hc2.size; have := hc3.size; omega)).trans ((hc3.block _ (by have := hc2.size; omega)).trans ((hc2.block _ hlt1).trans HX.out))
    have y0 := cell_of_row w5 w.heap.size 0 _ _ _ hrow
    have y1 := cell_of_row w5 w.heap.size 1 _ _ _ hrow
    have z0 := frozen_of_row w5 w.heap.size 0 _ _ hrow
    have z1 := frozen_of_row w5 w.heap.size 1 _ _ hrow
    have HRW := Lib.hid hrow
    have HB5 := Lib.hid hb5
    clear hrow hb2 hb3 hb5 hc2 hc3 hc5
    go_wp2
    obtain ⟨d0, d1⟩ := obj_end (v0 := .int .i64 0) (v1 := .string ⟨#[]⟩) HRW.out
    refine bodyPost_ret (v := .tuple #[.agg #[.int .i64 0, .string ⟨#[]⟩], .int .i64 2]) (by simp [results, Tryd.results12, go_sem, d0, d1]) rfl (parR_mk (b := ⟨#[]⟩) HQ.out rfl ((HB5.out.setCell (Nat.le_refl _) _).setCell (Nat.le_refl _) _))
  · have HQ : Hid (R = (kd, bd.data.toList, 0)) := by show _ = _; rw [HR.out, codeP, if_neg n1, if_neg c4, list_len, if_neg c5, if_neg c6]
    clear HR c1 n1
    go_enter Tryd.func12, Tryd.ntmps12
    go_upto_region 1 with fail
    rw [← HW1.out]
    go_upto_region 5 with (first
      | (go_at_call 23; first
        | ((with_reducible refine (HC1.out _ HBX.out).mono ?_); rintro e w2 ⟨rfl, hb2, hc2⟩)
        | ((with_reducible refine (HC2.out _ hb2).mono ?_); rintro e w3 ⟨rfl, hb3, hc3⟩))
      | (go_at_call 16; ((with_reducible refine (HKd.out _ hb3).mono ?_); rintro e w4 ⟨rfl, rfl⟩))
      | (go_at_call 24; ((with_reducible refine (HLn.out _ hb3).mono ?_); rintro e w5 ⟨rfl, hb5, hc5⟩)))
    have hrow : w5.heap[w.heap.size]? = some (.cells #[.int .i64 0, .string ⟨#[]⟩] 23 (0, 0)) := (hc5.block _ (by have := hc2.size; have := hc3.size; omega)).trans ((hc3.block _ (by have := hc2.size; omega)).trans ((hc2.block _ hlt1).trans HX.out))
    have y0 := cell_of_row w5 w.heap.size 0 _ _ _ hrow
    have y1 := cell_of_row w5 w.heap.size 1 _ _ _ hrow
    have z0 := frozen_of_row w5 w.heap.size 0 _ _ hrow
    have z1 := frozen_of_row w5 w.heap.size 1 _ _ hrow
    have HRW := Lib.hid hrow
    have HB5 := Lib.hid hb5
    clear hrow hb2 hb3 hb5 hc2 hc3 hc5
    go_wp2
    obtain ⟨d0, d1⟩ := obj_end (v0 := .int .i64 kd) (v1 := .string bd) HRW.out
    refine bodyPost_ret (v := .tuple #[.agg #[.int .i64 kd, .string bd], .int .i64 0]) (by simp [results, Tryd.results12, go_sem, d0, d1]) rfl (parR_mk (b := bd) HQ.out rfl ((HB5.out.setCell (Nat.le_refl _) _).setCell (Nat.le_refl _) _))
end Go.Proofs.YtalbphlmebhjoaaDoor
