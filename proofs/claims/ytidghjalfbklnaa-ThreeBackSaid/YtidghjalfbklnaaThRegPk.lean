/-
  Regions: plain, and as they lie in the world; the small walks of three: ended, nests, conflicting.
-/
import Derived.Test.YtidghjalfbklnaaThMark
import Derived.Test.YtidghjalfbklnaaThPlac
namespace Go.Proofs.Ytidghjalfbklnaa
open Go.RowKit

/-- A region: its kind and four lists of lines. -/
structure Rg where
  k : Int
  l : List (List UInt8)
  o : List (List UInt8)
  b : List (List UInt8)
  t : List (List UInt8)
/-- A list of lines, as a slice. -/
def SlW (w : World) (v : Value) (ls : List (List UInt8)) : Prop := ∃ p c, v = .slice p ls.length c ∧ ls.length ≤ c ∧ SRw w p ls
theorem SlW.below {w w' : World} {v : Value} {ls : List (List UInt8)} (h : SlW w v ls) (hb : Below w.heap.size w w') : SlW w' v ls := by
  obtain ⟨p, c, he, hc, hs⟩ := h
  exact ⟨p, c, he, hc, hs.below hb⟩
theorem SlW.nil (w : World) : SlW w (.slice none 0 0) [] := ⟨none, 0, rfl, Nat.le_refl _, SRw.none w none⟩
/-- The five cells of a region. -/
structure RgC (w : World) (r : Rg) (v0 v1 v2 v3 v4 : Value) : Prop where
  kind : v0 = .int .i64 r.k
  line : SlW w v1 r.l
  our : SlW w v2 r.o
  bas : SlW w v3 r.b
  their : SlW w v4 r.t
theorem RgC.below {w w' : World} {r : Rg} {v0 v1 v2 v3 v4 : Value} (h : RgC w r v0 v1 v2 v3 v4) (hb : Below w.heap.size w w') : RgC w' r v0 v1 v2 v3 v4 :=
  ⟨h.kind, h.line.below hb, h.our.below hb, h.bas.below hb, h.their.below hb⟩
/-- A row of regions, as it is read. -/
def GRw (w : World) (p : Option Addr) (gs : List Rg) : Prop := ∀ k (h : k < gs.length), ∃ g o v0 v1 v2 v3 v4, p = some ⟨g, o, none⟩ ∧ g < w.heap.size ∧
  w.cell? ⟨g, o + k * 5, none⟩ = some v0 ∧ w.cell? ⟨g, o + k * 5 + 1, none⟩ = some v1 ∧ w.cell? ⟨g, o + k * 5 + 2, none⟩ = some v2 ∧ w.cell? ⟨g, o + k * 5 + 3, none⟩ = some v3 ∧ w.cell? ⟨g, o + k * 5 + 4, none⟩ = some v4 ∧ RgC w gs[k] v0 v1 v2 v3 v4
theorem GRw.below {w w' : World} {p : Option Addr} {gs : List Rg} (h : GRw w p gs) (hb : Below w.heap.size w w') : GRw w' p gs := fun k hk => by
  obtain ⟨g, o, v0, v1, v2, v3, v4, rfl, hg, h0, h1, h2, h3, h4, hr⟩ := h k hk
  exact ⟨g, o, v0, v1, v2, v3, v4, rfl, Nat.lt_of_lt_of_le hg hb.size, (hb.cell (p := ⟨g, _, none⟩) hg).trans h0, (hb.cell (p := ⟨g, _, none⟩) hg).trans h1, (hb.cell (p := ⟨g, _, none⟩) hg).trans h2, (hb.cell (p := ⟨g, _, none⟩) hg).trans h3, (hb.cell (p := ⟨g, _, none⟩) hg).trans h4, hr.below hb⟩
/-- A line with its line feed. -/
def endL (l : List UInt8) : List UInt8 := if l.getLast? = some 10 then l else l ++ [10]

set_option maxHeartbeats 1000000 in
theorem ended_any (t : ByteArray) (b : ByteArray) (w : World) (ht : t.size ≤ 1048576) (hb : b = str (endL t.data.toList)) :
    Calls Try.prog 58 #[.string t] w fun e w' => e = .returned (.string b) ∧ w' = w := by
  obtain ⟨p1, hp1⟩ : ∃ p, p = decide (t.data.toList.getLast? = some 10) := ⟨_, rfl⟩
  have HP1 : Hid (∀ w, Calls Try.prog 87 #[.string t, .string ⟨#[10]⟩] w fun e w' => e = .returned (.bool p1) ∧ w' = w) := fun w => by
    rw [hp1, ← suf10]
    exact Try.strings_HasSuffix t ⟨#[10]⟩ w (by omega)
  have HB : Hid (b = if p1 = true then t else t ++ ⟨#[10]⟩) := by
    show _ = _
    rw [hb, endL, hp1]
    simp only [decide_eq_true_eq]
    split
    · exact str_selfE t
    · refine ba_ext ?_
      rw [str_list]
      simp
  clear hb hp1
  rcases p1 with _ | _
  all_goals go_enter Try.func58, Try.ntmps58
  all_goals go_wp2_with (go_at_call 87; ((with_reducible refine (HP1.out _).mono ?_); rintro e w1 ⟨rfl, rfl⟩))
  all_goals go_ret
  all_goals exact ⟨by rw [HB.out]; rfl, rfl⟩

/-- Whether a marker may stand behind the one before it. -/
def nestB (k l : Nat) : Bool := if k = 3 then decide (l = 2 ∨ l = 1) else if k = 2 then decide (l = 1) else if k = 4 then decide (l = 3) else decide (l = 0)
set_option maxHeartbeats 1000000 in
theorem nests_any (k l : Nat) (w : World) (hk : k ≤ 4) (hl : l ≤ 4) :
    Calls Try.prog 85 #[.int .i64 (k : Int), .int .i64 (l : Int)] w fun e w' => e = .returned (.bool (nestB k l)) ∧ w' = w := by
  have h : ∀ k ∈ List.range 5, ∀ l ∈ List.range 5, Calls Try.prog 85 #[.int .i64 (k : Int), .int .i64 (l : Int)] w fun e w' => e = .returned (.bool (nestB k l)) ∧ w' = w := by
    intro k hk l hl
    simp only [show List.range 5 = [0, 1, 2, 3, 4] from rfl, List.mem_cons, List.not_mem_nil, or_false] at hk hl
    rcases hk with rfl | rfl | rfl | rfl | rfl <;> rcases hl with rfl | rfl | rfl | rfl | rfl
    all_goals go_enter Try.func85, Try.ntmps85
    all_goals go_wp2
    all_goals go_ret
    all_goals exact ⟨rfl, rfl⟩
  exact h k (List.mem_range.mpr (by omega)) l (List.mem_range.mpr (by omega))

set_option maxHeartbeats 1000000 in
theorem conflicting_any (r : Int) (v1 v2 v3 v4 : Value) (w : World) :
    Calls Try.prog 50 #[.agg #[.int .i64 r, v1, v2, v3, v4]] w fun e w' => e = .returned (.bool (decide (r = 2))) ∧ Below w.heap.size w w' := by
  go_enter Try.func50, Try.ntmps50
  go_upto_region 1 with fail
  have hx := heap_alloc_new w (.cells #[.int .i64 r, v1, v2, v3, v4] 43)
  have hb : Below w.heap.size w (w.alloc (.cells #[.int .i64 r, v1, v2, v3, v4] 43)) := below_new (Below.refl _ _) _
  generalize w.alloc (.cells #[.int .i64 r, v1, v2, v3, v4] 43) = w1 at hx hb ⊢
  have c0 := cell_of_row w1 _ 0 _ _ _ hx
  have c0 : w1.cell? ⟨w.heap.size, 0, none⟩ = some (.int .i64 r) := c0
  clear hx
  go_wp2
  go_ret
  exact ⟨rfl, hb⟩
end Go.Proofs.Ytidghjalfbklnaa
/-
  Whether no region conflicts: the walks of both Clean.
-/
namespace Go.Proofs.Ytidghjalfbklnaa
open Go.RowKit

/-- Whether no region conflicts. -/
def cleanB (gs : List Rg) : Bool := gs.all fun r => !decide (r.k = 2)
theorem cleanB_drop {gs : List Rg} {k : Nat} (h : k < gs.length) : cleanB (gs.drop k) = (!decide (gs[k].k = 2) && cleanB (gs.drop (k + 1))) := by
  unfold cleanB
  rw [List.drop_eq_getElem_cons h, List.all_cons]

set_option maxHeartbeats 1000000 in
theorem rclean_any (gs : List Rg) (p : Option Addr) (c n : Nat) (w : World) (hn : n = gs.length) (hp : GRw w p gs) (hl : n ≤ 1000000) :
    Calls Try.prog 22 #[.slice p n c] w fun e w' => e = .returned (.bool (cleanB gs)) ∧ w' = w := by
  have HN := Lib.hid hn
  have HP := Lib.hid hp
  obtain ⟨R, hR⟩ : ∃ R, R = cleanB gs := ⟨_, rfl⟩
  rw [← hR]
  have HB : Hid (R = cleanB (gs.drop 0)) := hR
  clear hn hp hR
  go_enter Try.func22, Try.ntmps22
  go_wp2
  go_loopw [3] (fun iv wr => ∃ k : Nat, k ≤ n ∧ iv = .int .i64 (k : Int) ∧ Hid (R = cleanB (gs.drop k)) ∧ wr = w) (fun iv _ => n - (intOf iv).toNat)
  case atStart => exact ⟨0, Nat.zero_le _, rfl, HB.out, rfl⟩
  case round =>
    clear HB
    obtain ⟨k, hk, rfl, HB, rfl⟩ := hrel
    by_cases hlt : k < n
    · have hkl : k < gs.length := by rw [← HN.out]; exact hlt
      obtain ⟨g, o, v0, v1, v2, v3, v4, rfl, hg, a0, _, _, _, _, hr⟩ := HP.out k hkl
      have h0 := hr.kind
      have hb := HB.out
      rw [cleanB_drop hkl] at hb
      obtain ⟨z, hz⟩ : ∃ z, z = gs[k].k := ⟨_, rfl⟩
      rw [← hz] at hb h0
      rw [h0] at a0
      clear hr hz h0
      by_cases h2 : z = 2
      · rw [decide_eq_true h2] at hb
        have HR := Lib.hid hb
        subst h2
        clear hb HB
        go_wp2
        go_ret
        exact ⟨by rw [HR.out]; rfl, rfl⟩
      · rw [decide_eq_false h2] at hb
        have HR : Hid (R = cleanB (gs.drop (k + 1))) := by show _ = _; rw [hb]; rfl
        clear hb HB
        go_wp2
        go_roundw
        case rel => exact ⟨k + 1, hlt, by go_num, HR.out, trivial⟩
        case measure => simp [intOf]; omega
    · obtain rfl : k = n := by omega
      have hb := HB.out
      rw [List.drop_of_length_le (by have := HN.out; omega)] at hb
      have HR : Hid (R = true) := hb
      clear hb HB
      go_wp2
      go_ret
      exact ⟨by rw [HR.out]; rfl, rfl⟩

set_option maxHeartbeats 1000000 in
theorem index_any (gs : List Rg) (p : Option Addr) (c n : Nat) (w : World) (hn : n = gs.length) (hp : GRw w p gs) (hl : n ≤ 1000000) :
    Calls Try.prog 80 #[.slice p n c, .func (.func 50) #[] #[]] w fun e w' => (∃ z : Int, e = .returned (.int .i64 z) ∧ decide (0 ≤ z) = !cleanB gs) ∧ Below w.heap.size w w' := by
  have HN := Lib.hid hn
  have HP := Lib.hid hp
  obtain ⟨R, hR⟩ : ∃ R, R = cleanB gs := ⟨_, rfl⟩
  rw [← hR]
  have HB : Hid (R = cleanB (gs.drop 0)) := hR
  clear hn hp hR
  go_enter Try.func80, Try.ntmps80
  go_wp2
  go_loopw [8] (fun iv wr => ∃ k : Nat, k ≤ n ∧ iv = .int .i64 (k : Int) ∧ Hid (R = cleanB (gs.drop k)) ∧ Hid (Below w.heap.size w wr)) (fun iv _ => n - (intOf iv).toNat)
  case atStart => exact ⟨0, Nat.zero_le _, rfl, HB.out, Below.refl _ _⟩
  case round =>
    clear HB
    obtain ⟨k, hk, rfl, HB, HW⟩ := hrel
    by_cases hlt : k < n
    · have hkl : k < gs.length := by rw [← HN.out]; exact hlt
      obtain ⟨g, o, v0, v1, v2, v3, v4, rfl, hg, a0, a1, a2, a3, a4, hr⟩ := (HP.out.below HW.out) k hkl
      have h0 := hr.kind
      have hb := HB.out
      rw [cleanB_drop hkl] at hb
      obtain ⟨z, hz⟩ : ∃ z, z = gs[k].k := ⟨_, rfl⟩
      rw [← hz] at hb h0
      rw [h0] at a0
      have HC := Lib.hid (conflicting_any z v1 v2 v3 v4)
      clear hr hz h0
      by_cases h2 : z = 2
      · rw [decide_eq_true h2] at hb
        have HR := Lib.hid hb
        subst h2
        clear hb HB
        go_wp2_with (go_at_call 50; ((with_reducible refine (HC.out _).mono ?_); rintro e w1 ⟨rfl, hb1⟩))
        go_ret
        exact ⟨⟨k, rfl, by rw [HR.out]; simp⟩, HW.out.trans (hb1.mono HW.out.size)⟩
      · rw [decide_eq_false h2] at hb
        have HR : Hid (R = cleanB (gs.drop (k + 1))) := by show _ = _; rw [hb]; rfl
        have HC2 : Hid (∀ w, Calls Try.prog 50 #[.agg #[.int .i64 z, v1, v2, v3, v4]] w fun e w' => e = .returned (.bool false) ∧ Below w.heap.size w w') := fun w => by
          have h := HC.out w
          rw [decide_eq_false h2] at h
          exact h
        clear hb HB HC
        go_wp2_with (go_at_call 50; ((with_reducible refine (HC2.out _).mono ?_); rintro e w1 ⟨rfl, hb1⟩))
        go_roundw
        case rel => exact ⟨k + 1, hlt, by go_num, HR.out, HW.out.trans (hb1.mono HW.out.size)⟩
        case measure => simp [intOf]; omega
    · obtain rfl : k = n := by omega
      have hb := HB.out
      rw [List.drop_of_length_le (by have := HN.out; omega)] at hb
      have HR : Hid (R = true) := hb
      clear hb HB
      go_wp2
      go_ret
      exact ⟨⟨-1, rfl, by rw [HR.out]; rfl⟩, HW.out⟩

set_option maxHeartbeats 1000000 in
theorem clean_any (gs : List Rg) (p : Option Addr) (c n : Nat) (w : World) (hn : n = gs.length) (hp : GRw w p gs) (hl : n ≤ 1000000) :
    Calls Try.prog 21 #[.slice p n c] w fun e w' => e = .returned (.bool (cleanB gs)) ∧ Below w.heap.size w w' := by
  obtain ⟨R, hR⟩ : ∃ R, R = cleanB gs := ⟨_, rfl⟩
  have HI : Hid (∀ w', Below w.heap.size w w' → Calls Try.prog 49 #[.slice p n c, .func (.func 50) #[] #[]] w' fun e w'' => e = .returned (.bool (!R)) ∧ Below w'.heap.size w' w'') := fun w' hb => by
    have HX : Hid (∀ w'', Below w.heap.size w w'' → Calls Try.prog 80 #[.slice p n c, .func (.func 50) #[] #[]] w'' fun e w' => (∃ z : Int, e = .returned (.int .i64 z) ∧ decide (0 ≤ z) = !R) ∧ Below w''.heap.size w'' w') := fun w'' hb => by
      have h := index_any gs p c n w'' hn (hp.below hb) hl
      rw [← hR] at h
      exact h
    clear hn hp hR hl
    go_enter Try.func49, Try.ntmps49
    go_wp2_with (go_at_call 80; ((with_reducible refine (HX.out _ hb).mono ?_); rintro e w1 ⟨⟨z, rfl, hz⟩, hb1⟩))
    go_ret
    exact ⟨by rw [← hz]; rfl, hb1⟩
  rw [← hR]
  clear hn hp hR hl
  go_enter Try.func21, Try.ntmps21
  go_wp2_with (go_at_call 49; ((with_reducible refine (HI.out _ (Below.refl _ _)).mono ?_); rintro e w1 ⟨rfl, hb1⟩))
  go_ret
  exact ⟨by simp, hb1⟩
end Go.Proofs.Ytidghjalfbklnaa
