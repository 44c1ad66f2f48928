/-
  The walk of ParseWho.
-/
import Derived.Test.YtddmnibioacelaaGreatDoorCmNamePk
import Derived.Deep.RegionWith
import Derived.Lib.IndexLaws
import Derived.RegionTactic
namespace Go.Proofs.YtddmnibioacelaaGreatDoor
open Go Go.RowKit

theorem cutLen_le (l sep : List UInt8) : (Lib.cut l sep).1.length + (Lib.cut l sep).2.1.length ≤ l.length := by
  unfold Lib.cut
  split
  · simp only [List.length_take, List.length_drop]
    omega
  · simp
/-- What ParseWho answers, by what has been found. -/
def codeW (T Z A O : Bool) (p : Pn) : Nat × Pn := if T = false ∨ Z = false ∨ A = true then (2, Pn.zero) else if O = false then (1, Pn.zero) else (0, p)
def angle (l : List UInt8) : Bool := l.any fun b => ([60, 62] : List UInt8).contains b
/-- The pieces of a person's text. -/
def whoN (l : List UInt8) : List UInt8 := (Lib.cut l [32, 60]).1
def whoM (l : List UInt8) : List UInt8 := (Lib.cut (Lib.cut l [32, 60]).2.1 [62, 32]).1
def whoT (l : List UInt8) : List UInt8 := (Lib.cut (Lib.cut (Lib.cut l [32, 60]).2.1 [62, 32]).2.1 [32]).1
def whoZ (l : List UInt8) : List UInt8 := (Lib.cut (Lib.cut (Lib.cut l [32, 60]).2.1 [62, 32]).2.1 [32]).2.1
def whoP (l : List UInt8) : Pn := ⟨str (whoN l), str (whoM l), timeI (whoT l), zoneI (whoZ l)⟩
def whoR (l : List UInt8) : Nat × Pn := codeW (timeB (whoT l)) (zoneB (whoZ l)) (angle (whoN l ++ whoM l)) (okPn (whoP l)) (whoP l)
/-- The cells of a person that is laid down. -/
theorem pn_row {w : World} {E : Nat} {c0 c1 c2 c3 v0 v1 v2 v3 : Value} (h : w.heap[E]? = some (.cells #[c0, c1, c2, c3] 24 (0, 0))) :
    ((((w.setCell ⟨E, 0, none⟩ v0).setCell ⟨E, 1, none⟩ v1).setCell ⟨E, 2, none⟩ v2).setCell ⟨E, 3, none⟩ v3).heap[E]? = some (.cells #[v0, v1, v2, v3] 24 (0, 0)) := by
  have h0 : (w.setCell ⟨E, 0, none⟩ v0).heap[E]? = some (.cells #[v0, c1, c2, c3] 24 (0, 0)) := by
    have h := heap_setCell_same w E 0 _ 24 v0 h
    simp only [List.setIfInBounds_toArray, List.set_cons_zero] at h
    exact h
  have h1 : ((w.setCell ⟨E, 0, none⟩ v0).setCell ⟨E, 1, none⟩ v1).heap[E]? = some (.cells #[v0, v1, c2, c3] 24 (0, 0)) := by
    have h := heap_setCell_same (w.setCell ⟨E, 0, none⟩ v0) E 1 _ 24 v1 h0
    simp only [List.setIfInBounds_toArray, List.set_cons_zero, List.set_cons_succ] at h
    exact h
  have h2 : (((w.setCell ⟨E, 0, none⟩ v0).setCell ⟨E, 1, none⟩ v1).setCell ⟨E, 2, none⟩ v2).heap[E]? = some (.cells #[v0, v1, v2, c3] 24 (0, 0)) := by
    have h := heap_setCell_same ((w.setCell ⟨E, 0, none⟩ v0).setCell ⟨E, 1, none⟩ v1) E 2 _ 24 v2 h1
    simp only [List.setIfInBounds_toArray, List.set_cons_zero, List.set_cons_succ] at h
    exact h
  have h := heap_setCell_same (((w.setCell ⟨E, 0, none⟩ v0).setCell ⟨E, 1, none⟩ v1).setCell ⟨E, 2, none⟩ v2) E 3 _ 24 v3 h2
  simp only [List.setIfInBounds_toArray, List.set_cons_zero, List.set_cons_succ] at h
  exact h
theorem pn_end {w : World} {E : Nat} {v0 v1 v2 v3 : Value} (h : w.heap[E]? = some (.cells #[v0, v1, v2, v3] 24 (0, 0))) :
    w.cell? ⟨E, 0, none⟩ = some v0 ∧ w.cell? ⟨E, 1, none⟩ = some v1 ∧ w.cell? ⟨E, 2, none⟩ = some v2 ∧ w.cell? ⟨E, 3, none⟩ = some v3 ∧ w.frozen? ⟨E, 0, none⟩ = false ∧ w.frozen? ⟨E, 1, none⟩ = false ∧ w.frozen? ⟨E, 2, none⟩ = false ∧ w.frozen? ⟨E, 3, none⟩ = false :=
  ⟨cell_of_row _ _ 0 _ _ _ h, cell_of_row _ _ 1 _ _ _ h, cell_of_row _ _ 2 _ _ _ h, cell_of_row _ _ 3 _ _ _ h, frozen_of_row _ _ 0 _ _ h, frozen_of_row _ _ 1 _ _ h, frozen_of_row _ _ 2 _ _ h, frozen_of_row _ _ 3 _ _ h⟩
theorem set4_below {B E : Nat} {w0 w : World} {v0 v1 v2 v3 : Value} (h : Below B w0 w) (hE : B ≤ E) : Below B w0 ((((w.setCell ⟨E, 0, none⟩ v0).setCell ⟨E, 1, none⟩ v1).setCell ⟨E, 2, none⟩ v2).setCell ⟨E, 3, none⟩ v3) :=
  (((h.setCell (p := ⟨E, 0, none⟩) hE _).setCell (p := ⟨E, 1, none⟩) hE _).setCell (p := ⟨E, 2, none⟩) hE _).setCell (p := ⟨E, 3, none⟩) hE _
/-- What ParseWho answers. -/
def WhoR (p : Nat × Pn) (w : World) (e : Ending) (w' : World) : Prop := e = .returned (.tuple #[.agg #[.string p.2.n, .string p.2.m, .int .i64 p.2.t, .int .i64 p.2.z], .int .i64 (p.1 : Int)]) ∧ Below w.heap.size w w'
theorem whoR_bad {p : Nat × Pn} {w w' : World} {c : Nat} (h : p = (c, Pn.zero)) (hb : Below w.heap.size w w') : WhoR p w (.returned (.tuple #[.agg #[.string ⟨#[]⟩, .string ⟨#[]⟩, .int .i64 0, .int .i64 0], .int .i64 (c : Int)])) w' := by
  subst h
  exact ⟨rfl, hb⟩

set_option maxHeartbeats 4000000 in
set_option maxRecDepth 4000 in
theorem who_any (s : ByteArray) (w : World) (h : StrTab w) (hs : s.size ≤ 1048576) :
    Calls Tryz.prog 23 #[.string s] w (WhoR (whoR s.data.toList) w) := by
  obtain ⟨R, hR⟩ : ∃ R, R = whoR s.data.toList := ⟨_, rfl⟩
  rw [← hR]
  have hl := list_len s
  have l1 := cutLen_le s.data.toList [32, 60]
  obtain ⟨n, hn⟩ : ∃ n, n = str (Lib.cut s.data.toList [32, 60]).1 := ⟨_, rfl⟩
  obtain ⟨r1, hr1⟩ : ∃ r1, r1 = str (Lib.cut s.data.toList [32, 60]).2.1 := ⟨_, rfl⟩
  obtain ⟨x1, hx1⟩ : ∃ x1, x1 = (Lib.cut s.data.toList [32, 60]).2.2 := ⟨_, rfl⟩
  have hr1' : r1.data.toList = (Lib.cut s.data.toList [32, 60]).2.1 := by rw [hr1]; rfl
  have hn' : n.data.toList = (Lib.cut s.data.toList [32, 60]).1 := by rw [hn]; rfl
  have l2 := cutLen_le r1.data.toList [62, 32]
  obtain ⟨m, hm⟩ : ∃ m, m = str (Lib.cut r1.data.toList [62, 32]).1 := ⟨_, rfl⟩
  obtain ⟨r2, hr2⟩ : ∃ r2, r2 = str (Lib.cut r1.data.toList [62, 32]).2.1 := ⟨_, rfl⟩
  obtain ⟨x2, hx2⟩ : ∃ x2, x2 = (Lib.cut r1.data.toList [62, 32]).2.2 := ⟨_, rfl⟩
  have hr2' : r2.data.toList = (Lib.cut r1.data.toList [62, 32]).2.1 := by rw [hr2]; rfl
  have hm' : m.data.toList = (Lib.cut r1.data.toList [62, 32]).1 := by rw [hm]; rfl
  have l3 := cutLen_le r2.data.toList [32]
  obtain ⟨d, hd⟩ : ∃ d, d = str (Lib.cut r2.data.toList [32]).1 := ⟨_, rfl⟩
  obtain ⟨g, hg⟩ : ∃ g, g = str (Lib.cut r2.data.toList [32]).2.1 := ⟨_, rfl⟩
  obtain ⟨x3, hx3⟩ : ∃ x3, x3 = (Lib.cut r2.data.toList [32]).2.2 := ⟨_, rfl⟩
  have hd' : d.data.toList = (Lib.cut r2.data.toList [32]).1 := by rw [hd]; rfl
  have hg' : g.data.toList = (Lib.cut r2.data.toList [32]).2.1 := by rw [hg]; rfl
  have hns : n.size + m.size ≤ 1048576 ∧ r1.size ≤ 1048576 ∧ r2.size ≤ 1048576 ∧ d.size ≤ 1048576 ∧ g.size ≤ 1048576 := by
    rw [← hr1', ← hn'] at l1
    rw [← hr2', ← hm'] at l2
    rw [← hd', ← hg'] at l3
    simp only [list_len] at l1 l2 l3
    omega
  obtain ⟨I, hI⟩ : ∃ I, I = timeI d.data.toList := ⟨_, rfl⟩
  obtain ⟨T, hT⟩ : ∃ T, T = timeB d.data.toList := ⟨_, rfl⟩
  obtain ⟨K, hK⟩ : ∃ K, K = zoneI g.data.toList := ⟨_, rfl⟩
  obtain ⟨Z, hZ⟩ : ∃ Z, Z = zoneB g.data.toList := ⟨_, rfl⟩
  obtain ⟨A, hA⟩ : ∃ A, A = angle (n ++ m).data.toList := ⟨_, rfl⟩
  obtain ⟨O, hO⟩ : ∃ O, O = okPn ⟨n, m, I, K⟩ := ⟨_, rfl⟩
  have HR : Hid (R = codeW T Z A O ⟨n, m, I, K⟩) := by
    show _ = _
    have e1 : whoN s.data.toList = n.data.toList := hn'.symm
    have e2 : whoM s.data.toList = m.data.toList := by rw [whoM, ← hr1', hm']
    have e3 : whoT s.data.toList = d.data.toList := by rw [whoT, ← hr1', ← hr2', hd']
    have e4 : whoZ s.data.toList = g.data.toList := by rw [whoZ, ← hr1', ← hr2', hg']
    have e5 : whoP s.data.toList = ⟨n, m, I, K⟩ := by rw [whoP, e1, e2, e3, e4, hI, hK]; rfl
    rw [hR, whoR, e1, e2, e3, e4, e5, hT, hZ, hA, hO]
    congr 2
  obtain ⟨ml, hml⟩ := h.m
  have hx := heap_alloc_new w (.cells #[.string ⟨#[]⟩, .string ⟨#[]⟩, .int .i64 0, .int .i64 0] 24)
  have hbx : Below w.heap.size w (w.alloc (.cells #[.string ⟨#[]⟩, .string ⟨#[]⟩, .int .i64 0, .int .i64 0] 24)) := (Below.refl _ _).alloc (Nat.le_refl _) _
  obtain ⟨w1, hw1⟩ : ∃ w1, w1 = w.alloc (.cells #[.string ⟨#[]⟩, .string ⟨#[]⟩, .int .i64 0, .int .i64 0] 24) := ⟨_, rfl⟩
  have HW1 := Lib.hid hw1
  rw [← hw1] at hx hbx
  have HX := Lib.hid hx
  have HBX := Lib.hid hbx
  have hlt1 : w.heap.size < w1.heap.size := by rw [hw1, World.size_alloc]; omega
  have h1 := h.below hbx
  have hml1 := cell_bel hml hbx
  obtain ⟨q1, q2, q3, q4, q5⟩ := hns
  have HC1 : Hid (∀ w', Below w1.heap.size w1 w' → Calls Tryz.prog 54 #[.string s, .string ⟨#[32, 60]⟩] w' fun e w'' => e = .returned (.tuple #[.string n, .string r1, .bool x1]) ∧ Below w1.heap.size w1 w'') := fun w' hb =>
    (Tryz.strings_Cut s ⟨#[32, 60]⟩ ml w' (by omega) (cell_bel hml1 hb)).mono fun e w'' ⟨he, n, hw⟩ => ⟨by rw [he, hn, hr1, hx1]; rfl, by rw [hw]; exact below_drewN hb n⟩
  have HC2 : Hid (∀ w', Below w1.heap.size w1 w' → Calls Tryz.prog 54 #[.string r1, .string ⟨#[62, 32]⟩] w' fun e w'' => e = .returned (.tuple #[.string m, .string r2, .bool x2]) ∧ Below w1.heap.size w1 w'') := fun w' hb =>
    (Tryz.strings_Cut r1 ⟨#[62, 32]⟩ ml w' (by omega) (cell_bel hml1 hb)).mono fun e w'' ⟨he, n, hw⟩ => ⟨by rw [he, hm, hr2, hx2]; rfl, by rw [hw]; exact below_drewN hb n⟩
  have HC3 : Hid (∀ w', Below w1.heap.size w1 w' → Calls Tryz.prog 54 #[.string r2, .string ⟨#[32]⟩] w' fun e w'' => e = .returned (.tuple #[.string d, .string g, .bool x3]) ∧ Below w1.heap.size w1 w'') := fun w' hb =>
    (Tryz.strings_Cut r2 ⟨#[32]⟩ ml w' (by omega) (cell_bel hml1 hb)).mono fun e w'' ⟨he, n, hw⟩ => ⟨by rw [he, hd, hg, hx3]; rfl, by rw [hw]; exact below_drewN hb n⟩
  have HT : Hid (∀ w', Below w1.heap.size w1 w' → Calls Tryz.prog 55 #[.string d] w' fun e w'' => e = .returned (.tuple #[.int .i64 I, .bool T]) ∧ Below w1.heap.size w1 w'') := fun w' hb =>
    (time_any d w' (h1.below hb) (by omega)).mono fun e w'' ⟨he, hw⟩ => ⟨by rw [he, hI, hT], hb.trans (hw.mono hb.size)⟩
  have HZ : Hid (∀ w', Below w1.heap.size w1 w' → Calls Tryz.prog 56 #[.string g] w' fun e w'' => e = .returned (.tuple #[.int .i64 K, .bool Z]) ∧ Below w1.heap.size w1 w'') := fun w' hb =>
    (zone_any g w' (h1.below hb) (by omega)).mono fun e w'' ⟨he, hw⟩ => ⟨by rw [he, hK, hZ], hb.trans (hw.mono hb.size)⟩
  have HA : Hid (∀ w', Below w1.heap.size w1 w' → Calls Tryz.prog 57 #[.string (n ++ m), .string ⟨#[60, 62]⟩] w' fun e w'' => e = .returned (.bool A) ∧ Below w1.heap.size w1 w'') := fun w' hb =>
    (cany (n ++ m) A w' (by simp; omega) hA).mono fun e w'' ⟨he, hw⟩ => ⟨he, hb.trans (hw.mono hb.size)⟩
  have HO : Hid (∀ w', Below w1.heap.size w1 w' → Calls Tryz.prog 37 #[.agg #[.string n, .string m, .int .i64 I, .int .i64 K]] w' fun e w'' => e = .returned (.bool O) ∧ Below w'.heap.size w' w'') := fun w' hb =>
    (person_any ⟨n, m, I, K⟩ w' (by simp only; omega) (by simp only; omega)).mono fun e w'' ⟨he, hw⟩ => ⟨by rw [he, hO], hw⟩
  have hb0 : Below w1.heap.size w1 w1 := Below.refl _ _
  have HLT := Lib.hid hlt1
  clear hR hl l1 hn hr1 hx1 hr1' hn' l2 hm hr2 hx2 hr2' hm' l3 hd hg hx3 hd' hg' hI hT hK hZ hA hO hml hx hbx hw1 h1 hml1 h q2 q3 q4 q5 hlt1 hs
  rcases T with _ | _
  · have HQ : Hid (R = (2, Pn.zero)) := by show _ = _; rw [HR.out, codeW, if_pos (.inl rfl)]
    clear HR
    go_enter Tryz.func23, Tryz.ntmps23
    go_upto_region 1 with fail
    rw [← HW1.out]
    go_upto_region 7 with (first
      | (go_at_call 54; first
        | ((with_reducible refine (HC1.out _ hb0).mono ?_); rintro e wa ⟨rfl, hba⟩)
        | ((with_reducible refine (HC2.out _ hba).mono ?_); rintro e wb ⟨rfl, hbb⟩)
        | ((with_reducible refine (HC3.out _ hbb).mono ?_); rintro e wc ⟨rfl, hbc⟩))
      | (go_at_call 55; ((with_reducible refine (HT.out _ hbc).mono ?_); rintro e wd ⟨rfl, hbd⟩))
      | (go_at_call 56; ((with_reducible refine (HZ.out _ hbd).mono ?_); rintro e we ⟨rfl, hbe⟩))
      | (go_at_call 57; ((with_reducible refine (HA.out _ hbe).mono ?_); rintro e wf ⟨rfl, hbf⟩)))
    have hrow := (hbe.block w.heap.size HLT.out).trans HX.out
    have HRW := Lib.hid hrow
    have HB5 := Lib.hid (HBX.out.trans (hbe.mono HBX.out.size))
    obtain ⟨y0, y1, y2, y3, z0, z1, z2, z3⟩ := pn_end hrow
    go_wp2
    obtain ⟨d0, d1, d2, d3, _⟩ := pn_end (pn_row (v0 := .string ⟨#[]⟩) (v1 := .string ⟨#[]⟩) (v2 := .int .i64 0) (v3 := .int .i64 0) HRW.out)
    refine bodyPost_ret (v := .tuple #[.agg #[.string ⟨#[]⟩, .string ⟨#[]⟩, .int .i64 0, .int .i64 0], .int .i64 2]) (by simp [results, Tryz.results23, go_sem, d0, d1, d2, d3]) rfl (whoR_bad HQ.out (set4_below HB5.out (Nat.le_refl _)))
  rcases Z with _ | _
  · have HQ : Hid (R = (2, Pn.zero)) := by show _ = _; rw [HR.out, codeW, if_pos (.inr (.inl rfl))]
    clear HR
    go_enter Tryz.func23, Tryz.ntmps23
    go_upto_region 1 with fail
    rw [← HW1.out]
    go_upto_region 7 with (first
      | (go_at_call 54; first
        | ((with_reducible refine (HC1.out _ hb0).mono ?_); rintro e wa ⟨rfl, hba⟩)
        | ((with_reducible refine (HC2.out _ hba).mono ?_); rintro e wb ⟨rfl, hbb⟩)
        | ((with_reducible refine (HC3.out _ hbb).mono ?_); rintro e wc ⟨rfl, hbc⟩))
      | (go_at_call 55; ((with_reducible refine (HT.out _ hbc).mono ?_); rintro e wd ⟨rfl, hbd⟩))
      | (go_at_call 56; ((with_reducible refine (HZ.out _ hbd).mono ?_); rintro e we ⟨rfl, hbe⟩))
      | (go_at_call 57; ((with_reducible refine (HA.out _ hbe).mono ?_); rintro e wf ⟨rfl, hbf⟩)))
    have hrow := (hbe.block w.heap.size HLT.out).trans HX.out
    have HRW := Lib.hid hrow
    have HB5 := Lib.hid (HBX.out.trans (hbe.mono HBX.out.size))
    obtain ⟨y0, y1, y2, y3, z0, z1, z2, z3⟩ := pn_end hrow
    go_wp2
    obtain ⟨d0, d1, d2, d3, _⟩ := pn_end (pn_row (v0 := .string ⟨#[]⟩) (v1 := .string ⟨#[]⟩) (v2 := .int .i64 0) (v3 := .int .i64 0) HRW.out)
    refine bodyPost_ret (v := .tuple #[.agg #[.string ⟨#[]⟩, .string ⟨#[]⟩, .int .i64 0, .int .i64 0], .int .i64 2]) (by simp [results, Tryz.results23, go_sem, d0, d1, d2, d3]) rfl (whoR_bad HQ.out (set4_below HB5.out (Nat.le_refl _)))
  rcases A with _ | _
  case true =>
    have HQ : Hid (R = (2, Pn.zero)) := by show _ = _; rw [HR.out, codeW, if_pos (.inr (.inr rfl))]
    clear HR
    go_enter Tryz.func23, Tryz.ntmps23
    go_upto_region 1 with fail
    rw [← HW1.out]
    go_upto_region 7 with (first
      | (go_at_call 54; first
        | ((with_reducible refine (HC1.out _ hb0).mono ?_); rintro e wa ⟨rfl, hba⟩)
        | ((with_reducible refine (HC2.out _ hba).mono ?_); rintro e wb ⟨rfl, hbb⟩)
        | ((with_reducible refine (HC3.out _ hbb).mono ?_); rintro e wc ⟨rfl, hbc⟩))
      | (go_at_call 55; ((with_reducible refine (HT.out _ hbc).mono ?_); rintro e wd ⟨rfl, hbd⟩))
      | (go_at_call 56; ((with_reducible refine (HZ.out _ hbd).mono ?_); rintro e we ⟨rfl, hbe⟩))
      | (go_at_call 57; ((with_reducible refine (HA.out _ hbe).mono ?_); rintro e wf ⟨rfl, hbf⟩)))
    have hrow := (hbf.block w.heap.size HLT.out).trans HX.out
    have HRW := Lib.hid hrow
    have HB5 := Lib.hid (HBX.out.trans (hbf.mono HBX.out.size))
    obtain ⟨y0, y1, y2, y3, z0, z1, z2, z3⟩ := pn_end hrow
    go_wp2
    obtain ⟨d0, d1, d2, d3, _⟩ := pn_end (pn_row (v0 := .string ⟨#[]⟩) (v1 := .string ⟨#[]⟩) (v2 := .int .i64 0) (v3 := .int .i64 0) HRW.out)
    refine bodyPost_ret (v := .tuple #[.agg #[.string ⟨#[]⟩, .string ⟨#[]⟩, .int .i64 0, .int .i64 0], .int .i64 2]) (by simp [results, Tryz.results23, go_sem, d0, d1, d2, d3]) rfl (whoR_bad HQ.out (set4_below HB5.out (Nat.le_refl _)))
  go_enter Tryz.func23, Tryz.ntmps23
  go_upto_region 1 with fail
  rw [← HW1.out]
  go_upto_region 9 with (first
      | (go_at_call 54; first
        | ((with_reducible refine (HC1.out _ hb0).mono ?_); rintro e wa ⟨rfl, hba⟩)
        | ((with_reducible refine (HC2.out _ hba).mono ?_); rintro e wb ⟨rfl, hbb⟩)
        | ((with_reducible refine (HC3.out _ hbb).mono ?_); rintro e wc ⟨rfl, hbc⟩))
      | (go_at_call 55; ((with_reducible refine (HT.out _ hbc).mono ?_); rintro e wd ⟨rfl, hbd⟩))
      | (go_at_call 56; ((with_reducible refine (HZ.out _ hbd).mono ?_); rintro e we ⟨rfl, hbe⟩))
      | (go_at_call 57; ((with_reducible refine (HA.out _ hbe).mono ?_); rintro e wf ⟨rfl, hbf⟩)))
  obtain ⟨P, hP⟩ : ∃ P, P = wf.heap.size := ⟨_, rfl⟩
  obtain ⟨w8, hw8⟩ : ∃ w8, w8 = wf.alloc (.cells #[.string n, .string m, .int .i64 I, .int .i64 K] 24) := ⟨_, rfl⟩
  rw [← hw8, ← hP]
  have hb8 : Below w1.heap.size w1 w8 := by rw [hw8]; exact hbf.alloc hbf.size _
  have hP1 : w8.heap[P]? = some (.cells #[.string n, .string m, .int .i64 I, .int .i64 K] 24 (0, 0)) := by rw [hw8, hP]; exact heap_alloc_new _ _
  have hP0 : w8.heap[w.heap.size]? = some (.cells #[.string ⟨#[]⟩, .string ⟨#[]⟩, .int .i64 0, .int .i64 0] 24 (0, 0)) := (hb8.block w.heap.size HLT.out).trans HX.out
  have hne : w.heap.size ≠ P := by have := HLT.out; have := hbf.size; omega
  have hPl : P < w8.heap.size := by rw [hP, hw8, World.size_alloc]; omega
  have hWl : w.heap.size < w8.heap.size := by have := HLT.out; have := hb8.size; omega
  have H8 := Lib.hid hb8
  have HP0 := Lib.hid hP0
  have HP1 := Lib.hid hP1
  have HPL := Lib.hid hPl
  have HWL := Lib.hid hWl
  have HNE := Lib.hid hne
  obtain ⟨u0, u1, u2, u3, -, -, -, -⟩ := pn_end hP1
  have HO8 := Lib.hid (HO.out _ hb8)
  clear hba hbb hbc hbd hbe hbf hP hw8 hP0 hP1 hne hPl hWl hb8
  rcases O with _ | _
  · have HQ : Hid (R = (1, Pn.zero)) := by show _ = _; rw [HR.out, codeW, if_neg (by simp), if_pos rfl]
    clear HR
    go_upto_region 10 with (go_at_call 37; ((with_reducible refine (HO8.out).mono ?_); rintro e w9 ⟨rfl, hb9⟩))
    have hrow := (hb9.block w.heap.size HWL.out).trans HP0.out
    have HRW := Lib.hid hrow
    have HB5 := Lib.hid (HBX.out.trans ((H8.out.trans (hb9.mono H8.out.size)).mono HBX.out.size))
    obtain ⟨y0, y1, y2, y3, z0, z1, z2, z3⟩ := pn_end hrow
    go_wp2
    obtain ⟨d0, d1, d2, d3, _⟩ := pn_end (pn_row (v0 := .string ⟨#[]⟩) (v1 := .string ⟨#[]⟩) (v2 := .int .i64 0) (v3 := .int .i64 0) HRW.out)
    refine bodyPost_ret (v := .tuple #[.agg #[.string ⟨#[]⟩, .string ⟨#[]⟩, .int .i64 0, .int .i64 0], .int .i64 1]) (by simp [results, Tryz.results23, go_sem, d0, d1, d2, d3]) rfl (whoR_bad HQ.out (set4_below HB5.out (Nat.le_refl _)))
  · have HQ : Hid (R = (0, ⟨n, m, I, K⟩)) := by show _ = _; rw [HR.out, codeW, if_neg (by simp), if_neg (by simp)]
    clear HR
    go_upto_region 11 with (go_at_call 37; ((with_reducible refine (HO8.out).mono ?_); rintro e w9 ⟨rfl, hb9⟩))
    have hrow := (hb9.block w.heap.size HWL.out).trans HP0.out
    have hrow1 := (hb9.block P HPL.out).trans HP1.out
    have HRW := Lib.hid hrow
    have HB5 := Lib.hid (HBX.out.trans ((H8.out.trans (hb9.mono H8.out.size)).mono HBX.out.size))
    obtain ⟨y0, y1, y2, y3, z0, z1, z2, z3⟩ := pn_end hrow
    obtain ⟨v0, v1, v2, v3, -, -, -, -⟩ := pn_end hrow1
    go_wp2
    obtain ⟨d0, d1, d2, d3, _⟩ := pn_end (pn_row (v0 := .string n) (v1 := .string m) (v2 := .int .i64 I) (v3 := .int .i64 K) HRW.out)
    refine bodyPost_ret (v := .tuple #[.agg #[.string n, .string m, .int .i64 I, .int .i64 K], .int .i64 0]) (by simp [results, Tryz.results23, go_sem, d0, d1, d2, d3]) rfl ?_
    rw [HQ.out]
    exact ⟨rfl, set4_below HB5.out (Nat.le_refl _)⟩
end Go.Proofs.YtddmnibioacelaaGreatDoor
