/-
  What the laws call, told over all worlds that have grown since the law's own.
-/
import Derived.Test.YtabadihainbbhabDfShort
import Derived.Test.YtabadihainbbhabDfLives
import Derived.Test.YtabadihainbbhabDfRLst
import Derived.Test.YtabadihainbbhabDfRApp
import Derived.Test.YtabadihainbbhabDfFrom
import Derived.Test.YtabadihainbbhabDfEq
import Derived.Test.YtabadihainbbhabDfNonePlain
namespace Go.Proofs.Ytabadihainbbhab
open Go.RowKit

/-- A slice of strings that was handed in. -/
structure SA (W : World) (ls : List (List UInt8)) (p : Option Addr) (n c : Nat) : Prop where
  len : n = ls.length
  cap : n ≤ c
  row : SRw W p ls
  few : n ≤ 8796093022208
  short : ∀ x ∈ ls, x.length ≤ 140737488355328
/-- A slice of edits, of runs, that was handed in. -/
structure EA (W : World) (es : List Ed) (p : Option Addr) (n : Nat) : Prop where
  len : n = es.length
  row : ERw W p es
  few : n ≤ 140737488355328
structure RA (W : World) (es : List Rn) (p : Option Addr) (n : Nat) : Prop where
  len : n = es.length
  row : RRw W p es
  few : n ≤ 140737488355328
/-- Grown since. -/
def Inv (W w : World) : Prop := Below W.heap.size W w
theorem Inv.start (W : World) : Inv W W := Below.refl _ _
theorem Inv.next {W w w' : World} (h : Inv W w) (hb : Below w.heap.size w w') : Inv W w' := Below.trans h (hb.mono h.size)
theorem Inv.drew {W w : World} (h : Inv W w) (k : Nat) : Inv W (w.drewN k) := below_drewN h k
/-- Answers. -/
def EdRes (W w : World) (R : List Ed) (e : Ending) (w' : World) : Prop := (∃ g L cap, e = .returned (.slice g L cap) ∧ L = R.length ∧ ERw w' g R) ∧ Below w.heap.size w w' ∧ Inv W w'
def RnRes (W w : World) (R : List Rn) (e : Ending) (w' : World) : Prop := (∃ g L cap, e = .returned (.slice g L cap) ∧ L = R.length ∧ RRw w' g R) ∧ Below w.heap.size w w' ∧ Inv W w'
def BoRes (W w : World) (B : Bool) (e : Ending) (w' : World) : Prop := e = .returned (.bool B) ∧ Below w.heap.size w w' ∧ Inv W w'
def InRes (W w : World) (C : Int) (e : Ending) (w' : World) : Prop := e = .returned (.int .i64 C) ∧ Below w.heap.size w w' ∧ Inv W w'
section
variable {W : World} {la lb : List (List UInt8)} {es : List Ed} {rs : List Rn} {p q r : Option Addr} {n m l c d ce : Nat}
theorem edRes_of {w w' : World} {R : List Ed} {e : Ending} (hi : Inv W w) (h : (∃ v, e = .returned v ∧ EOw w' w.heap.size v R) ∧ Below w.heap.size w w') : EdRes W w R e w' := by
  obtain ⟨⟨v, rfl, ho⟩, hb⟩ := h
  obtain ⟨g, cap, rfl, hr⟩ := ho.rw
  exact ⟨⟨g, _, cap, rfl, rfl, hr⟩, hb, hi.next hb⟩
theorem rnRes_of {w w' : World} {R : List Rn} {e : Ending} (hi : Inv W w) (h : (∃ v, e = .returned v ∧ ROw w' w.heap.size v R) ∧ Below w.heap.size w w') : RnRes W w R e w' := by
  obtain ⟨⟨v, rfl, ho⟩, hb⟩ := h
  obtain ⟨g, cap, rfl, hr⟩ := ho.rw
  exact ⟨⟨g, _, cap, rfl, rfl, hr⟩, hb, hi.next hb⟩
theorem short_inv (A : SA W la p n c) {B : Bool} (hB : B = shortB la) (w : World) (hi : Inv W w) : Calls Try.prog 9 #[.slice p n c] w fun e w' => e = .returned (.bool B) ∧ w = w' :=
  short_any la p c n B w A.len (A.row.below hi) A.few (fun x hx => Nat.le_trans (A.short x hx) (by omega)) hB
theorem lives_inv (w : World) (hi : Inv W w) : Calls Try.prog 10 #[] w (BoRes W w true) :=
  (lives_any w).mono fun _ _ h => ⟨h.1, h.2, hi.next h.2⟩
theorem least_inv (A : SA W la p n c) (B : SA W lb q m d) (hl : n ≤ 5000) (hl2 : m ≤ 5000) (w : World) (hi : Inv W w) : Calls Try.prog 12 #[.slice p n c, .slice q m d] w (EdRes W w (leastL la lb)) :=
  (least_any la lb p q c d n m w A.len B.len (A.row.below hi) (B.row.below hi) A.cap B.cap hl hl2 A.short B.short).mono fun _ _ h => edRes_of hi h
theorem rleast_inv (A : SA W la p n c) (B : SA W lb q m d) (hl : n ≤ 5000) (hl2 : m ≤ 5000) (w : World) (hi : Inv W w) : Calls Try.prog 13 #[.slice p n c, .slice q m d] w (EdRes W w (leastL la lb)) :=
  (rleast_any la lb p q c d n m w A.len B.len (A.row.below hi) (B.row.below hi) A.cap B.cap hl hl2).mono fun _ _ h => edRes_of hi h
theorem edits_inv {R : List Ed} {g g' : Option Addr} {L L' : Nat} {c c' : Nat} (w : World) (hi : Inv W w) (h1 : L = R.length) (h2 : L' = R.length) (h3 : ERw w g R) (h4 : ERw w g' R) (h5 : L ≤ 140737488355328) : Calls Try.prog 11 #[.slice g L c, .slice g' L' c'] w (BoRes W w true) :=
  (edits_any R R g g' c c' L L' true w h1 h2 h3 h4 h5 (by omega) (decide_eq_true rfl).symm).mono fun _ _ ⟨he, k, hk⟩ => by
    subst hk
    exact ⟨he, below_drewN (Below.refl _ _) k, hi.drew k⟩
theorem runs_inv {R : List Rn} {g g' : Option Addr} {L L' : Nat} {c c' : Nat} (w : World) (hi : Inv W w) (h1 : L = R.length) (h2 : L' = R.length) (h3 : RRw w g R) (h4 : RRw w g' R) (h5 : L ≤ 140737488355328) : Calls Try.prog 23 #[.slice g L c, .slice g' L' c'] w (BoRes W w true) :=
  (runs_any R R g g' c c' L L' true w h1 h2 h3 h4 h5 (by omega) (decide_eq_true rfl).symm).mono fun _ _ ⟨he, k, hk⟩ => by
    subst hk
    exact ⟨he, below_drewN (Below.refl _ _) k, hi.drew k⟩
theorem same_inv {R : List (List UInt8)} {g g' : Option Addr} {L L' : Nat} {c c' : Nat} (w : World) (hi : Inv W w) (h1 : L = R.length) (h2 : L' = R.length) (h3 : SRw w g R) (h4 : SRw w g' R) (h5 : L ≤ 140737488355328) : Calls Try.prog 20 #[.slice g L c, .slice g' L' c'] w (BoRes W w true) :=
  (rsame_any R R g g' c c' L L' true w h1 h2 h3 h4 h5 (by omega) (decide_eq_true rfl).symm).mono fun _ _ ⟨he, k, hk⟩ => by
    subst hk
    exact ⟨he, below_drewN (Below.refl _ _) k, hi.drew k⟩
theorem valid_inv (A : SA W la p n c) (B : SA W lb q m d) (hl : n ≤ 5000) (hl2 : m ≤ 5000) {V : Bool} {es : List Ed} (hV : V = valL la lb es true 0 0) (w : World) (hi : Inv W w) (h1 : l = es.length) (h2 : ERw w r es) (h3 : l ≤ 1048576) : Calls Try.prog 16 #[.slice p n c, .slice q m d, .slice r l ce] w (BoRes W w V) :=
  (valid_any la lb es p q r c d ce n m l V w A.len B.len h1 (A.row.below hi) (B.row.below hi) h2 A.cap B.cap hl hl2 (by omega) hV).mono fun _ _ h => ⟨h.1, h.2, hi.next h.2⟩
theorem right_inv (A : SA W la p n c) (B : SA W lb q m d) (hl : n ≤ 5000) (hl2 : m ≤ 5000) {V : Bool} {es : List Ed} (hV : V = valL la lb es true 0 0) (w : World) (hi : Inv W w) (h1 : l = es.length) (h2 : ERw w r es) (h3 : l ≤ 1048576) : Calls Try.prog 17 #[.slice p n c, .slice q m d, .slice r l ce] w (BoRes W w V) :=
  (rright_any la lb es p q r c d ce n m l V w A.len B.len h1 (A.row.below hi) (B.row.below hi) h2 A.cap B.cap hl hl2 (by omega) hV).mono fun _ _ h => ⟨h.1, h.2, hi.next h.2⟩
theorem cost_inv {es : List Ed} {C : Int} (hC : C = wrap64 (csum es)) (w : World) (hi : Inv W w) (h1 : l = es.length) (h2 : ERw w r es) (h3 : l ≤ 1048576) : Calls Try.prog 18 #[.slice r l ce] w (InRes W w C) :=
  (cost_any es r ce l C w h1 h2 (by omega) hC).mono fun _ _ h => ⟨h.1, h.2, hi.next h.2⟩
theorem rcost_inv {es : List Ed} {C : Int} (hC : C = wrap64 (csum es)) (w : World) (hi : Inv W w) (h1 : l = es.length) (h2 : ERw w r es) (h3 : l ≤ 1048576) : Calls Try.prog 19 #[.slice r l ce] w (InRes W w C) :=
  (rcost_any es r ce l C w h1 h2 (by omega) hC).mono fun _ _ h => ⟨h.1, h.2, hi.next h.2⟩
theorem invert_inv {es : List Ed} (w : World) (hi : Inv W w) (h1 : l = es.length) (h2 : ERw w r es) (h3 : l ≤ 1000000) : Calls Try.prog 21 #[.slice r l ce] w (EdRes W w (es.map Ed.inv)) :=
  (invert_any es r ce l w h1 h2 (by omega)).mono fun _ _ h => edRes_of hi h
theorem back_inv {es : List Ed} (w : World) (hi : Inv W w) (h1 : l = es.length) (h2 : ERw w r es) (h3 : l ≤ 1000000) : Calls Try.prog 22 #[.slice r l ce] w (EdRes W w (es.map Ed.inv)) :=
  (back_any es r ce l w h1 h2 (by omega)).mono fun _ _ h => edRes_of hi h
theorem unchanged_inv {es : List Ed} {x : Int} (w : World) (hi : Inv W w) (h1 : l = es.length) (h2 : ERw w r es) (h3 : l ≤ 1000000) : Calls Try.prog 24 #[.slice r l ce, .int .i64 x] w (RnRes W w (stL wrap64 x es 0 0 [])) :=
  (unchanged_any es r ce l x w h1 h2 h3).mono fun _ _ h => rnRes_of hi h
theorem stay_inv {es : List Ed} {x : Int} (w : World) (hi : Inv W w) (h1 : l = es.length) (h2 : ERw w r es) (h3 : l ≤ 1000000) : Calls Try.prog 25 #[.slice r l ce, .int .i64 x] w (RnRes W w (stL wrap64 x es 0 0 [])) :=
  (stay_any es r ce l x w h1 h2 h3).mono fun _ _ h => rnRes_of hi h
theorem from_inv {rs : List Rn} {R : List Ed} {x y : Int} (hx : x ≤ 9223372036854775807) (hy : y ≤ 9223372036854775807) (hR : R = fromL x y rs) (w : World) (hi : Inv W w) (h1 : l = rs.length) (h2 : RRw w r rs) (h3 : l ≤ 1000000) : Calls Try.prog 26 #[.int .i64 x, .int .i64 y, .slice r l ce] w (EdRes W w R) :=
  (from_any rs r ce l x y R w h1 h2 h3 hx hy hR).mono fun _ _ h => edRes_of hi h
theorem of_inv {rs : List Rn} {R : List Ed} {x y : Int} (hx : x ≤ 9223372036854775807) (hy : y ≤ 9223372036854775807) (hR : R = fromL x y rs) (w : World) (hi : Inv W w) (h1 : l = rs.length) (h2 : RRw w r rs) (h3 : l ≤ 1000000) : Calls Try.prog 27 #[.int .i64 x, .int .i64 y, .slice r l ce] w (EdRes W w R) :=
  (of_any rs r ce l x y R w h1 h2 h3 hx hy hR).mono fun _ _ h => edRes_of hi h
/-- What Apply answers, as a pair. -/
def apX (R : Option (List (List UInt8))) : List (List UInt8) := match R with
  | none => []
  | some y => y
def apK (R : Option (List (List UInt8))) : Int := match R with
  | none => 80
  | some _ => 0
def AxRes (W w : World) (R : Option (List (List UInt8))) (e : Ending) (w' : World) : Prop := (∃ g L cap, e = .returned (.tuple #[.slice g L cap, .int .i64 (apK R)]) ∧ L = (apX R).length ∧ SRw w' g (apX R)) ∧ Below w.heap.size w w' ∧ Inv W w'
theorem axRes_of {w w' : World} {R : Option (List (List UInt8))} {e : Ending} (hi : Inv W w) (h : AppPost R w e w') : AxRes W w R e w' := by
  obtain ⟨hb, h⟩ := h
  refine ⟨?_, hb, hi.next hb⟩
  cases R with
  | none =>
    subst h
    exact ⟨none, 0, 0, rfl, rfl, SRw.none _ _⟩
  | some x =>
    obtain ⟨v, rfl, ho⟩ := h
    obtain ⟨g, cap, rfl, hr⟩ := ho.shapeN rfl
    exact ⟨g, _, cap, rfl, rfl, hr⟩
theorem apply_inv (A : SA W la p n c) (B : SA W lb q m d) (hl : n ≤ 5000) (hl2 : m ≤ 5000) {es : List Ed} {R : Option (List (List UInt8))} (hR : R = appL la lb es 0 0 []) (w : World) (hi : Inv W w) (h1 : l = es.length) (h2 : ERw w r es) (h3 : l ≤ 1048576) : Calls Try.prog 14 #[.slice p n c, .slice r l ce, .slice q m d] w (AxRes W w R) :=
  (apply_any la lb es p q r c d ce n m l R w A.len B.len h1 (A.row.below hi) (B.row.below hi) h2 A.cap B.cap hl hl2 h3 hR).mono fun _ _ h => axRes_of hi h
theorem rapply_inv (A : SA W la p n c) (B : SA W lb q m d) (hl : n ≤ 5000) (hl2 : m ≤ 5000) {es : List Ed} {R : Option (List (List UInt8))} (hR : R = appL la lb es 0 0 []) (w : World) (hi : Inv W w) (h1 : l = es.length) (h2 : ERw w r es) (h3 : l ≤ 1048576) : Calls Try.prog 15 #[.slice p n c, .slice r l ce, .slice q m d] w (AxRes W w R) :=
  (rapply_any la lb es p q r c d ce n m l R w A.len B.len h1 (A.row.below hi) (B.row.below hi) h2 A.cap B.cap hl hl2 h3 hR).mono fun _ _ h => axRes_of hi h
end

theorem lst_len {α : Type} [DecidableEq α] : ∀ (a b : List α) (i j : Int) (acc : List Ed), (lst a b i j acc).length ≤ acc.length + a.length + b.length
  | [], [], i, j, acc => by rw [lst_none]; simp
  | x :: a, [], i, j, acc => by
    rw [lst_left _ (by simp)]
    have := ext_len acc ⟨i, ((x :: a).length : Int), j, 0⟩
    simp only [List.length_cons, List.length_nil] at this ⊢
    omega
  | [], y :: b, i, j, acc => by
    rw [lst_right _ (by simp)]
    have := ext_len acc ⟨i, 0, j, ((y :: b).length : Int)⟩
    simp only [List.length_cons, List.length_nil] at this ⊢
    omega
  | x :: a, y :: b, i, j, acc => by
    by_cases e : x = y
    · subst e
      have := lst_len a b (i + 1) (j + 1) acc
      rw [lst_same]
      simp only [List.length_cons]
      omega
    · by_cases hl : lcs (x :: a) b ≤ lcs a (y :: b)
      · have := lst_len a (y :: b) (i + 1) j (ext acc ⟨i, 1, j, 0⟩)
        have h2 := ext_len acc ⟨i, 1, j, 0⟩
        rw [lst_del e hl]
        simp only [List.length_cons] at this ⊢
        omega
      · have := lst_len (x :: a) b i (j + 1) (ext acc ⟨i, 0, j, 1⟩)
        have h2 := ext_len acc ⟨i, 0, j, 1⟩
        rw [lst_ins e hl]
        simp only [List.length_cons] at this ⊢
        omega
termination_by a b => a.length + b.length
theorem leastL_len (la lb : List (List UInt8)) : (leastL la lb).length ≤ 1 + la.length + lb.length := by
  unfold leastL
  split
  · simp
  · split
    · have := lst_len la lb 0 0 []
      simp only [List.length_nil] at this
      omega
    · simp
      omega
theorem leastL_val {la lb : List (List UInt8)} (h : la.length ≤ 4096 ∧ lb.length ≤ 4096) : valL la lb (leastL la lb) true 0 0 = true := by
  rw [leastL_small h]
  exact lst_val la lb la lb 0 0 [] (Ahead.nil _ _) (by simp) (by simp)
theorem leastL_cost {la lb : List (List UInt8)} (h : la.length ≤ 4096 ∧ lb.length ≤ 4096) : csum (leastL la lb) + 2 * (lcs la lb : Nat) = la.length + lb.length := by
  rw [leastL_small h]
  have := lst_cost la lb 0 0 []
  rw [csum] at this
  omega
theorem wrap_small {x : Int} (h : 0 ≤ x) (h2 : x ≤ 1099511627776) : wrap64 x = x := by
  unfold wrap64
  omega
theorem stL_len (W : Int → Int) (n : Int) : ∀ (l : List Ed) (i j : Int) (acc : List Rn), (stL W n l i j acc).length ≤ acc.length + l.length + 1
  | [], i, j, acc => by
    rw [stL]
    split <;> simp
  | e :: l, i, j, acc => by
    rw [stL]
    refine Nat.le_trans (stL_len W n l _ _ _) ?_
    split <;> simp <;> omega
end Go.Proofs.Ytabadihainbbhab
