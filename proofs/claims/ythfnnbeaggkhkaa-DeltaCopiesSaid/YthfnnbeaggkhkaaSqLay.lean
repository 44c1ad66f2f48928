/-
  The walk of layOut.
-/
import Derived.Test.YthfnnbeaggkhkaaSqPieces
import Derived.Outline
namespace Go.Proofs.Ythfnnbeaggkhkaa
open Go.RowKit

/-- k bytes are copied, one after another, from b bytes before the end. -/
def cpy (b : Nat) : Nat → List UInt8 → List UInt8
  | 0, l => l
  | k + 1, l => cpy b k (l ++ [l.getD (l.length - b) 0])
theorem cpy_len (b : Nat) : ∀ (k : Nat) (l : List UInt8), (cpy b k l).length = l.length + k
  | 0, l => rfl
  | k + 1, l => by rw [cpy, cpy_len b k]; simp; omega
def layP (l : List UInt8) (p : Pc) : List UInt8 := if p.b = 0 then l ++ p.t.data.toList else cpy p.b p.n l
def lay (l : List UInt8) (ps : List Pc) : List UInt8 := ps.foldl layP l
/-- Pieces that may be laid out behind k bytes. -/
def okPs (size : Nat) : Nat → List Pc → Prop
  | _, [] => True
  | k, p :: ps => p.b ≤ k ∧ (p.b = 0 → p.t.size = p.n) ∧ k + p.n ≤ size ∧ okPs size (k + p.n) ps
theorem layP_len {l : List UInt8} {p : Pc} (h : p.b = 0 → p.t.size = p.n) : (layP l p).length = l.length + p.n := by
  unfold layP
  split
  · rename_i h0
    rw [List.length_append, list_len, h h0]
  · exact cpy_len _ _ _

theorem pcells_at (ps : List Pc) (k : Nat) (h : k < ps.length) (j : Nat) (hj : j < 3) : (pcells ps)[k * 3 + j]? = (Pc.cells ps[k])[j]? := by
  induction ps generalizing k with
  | nil => simp at h
  | cons p ps ih =>
    have e : pcells (p :: ps) = Pc.cells p ++ pcells ps := by simp [pcells]
    have hl : (Pc.cells p).length = 3 := rfl
    rw [e]
    cases k with
    | zero =>
      rw [List.getElem?_append_left (by rw [hl]; omega), Nat.zero_mul, Nat.zero_add]
      rfl
    | succ k =>
      rw [List.getElem?_append_right (by rw [hl]; omega), hl, show (k + 1) * 3 + j - 3 = k * 3 + j by omega]
      exact ih k (by simpa using h)

/-- The row of the pieces, as it is read. -/
def PRow (w : World) (g : Nat) (ps : List Pc) : Prop := ∀ k (h : k < ps.length), w.cell? ⟨g, k * 3, none⟩ = some (.int .i64 (ps[k].n : Int)) ∧ w.cell? ⟨g, k * 3 + 1, none⟩ = some (.int .i64 (ps[k].b : Int)) ∧ w.cell? ⟨g, k * 3 + 2, none⟩ = some (.string ps[k].t)
theorem prow_of {w : World} {base g n cap : Nat} {e : TypeId} {ps : List Pc} (h : w.ownsRow base e 3 (.slice (some ⟨g, 0, none⟩) n cap) n (pcells ps)) : PRow w g ps := fun k hk => by
  have at' (j : Nat) (hj : j < 3) (u : Value) (hu : (Pc.cells ps[k])[j]? = some u) : w.cell? ⟨g, k * 3 + j, none⟩ = some u := by
    have h1 := h.cells (g := g) rfl (k * 3 + j) u (by rw [pcells_at ps k hk j hj]; exact hu)
    rw [Addr.add_lit, Nat.zero_add] at h1
    exact h1
  exact ⟨at' 0 (by decide) _ rfl, at' 1 (by decide) _ rfl, at' 2 (by decide) _ rfl⟩
theorem PRow.below {w w' : World} {g X : Nat} {ps : List Pc} (h : PRow w g ps) (hb : Below X w w') (hg : g < X) : PRow w' g ps := fun k hk =>
  ⟨(hb.cell (p := ⟨g, k * 3, none⟩) hg).trans (h k hk).1, (hb.cell (p := ⟨g, k * 3 + 1, none⟩) hg).trans (h k hk).2.1, (hb.cell (p := ⟨g, k * 3 + 2, none⟩) hg).trans (h k hk).2.2⟩
theorem own_ty {w : World} {base size n P : Nat} {e t : TypeId} {v : Value} {xs : List Value} {c : Array Value} (h : w.ownsRow base e size v n xs) (hr : w.heap[P]? = some (.cells c t (0, 0))) (ht : t ≠ e) : v.ownBlock ≠ some P := by
  rcases h.2 with ⟨rfl, _⟩ | ⟨g, cap, cur, rfl, _, hg, _⟩
  · intro h; cases h
  · intro h
    simp only [Value.ownBlock, Option.some.injEq] at h
    subst h
    rw [hg] at hr
    simp only [Option.some.injEq, Obj.cells.injEq] at hr
    exact ht hr.2.1.symm

/-- A row of its own that is not empty, as it is read. -/
theorem Ow.read {w : World} {base : Nat} {v : Value} {l : List UInt8} (h : Ow w base v l) (hl : 0 < l.length) :
    ∃ g cap, v = .slice (some ⟨g, 0, none⟩) l.length cap ∧ ∀ q, q < l.length → w.cell? ⟨g, q, none⟩ = some (.int .u8 (l.getD q 0).toNat) := by
  rcases h.2 with ⟨_, hx⟩ | ⟨g, cap, cur, rfl, _⟩
  · omega
  · refine ⟨g, cap, rfl, fun q hq => ?_⟩
    have h1 := h.cells (g := g) rfl q (.int .u8 (l.getD q 0).toNat) (by rw [List.getD_eq_getElem?_getD, List.getElem?_eq_getElem hq]; simp [bcells, hq])
    rw [Addr.add_lit, Nat.zero_add] at h1
    exact h1
theorem own_row {w w' : World} {base n size P : Nat} {e t : TypeId} {v : Value} {xs : List Value} {c : Array Value} (h : w.ownsRow base e size v n xs) (hr : w.heap[P]? = some (.cells c t (0, 0))) (ht : t ≠ e)
    (hP : P < w.heap.size) (hg : w.grownBy w' v.ownBlock) : w'.heap[P]? = some (.cells c t (0, 0)) :=
  (hg.block P hP (fun he => own_ty h hr ht he.symm)).trans hr
theorem row_alloc {w : World} {P : Nat} {o o' : Obj} (hr : w.heap[P]? = some o) (hP : P < w.heap.size) : (w.alloc o').heap[P]? = some o := (Below.heap_alloc w o' P hP).trans hr

set_option maxHeartbeats 2000000 in
set_option maxRecDepth 4000 in
theorem layOut_some (g cap size : Nat) (ps : List Pc) (w : World) (hrow : PRow w g ps) (hg : g < w.heap.size) (hok : okPs size 0 ps) (hsz : size ≤ 1099511627776) (hpl : ps.length ≤ 1099511627776) :
    Calls Try.prog 42 #[.slice (some ⟨g, 0, none⟩) ps.length cap, .int .i64 size] w fun e w' => e = .returned (.string (str (lay [] ps))) ∧ Below w.heap.size w w' := by
  obtain ⟨i0, hi, hz0, hz1, hz2⟩ := info_parts Try.info5
  obtain ⟨R, hR⟩ : ∃ R, R = lay [] ps := ⟨_, rfl⟩
  rw [← hR]
  have HR : Hid (R = lay [] ps) := hR
  have HOK : Hid (okPs size 0 ps) := hok
  obtain ⟨n, hn⟩ : ∃ n, n = ps.length := ⟨_, rfl⟩
  rw [← hn] at hpl ⊢
  have HN : Hid (n = ps.length) := hn
  clear hR hok hn
  go_enter Try.func42, Try.ntmps42
  go_wp2_with (at_make; refine wpList_make_own _ rfl _ _ 30 rfl w.heap.size 5 i0 (.int .u8 0) 1 Try.underlying30 hi hz0 hz1 _ _ _ size rfl rfl (by omega) (by rw [hz2]; omega) (by unfold maxLen; omega) (Nat.le_refl _) ?_)
  intro w1 hown1 hgrow1
  have hb1 : Below w.heap.size w w1 := (Below.refl _ _).grown hgrow1 (Nat.le_refl _) (by simp)
  have ho1 : Ow w1 w.heap.size (.slice (some ⟨w.heap.size, 0, none⟩) 0 size) [] := hown1
  clear hown1 hgrow1
  go_wp2
  go_loopw [5, 12] (fun v i wr => ∃ (k : Nat) (l : List UInt8), k ≤ n ∧ i = .int .i64 k ∧ l.length ≤ size ∧ R = lay l (ps.drop k) ∧ okPs size l.length (ps.drop k) ∧ Ow wr w.heap.size v l ∧ Below w.heap.size w wr) (fun _ i _ => n - (intOf i).toNat)
  case atStart => exact ⟨0, [], by omega, rfl, by simp, HR.out, HOK.out, ho1, hb1⟩
  case round =>
    clear ho1 hb1 HR HOK
    obtain ⟨k, l, hk, rfl, hll, hR, hok, ho, hb⟩ := hrel
    have HR : Hid (R = lay l (ps.drop k)) := hR
    have HOK : Hid (okPs size l.length (ps.drop k)) := hok
    clear hR hok
    by_cases hlt : k < n
    · have hkl : k < ps.length := by rw [← HN.out]; exact hlt
      obtain ⟨p, hp⟩ : ∃ p, p = ps[k] := ⟨_, rfl⟩
      have hd : ps.drop k = p :: ps.drop (k + 1) := by rw [hp]; exact List.drop_eq_getElem_cons hkl
      have hc := (hrow.below hb hg) k hkl
      rw [← hp] at hc
      obtain ⟨c0, c1, c2⟩ := hc
      obtain ⟨pn, pb, pt⟩ := p
      simp only at c0 c1 c2
      have HOK2 := HOK.out
      rw [hd] at HOK2
      obtain ⟨k1, k2, k3, k4⟩ := HOK2
      simp only at k1 k2 k3 k4
      have HX : Hid (R = lay (layP l ⟨pn, pb, pt⟩) (ps.drop (k + 1))) := by show _ = _; rw [HR.out, hd]; rfl
      have H4 : Hid (okPs size (l.length + pn) (ps.drop (k + 1))) := k4
      have HLP := layP_len (l := l) (p := ⟨pn, pb, pt⟩) k2
      clear hp hd HR HOK k4 hkl
      by_cases h0 : pb = 0
      · have h1 : ((pb : Int) == 0) = true := by rw [h0]; rfl
        have hpt : pt.size = pn := k2 h0
        have hoa := ho.below (Below.alloc (Below.refl wr.heap.size wr) (Nat.le_refl _) (.cells #[.int .i64 pn, .int .i64 pb, .string pt] 82))
        have hba := hb.alloc hb.size (.cells #[.int .i64 pn, .int .i64 pb, .string pt] 82)
        have hsz2 : w.heap.size ≤ (wr.alloc (.cells #[.int .i64 pn, .int .i64 pb, .string pt] 82)).heap.size := hba.size
        have HL2 : Hid (layP l ⟨pn, pb, pt⟩ = l ++ pt.data.toList) := by show _ = _; unfold layP; rw [if_pos h0]
        clear h0
        go_wp2_with (at_builtin; refine Lib.wpList_append_own_string _ rfl _ _ 30 9 rfl w.heap.size 5 i0 Try.underlying30 Try.underlying9 hi hz0 hz1 hz2 _ l.length (bcells l) rfl hoa pt rfl (by unfold maxLen; omega) (by omega) hsz2 ?_)
        intro v2 w2 ho2 hg2 _
        have hb2 : Below w.heap.size w w2 := hba.grown hg2 hsz2 (fun k hk => (hoa.lt k hk).1)
        have ho3 := Ow.add (by omega) ho2
        clear ho2 hg2 hoa hba hsz2
        go_wp2
        go_roundw
        case rel => exact ⟨k + 1, _, by omega, by go_num, by rw [List.length_append, list_len]; omega, by rw [← HL2.out]; exact HX.out, by rw [List.length_append, list_len, hpt]; exact H4.out, ho3, hb2⟩
        case measure => simp [intOf]; omega
      · have h1 : ((pb : Int) == 0) = false := by simp; omega
        have HL2 : Hid (layP l ⟨pn, pb, pt⟩ = cpy pb pn l) := by show _ = _; unfold layP; rw [if_neg h0]
        have hpb : 0 < pb := by omega
        obtain ⟨W, rfl⟩ : ∃ W, W = wr := ⟨_, rfl⟩
        have hoa := ho.below (Below.alloc (Below.refl W.heap.size W) (Nat.le_refl _) (.cells #[.int .i64 pn, .int .i64 pb, .string pt] 82))
        have hba := hb.alloc hb.size (.cells #[.int .i64 pn, .int .i64 pb, .string pt] 82)
        have hra := heap_alloc_new W (.cells #[.int .i64 pn, .int .i64 pb, .string pt] 82 (0, 0))
        have hPa : W.heap.size < (W.alloc (.cells #[.int .i64 pn, .int .i64 pb, .string pt] 82)).heap.size := by simp
        clear h0 k2
        go_wp2
        clear h1 c0 c1 c2
        go_loopw [5, 25] (fun u j wr => ∃ (d : Nat) (m : List UInt8), d ≤ pn ∧ j = .int .i64 d ∧ m.length = l.length + d ∧ cpy pb pn l = cpy pb (pn - d) m ∧ Ow wr w.heap.size u m ∧ Below w.heap.size w wr ∧ wr.heap[W.heap.size]? = some (.cells #[.int .i64 pn, .int .i64 pb, .string pt] 82 (0, 0)) ∧ W.heap.size < wr.heap.size) (fun _ j _ => pn - (intOf j).toNat)
        case atStart => exact ⟨0, l, Nat.zero_le _, rfl, rfl, rfl, hoa, hba, hra, hPa⟩
        case round =>
          clear hoa hba hra hPa
          obtain ⟨d, m, hd, rfl, hml, hcp, hom, hbm, hrm, hPm⟩ := hrel
          have HC : Hid (cpy pb pn l = cpy pb (pn - d) m) := hcp
          clear hcp
          by_cases hdl : d < pn
          · have f0 : wr.cell? ⟨W.heap.size, 0, none⟩ = some (.int .i64 (pn : Int)) := cell_of_row wr _ 0 _ _ _ hrm
            have f1 : wr.cell? ⟨W.heap.size, 1, none⟩ = some (.int .i64 (pb : Int)) := cell_of_row wr _ 1 _ _ _ hrm
            obtain ⟨q, hq⟩ : ∃ q, q + pb = m.length := ⟨m.length - pb, by omega⟩
            obtain ⟨g2, cap2, rfl, hrd⟩ := hom.read (by omega)
            have fq := hrd q (by omega)
            obtain ⟨y, hy⟩ : ∃ y : UInt8, y = m.getD q 0 := ⟨_, rfl⟩
            rw [← hy] at fq
            have HC2 : Hid (cpy pb pn l = cpy pb (pn - (d + 1)) (m ++ [y])) := by
              show _ = _
              rw [HC.out, show pn - d = (pn - (d + 1)) + 1 by omega, cpy, hy, show m.length - pb = q by omega]
            have i1 : IntKind.i64.wrap ((m.length : Int) - (pb : Int)) = (q : Int) := by rw [IntWalk.i64_in _ (by omega)]; omega
            have hqm : q < m.length := by omega
            have HML : Hid (m.length = l.length + d) := hml
            have hmb : m.length + 1 ≤ size := by omega
            clear HC hy hrd hml hq
            unfold Ow at hom
            go_wp2_with (at_builtin; refine wpList_append_own _ rfl _ _ 30 rfl w.heap.size 5 i0 (.int .u8 0) 1 1 Try.underlying30 hi hz0 hz1 hz2 rfl (by decide) _ _ _ rfl (hom.alloc _) ⟨wr.heap.size, 0, none⟩ 1 1 (bcells [y]) rfl rfl ?c1 ?c2 ?c3 ?c4 ?c5 ?_)
            case c1 =>
              intro j u hj
              match j, hj with
              | 0, hj => simp [bcells] at hj; subst hj; simp [Addr.add]
            case c2 => exact bcells_one _
            case c3 => unfold maxLen; omega
            case c4 => omega
            case c5 => have := hbm.size; simp; omega
            intro v3 w3 ho3 hg3 _
            have hb3 := app_step hbm hom hg3 (Nat.le_refl _) hbm.size
            have hr3 := own_row (hom.alloc _) (row_alloc hrm hPm) (by decide) (by simp; omega) hg3
            have hP3 : W.heap.size < w3.heap.size := by have := hg3.size; simp at this; omega
            clear hom hg3 f0 f1 fq
            go_wp2
            go_roundw
            case rel => exact ⟨d + 1, m ++ [y], by omega, by go_num, by have := HML.out; simp; omega, HC2.out, by unfold Ow; rw [bcells_append]; simpa using ho3, hb3, hr3, hP3⟩
            case measure => simp [intOf]; omega
          · obtain rfl : d = pn := by omega
            have HC2 : Hid (R = lay m (ps.drop (k + 1))) := by show _ = _; rw [HX.out, HL2.out, HC.out, Nat.sub_self]; rfl
            have hml2 : l.length + d = m.length := hml.symm
            clear HC
            go_wp2
            go_roundw
            case rel => exact ⟨k + 1, m, by omega, by go_num, by omega, HC2.out, by rw [hml]; exact H4.out, hom, hbm⟩
            case measure => simp [intOf]; omega
    · have HX : Hid (R = l) := by show _ = _; rw [HR.out, List.drop_eq_nil_of_le (by rw [← HN.out]; omega)]; rfl
      have hcv : (convert 30 9 u5).run Try.prog wr = .ok (.string (str R)) wr := by
        rw [HX.out]
        exact conv_owned (P := Try.prog) 30 9 5 Try.underlying30 Try.underlying5 Try.underlying9 ho
      go_wp2
      go_ret
      exact ⟨rfl, hb⟩
end Go.Proofs.Ythfnnbeaggkhkaa
