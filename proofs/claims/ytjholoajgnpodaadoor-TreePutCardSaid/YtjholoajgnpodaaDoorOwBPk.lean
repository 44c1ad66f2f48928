/-
  Appends to a row of bytes of the call's own: of a string's bytes, of one byte.
-/
import Derived.Test.YtjholoajgnpodaaDoorLaidStrsPk
import Derived.Test.YtjholoajgnpodaaDoorIdRDigit
import Derived.Test.YtjholoajgnpodaaDoorIdRaw
import Derived.Test.YtjholoajgnpodaaDoorIdHex
namespace Go.Proofs.YtjholoajgnpodaaDoor
open Go.RowKit

theorem one_u8B (z : Int) : ∀ u ∈ [Value.int .u8 z], u.oneCell' = true := by intro u hu; simp at hu; subst hu; rfl
/-- 'append(b, s...)', b of the call's own, s a string. -/
theorem wp_ow_str {ops : Array Oper} {rest : List Oper} {o : Oper} {a : Act} {Q : Exit → Act → World → Prop} {w : World} (hgd : o.guard = none) (sl x : Operand)
    (ho : o.op = .call { callee := .builtin .append, args := #[sl, x], argTypes := #[44, 9] })
    {base : Nat} {v : Value} {l : List UInt8} (hs : a.eval sl = v) (hown : Ow w base v l) (s : ByteArray) (hx : a.eval x = .string s) (hb : l.length + s.size ≤ 140737488355328) (hbase : base ≤ w.heap.size)
    (h : ∀ v' w', Ow w' base v' (l ++ s.data.toList) → w.grownBy w' v.ownBlock → wpList Tryd.prog ops Q rest (a.put o.dst v') w') : wpList Tryd.prog ops Q (o :: rest) a w := by
  obtain ⟨i0, hi, hz0, hz1, hz2⟩ := info_parts Tryd.info5
  exact Lib.wpList_append_own_string _ hgd sl x 44 9 ho base 5 i0 Tryd.underlying44 Tryd.underlying9 hi hz0 hz1 hz2 v l.length (bcells l) hs hown s hx (by unfold maxLen; omega) (by omega) hbase
    (fun v' w' h1 h2 _ => h v' w' (Ow.add rfl h1) h2)
/-- 'append(b, c)', b of the call's own, c a byte. -/
theorem wp_ow_one {ops : Array Oper} {rest : List Oper} {o : Oper} {a : Act} {Q : Exit → Act → World → Prop} {w : World} (hgd : o.guard = none) (sl x : Operand)
    (ho : o.op = .call { callee := .builtin .append, args := #[sl, x], argTypes := #[44, 44] })
    {base : Nat} {v : Value} {l : List UInt8} (hs : a.eval sl = v) (hown : Ow w base v l) (c : UInt8) (z : Int) (hz : z = (c.toNat : Int)) (hx : a.eval x = .slice (some ⟨w.heap.size, 0, none⟩) 1 1) (hb : l.length + 1 ≤ 140737488355328) (hbase : base ≤ w.heap.size)
    (h : ∀ v' w', Ow w' base v' (l ++ [c]) → (w.alloc (.cells #[.int .u8 z] 5)).grownBy w' v.ownBlock → wpList Tryd.prog ops Q rest (a.put o.dst v') w') : wpList Tryd.prog ops Q (o :: rest) a (w.alloc (.cells #[.int .u8 z] 5)) := by
  obtain ⟨i0, hi, hz0, hz1, hz2⟩ := info_parts Tryd.info5
  subst hz
  have hown2 : w.ownsRow base 5 1 v l.length (bcells l) := hown
  exact wpList_append_own _ hgd sl x 44 ho base 5 i0 (.int .u8 0) 1 1 Tryd.underlying44 hi hz0 hz1 hz2 rfl (by decide) v l.length (bcells l) hs (hown2.alloc _) ⟨w.heap.size, 0, none⟩ 1 1 [.int .u8 c.toNat] hx rfl (new_cell w _ _) (one_u8B _) (by unfold maxLen; omega) (by omega) (by simp; omega)
    (fun v' w' h1 h2 _ => h v' w' (Ow.one (c := c) h1) h2)
theorem Ow.bel {B base : Nat} {w0 w w' : World} {v : Value} {l : List UInt8} (h : Ow w base v l) (hb : Below B w0 w) (hB : B ≤ base) (hs : B ≤ w.heap.size) (hg : w.grownBy w' v.ownBlock) : Below B w0 w' :=
  app_step0 hb h hg hB hs
theorem Ow.bel1 {B base : Nat} {w0 w w' : World} {v : Value} {l : List UInt8} {o : Obj} (h : Ow w base v l) (hb : Below B w0 w) (hB : B ≤ base) (hs : B ≤ w.heap.size) (hg : (w.alloc o).grownBy w' v.ownBlock) : Below B w0 w' :=
  app_step hb h hg hB hs
/-- A row of another type is kept. -/
theorem Ow.keep {w w' : World} {base P : Nat} {v : Value} {l : List UInt8} {t : TypeId} {c : Array Value} (h : Ow w base v l) (hr : w.heap[P]? = some (.cells c t (0, 0))) (ht : t ≠ 5) (hg : w.grownBy w' v.ownBlock) : w'.heap[P]? = some (.cells c t (0, 0)) :=
  own_row h hr ht (row_lt hr) hg
theorem Ow.keep1 {w w' : World} {base P : Nat} {v : Value} {l : List UInt8} {t : TypeId} {c : Array Value} {o : Obj} (h : Ow w base v l) (hr : w.heap[P]? = some (.cells c t (0, 0))) (ht : t ≠ 5) (hg : (w.alloc o).grownBy w' v.ownBlock) : w'.heap[P]? = some (.cells c t (0, 0)) :=
  own_row (World.ownsRow.alloc h o) (row_alloc hr (row_lt hr)) ht (by have := row_lt hr; simp; omega) hg
theorem Ow.conv {w : World} {base : Nat} {v : Value} {l : List UInt8} (h : Ow w base v l) : (convert 44 9 v).run Tryd.prog w = .ok (.string (str l)) w :=
  conv_owned (P := Tryd.prog) 44 9 5 Tryd.underlying44 Tryd.underlying5 Tryd.underlying9 h
end Go.Proofs.YtjholoajgnpodaaDoor
/-
  The walk of the reference's Raw.
-/
namespace Go.Proofs.YtjholoajgnpodaaDoor
open Go.RowKit

theorem dig_hv {l : List UInt8} (h : allDig l = true) {b : UInt8} (hb : b ∈ l) : rdig b = (hv b : Int) := by
  have h1 := List.all_eq_true.1 h b hb
  cases ho : halfOf b with
  | none => rw [ho] at h1; cases h1
  | some x => rw [rdig_some ho, hv, ho]; rfl
theorem rdigit_at (b : UInt8) (x : Nat) (h : rdig b = (x : Int)) (w : World) :
    Calls Tryd.prog 48 #[.int .u8 b.toNat] w fun e w' => e = .returned (.int .i64 (x : Int)) ∧ w = w' := h ▸ rdigit_any b w

set_option maxHeartbeats 4000000 in
set_option maxRecDepth 10000 in
theorem rraw_any (s : ByteArray) (w : World) (hs : s.size ≤ 140737488355328) :
    Calls Tryd.prog 29 #[.string s] w fun e w' => e = .returned (.tuple #[.string (if isId s then str (rawL s.data.toList 20) else ⟨#[]⟩), .bool (isId s)]) ∧ Below w.heap.size w w' := by
  obtain ⟨i0, hi, hz0, hz1, hz2⟩ := info_parts Tryd.info5
  cases hp : isId s with
  | false =>
    have HP : Hid (isId s = false) := hp
    clear hp
    go_enter Tryd.func29, Tryd.ntmps29
    go_wp2_with (go_at_call 45; refine (ris_at s _ hs _ HP.out).mono ?_; rintro e w' ⟨rfl, rfl⟩)
    go_ret2
    exact ⟨rfl, Below.refl _ _⟩
  | true =>
    have HP : Hid (isId s = true) := hp
    have hl1 : 40 ≤ s.size := by simp [isId] at hp; omega
    have HD : Hid (allDig s.data.toList = true) := by show _ = _; simp [isId] at hp; exact hp.2
    clear hp
    have hown1 : (w.alloc (.cells #[] 5)).ownsRow w.heap.size 5 1 (.slice (some ⟨w.heap.size, 0, none⟩) 0 0) 0 (bcells (rawL s.data.toList 0)) := World.ownsRow_lit w #[] 0 (Nat.le_refl _) (by decide) rfl
    have hb1 : Below w.heap.size w (w.alloc (.cells #[] 5)) := (Below.refl _ _).alloc (Nat.le_refl _) _
    go_enter Tryd.func29, Tryd.ntmps29
    go_wp2_with (go_at_call 45; refine (ris_at s _ hs _ HP.out).mono ?_; rintro e w' ⟨rfl, rfl⟩)
    go_loopw [4, 5] (fun v i wr => ∃ k q : Nat, k ≤ 20 ∧ q = 2 * k ∧ i = .int .i64 (q : Int) ∧ wr.ownsRow w.heap.size 5 1 v k (bcells (rawL s.data.toList k)) ∧ Below w.heap.size w wr)
      (fun _ i _ => 40 - (intOf i).toNat)
    case atStart => exact ⟨0, 0, by omega, rfl, rfl, hown1, hb1⟩
    case round =>
      clear hown1 hb1
      obtain ⟨k, q, hk, hq, rfl, hown, hbel⟩ := hrel
      have HQ : Hid (q = 2 * k) := hq
      by_cases hlt : k < 20
      · have hq0 : q < s.size := by omega
        have hq1 : q + 1 < s.size := by omega
        have hq40 : q < 40 := by omega
        have h1 := fun W => rdigit_at s[q] (hv s[q]) (dig_hv HD.out (by rw [← Array.mem_def]; exact Array.getElem_mem _)) W
        have h2 := fun W => rdigit_at s[q + 1] (hv s[q + 1]) (dig_hv HD.out (by rw [← Array.mem_def]; exact Array.getElem_mem _)) W
        have x16 := hv_lt s[q]
        have y16 := hv_lt s[q + 1]
        have HT : Hid (rawL s.data.toList (k + 1) = rawL s.data.toList k ++ [UInt8.ofNat (hv s[q] * 16 + hv s[q + 1])]) := by
          show _ = _
          rw [rawL_next, ← hq, getD_byte s _ hq0, getD_byte s _ hq1]
        obtain ⟨x, hx⟩ : ∃ x, x = hv s[q] := ⟨_, rfl⟩
        obtain ⟨y, hy⟩ : ∃ y, y = hv s[q + 1] := ⟨_, rfl⟩
        rw [← hx] at h1 x16 HT
        rw [← hy] at h2 y16 HT
        obtain ⟨z, hz⟩ : ∃ z, z = x * 16 + y := ⟨_, rfl⟩
        obtain ⟨x2, hx2⟩ : ∃ x2, x2 = 16 * x := ⟨_, rfl⟩
        rw [← hz] at HT
        have HH1 : Hid (∀ W, Calls Tryd.prog 48 #[.int .u8 s[q].toNat] W fun e w' => e = .returned (.int .i64 (x : Int)) ∧ W = w') := h1
        have HH2 : Hid (∀ W, Calls Tryd.prog 48 #[.int .u8 s[q + 1].toNat] W fun e w' => e = .returned (.int .i64 (y : Int)) ∧ W = w') := h2
        have e1 : IntKind.i64.wrap (16 * (x : Int)) = (x2 : Int) := by rw [IntWalk.i64_in _ (by omega)]; omega
        have e2 : IntKind.i64.wrap ((x2 : Int) + (y : Int)) = (z : Int) := by rw [IntWalk.i64_in _ (by omega)]; omega
        have e3 : IntKind.u8.wrap (z : Int) = (((UInt8.ofNat z).toNat : Nat) : Int) := by rw [u8nat (by omega), IntWalk.u8_in _ (by omega)]
        have e4 : IntKind.i64.wrap ((q : Int) + 1) = (q : Int) + 1 := IntWalk.i64_in _ (by omega)
        have t0 : (0 : Int) ≤ (q : Int) := by omega
        have t1 : (0 : Int) ≤ (q : Int) + 1 := by omega
        have t2 : (q : Int) + 1 < s.size := by omega
        have t3 : (q : Int) < s.size := by omega
        obtain ⟨Z, hZ⟩ : ∃ Z, Z = UInt8.ofNat z := ⟨_, rfl⟩
        rw [← hZ] at e3 HT
        clear h1 h2 hx hy hz hx2 hZ hq x16 y16
        go_wp2
        go_region_law (first
          | (refine step_append_lies _ rfl (.tmp 14) (.tmp 27) 44 rfl w.heap.size 5 i0 (.int .u8 0) 1 1 Tryd.underlying44 hi hz0 hz1 hz2 rfl (by decide) _ _ _ rfl (World.ownsRow.alloc (w := wr.drew) hown _) ⟨wr.heap.size, 0, none⟩ 1 1 (bcells [Z]) rfl rfl (fun j u hj => new_cell wr.drew _ _ j u hj) (bcells_one _) (by decide) (by unfold maxLen; omega) (by omega) (by have := hbel.size; simp; omega) _ rfl ?_; intro g cap w3 ho3 hg3 _ _)
          | (go_simp; go_at_call 48; first | ((with_reducible refine (HH1.out _).mono ?_); rintro e w' ⟨rfl, rfl⟩) | ((with_reducible refine (HH2.out _).mono ?_); rintro e w' ⟨rfl, rfl⟩)))
        all_goals
          have hb3 : Below w.heap.size w w3 := app_step hbel hown (grown_drew hg3) (Nat.le_refl _) hbel.size
          clear hown hg3 hbel
          go_wp2
          go_roundw
          case rel => exact ⟨k + 1, q + 2, by omega, by have := HQ.out; omega, by go_num, owns_eq ho3 (by rw [HT.out, bcells_append]), hb3⟩
          case measure => simp [intOf]; omega
      · obtain rfl : k = 20 := by omega
        obtain rfl : q = 40 := by omega
        rw [show ((40 : Nat) : Int) = 40 from rfl]
        have hcv := conv_owned (P := Tryd.prog) 44 9 5 Tryd.underlying44 Tryd.underlying5 Tryd.underlying9 hown
        clear hown
        go_wp2
        go_ret2
        exact ⟨rfl, hbel⟩
end Go.Proofs.YtjholoajgnpodaaDoor
