/-
  Appends to a row of bytes of the call's own: of a string's bytes, of one byte.
-/
import Derived.Test.YtpkgiojicbdcfaaGreatDoorRow
import Derived.Test.YtpkgiojicbdcfaaGreatDoorIdRDigit
import Derived.Test.YtpkgiojicbdcfaaGreatDoorIdRaw
import Derived.Test.YtpkgiojicbdcfaaGreatDoorLawPostPk
namespace Go.Proofs.YtpkgiojicbdcfaaGreatDoor
open Go.RowKit

theorem one_u8B (z : Int) : ∀ u ∈ [Value.int .u8 z], u.oneCell' = true := by intro u hu; simp at hu; subst hu; rfl
/-- 'append(b, s...)', b of the call's own, s a string. -/
theorem wp_ow_str {ops : Array Oper} {rest : List Oper} {o : Oper} {a : Act} {Q : Exit → Act → World → Prop} {w : World} (hgd : o.guard = none) (sl x : Operand)
    (ho : o.op = .call { callee := .builtin .append, args := #[sl, x], argTypes := #[131, 9] })
    {base : Nat} {v : Value} {l : List UInt8} (hs : a.eval sl = v) (hown : Ow w base v l) (s : ByteArray) (hx : a.eval x = .string s) (hb : l.length + s.size ≤ 140737488355328) (hbase : base ≤ w.heap.size)
    (h : ∀ v' w', Ow w' base v' (l ++ s.data.toList) → w.grownBy w' v.ownBlock → wpList Tryz.prog ops Q rest (a.put o.dst v') w') : wpList Tryz.prog ops Q (o :: rest) a w := by
  obtain ⟨i0, hi, hz0, hz1, hz2⟩ := info_parts Tryz.info5
  exact Lib.wpList_append_own_string _ hgd sl x 131 9 ho base 5 i0 Tryz.underlying131 Tryz.underlying9 hi hz0 hz1 hz2 v l.length (bcells l) hs hown s hx (by unfold maxLen; omega) (by omega) hbase
    (fun v' w' h1 h2 _ => h v' w' (Ow.add rfl h1) h2)
/-- 'append(b, c)', b of the call's own, c a byte. -/
theorem wp_ow_one {ops : Array Oper} {rest : List Oper} {o : Oper} {a : Act} {Q : Exit → Act → World → Prop} {w : World} (hgd : o.guard = none) (sl x : Operand)
    (ho : o.op = .call { callee := .builtin .append, args := #[sl, x], argTypes := #[131, 131] })
    {base : Nat} {v : Value} {l : List UInt8} (hs : a.eval sl = v) (hown : Ow w base v l) (c : UInt8) (z : Int) (hz : z = (c.toNat : Int)) (hx : a.eval x = .slice (some ⟨w.heap.size, 0, none⟩) 1 1) (hb : l.length + 1 ≤ 140737488355328) (hbase : base ≤ w.heap.size)
    (h : ∀ v' w', Ow w' base v' (l ++ [c]) → (w.alloc (.cells #[.int .u8 z] 5)).grownBy w' v.ownBlock → wpList Tryz.prog ops Q rest (a.put o.dst v') w') : wpList Tryz.prog ops Q (o :: rest) a (w.alloc (.cells #[.int .u8 z] 5)) := by
  obtain ⟨i0, hi, hz0, hz1, hz2⟩ := info_parts Tryz.info5
  subst hz
  have hown2 : w.ownsRow base 5 1 v l.length (bcells l) := hown
  exact wpList_append_own _ hgd sl x 131 ho base 5 i0 (.int .u8 0) 1 1 Tryz.underlying131 hi hz0 hz1 hz2 rfl (by decide) v l.length (bcells l) hs (hown2.alloc _) ⟨w.heap.size, 0, none⟩ 1 1 [.int .u8 c.toNat] hx rfl (new_cell w _ _) (one_u8B _) (by unfold maxLen; omega) (by omega) (by simp; omega)
    (fun v' w' h1 h2 _ => h v' w' (Ow.one (c := c) h1) h2)
theorem Ow.bel {B base : Nat} {w0 w w' : World} {v : Value} {l : List UInt8} (h : Ow w base v l) (hb : Below B w0 w) (hB : B ≤ base) (hs : B ≤ w.heap.size) (hg : w.grownBy w' v.ownBlock) : Below B w0 w' :=
  app_step0 hb h hg hB hs
theorem Ow.bel1 {B base : Nat} {w0 w w' : World} {v : Value} {l : List UInt8} {o : Obj} (h : Ow w base v l) (hb : Below B w0 w) (hB : B ≤ base) (hs : B ≤ w.heap.size) (hg : (w.alloc o).grownBy w' v.ownBlock) : Below B w0 w' :=
  app_step hb h hg hB hs
/-- A row of another type is kept. -/
theorem Ow.keep {w w' : World} {base P : Nat} {v : Value} {l : List UInt8} {t : TypeId} {c : Array Value} (h : Ow w base v l) (hr : w.heap[P]? = some (.cells c t (0, 0))) (ht : t ≠ 5) (hg : w.grownBy w' v.ownBlock) : w'.heap[P]? = some (.cells c t (0, 0)) :=
  own_row h hr ht (row_lt hr) hg
theorem Ow.keep1 {w w' : World} {base P : Nat} {v : Value} {l : List UInt8} {t : TypeId} {c : Array Value} {o : Obj} (h : Ow w base v l) (hr : w.heap[P]? = some (.cells c t (0, 0))) (ht : t ≠ 5) (hg : (w.alloc o).grownBy w' v.ownBlock) : w'.heap[P]? = some (.cells c t (0, 0)) :=
  own_row (World.ownsRow.alloc h o) (row_alloc hr (row_lt hr)) ht (by have := row_lt hr; simp; omega) hg
theorem Ow.conv {w : World} {base : Nat} {v : Value} {l : List UInt8} (h : Ow w base v l) : (convert 131 9 v).run Tryz.prog w = .ok (.string (str l)) w :=
  conv_owned (P := Tryz.prog) 131 9 5 Tryz.underlying131 Tryz.underlying5 Tryz.underlying9 h
end Go.Proofs.YtpkgiojicbdcfaaGreatDoor
/-
  The walk of the reference's Raw.
-/
namespace Go.Proofs.YtpkgiojicbdcfaaGreatDoor
open Go.RowKit

theorem dig_hv {l : List UInt8} (h : allDig l = true) {b : UInt8} (hb : b ∈ l) : rdig b = (hv b : Int) := by
  have h1 := List.all_eq_true.1 h b hb
  cases ho : halfOf b with
  | none => rw [ho] at h1; cases h1
  | some x => rw [rdig_some ho, hv, ho]; rfl
theorem rdigit_at (b : UInt8) (x : Nat) (h : rdig b = (x : Int)) (w : World) :
    Calls Tryz.prog 139 #[.int .u8 b.toNat] w fun e w' => e = .returned (.int .i64 (x : Int)) ∧ w = w' := h ▸ rdigit_any b w

end Go.Proofs.YtpkgiojicbdcfaaGreatDoor
