/-
  The contracts of octet and of its reference, over a world that has only grown since a call began and still holds the table.
-/
import Derived.Test.YtgnljpcnkmogfaaDoorOctText
import Derived.Test.YtgnljpcnkmogfaaDoorOctRTakeText
import Derived.Test.YtgnljpcnkmogfaaDoorOctSeal
namespace Go.Proofs.YtgnljpcnkmogfaaDoor
open Go.RowKit

/-- The table lies where the program's text lays it. -/
def Tab (w : World) : Prop := ∀ i, i < 16 → w.cell? ⟨0, i, none⟩ = some (.int .u32 (tab i : Nat))
theorem Tab.below {w w' : World} (h : Tab w) (hb : Below w.heap.size w w') : Tab w' := fun i hi => by
  have hc := h i hi
  have hlt := World.block_lt_of_cell? w _ hc
  exact (hb.cell (p := ⟨0, i, none⟩) hlt).trans hc
/-- w is w0 with new blocks, and holds the table. -/
def Inv (w0 w : World) : Prop := Below w0.heap.size w0 w ∧ Tab w
theorem Inv.step {w0 w w' : World} (h : Inv w0 w) (hb : Below w.heap.size w w') : Inv w0 w' := ⟨h.1.trans (hb.mono h.1.size), h.2.below hb⟩
theorem Inv.alloc {w0 w : World} (h : Inv w0 w) (o : Obj) : Inv w0 (w.alloc o) := h.step ((Below.refl _ _).alloc (Nat.le_refl _) _)
theorem Inv.drewN {w0 w : World} (h : Inv w0 w) (n : Nat) : Inv w0 (w.drewN n) := h.step (below_drewN (Below.refl _ _) _)
theorem Inv.below {w0 w : World} (h : Inv w0 w) : Below w0.heap.size w0 w := h.1
theorem Inv.drew {w0 w : World} (h : Inv w0 w) : Inv w0 w.drew := h.step ((Below.refl _ _).drew)
theorem Inv.self {w : World} (h : Tab w) : Inv w w := ⟨Below.refl _ _, h⟩

section
variable {w0 w : World} (h : Inv w0 w)
include h
theorem put_inv (b : ByteArray) (n : Nat) (hn : n < 18446744073709551616) (hb : b.size ≤ 4611686018427387904) :
    Calls Tryd.prog 18 #[.string b, .int .u64 n] w fun e w' => e = .returned (.string (b ++ str (digs n))) ∧ Inv w0 w' :=
  (put_any b n w hn hb).mono fun _ _ x => ⟨x.1, h.step x.2⟩
theorem rput_inv (b : ByteArray) (n : Nat) (hn : n < 18446744073709551616) (hb : b.size ≤ 4611686018427387904) :
    Calls Tryd.prog 21 #[.string b, .int .u64 n] w fun e w' => e = .returned (.string (b ++ str (digs n))) ∧ Inv w0 w' :=
  (rput_any b n w hn hb).mono fun _ _ x => ⟨x.1, h.step x.2⟩
theorem text_inv (b s : ByteArray) (hs : s.size ≤ 281474976710656) (hb : b.size ≤ 1125899906842624) :
    Calls Tryd.prog 19 #[.string b, .string s] w fun e w' => e = .returned (.string (b ++ lp s)) ∧ Inv w0 w' :=
  (text_any b s w hs hb).mono fun _ _ x => ⟨x.1, h.step x.2⟩
theorem rtext_inv (b s : ByteArray) (hs : s.size ≤ 281474976710656) (hb : b.size ≤ 1125899906842624) :
    Calls Tryd.prog 23 #[.string b, .string s] w fun e w' => e = .returned (.string (b ++ lp s)) ∧ Inv w0 w' :=
  (rtext_any b s w hs hb).mono fun _ _ x => ⟨x.1, h.step x.2⟩
theorem word_inv (b : ByteArray) (n : Nat) (hn : n < 4294967296) (hb : b.size ≤ 2251799813685248) :
    Calls Tryd.prog 20 #[.string b, .int .u32 n] w fun e w' => e = .returned (.string (b ++ str (wbytes n))) ∧ Inv w0 w' :=
  (word_any b n w hn hb).mono fun _ _ x => ⟨x.1, h.step x.2⟩
theorem rword_inv (b : ByteArray) (n : Nat) (hn : n < 4294967296) (hb : b.size ≤ 2251799813685248) :
    Calls Tryd.prog 22 #[.string b, .int .u32 n] w fun e w' => e = .returned (.string (b ++ str (wbytes n))) ∧ Inv w0 w' :=
  (rword_any b n w hn hb).mono fun _ _ x => ⟨x.1, h.step x.2⟩
theorem take_inv (s : ByteArray) (p : Int) (hs : s.size ≤ 4611686018427387904) (v : Nat) (q : Int) (e0 : Nat) (hv : takeAt s.data.toList p = (v, q, e0)) :
    Calls Tryd.prog 11 #[.string s, .int .i64 p] w fun e w' => e = .returned (.tuple #[.int .u64 v, .int .i64 q, .int .i64 e0]) ∧ Inv w0 w' :=
  (take_any s p w hs).mono fun _ _ x => ⟨by rw [x.1, hv], x.2 ▸ h⟩
theorem rtake_inv (s : ByteArray) (p : Int) (hs : s.size ≤ 4611686018427387904) (v : Nat) (q : Int) (e0 : Nat) (hv : takeAt s.data.toList p = (v, q, e0)) :
    Calls Tryd.prog 12 #[.string s, .int .i64 p] w fun e w' => e = .returned (.tuple #[.int .u64 v, .int .i64 q, .int .i64 e0]) ∧ Inv w0 w' :=
  (rtake_any s p w hs).mono fun _ _ x => ⟨by rw [x.1, hv], x.2 ▸ h⟩
theorem takeText_inv (s : ByteArray) (p : Int) (hs : s.size ≤ 4611686018427387904) (v : ByteArray) (q : Int) (e0 : Nat) (hv : takeText s p = (v, q, e0)) :
    Calls Tryd.prog 13 #[.string s, .int .i64 p] w fun e w' => e = .returned (.tuple #[.string v, .int .i64 q, .int .i64 e0]) ∧ Inv w0 w' :=
  (takeText_any s p w hs).mono fun _ _ x => ⟨by rw [x.1, hv], x.2 ▸ h⟩
theorem rtakeText_inv (s : ByteArray) (p : Int) (hs : s.size ≤ 4611686018427387904) (v : ByteArray) (q : Int) (e0 : Nat) (hv : takeText s p = (v, q, e0)) :
    Calls Tryd.prog 14 #[.string s, .int .i64 p] w fun e w' => e = .returned (.tuple #[.string v, .int .i64 q, .int .i64 e0]) ∧ Inv w0 w' :=
  (rtakeText_any s p w hs).mono fun _ _ x => ⟨by rw [x.1, hv], x.2 ▸ h⟩
theorem takeWord_inv (s : ByteArray) (p : Int) (hs : s.size ≤ 4611686018427387904) (v : Nat) (q : Int) (e0 : Nat) (hv : takeWord s p = (v, q, e0)) :
    Calls Tryd.prog 15 #[.string s, .int .i64 p] w fun e w' => e = .returned (.tuple #[.int .u32 v, .int .i64 q, .int .i64 e0]) ∧ Inv w0 w' :=
  (takeWord_any s p w hs).mono fun _ _ x => ⟨by rw [x.1, hv], x.2 ▸ h⟩
theorem rtakeWord_inv (s : ByteArray) (p : Int) (hs : s.size ≤ 4611686018427387904) (v : Nat) (q : Int) (e0 : Nat) (hv : takeWord s p = (v, q, e0)) :
    Calls Tryd.prog 16 #[.string s, .int .i64 p] w fun e w' => e = .returned (.tuple #[.int .u32 v, .int .i64 q, .int .i64 e0]) ∧ Inv w0 w' :=
  (rtakeWord_any s p w hs).mono fun _ _ x => ⟨by rw [x.1, hv], h.step x.2⟩
theorem sum_inv (s : ByteArray) (hs : s.size ≤ 4611686018427387904) (v : Nat) (hv : crc s.data.toList = v) :
    Calls Tryd.prog 27 #[.string s] w fun e w' => e = .returned (.int .u32 v) ∧ Inv w0 w' :=
  (sum_any s w hs h.2).mono fun _ _ x => ⟨by rw [x.1, hv], x.2 ▸ h⟩
theorem rsum_inv (s : ByteArray) (hs : s.size ≤ 4611686018427387904) (v : Nat) (hv : crc s.data.toList = v) :
    Calls Tryd.prog 28 #[.string s] w fun e w' => e = .returned (.int .u32 v) ∧ Inv w0 w' :=
  (rsum_any s w hs).mono fun _ _ x => ⟨by rw [x.1, hv], x.2 ▸ h⟩
theorem seal_inv (s : ByteArray) (hs : s.size ≤ 1125899906842624) (v : ByteArray) (hv : sealOf s = v) :
    Calls Tryd.prog 26 #[.string s] w fun e w' => e = .returned (.string v) ∧ Inv w0 w' :=
  (seal_any s w hs h.2).mono fun _ _ x => ⟨by rw [x.1, hv], h.step x.2⟩
theorem rseal_inv (s : ByteArray) (hs : s.size ≤ 1125899906842624) (v : ByteArray) (hv : sealOf s = v) :
    Calls Tryd.prog 29 #[.string s] w fun e w' => e = .returned (.string v) ∧ Inv w0 w' :=
  (rseal_any s w hs).mono fun _ _ x => ⟨by rw [x.1, hv], h.step x.2⟩
theorem open_inv (s : ByteArray) (hs : s.size ≤ 1125899906842624) (v : ByteArray) (b : Bool) (hv : openOf s = (v, b)) :
    Calls Tryd.prog 24 #[.string s] w fun e w' => e = .returned (.tuple #[.string v, .bool b]) ∧ Inv w0 w' :=
  (open_any s w hs h.2).mono fun _ _ x => ⟨by rw [x.1, hv], x.2 ▸ h⟩
theorem ropen_inv (s : ByteArray) (hs : s.size ≤ 1125899906842624) (v : ByteArray) (b : Bool) (hv : openOf s = (v, b)) :
    Calls Tryd.prog 25 #[.string s] w fun e w' => e = .returned (.tuple #[.string v, .bool b]) ∧ Inv w0 w' :=
  (ropen_any s w hs).mono fun _ _ x => ⟨by rw [x.1, hv], h.step x.2⟩
end
end Go.Proofs.YtgnljpcnkmogfaaDoor
