/-
  A region that draws its order, walked once in the text's order: its operations and its callees may make memory, if all of them leave a world of one class and each yields one value in every world of the class.
-/
import Derived.Test.YtgnljpcnkmogfaaDoorOctInv
import Derived.BigQuiet
import Derived.Deep.QuietTactic
namespace Go.Proofs.YtgnljpcnkmogfaaDoor
open Go.RowKit

/-- A world of the class. -/
structure InvW (w0 : World) where
  w : World
  h : Inv w0 w

theorem wp_region_class {P : Program} {id : Nat} {Q : Exit → Act → World → Prop} {a : Act} {w w0 : World} {l : List Oper} (hi : Inv w0 w) (hm : P.follows .mixedOrders = true) (hB : Region.lexB .any l.toArray = true)
    (h : wpQuiet P l.toArray (fun w' => ∃ x : InvW w0, w' = x.w) (fun a' => ∀ w', (∃ x : InvW w0, w' = x.w) → Q .normal a' w') l a) : (Code.region id l.toArray true).wp P Q a w :=
  wp_region_quiet (C := fun w' => ∃ x : InvW w0, w' = x.w) hm hB ⟨⟨w.drew, hi.drew⟩, rfl⟩ (by simpa using h)

theorem Calls.inv_class {P : Program} {f : FuncId} {args : Array Value} {w0 : World} {x : InvW w0} {v : Value} (h : Calls P f args x.w fun e w' => e = .returned v ∧ Inv w0 w') :
    Calls P f args x.w fun e w'' => e = .returned v ∧ ∃ y : InvW w0, w'' = y.w :=
  h.mono fun _ w' ⟨he, hw⟩ => ⟨he, ⟨w', hw⟩, rfl⟩

section
variable {w0 : World} (x : InvW w0)
theorem put_class (b : ByteArray) (n : Nat) (r : ByteArray) (hn : n < 18446744073709551616) (hb : b.size ≤ 4611686018427387904) (hr : b ++ str (digs n) = r) :
    Calls Tryd.prog 18 #[.string b, .int .u64 n] x.w fun e w'' => e = .returned (.string r) ∧ ∃ y : InvW w0, w'' = y.w := by
  subst hr; exact Calls.inv_class (put_inv x.h b n hn hb)
theorem text_class (b s r : ByteArray) (hs : s.size ≤ 281474976710656) (hb : b.size ≤ 1125899906842624) (hr : b ++ lp s = r) :
    Calls Tryd.prog 19 #[.string b, .string s] x.w fun e w'' => e = .returned (.string r) ∧ ∃ y : InvW w0, w'' = y.w := by
  subst hr; exact Calls.inv_class (text_inv x.h b s hs hb)
theorem word_class (b : ByteArray) (n : Nat) (r : ByteArray) (hn : n < 4294967296) (hb : b.size ≤ 2251799813685248) (hr : b ++ str (wbytes n) = r) :
    Calls Tryd.prog 20 #[.string b, .int .u32 n] x.w fun e w'' => e = .returned (.string r) ∧ ∃ y : InvW w0, w'' = y.w := by
  subst hr; exact Calls.inv_class (word_inv x.h b n hn hb)
end
end Go.Proofs.YtgnljpcnkmogfaaDoor
