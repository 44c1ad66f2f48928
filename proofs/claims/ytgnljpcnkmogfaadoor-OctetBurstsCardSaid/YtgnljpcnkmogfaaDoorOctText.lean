/-
  The walks of Text and Word, and of the reference's.
-/
import Derived.Test.YtgnljpcnkmogfaaDoorOctRPut
namespace Go.Proofs.YtgnljpcnkmogfaaDoor
open Go.RowKit

/-- A length-prefixed string. -/
def lp (s : ByteArray) : ByteArray := str (digs s.size) ++ s

theorem text_sz {b s : ByteArray} (hs : s.size ≤ 281474976710656) (hb : b.size ≤ 1125899906842624) : (b ++ str (digs s.size)).size + s.size ≤ 9223372036854775807 := by
  have := digs_len64 (n := s.size) (by omega)
  rw [ByteArray.size_append, str_size]; omega

set_option maxHeartbeats 400000 in
set_option maxRecDepth 4000 in
theorem text_any (b s : ByteArray) (w : World) (hs : s.size ≤ 281474976710656) (hb : b.size ≤ 1125899906842624) :
    Calls Tryd.prog 19 #[.string b, .string s] w fun e w' => e = .returned (.string (b ++ lp s)) ∧ Below w.heap.size w w' := by
  have hsz := text_sz hs hb
  go_enter Tryd.func19, Tryd.ntmps19
  go_wp2_with (go_at_call 18; refine (put_any _ _ _ (by omega) (by omega)).mono ?_; rintro e w' ⟨rfl, hb1⟩)
  go_ret
  exact ⟨ret_str (by rw [lp, ByteArray.append_assoc]), ‹_›⟩

set_option maxHeartbeats 400000 in
set_option maxRecDepth 4000 in
theorem rtext_any (b s : ByteArray) (w : World) (hs : s.size ≤ 281474976710656) (hb : b.size ≤ 1125899906842624) :
    Calls Tryd.prog 23 #[.string b, .string s] w fun e w' => e = .returned (.string (b ++ lp s)) ∧ Below w.heap.size w w' := by
  have hsz := text_sz hs hb
  go_enter Tryd.func23, Tryd.ntmps23
  go_wp2_with (go_at_call 21; refine (rput_any _ _ _ (by omega) (by omega)).mono ?_; rintro e w' ⟨rfl, hb1⟩)
  go_ret
  exact ⟨ret_str (by rw [lp, ByteArray.append_assoc]), ‹_›⟩
end Go.Proofs.YtgnljpcnkmogfaaDoor
