/-
  The walks of matchSize and longestMatch.
-/
import Derived.Test.YtlgaindeheaodaaOwn
import Derived.Test.YtlgaindeheaodaaSqPlain
import Derived.IntWalk
import Derived.BigQuiet
import Derived.Deep.QuietTactic
namespace Go.Proofs.Ytlgaindeheaodaa
open Go.RowKit

theorem mrun_at (s : ByteArray) (f a m : Nat) (hf : f < s.size) (ha : a < s.size) : mrun s.data.toList f a (m + 1) = if s[f] = s[a] then mrun s.data.toList (f + 1) (a + 1) m + 1 else 0 := by
  rw [mrun, getD_at s f hf, getD_at s a ha]

/-- The row of the chain. -/
def LRow (w : World) (B : Nat) (l : List UInt8) : Prop := ∀ i, i + 4 ≤ l.length → w.cell? ⟨B, i, none⟩ = some (.int .i64 (lk l i))
theorem LRow.drewN {w : World} {B : Nat} {l : List UInt8} (h : LRow w B l) (n : Nat) : LRow (w.drewN n) B l := fun i hi => h i hi
theorem LRow.below {w w' : World} {B X : Nat} {l : List UInt8} (h : LRow w B l) (hb : Below X w w') (hB : B < X) : LRow w' B l := fun i hi => (hb.cell (p := ⟨B, i, none⟩) hB).trans (h i hi)

theorem ret_ii {k1 k2 : IntKind} {a1 a2 b1 b2 : Int} (h1 : a1 = b1) (h2 : a2 = b2) :
    Ending.returned (.tuple #[.int k1 a1, .int k2 a2]) = .returned (.tuple #[.int k1 b1, .int k2 b2]) := by rw [h1, h2]
theorem lk_lt (l : List UInt8) (g : Nat) : -1 ≤ lk l g ∧ lk l g < (g : Int) := by
  rcases down_cases (fun j => same4 l j g) g with ⟨h1, _⟩ | ⟨f, h1, h2, _⟩
  · have : lk l g = -1 := h1
    omega
  · have : lk l g = (f : Int) := h1
    omega

end Go.Proofs.Ytlgaindeheaodaa
