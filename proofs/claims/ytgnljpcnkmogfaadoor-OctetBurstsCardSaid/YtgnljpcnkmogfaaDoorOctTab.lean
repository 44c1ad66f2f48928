/-
  The table of octet out of the row's list.
-/
import Derived.Test.YtgnljpcnkmogfaaDoorFrame
import Derived.Test.YtgnljpcnkmogfaaDoorOctInv
namespace Go.Proofs.YtgnljpcnkmogfaaDoor

theorem tab_of {W : World} (h : laidMetH Tryd.prog [("graftage/octet.halfSteps", Rows.laid_graftage_octet_halfSteps)] W) : Tab W := by
  intro i hi
  have hc := (half_tab h).cell Tryd.gHalf i (by simpa using hi)
  rw [hc]
  have e : ∀ i, i < 16 → ([0, 498536548, 997073096, 651767980, 1994146192, 1802195444, 1303535960, 1342533948, 3988292384, 4027552580, 3604390888, 3412177804, 2607071920, 2262029012, 2685067896, 3183342108] : List Int).getD i 0 = (tab i : Nat) := by decide +kernel
  rw [e i hi]
end Go.Proofs.YtgnljpcnkmogfaaDoor
