/-
  Plain: the four bytes of a word.
-/
import Derived.Test.YtalbphlmebhjoaaDoorAid
namespace Go.Proofs.YtalbphlmebhjoaaDoor
open Go.RowKit

/-- The four bytes of a word. -/
def wbytes (n : Nat) : List UInt8 := [UInt8.ofNat (n / 16777216), UInt8.ofNat (n / 65536 % 256), UInt8.ofNat (n / 256 % 256), UInt8.ofNat (n % 256)]
theorem wbytes_len (n : Nat) : (wbytes n).length = 4 := rfl

theorem wcells {n : Nat} (hn : n < 4294967296) : #[Value.int .u8 ((n : Int) / 16777216), .int .u8 ((n : Int) / 65536 % 256), .int .u8 ((n : Int) / 256 % 256), .int .u8 ((n : Int) % 256)] = (bcells (wbytes n)).toArray := by
  simp only [bcells, wbytes, List.map_cons, List.map_nil]
  rw [u8nat (by omega), u8nat (by omega), u8nat (by omega), u8nat (by omega)]
  rfl

end Go.Proofs.YtalbphlmebhjoaaDoor
