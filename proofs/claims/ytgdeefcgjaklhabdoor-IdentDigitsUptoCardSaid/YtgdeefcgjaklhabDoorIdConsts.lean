/-
  The constants of the law package's own check.
-/
import Derived.Test.YtgdeefcgjaklhabDoorIdMac
import Derived.Test.YtgdeefcgjaklhabDoorIdShortPlain
import Derived.Test.YtgdeefcgjaklhabDoorIdRaw
namespace Go.Proofs.YtgdeefcgjaklhabDoor
open Go.RowKit

def lA : ByteArray := ⟨#[48, 48, 48, 48, 48, 48, 48, 49, 48, 48, 48, 48, 48, 48, 48, 48, 48, 48, 48, 48, 48, 48, 48, 48, 48, 48, 48, 48, 48, 48, 48, 48, 48, 48, 48, 48, 48, 48, 48, 48]⟩
def lB : ByteArray := ⟨#[48, 48, 48, 48, 48, 48, 48, 50, 48, 48, 48, 48, 48, 48, 48, 48, 48, 48, 48, 48, 48, 48, 48, 48, 48, 48, 48, 48, 48, 48, 48, 48, 48, 48, 48, 48, 48, 48, 48, 48]⟩
set_option maxRecDepth 100000 in
theorem lv_digest : hexL (shaC ⟨#[97, 98, 99]⟩) = [98, 97, 55, 56, 49, 54, 98, 102, 56, 102, 48, 49, 99, 102, 101, 97, 52, 49, 52, 49, 52, 48, 100, 101, 53, 100, 97, 101, 50, 50, 50, 51, 98, 48, 48, 51, 54, 49, 97, 51, 57, 54, 49, 55, 55, 97, 57, 99, 98, 52, 49, 48, 102, 102, 54, 49, 102, 50, 48, 48, 49, 53, 97, 100] := by decide +kernel
set_option maxRecDepth 100000 in
theorem lv_of : ofC ⟨#[]⟩ = [101, 51, 98, 48, 99, 52, 52, 50, 57, 56, 102, 99, 49, 99, 49, 52, 57, 97, 102, 98, 102, 52, 99, 56, 57, 57, 54, 102, 98, 57, 50, 52, 50, 55, 97, 101, 52, 49, 101, 52] := by decide +kernel
set_option maxRecDepth 100000 in
theorem lv_mac : macC ⟨#[107, 101, 121]⟩ ⟨#[84, 104, 101, 32, 113, 117, 105, 99, 107, 32, 98, 114, 111, 119, 110, 32, 102, 111, 120, 32, 106, 117, 109, 112, 115, 32, 111, 118, 101, 114, 32, 116, 104, 101, 32, 108, 97, 122, 121, 32, 100, 111, 103]⟩ = [102, 55, 98, 99, 56, 51, 102, 52, 51, 48, 53, 51, 56, 52, 50, 52, 98, 49, 51, 50, 57, 56, 101, 54, 97, 97, 54, 102, 98, 49, 52, 51, 101, 102, 52, 100, 53, 57, 97, 49, 52, 57, 52, 54, 49, 55, 53, 57, 57, 55, 52, 55, 57, 100, 98, 99, 50, 100, 49, 97, 51, 99, 100, 56] := by decide +kernel
theorem lv_isA : isId lA = true := by decide +kernel
theorem lv_isB : isId lB = true := by decide +kernel
theorem lv_isN : isId ⟨#[97, 98, 99]⟩ = false := by decide +kernel
theorem lv_raw : str (rawL lA.data.toList 20) = ⟨#[0, 0, 0, 1, 0, 0, 0, 0, 0, 0, 0, 0, 0, 0, 0, 0, 0, 0, 0, 0]⟩ := by decide +kernel
theorem lv_short : shortS [lA, lB] lA = ⟨#[48, 48, 48, 48, 48, 48, 48, 49]⟩ := by
  rw [shortS_yes lv_isA, keptL_cons, keptL_cons, show stepK lA 7 lA = 7 by rw [stepK, if_neg (by simp)],
    show stepK lA 7 lB = 8 by rw [stepK, if_pos ⟨by decide +kernel, lv_isB⟩, show lcp lA.data.toList lB.data.toList = 7 by decide +kernel]; rfl]
  decide +kernel
theorem lv_em : (⟨#[]⟩ : ByteArray).toList.isEmpty = true := by rw [ByteArray.toList_eq]; rfl
theorem lv_find : findS ⟨#[48, 48, 48, 48, 48, 48, 48, 50]⟩ [lA, lB] = (lB, 0) := by
  rw [findS_ok (by decide +kernel), findL_skip (.inl (by decide +kernel)), findL_one (by decide +kernel) (by decide +kernel) lv_em, findL_end (by rw [ByteArray.toList_eq]; rfl)]
theorem lv_find2 : findS ⟨#[48, 48, 48, 48]⟩ [lA, lB] = (⟨#[]⟩, 401) := by
  rw [findS_ok (by decide +kernel), findL_one (by decide +kernel) (by decide +kernel) lv_em, findL_two (by decide +kernel) (by decide +kernel) (by rw [ByteArray.toList_eq]; rfl)]
end Go.Proofs.YtgdeefcgjaklhabDoor
