/-
  The hash over the whole padded message.
-/
import Derived.Test.YtalbphlmebhjoaaDoorShaDigest
namespace Go.Proofs.YtalbphlmebhjoaaDoor
open Go.RowKit

theorem words16_congr {l l' : List UInt8} {i i' : Nat} (h : ∀ t, t < 64 → l.getD (i + t) 0 = l'.getD (i' + t) 0) : words16 l i = words16 l' i' := by
  unfold words16
  apply List.map_congr_left
  intro t ht
  rw [List.mem_range] at ht
  unfold word4
  have h0 := h (4 * t) (by omega)
  have h1 := h (4 * t + 1) (by omega)
  have h2 := h (4 * t + 2) (by omega)
  have h3 := h (4 * t + 3) (by omega)
  simp only [← Nat.add_assoc] at h1 h2 h3
  rw [h0, h1, h2, h3]
theorem blocks_congr {l l' : List UInt8} (v : St) (n : Nat) (h : ∀ t, t < 64 * n → l.getD t 0 = l'.getD t 0) : blocks v l n = blocks v l' n := by
  induction n with
  | zero => rfl
  | succ n ih =>
    rw [blocks, blocks, ih (fun t ht => h t (by omega)), oneBlock, oneBlock, words16_congr (fun t ht => h (64 * n + t) (by omega))]
theorem blocks_add (v : St) (l : List UInt8) (q m : Nat) : blocks v l (q + m) = blocks (blocks v l q) (l.drop (64 * q)) m := by
  induction m with
  | zero => rfl
  | succ m ih =>
    have e : words16 l (64 * (q + m)) = words16 (l.drop (64 * q)) (64 * m) := words16_congr (fun t _ => by
      rw [List.getD_eq_getElem?_getD, List.getD_eq_getElem?_getD, List.getElem?_drop, show 64 * (q + m) + t = 64 * q + (64 * m + t) by omega])
    rw [← Nat.add_assoc, blocks, blocks, ih, oneBlock, oneBlock, e]

/-- What is put behind a message of n bytes. -/
def tailL (n : Nat) : List UInt8 := 128 :: List.replicate ((119 - n % 64) % 64) 0 ++ be8 (8 * n)
theorem tailL_len (n : Nat) : (tailL n).length = 1 + (119 - n % 64) % 64 + 8 := by simp [tailL, be8_len]; omega
theorem padL_tail (l : List UInt8) (n : Nat) (h : l.length = n % 64) : padL l n = l ++ tailL n := by
  simp [padL, fill, tailL, h]
theorem shaC_eq (s : ByteArray) : shaC s = stB (blocks st0 (s.data.toList ++ tailL s.size) ((s.size + (tailL s.size).length) / 64)) := by
  obtain ⟨q, hq⟩ : ∃ q, q = s.size / 64 := ⟨_, rfl⟩
  have hx : (s.extract (64 * q) s.size).data.toList = s.data.toList.drop (64 * q) := by
    rw [Lib.extract_data, List.take_of_length_le (by simp)]
  have hy : (s.extract 0 (64 * q)).data.toList = s.data.toList.take (64 * q) := by
    rw [Lib.extract_data]; simp
  have hl : (s.data.toList.drop (64 * q)).length = s.size % 64 := by rw [List.length_drop, list_len]; omega
  have hn : (s.size + (tailL s.size).length) / 64 = q + padN (s.data.toList.drop (64 * q)) := by
    rw [tailL_len, padN, hl]
    split <;> omega
  rw [shaC, ← hq, hx, hy, hn, blocks_add, padL_tail _ _ hl, List.drop_append_of_le_length (by rw [list_len]; omega)]
  congr 2
  apply blocks_congr
  intro t ht
  rw [List.getD_eq_getElem?_getD, List.getD_eq_getElem?_getD, List.getElem?_take_of_lt ht, List.getElem?_append_left (by rw [list_len]; omega)]
end Go.Proofs.YtalbphlmebhjoaaDoor
