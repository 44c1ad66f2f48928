/-
  The walk of pad: the rest of a message, padded to whole blocks.
-/
import Derived.Test.YtalbphlmebhjoaaDoorMarkRow
import Derived.IntWalk
namespace Go.Proofs.YtalbphlmebhjoaaDoor
open Go.RowKit

/-- The eight bytes of a length. -/
def be8 (n : Nat) : List UInt8 := [UInt8.ofNat (n / 72057594037927936 % 256), UInt8.ofNat (n / 281474976710656 % 256), UInt8.ofNat (n / 1099511627776 % 256), UInt8.ofNat (n / 4294967296 % 256), UInt8.ofNat (n / 16777216 % 256), UInt8.ofNat (n / 65536 % 256), UInt8.ofNat (n / 256 % 256), UInt8.ofNat (n % 256)]
theorem be8_len (n : Nat) : (be8 n).length = 8 := rfl
def fill (l : List UInt8) (j : Nat) : List UInt8 := l ++ 128 :: List.replicate j 0
theorem fill_len (l : List UInt8) (j : Nat) : (fill l j).length = l.length + 1 + j := by simp [fill]; omega
theorem fill_next (l : List UInt8) (j : Nat) : fill l (j + 1) = fill l j ++ [0] := by simp [fill, List.replicate_succ']
/-- What stands at the end of a message of n bytes whose last bytes are l. -/
def padL (l : List UInt8) (n : Nat) : List UInt8 := fill l ((119 - l.length) % 64) ++ be8 (8 * n)
theorem ownM_eq {w : World} {base e n m : Nat} {v : Value} {xs ys : List Value} (h : OwnM w base e v n xs) (hn : n = m) (hx : xs = ys) : OwnM w base e v m ys := hx ▸ hn ▸ h
theorem ownM_slice {w : World} {base : Nat} {e : TypeId} {v : Value} {n : Nat} {xs : List Value} (h : OwnM w base e v n xs) : ∃ g cap, v = .slice (some ⟨g, 0, none⟩) n cap := by
  obtain ⟨_, g, cap, cur, fz, rfl, -⟩ := h
  exact ⟨g, cap, rfl⟩

def slLen (v : Value) : Nat := match v with | .slice _ n _ => n | _ => 0

set_option maxHeartbeats 1000000 in
set_option maxRecDepth 4000 in
theorem pad_any (s : ByteArray) (n : Nat) (w : World) (hs : s.size < 64) (hn : n ≤ 140737488355328) :
    Calls Tryd.prog 36 #[.string s, .int .i64 n] w fun e w' => e = .returned (.string (str (padL s.data.toList n))) ∧ Below w.heap.size w w' := by
  obtain ⟨i0, hi, hz0, hz1, hz2⟩ := info_parts Tryd.info5
  have hcv := run_bytes_of_string (P := Tryd.prog) w 9 45 5 s Tryd.underlying9 Tryd.underlying45 Tryd.underlying5
  have ho := OwnM.start w s 5 (grownCap_le_maxLen w s.size 0 5 (by unfold maxLen; omega))
  have hb0 : Below w.heap.size w (w.drew.alloc (.cells (bytesRow s (grownCap w s.size 0 5)) 5 ((bytesRow s (grownCap w s.size 0 5)).size, (bytesRow s (grownCap w s.size 0 5)).size + 1))) := ((Below.refl _ _).drew).alloc (Nat.le_refl _) _
  obtain ⟨cap, hcap⟩ : ∃ cap, cap = grownCap w s.size 0 5 := ⟨_, rfl⟩
  rw [← hcap] at hcv ho hb0
  obtain ⟨w1, hw1⟩ : ∃ w1, w1 = w.drew.alloc (.cells (bytesRow s cap) 5 ((bytesRow s cap).size, (bytesRow s cap).size + 1)) := ⟨_, rfl⟩
  rw [← hw1] at hcv ho hb0
  clear hcap hw1
  go_enter Tryd.func36, Tryd.ntmps36
  go_wp2_with (at_builtin; refine wpList_append_ownM rfl _ _ 45 rfl w.heap.size 5 i0 (.int .u8 0) Tryd.underlying45 hi hz0 hz1 hz2 (by decide) _ _ _ rfl (ho.alloc _) ⟨w1.heap.size, 0, none⟩ 1 (.int .u8 128) rfl (by simp [Addr.add_lit, World.cell?_alloc_new]) rfl (by omega) (by have := hb0.size; simp; omega) ?_)
  intro v1 w2 ho2 hg2
  have hb2 := ho.step hb0 hg2 (Nat.le_refl _) hb0.size
  clear hcv ho hg2 hb0
  go_wp2
  have hll := list_len s
  have ho3 : OwnM w2 w.heap.size 5 v1 (s.size + 1 + 0) (bcells (fill s.data.toList 0)) := ownM_eq ho2 (by omega) (by simp [fill, bcells])
  clear ho2
  go_loopw [5] (fun v wr => ∃ (j : Nat), j ≤ (119 - s.size) % 64 ∧ OwnM wr w.heap.size 5 v (s.size + 1 + j) (bcells (fill s.data.toList j)) ∧ Below w.heap.size w wr) (fun v _ => 200 - slLen v)
  case atStart => exact ⟨0, by omega, ho3, hb2⟩
  case round =>
    clear ho3 hb2
    obtain ⟨j, hj, ho, hb⟩ := hrel
    obtain ⟨q, hq⟩ : ∃ q, q = s.size + 1 + j := ⟨_, rfl⟩
    have HQ : Hid (q = s.size + 1 + j) := hq
    have q2 : q ≤ 200 := by omega
    rw [← hq] at ho
    obtain ⟨g, cap, rfl⟩ := ownM_slice ho
    by_cases hlt : q % 64 = 56
    · obtain rfl : j = (119 - s.size) % 64 := by omega
      obtain ⟨F, hF⟩ : ∃ F, F = fill s.data.toList ((119 - s.size) % 64) := ⟨_, rfl⟩
      rw [← hF] at ho
      have HF : Hid (F = fill s.data.toList ((119 - s.size) % 64)) := hF
      obtain ⟨N, hN⟩ : ∃ N, N = 8 * n := ⟨_, rfl⟩
      have HN : Hid (N = 8 * n) := hN
      have n1 : IntKind.u64.wrap (n : Int) = (n : Int) := IntWalk.u64_in _ (by omega)
      have n2 : IntKind.u64.wrap ((n : Int) * 8) = (N : Int) := by rw [IntWalk.u64_in _ (by omega)]; omega
      clear hF hq hN
      have q3 : (q : Int) % 64 = 56 := by omega
      go_wp2
      have ho4 : OwnM wr w.heap.size 5 (.slice (some ⟨g, 0, none⟩) q cap) (q + 0) (bcells (F ++ (be8 N).take 0)) := ownM_eq ho rfl (by simp)
      clear ho
      clear q3 hlt
      go_loopw [5, 22] (fun v i wr => ∃ (k : Nat), k ≤ 8 ∧ i = .int .i64 k ∧ OwnM wr w.heap.size 5 v (q + k) (bcells (F ++ (be8 N).take k)) ∧ Below w.heap.size w wr) (fun _ i _ => 8 - (intOf i).toNat)
      case atStart => exact ⟨0, by omega, rfl, ho4, hb⟩
      case round =>
        clear ho4 hb
        obtain ⟨k, hk, rfl, ho, hb⟩ := hrel
        rcases (by omega : k = 0 ∨ k = 1 ∨ k = 2 ∨ k = 3 ∨ k = 4 ∨ k = 5 ∨ k = 6 ∨ k = 7 ∨ k = 8) with rfl | rfl | rfl | rfl | rfl | rfl | rfl | rfl | rfl
        · have hy : (N : Int) / 72057594037927936 % 256 = ((UInt8.ofNat (N / 72057594037927936 % 256)).toNat : Int) := by rw [u8nat (Nat.mod_lt _ (by decide))]; rfl
          obtain ⟨y, hyy⟩ : ∃ y : UInt8, y = UInt8.ofNat (N / 72057594037927936 % 256) := ⟨_, rfl⟩
          rw [← hyy] at hy
          have HY : Hid (y = UInt8.ofNat (N / 72057594037927936 % 256)) := hyy
          clear hyy
          rw [show ((0 : Nat) : Int) = 0 from rfl]
          go_wp2_with (at_builtin; refine wpList_append_ownM rfl _ _ 45 rfl w.heap.size 5 i0 (.int .u8 0) Tryd.underlying45 hi hz0 hz1 hz2 (by decide) _ _ _ rfl (ho.alloc _) ⟨wr.heap.size, 0, none⟩ 1 (.int .u8 (y.toNat : Int)) rfl (by simp [Addr.add_lit, World.cell?_alloc_new]) rfl (by omega) (by have := hb.size; simp; omega) ?_)
          intro v3 w3 ho3 hg3
          have hb3 := ho.step hb hg3 (Nat.le_refl _) hb.size
          clear ho hg3
          go_wp2
          go_roundw
          case rel => exact ⟨1, by omega, rfl, ownM_eq ho3 rfl (by rw [HY.out]; simp [be8, bcells]), hb3⟩
          case measure => simp [intOf]
        · have hy : (N : Int) / 281474976710656 % 256 = ((UInt8.ofNat (N / 281474976710656 % 256)).toNat : Int) := by rw [u8nat (Nat.mod_lt _ (by decide))]; rfl
          obtain ⟨y, hyy⟩ : ∃ y : UInt8, y = UInt8.ofNat (N / 281474976710656 % 256) := ⟨_, rfl⟩
          rw [← hyy] at hy
          have HY : Hid (y = UInt8.ofNat (N / 281474976710656 % 256)) := hyy
          clear hyy
          rw [show ((1 : Nat) : Int) = 1 from rfl]
          go_wp2_with (at_builtin; refine wpList_append_ownM rfl _ _ 45 rfl w.heap.size 5 i0 (.int .u8 0) Tryd.underlying45 hi hz0 hz1 hz2 (by decide) _ _ _ rfl (ho.alloc _) ⟨wr.heap.size, 0, none⟩ 1 (.int .u8 (y.toNat : Int)) rfl (by simp [Addr.add_lit, World.cell?_alloc_new]) rfl (by omega) (by have := hb.size; simp; omega) ?_)
          intro v3 w3 ho3 hg3
          have hb3 := ho.step hb hg3 (Nat.le_refl _) hb.size
          clear ho hg3
          go_wp2
          go_roundw
          case rel => exact ⟨2, by omega, rfl, ownM_eq ho3 rfl (by rw [HY.out]; simp [be8, bcells]), hb3⟩
          case measure => simp [intOf]
        · have hy : (N : Int) / 1099511627776 % 256 = ((UInt8.ofNat (N / 1099511627776 % 256)).toNat : Int) := by rw [u8nat (Nat.mod_lt _ (by decide))]; rfl
          obtain ⟨y, hyy⟩ : ∃ y : UInt8, y = UInt8.ofNat (N / 1099511627776 % 256) := ⟨_, rfl⟩
          rw [← hyy] at hy
          have HY : Hid (y = UInt8.ofNat (N / 1099511627776 % 256)) := hyy
          clear hyy
          rw [show ((2 : Nat) : Int) = 2 from rfl]
          go_wp2_with (at_builtin; refine wpList_append_ownM rfl _ _ 45 rfl w.heap.size 5 i0 (.int .u8 0) Tryd.underlying45 hi hz0 hz1 hz2 (by decide) _ _ _ rfl (ho.alloc _) ⟨wr.heap.size, 0, none⟩ 1 (.int .u8 (y.toNat : Int)) rfl (by simp [Addr.add_lit, World.cell?_alloc_new]) rfl (by omega) (by have := hb.size; simp; omega) ?_)
          intro v3 w3 ho3 hg3
          have hb3 := ho.step hb hg3 (Nat.le_refl _) hb.size
          clear ho hg3
          go_wp2
          go_roundw
          case rel => exact ⟨3, by omega, rfl, ownM_eq ho3 rfl (by rw [HY.out]; simp [be8, bcells]), hb3⟩
          case measure => simp [intOf]
        · have hy : (N : Int) / 4294967296 % 256 = ((UInt8.ofNat (N / 4294967296 % 256)).toNat : Int) := by rw [u8nat (Nat.mod_lt _ (by decide))]; rfl
          obtain ⟨y, hyy⟩ : ∃ y : UInt8, y = UInt8.ofNat (N / 4294967296 % 256) := ⟨_, rfl⟩
          rw [← hyy] at hy
          have HY : Hid (y = UInt8.ofNat (N / 4294967296 % 256)) := hyy
          clear hyy
          rw [show ((3 : Nat) : Int) = 3 from rfl]
          go_wp2_with (at_builtin; refine wpList_append_ownM rfl _ _ 45 rfl w.heap.size 5 i0 (.int .u8 0) Tryd.underlying45 hi hz0 hz1 hz2 (by decide) _ _ _ rfl (ho.alloc _) ⟨wr.heap.size, 0, none⟩ 1 (.int .u8 (y.toNat : Int)) rfl (by simp [Addr.add_lit, World.cell?_alloc_new]) rfl (by omega) (by have := hb.size; simp; omega) ?_)
          intro v3 w3 ho3 hg3
          have hb3 := ho.step hb hg3 (Nat.le_refl _) hb.size
          clear ho hg3
          go_wp2
          go_roundw
          case rel => exact ⟨4, by omega, rfl, ownM_eq ho3 rfl (by rw [HY.out]; simp [be8, bcells]), hb3⟩
          case measure => simp [intOf]
        · have hy : (N : Int) / 16777216 % 256 = ((UInt8.ofNat (N / 16777216 % 256)).toNat : Int) := by rw [u8nat (Nat.mod_lt _ (by decide))]; rfl
          obtain ⟨y, hyy⟩ : ∃ y : UInt8, y = UInt8.ofNat (N / 16777216 % 256) := ⟨_, rfl⟩
          rw [← hyy] at hy
          have HY : Hid (y = UInt8.ofNat (N / 16777216 % 256)) := hyy
          clear hyy
          rw [show ((4 : Nat) : Int) = 4 from rfl]
          go_wp2_with (at_builtin; refine wpList_append_ownM rfl _ _ 45 rfl w.heap.size 5 i0 (.int .u8 0) Tryd.underlying45 hi hz0 hz1 hz2 (by decide) _ _ _ rfl (ho.alloc _) ⟨wr.heap.size, 0, none⟩ 1 (.int .u8 (y.toNat : Int)) rfl (by simp [Addr.add_lit, World.cell?_alloc_new]) rfl (by omega) (by have := hb.size; simp; omega) ?_)
          intro v3 w3 ho3 hg3
          have hb3 := ho.step hb hg3 (Nat.le_refl _) hb.size
          clear ho hg3
          go_wp2
          go_roundw
          case rel => exact ⟨5, by omega, rfl, ownM_eq ho3 rfl (by rw [HY.out]; simp [be8, bcells]), hb3⟩
          case measure => simp [intOf]
        · have hy : (N : Int) / 65536 % 256 = ((UInt8.ofNat (N / 65536 % 256)).toNat : Int) := by rw [u8nat (Nat.mod_lt _ (by decide))]; rfl
          obtain ⟨y, hyy⟩ : ∃ y : UInt8, y = UInt8.ofNat (N / 65536 % 256) := ⟨_, rfl⟩
          rw [← hyy] at hy
          have HY : Hid (y = UInt8.ofNat (N / 65536 % 256)) := hyy
          clear hyy
          rw [show ((5 : Nat) : Int) = 5 from rfl]
          go_wp2_with (at_builtin; refine wpList_append_ownM rfl _ _ 45 rfl w.heap.size 5 i0 (.int .u8 0) Tryd.underlying45 hi hz0 hz1 hz2 (by decide) _ _ _ rfl (ho.alloc _) ⟨wr.heap.size, 0, none⟩ 1 (.int .u8 (y.toNat : Int)) rfl (by simp [Addr.add_lit, World.cell?_alloc_new]) rfl (by omega) (by have := hb.size; simp; omega) ?_)
          intro v3 w3 ho3 hg3
          have hb3 := ho.step hb hg3 (Nat.le_refl _) hb.size
          clear ho hg3
          go_wp2
          go_roundw
          case rel => exact ⟨6, by omega, rfl, ownM_eq ho3 rfl (by rw [HY.out]; simp [be8, bcells]), hb3⟩
          case measure => simp [intOf]
        · have hy : (N : Int) / 256 % 256 = ((UInt8.ofNat (N / 256 % 256)).toNat : Int) := by rw [u8nat (Nat.mod_lt _ (by decide))]; rfl
          obtain ⟨y, hyy⟩ : ∃ y : UInt8, y = UInt8.ofNat (N / 256 % 256) := ⟨_, rfl⟩
          rw [← hyy] at hy
          have HY : Hid (y = UInt8.ofNat (N / 256 % 256)) := hyy
          clear hyy
          rw [show ((6 : Nat) : Int) = 6 from rfl]
          go_wp2_with (at_builtin; refine wpList_append_ownM rfl _ _ 45 rfl w.heap.size 5 i0 (.int .u8 0) Tryd.underlying45 hi hz0 hz1 hz2 (by decide) _ _ _ rfl (ho.alloc _) ⟨wr.heap.size, 0, none⟩ 1 (.int .u8 (y.toNat : Int)) rfl (by simp [Addr.add_lit, World.cell?_alloc_new]) rfl (by omega) (by have := hb.size; simp; omega) ?_)
          intro v3 w3 ho3 hg3
          have hb3 := ho.step hb hg3 (Nat.le_refl _) hb.size
          clear ho hg3
          go_wp2
          go_roundw
          case rel => exact ⟨7, by omega, rfl, ownM_eq ho3 rfl (by rw [HY.out]; simp [be8, bcells]), hb3⟩
          case measure => simp [intOf]
        · have hy : (N : Int) % 256 = ((UInt8.ofNat (N % 256)).toNat : Int) := by rw [u8nat (Nat.mod_lt _ (by decide))]; rfl
          obtain ⟨y, hyy⟩ : ∃ y : UInt8, y = UInt8.ofNat (N % 256) := ⟨_, rfl⟩
          rw [← hyy] at hy
          have HY : Hid (y = UInt8.ofNat (N % 256)) := hyy
          clear hyy
          rw [show ((7 : Nat) : Int) = 7 from rfl]
          go_wp2_with (at_builtin; refine wpList_append_ownM rfl _ _ 45 rfl w.heap.size 5 i0 (.int .u8 0) Tryd.underlying45 hi hz0 hz1 hz2 (by decide) _ _ _ rfl (ho.alloc _) ⟨wr.heap.size, 0, none⟩ 1 (.int .u8 (y.toNat : Int)) rfl (by simp [Addr.add_lit, World.cell?_alloc_new]) rfl (by omega) (by have := hb.size; simp; omega) ?_)
          intro v3 w3 ho3 hg3
          have hb3 := ho.step hb hg3 (Nat.le_refl _) hb.size
          clear ho hg3
          go_wp2
          go_roundw
          case rel => exact ⟨8, by omega, rfl, ownM_eq ho3 rfl (by rw [HY.out]; simp [be8, bcells]), hb3⟩
          case measure => simp [intOf]
        · rw [show ((8 : Nat) : Int) = 8 from rfl]
          have hcl := ho.conv (P := Tryd.prog) 45 9 5 Tryd.underlying45 Tryd.underlying5 Tryd.underlying9
          clear ho
          go_wp2
          go_ret
          exact ⟨ret_str (by rw [HF.out, HN.out, padL, hll, List.take_of_length_le (Nat.le_of_eq (be8_len _))]), hb⟩
    · have hj2 : j < (119 - s.size) % 64 := by omega
      clear hq
      go_wp2_with (at_builtin; refine wpList_append_ownM rfl _ _ 45 rfl w.heap.size 5 i0 (.int .u8 0) Tryd.underlying45 hi hz0 hz1 hz2 (by decide) _ _ _ rfl (ho.alloc _) ⟨wr.heap.size, 0, none⟩ 1 (.int .u8 0) rfl (by simp [Addr.add_lit, World.cell?_alloc_new]) rfl (by omega) (by have := hb.size; simp; omega) ?_)
      intro v3 w3 ho3 hg3
      have hb3 := ho.step hb hg3 (Nat.le_refl _) hb.size
      clear ho hg3
      obtain ⟨g3, cap3, rfl⟩ := ownM_slice ho3
      go_wp2
      go_roundw
      case rel => exact ⟨j + 1, by omega, ownM_eq ho3 (by rw [HQ.out]; omega) (by rw [fill_next, bcells_append]; rfl), hb3⟩
      case measure => have hh := HQ.out; simp [slLen]; omega
end Go.Proofs.YtalbphlmebhjoaaDoor
