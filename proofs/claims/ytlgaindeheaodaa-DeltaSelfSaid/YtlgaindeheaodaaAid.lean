/-
  Small facts that the walks of this seat use: what a slice of bytes of the call's own becomes as a string.
-/
import Derived.Test.YtlgaindeheaodaaRows
import Derived.WalkKit
import Derived.WalkSpells
import Derived.WalkLawsBesides
import Derived.Lib.Strings
namespace Go.Proofs.Ytlgaindeheaodaa
open Go.RowKit

/-- The bytes of a list as cells. -/
def bcells (l : List UInt8) : List Value := l.map fun b => Value.int .u8 (b.toNat : Int)

theorem bcells_len (l : List UInt8) : (bcells l).length = l.length := by simp [bcells]
theorem bcells_append (l m : List UInt8) : bcells (l ++ m) = bcells l ++ bcells m := by simp [bcells]
theorem bcells_one (l : List UInt8) : ∀ u ∈ bcells l, u.oneCell' = true := by
  intro u hu; simp only [bcells, List.mem_map] at hu; obtain ⟨b, _, rfl⟩ := hu; rfl

/-- A string of the bytes of a list. -/
def str (l : List UInt8) : ByteArray := ⟨l.toArray⟩

theorem str_size (l : List UInt8) : (str l).size = l.length := by simp [str, ByteArray.size]
theorem str_append (l m : List UInt8) : str l ++ str m = str (l ++ m) := by
  apply ByteArray.ext; simp [str, ByteArray.data_append]

/-- 'string(b)', b a slice that the call owns. -/
theorem conv_owned {P : Program} {w : World} {base n : Nat} {v : Value} {l : List UInt8} (src dst e : TypeId) (hs : P.underlying src = some (.slice e)) (he : P.underlying e = some (.int .u8)) (hd : P.underlying dst = some .string)
    (hown : w.ownsRow base e 1 v n (bcells l)) : (convert src dst v).run P w = .ok (.string (str l)) w := by
  have hl : l.length = n := by simpa [bcells] using hown.1
  rcases hown.2 with ⟨rfl, rfl⟩ | ⟨g, cap, cur, rfl, _, hg, _, _, _, _⟩
  · obtain rfl : l = [] := List.eq_nil_of_length_eq_zero hl
    have := run_convert_bytes_back (P := P) w src dst e ⟨0, 0, none⟩ 0 [] hs he hd (by intro j hj; simp at hj)
    rw [run_convert_bytes_string w src dst e _ _ _ hs he hd] at this ⊢
    unfold Conv.bytesToString at this ⊢
    simpa [str, loadCells, loadCellsFrom] using this
  · subst hl
    refine run_convert_bytes_back (P := P) w src dst e ⟨g, 0, none⟩ cap l hs he hd fun j hj => ?_
    have hne := hown.cells (g := g) rfl j (.int .u8 (l[j].toNat : Int)) (by simp [bcells, List.getElem?_map, List.getElem?_eq_getElem hj])
    exact hne

/-- Behind an append onto a row of the call's own (what is appended lies in a new block). -/
theorem app_step {B base : Nat} {w wr w2 : World} {e size n : Nat} {v : Value} {xs : List Value} {o : Obj} (hbel : Below B w wr) (hown : wr.ownsRow base e size v n xs) (hg : (wr.alloc o).grownBy w2 v.ownBlock)
    (hB : B ≤ base) (hs : B ≤ wr.heap.size) : Below B w w2 :=
  (hbel.alloc hs o).grown hg (by simp; omega) (fun k hk => by have := (hown.lt k hk).1; omega)

/-- The same, nothing being laid ahead of the append. -/
theorem app_step0 {B base : Nat} {w wr w2 : World} {e size n : Nat} {v : Value} {xs : List Value} (hbel : Below B w wr) (hown : wr.ownsRow base e size v n xs) (hg : wr.grownBy w2 v.ownBlock)
    (hB : B ≤ base) (hs : B ≤ wr.heap.size) : Below B w w2 :=
  hbel.grown hg hs (fun k hk => by have := (hown.lt k hk).1; omega)

/-- The one new cell that an append of one element reads. -/
theorem new_cell (wr : World) (x : Value) (t : TypeId) (j : Nat) (u : Value) (hj : [x][j]? = some u) : (wr.alloc (.cells #[x] t)).cell? ((⟨wr.heap.size, 0, none⟩ : Addr).add j) = some u := by
  match j, hj with
  | 0, hj => simp at hj; subst hj; simp [Addr.add]

/-- 'string(b)', b a row that has just been laid. -/
theorem conv_new {P : Program} (w : World) (l : List UInt8) (src dst e t : TypeId) (c : Nat) (hs : P.underlying src = some (.slice e)) (he : P.underlying e = some (.int .u8)) (hd : P.underlying dst = some .string) :
    (convert src dst (.slice (some ⟨w.heap.size, 0, none⟩) l.length c)).run P (w.alloc (.cells (bcells l).toArray t)) = .ok (.string (str l)) (w.alloc (.cells (bcells l).toArray t)) :=
  run_convert_bytes_back (P := P) _ src dst e ⟨w.heap.size, 0, none⟩ c l hs he hd fun j hj => by
    rw [Addr.add_lit, Nat.zero_add, World.cell?_alloc_mark]
    simp [bcells, List.getElem?_map, List.getElem?_eq_getElem hj]

/-- 'string([]byte{x})'. -/
theorem conv_one {P : Program} (w : World) (x : Int) (n : Nat) (hx : x = (n : Int)) (hn : n < 256) (src dst e t : TypeId) (c : Nat) (hs : P.underlying src = some (.slice e)) (he : P.underlying e = some (.int .u8)) (hd : P.underlying dst = some .string) :
    (convert src dst (.slice (some ⟨w.heap.size, 0, none⟩) 1 c)).run P (w.alloc (.cells #[.int .u8 x] t)) = .ok (.string (str [UInt8.ofNat n])) (w.alloc (.cells #[.int .u8 x] t)) := by
  have h := conv_new (P := P) w [UInt8.ofNat n] src dst e t c hs he hd
  have e1 : (bcells [UInt8.ofNat n]).toArray = #[Value.int .u8 x] := by
    have : (UInt8.ofNat n).toNat = n := by simp; omega
    simp [bcells, this, hx]
  rw [e1] at h
  exact h
theorem str_nil (b : ByteArray) : b = b ++ str [] := by apply ByteArray.ext; simp [str, ByteArray.data_append]
theorem str_snoc (b : ByteArray) (l m : List UInt8) : b ++ str l ++ str m = b ++ str (l ++ m) := by rw [ByteArray.append_assoc, str_append]
theorem ret_str {a b : ByteArray} (h : a = b) : Ending.returned (.string a) = .returned (.string b) := by rw [h]
theorem ret_int {k : IntKind} {a b : Int} (h : a = b) : Ending.returned (.int k a) = .returned (.int k b) := by rw [h]
theorem ret_bool {a b : Bool} (h : a = b) : Ending.returned (.bool a) = .returned (.bool b) := by rw [h]

/-- 'string(b)', b a row that has just been laid, its cells as the walk spells them. -/
theorem conv_cells {P : Program} (w : World) (C : Array Value) (m : Nat) (l : List UInt8) (hC : C = (bcells l).toArray) (hm : m = l.length) (src dst e t : TypeId) (c : Nat) (hs : P.underlying src = some (.slice e)) (he : P.underlying e = some (.int .u8)) (hd : P.underlying dst = some .string) :
    (convert src dst (.slice (some ⟨w.heap.size, 0, none⟩) m c)).run P (w.alloc (.cells C t)) = .ok (.string (str l)) (w.alloc (.cells C t)) := by
  subst hC hm
  exact conv_new w l src dst e t c hs he hd
theorem u8nat {n : Nat} (h : n < 256) : ((UInt8.ofNat n).toNat : Int) = (n : Int) := by simp; omega
theorem owns_eq {w : World} {base e size n : Nat} {v : Value} {xs ys : List Value} (h : w.ownsRow base e size v n xs) (hx : xs = ys) : w.ownsRow base e size v n ys := hx ▸ h
theorem list_len (s : ByteArray) : s.data.toList.length = s.size := by simp
theorem take_snoc (s : ByteArray) (k : Nat) (h : k < s.size) : s.data.toList.take (k + 1) = s.data.toList.take k ++ [s[k]] := by
  rw [List.take_succ_eq_append_getElem (by simpa using h)]; rfl
theorem take_all (s : ByteArray) : s.data.toList.take s.size = s.data.toList := List.take_of_length_le (by simp)
theorem ba_ext {a b : ByteArray} (h : a.data.toList = b.data.toList) : a = b := ByteArray.ext (Array.toList_inj.1 h)
theorem ba_ne {a b : ByteArray} (h : a ≠ b) : (a.toList == b.toList) = false := by
  rw [ByteArray.toList_eq, ByteArray.toList_eq]
  simp only [beq_eq_false_iff_ne, ne_eq]
  exact fun e => h (ba_ext e)
theorem str_list (l : List UInt8) : (str l).data.toList = l := rfl
theorem app_list (a b : ByteArray) : (a ++ b).data.toList = a.data.toList ++ b.data.toList := by simp [ByteArray.data_append]
theorem drop_byte (s : ByteArray) (i : Nat) (h : i < s.size) : s.data.toList.drop i = s[i] :: s.data.toList.drop (i + 1) := by
  have h1 : i < s.data.toList.length := by simpa using h
  rw [List.drop_eq_getElem_cons h1]
  rfl
theorem drop_none (s : ByteArray) (i : Nat) (h : s.size ≤ i) : s.data.toList.drop i = [] := List.drop_eq_nil_of_le (by simpa using h)
theorem val_int {k : IntKind} {a b : Int} (h : a = b) : Value.int k a = Value.int k b := by rw [h]
theorem ret_iii {k1 k2 k3 : IntKind} {a1 a2 a3 b1 b2 b3 : Int} (h1 : a1 = b1) (h2 : a2 = b2) (h3 : a3 = b3) :
    Ending.returned (.tuple #[.int k1 a1, .int k2 a2, .int k3 a3]) = .returned (.tuple #[.int k1 b1, .int k2 b2, .int k3 b3]) := by rw [h1, h2, h3]
theorem ret_sii {k2 k3 : IntKind} {a1 b1 : ByteArray} {a2 a3 b2 b3 : Int} (h1 : a1 = b1) (h2 : a2 = b2) (h3 : a3 = b3) :
    Ending.returned (.tuple #[.string a1, .int k2 a2, .int k3 a3]) = .returned (.tuple #[.string b1, .int k2 b2, .int k3 b3]) := by rw [h1, h2, h3]
theorem getD_byte (s : ByteArray) (i : Nat) (h : i < s.size) : s.data.toList.getD i 0 = s[i] := by
  rw [List.getD_eq_getElem?_getD, List.getElem?_eq_getElem (by rw [list_len]; exact h)]
  rfl
theorem Try.info5 : (Try.prog.info? 5).map (fun i => (i.zero, i.size, i.bytes)) = some (some (.int .u8 0), 1, 1) := by kernel_rfl
end Go.Proofs.Ytlgaindeheaodaa
