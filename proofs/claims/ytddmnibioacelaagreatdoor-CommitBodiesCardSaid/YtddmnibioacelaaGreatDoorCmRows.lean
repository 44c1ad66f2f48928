/-
  The tables of commit's laws out of their rows' lists; a world that holds them; commits, tags and persons that are handed in.
-/
import Derived.Test.YtddmnibioacelaaGreatDoorLawPostPk
import Derived.Test.YtddmnibioacelaaGreatDoorCmLnk2
import Derived.Stop.LaidErr
import Derived.Lib.LaidTab
import Derived.Lib.SmallJoins
import Derived.Deep.Slices
namespace Go.Proofs.YtddmnibioacelaaGreatDoor
open Go.ChangeShapes Go.WideShapes Go.ChangeAt Go.RowKit
open Go.WideMaps Go.WideElems

theorem Tryz.gWords : Tryz.prog.globalNamed "graftage/object.words" = some 0 := by kernel_rfl
theorem Tryz.gWordsType : (Tryz.prog.globals[0]?).map (·.type) = some 93 := by kernel_rfl
theorem Tryz.cellsWords : Tryz.prog.cellsOf 93 = 5 := by kernel_rfl
theorem Tryz.cellsStr : Tryz.prog.cellsOf 9 = 1 := by kernel_rfl
theorem Tryz.gPow : Tryz.prog.globalNamed "internal/strconv.uint64pow10" = some 4 := by kernel_rfl
theorem Tryz.gPowType : (Tryz.prog.globals[4]?).map (·.type) = some 149 := by kernel_rfl
theorem Tryz.cellsPow : Tryz.prog.cellsOf 149 = 20 := by kernel_rfl
theorem Tryz.cellsU64 : Tryz.prog.cellsOf 131 = 1 := by kernel_rfl
theorem Tryz.gErr : Tryz.prog.globalNamed "strconv.ErrSyntax" = some 2 := by kernel_rfl
theorem Tryz.gErrType : (Tryz.prog.globals[2]?).map (·.type) = some 96 := by kernel_rfl
theorem Tryz.cellsErrStr : Tryz.prog.cellsOf 160 = 1 := by kernel_rfl
theorem Tryz.star : "*" ++ "errors.errorString" = "*errors.errorString" := by decide
theorem Tryz.rowErr (u : TypeId) (h : Tryz.prog.typeName? 3 u = some "*errors.errorString") : u = 158 :=
  typeName_ptr_named (nm := "errors.errorString") (by rw [Tryz.star]; kernel_rfl) (by kernel_rfl) (by decide) u (by rw [Tryz.star]; exact h)
theorem words_of {W : World} {r : List (String × DataW Unit)} (h : laidMet Tryz.prog (("graftage/object.words", Rows.laid_graftage_object_words) :: r) W) : WoTab W := by
  obtain ⟨ps, ⟨g', t', cs, fuel, p, q, hg', ht', hvar, hd, _, _⟩, _⟩ := h
  obtain rfl := Option.some.inj (Tryz.gWords.symm.trans hg')
  obtain rfl := Option.some.inj (Tryz.gWordsType.symm.trans ht')
  have hc := cells_of_strs (zs := [[], [98, 108, 111, 98], [116, 114, 101, 101], [99, 111, 109, 109, 105, 116], [116, 97, 103]]) Tryz.underlying93 Tryz.underlying9 Tryz.cellsStr Tryz.cellsWords hd
  have hcell : ∀ i, W.cell? ⟨0, i, none⟩ = cs.toList[i]? := fun i => by
    have := World.var?_cell Tryz.gWords hvar i
    rw [this]
    simp
  exact ⟨by rw [hcell, hc]; rfl, by rw [hcell, hc]; rfl, by rw [hcell, hc]; rfl, by rw [hcell, hc]; rfl, by rw [hcell, hc]; rfl⟩
theorem pow_of {W : World} {r : List (String × DataW Unit)} (h : laidMet Tryz.prog (("internal/strconv.uint64pow10", Rows.laid_internal_strconv_uint64pow10) :: r) W) : Lib.TabIs Tryz.prog W "internal/strconv.uint64pow10" .u64 Lib.pow10Tab :=
  Lib.tabIs_of_head Tryz.gPow Tryz.gPowType Tryz.underlying149 Tryz.underlying131 Tryz.cellsU64 Tryz.cellsPow h
theorem err_of {W : World} {r : List (String × DataW Unit)} (h : laidMet Tryz.prog (("strconv.ErrSyntax", Rows.laid_strconv_ErrSyntax) :: r) W) : ∃ te pe, W.cell? ⟨2, 0, none⟩ = some (.iface te pe) := by
  obtain ⟨a0, s0, hv0, -, -, -⟩ := laid_sentinel h Tryz.gErr Tryz.gErrType Tryz.underlying96 Tryz.rowErr Tryz.underlying158 Tryz.underlying160 rfl rfl Tryz.underlying9 Tryz.cellsErrStr Tryz.cellsStr
  have h0 := World.var?_cell Tryz.gErr hv0 0
  exact ⟨_, _, by simpa using h0⟩
theorem Tryz.gModes : Tryz.prog.globalNamed "graftage/tree.modeWords" = some 5 := by kernel_rfl
theorem Tryz.gModesType : (Tryz.prog.globals[5]?).map (·.type) = some 93 := by kernel_rfl
theorem Tryz.cellsModes : Tryz.prog.cellsOf 93 = 5 := by kernel_rfl
theorem modes_of {W : World} {r : List (String × DataW Unit)} (h : laidMet Tryz.prog (("graftage/tree.modeWords", Rows.laid_graftage_tree_modeWords) :: r) W) : ∀ q : Nat, q < 5 → W.cell? ⟨5, q, none⟩ = some (.string (str (wordM q))) := by
  obtain ⟨ps, ⟨g', t', cs, fuel, p, q, hg', ht', hvar, hd, _, _⟩, _⟩ := h
  obtain rfl := Option.some.inj (Tryz.gModes.symm.trans hg')
  obtain rfl := Option.some.inj (Tryz.gModesType.symm.trans ht')
  have hc := cells_of_strs (zs := [[], wordM 1, wordM 2, wordM 3, wordM 4]) Tryz.underlying93 Tryz.underlying9 Tryz.cellsStr Tryz.cellsModes hd
  have hcell : ∀ i, W.cell? ⟨5, i, none⟩ = cs.toList[i]? := fun i => by
    have := World.var?_cell Tryz.gModes hvar i
    rw [this]
    simp
  intro q hq
  rw [hcell, hc]
  have : q = 0 ∨ q = 1 ∨ q = 2 ∨ q = 3 ∨ q = 4 := by omega
  rcases this with rfl | rfl | rfl | rfl | rfl <;> rfl
/-- What commit's laws read. -/
structure CmTab (w : World) : Prop where
  s : StrTab w
  o : WoTab w
  t : TrTab w
theorem cmtab_of {W : World} (h : laidMetH Tryz.prog Rows.commitNamesRow.laid W) (hsh : W.ShapedOpen Tryz.prog) : CmTab W := by
  have h0 : laidMet Tryz.prog [("math/bits.deBruijn32tab", Rows.laid_math_bits_deBruijn32tab), ("math/bits.deBruijn64tab", Rows.laid_math_bits_deBruijn64tab), ("internal/strconv.uint64pow10", Rows.laid_internal_strconv_uint64pow10), ("unicode/utf8.acceptRanges", Rows.laid_unicode_utf8_acceptRanges), ("strconv.ErrRange", Rows.laid_strconv_ErrRange), ("strconv.ErrSyntax", Rows.laid_strconv_ErrSyntax), ("graftage/object.words", Rows.laid_graftage_object_words), ("graftage/tree.modeWords", Rows.laid_graftage_tree_modeWords), ("unicode/utf8.first", Rows.laid_unicode_utf8_first)] W := h
  have hm := modes_of h0.tail.tail.tail.tail.tail.tail.tail
  have hl := Tryz.laysM145.s1_3 W hsh
  exact ⟨⟨pow_of h0.tail.tail, err_of h0.tail.tail.tail.tail.tail, hl⟩, words_of h0.tail.tail.tail.tail.tail.tail, ⟨hl, hm 1 (by decide), hm 2 (by decide), hm 3 (by decide), hm 4 (by decide)⟩⟩

/-- A row's cells laid anew. -/
def setRow (cs : Array Value) : Obj → Obj
  | .cells _ t frozen => .cells cs t frozen
  | o => o
/-- So many blocks has the settled world. -/
noncomputable def low : Nat := (World.holding Tryz.prog default ⟨#[], #[], []⟩).heap.size
/-- A world for the witness: the settled one and two blocks more, the variables holding what their initialisers lay. -/
noncomputable def cmWorld (os : Os) : World :=
  let w0 := World.holding Tryz.prog os ⟨#[.cells #[.string ⟨#[105, 110, 118, 97, 108, 105, 100, 32, 115, 121, 110, 116, 97, 120]⟩] 160, .cells #[.string ⟨#[118, 97, 108, 117, 101, 32, 111, 117, 116, 32, 111, 102, 32, 114, 97, 110, 103, 101]⟩] 160], #[], []⟩
  { w0 with heap := (((((((((w0.heap.modify 2 (setRow #[.iface 158 (.pointer (some ⟨low, 0, none⟩))])).modify 3 (setRow #[.iface 158 (.pointer (some ⟨low + 1, 0, none⟩))])).modify 0 (setRow #[.string ⟨#[]⟩, .string ⟨#[98, 108, 111, 98]⟩, .string ⟨#[116, 114, 101, 101]⟩, .string ⟨#[99, 111, 109, 109, 105, 116]⟩, .string ⟨#[116, 97, 103]⟩])).modify 4 (setRow #[.int .u64 1, .int .u64 10, .int .u64 100, .int .u64 1000, .int .u64 10000, .int .u64 100000, .int .u64 1000000, .int .u64 10000000, .int .u64 100000000, .int .u64 1000000000, .int .u64 10000000000, .int .u64 100000000000, .int .u64 1000000000000, .int .u64 10000000000000, .int .u64 100000000000000, .int .u64 1000000000000000, .int .u64 10000000000000000, .int .u64 100000000000000000, .int .u64 1000000000000000000, .int .u64 10000000000000000000]))).modify 6 (setRow #[.int .u8 0, .int .u8 1, .int .u8 28, .int .u8 2, .int .u8 29, .int .u8 14, .int .u8 24, .int .u8 3, .int .u8 30, .int .u8 22, .int .u8 20, .int .u8 15, .int .u8 25, .int .u8 17, .int .u8 4, .int .u8 8, .int .u8 31, .int .u8 27, .int .u8 13, .int .u8 23, .int .u8 21, .int .u8 19, .int .u8 16, .int .u8 7, .int .u8 26, .int .u8 12, .int .u8 18, .int .u8 6, .int .u8 11, .int .u8 5, .int .u8 10, .int .u8 9])).modify 7 (setRow #[.int .u8 0, .int .u8 1, .int .u8 56, .int .u8 2, .int .u8 57, .int .u8 49, .int .u8 28, .int .u8 3, .int .u8 61, .int .u8 58, .int .u8 42, .int .u8 50, .int .u8 38, .int .u8 29, .int .u8 17, .int .u8 4, .int .u8 62, .int .u8 47, .int .u8 59, .int .u8 36, .int .u8 45, .int .u8 43, .int .u8 51, .int .u8 22, .int .u8 53, .int .u8 39, .int .u8 33, .int .u8 30, .int .u8 24, .int .u8 18, .int .u8 12, .int .u8 5, .int .u8 63, .int .u8 55, .int .u8 48, .int .u8 27, .int .u8 60, .int .u8 41, .int .u8 37, .int .u8 16, .int .u8 46, .int .u8 35, .int .u8 44, .int .u8 21, .int .u8 52, .int .u8 32, .int .u8 23, .int .u8 11, .int .u8 54, .int .u8 26, .int .u8 40, .int .u8 15, .int .u8 34, .int .u8 20, .int .u8 31, .int .u8 10, .int .u8 25, .int .u8 14, .int .u8 19, .int .u8 9, .int .u8 13, .int .u8 8, .int .u8 7, .int .u8 6])).modify 9 (setRow #[.int .u8 128, .int .u8 191, .int .u8 160, .int .u8 191, .int .u8 128, .int .u8 159, .int .u8 144, .int .u8 191, .int .u8 128, .int .u8 143, .int .u8 0, .int .u8 0, .int .u8 0, .int .u8 0, .int .u8 0, .int .u8 0, .int .u8 0, .int .u8 0, .int .u8 0, .int .u8 0, .int .u8 0, .int .u8 0, .int .u8 0, .int .u8 0, .int .u8 0, .int .u8 0, .int .u8 0, .int .u8 0, .int .u8 0, .int .u8 0, .int .u8 0, .int .u8 0])).modify 8 (setRow (Go.Pinned.utf8FirstZ.map fun (n : Nat) => Value.int .u8 (n : Int)).toArray)).modify 5 (setRow #[.string ⟨#[]⟩, .string ⟨#[49, 48, 48, 54, 52, 52, 32]⟩, .string ⟨#[49, 48, 48, 55, 53, 53, 32]⟩, .string ⟨#[49, 50, 48, 48, 48, 48, 32]⟩, .string ⟨#[52, 48, 48, 48, 48, 32]⟩]) }
end Go.Proofs.YtddmnibioacelaaGreatDoor
