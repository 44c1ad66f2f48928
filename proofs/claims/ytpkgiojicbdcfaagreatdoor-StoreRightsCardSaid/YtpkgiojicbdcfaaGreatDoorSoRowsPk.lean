/-
  The tables of store's laws out of their rows' lists; a world that holds them.
-/
import Derived.Test.YtpkgiojicbdcfaaGreatDoorLawPostPk
import Derived.Test.YtpkgiojicbdcfaaGreatDoorTrBackPPk
import Derived.Test.YtpkgiojicbdcfaaGreatDoorShaPlainPk
import Derived.Stop.LaidErr
import Derived.Lib.LaidTab
import Derived.Lib.SmallJoins
import Derived.Deep.Slices
namespace Go.Proofs.YtpkgiojicbdcfaaGreatDoor
open Go.ChangeShapes Go.WideShapes Go.ChangeAt Go.RowKit
open Go.WideMaps Go.WideElems

theorem Tryz.gWords : Tryz.prog.globalNamed "graftage/object.words" = some 1 := by kernel_rfl
theorem Tryz.gWordsType : (Tryz.prog.globals[1]?).map (·.type) = some 152 := by kernel_rfl
theorem Tryz.cellsWords : Tryz.prog.cellsOf 152 = 5 := by kernel_rfl
theorem Tryz.cellsStr : Tryz.prog.cellsOf 9 = 1 := by kernel_rfl
theorem Tryz.gPow : Tryz.prog.globalNamed "internal/strconv.uint64pow10" = some 4 := by kernel_rfl
theorem Tryz.gPowType : (Tryz.prog.globals[4]?).map (·.type) = some 210 := by kernel_rfl
theorem Tryz.cellsPow : Tryz.prog.cellsOf 210 = 20 := by kernel_rfl
theorem Tryz.cellsU64 : Tryz.prog.cellsOf 136 = 1 := by kernel_rfl
theorem Tryz.gErr : Tryz.prog.globalNamed "strconv.ErrSyntax" = some 7 := by kernel_rfl
theorem Tryz.gErrType : (Tryz.prog.globals[7]?).map (·.type) = some 216 := by kernel_rfl
theorem Tryz.cellsErrStr : Tryz.prog.cellsOf 251 = 1 := by kernel_rfl
theorem Tryz.star : "*" ++ "errors.errorString" = "*errors.errorString" := by decide
theorem Tryz.rowErr (u : TypeId) (h : Tryz.prog.typeName? 3 u = some "*errors.errorString") : u = 249 :=
  typeName_ptr_named (nm := "errors.errorString") (by rw [Tryz.star]; kernel_rfl) (by kernel_rfl) (by decide) u (by rw [Tryz.star]; exact h)
theorem words_of {W : World} {r : List (String × DataW Unit)} (h : laidMet Tryz.prog (("graftage/object.words", Rows.laid_graftage_object_words) :: r) W) : WoTab W := by
  obtain ⟨ps, ⟨g', t', cs, fuel, p, q, hg', ht', hvar, hd, _, _⟩, _⟩ := h
  obtain rfl := Option.some.inj (Tryz.gWords.symm.trans hg')
  obtain rfl := Option.some.inj (Tryz.gWordsType.symm.trans ht')
  have hc := cells_of_strs (zs := [[], [98, 108, 111, 98], [116, 114, 101, 101], [99, 111, 109, 109, 105, 116], [116, 97, 103]]) Tryz.underlying152 Tryz.underlying9 Tryz.cellsStr Tryz.cellsWords hd
  have hcell : ∀ i, W.cell? ⟨1, i, none⟩ = cs.toList[i]? := fun i => by
    have := World.var?_cell Tryz.gWords hvar i
    rw [this]
    simp
  exact ⟨by rw [hcell, hc]; rfl, by rw [hcell, hc]; rfl, by rw [hcell, hc]; rfl, by rw [hcell, hc]; rfl, by rw [hcell, hc]; rfl⟩
theorem pow_of {W : World} {r : List (String × DataW Unit)} (h : laidMet Tryz.prog (("internal/strconv.uint64pow10", Rows.laid_internal_strconv_uint64pow10) :: r) W) : Lib.TabIs Tryz.prog W "internal/strconv.uint64pow10" .u64 Lib.pow10Tab :=
  Lib.tabIs_of_head Tryz.gPow Tryz.gPowType Tryz.underlying210 Tryz.underlying136 Tryz.cellsU64 Tryz.cellsPow h
theorem err_of {W : World} {r : List (String × DataW Unit)} (h : laidMet Tryz.prog (("strconv.ErrSyntax", Rows.laid_strconv_ErrSyntax) :: r) W) : ∃ te pe, W.cell? ⟨7, 0, none⟩ = some (.iface te pe) := by
  obtain ⟨a0, s0, hv0, -, -, -⟩ := laid_sentinel h Tryz.gErr Tryz.gErrType Tryz.underlying216 Tryz.rowErr Tryz.underlying249 Tryz.underlying251 rfl rfl Tryz.underlying9 Tryz.cellsErrStr Tryz.cellsStr
  have h0 := World.var?_cell Tryz.gErr hv0 0
  exact ⟨_, _, by simpa using h0⟩
theorem Tryz.gModes : Tryz.prog.globalNamed "graftage/tree.modeWords" = some 3 := by kernel_rfl
theorem Tryz.gModesType : (Tryz.prog.globals[3]?).map (·.type) = some 152 := by kernel_rfl
theorem Tryz.cellsModes : Tryz.prog.cellsOf 152 = 5 := by kernel_rfl
theorem modes_of {W : World} {r : List (String × DataW Unit)} (h : laidMet Tryz.prog (("graftage/tree.modeWords", Rows.laid_graftage_tree_modeWords) :: r) W) : ∀ q : Nat, q < 5 → W.cell? ⟨3, q, none⟩ = some (.string (str (wordM q))) := by
  obtain ⟨ps, ⟨g', t', cs, fuel, p, q, hg', ht', hvar, hd, _, _⟩, _⟩ := h
  obtain rfl := Option.some.inj (Tryz.gModes.symm.trans hg')
  obtain rfl := Option.some.inj (Tryz.gModesType.symm.trans ht')
  have hc := cells_of_strs (zs := [[], wordM 1, wordM 2, wordM 3, wordM 4]) Tryz.underlying152 Tryz.underlying9 Tryz.cellsStr Tryz.cellsModes hd
  have hcell : ∀ i, W.cell? ⟨3, i, none⟩ = cs.toList[i]? := fun i => by
    have := World.var?_cell Tryz.gModes hvar i
    rw [this]
    simp
  intro q hq
  rw [hcell, hc]
  have : q = 0 ∨ q = 1 ∨ q = 2 ∨ q = 3 ∨ q = 4 := by omega
  rcases this with rfl | rfl | rfl | rfl | rfl <;> rfl
/-- What store's laws read. -/
structure SoTab (w : World) : Prop where
  s : StrTab w
  o : WoTab w
  t : TrTab w
  k : KTab w
theorem Tryz.gKw : Tryz.prog.globalNamed "graftage/ident.roundWords" = some 2 := by kernel_rfl
theorem Tryz.gKwType : (Tryz.prog.globals[2]?).map (·.type) = some 178 := by kernel_rfl
theorem Tryz.cellsKw : Tryz.prog.cellsOf 178 = 64 := by kernel_rfl
theorem Tryz.cellsU32 : Tryz.prog.cellsOf 141 = 1 := by kernel_rfl
abbrev kwList : List Int := [1116352408, 1899447441, 3049323471, 3921009573, 961987163, 1508970993, 2453635748, 2870763221, 3624381080, 310598401, 607225278, 1426881987, 1925078388, 2162078206, 2614888103, 3248222580, 3835390401, 4022224774, 264347078, 604807628, 770255983, 1249150122, 1555081692, 1996064986, 2554220882, 2821834349, 2952996808, 3210313671, 3336571891, 3584528711, 113926993, 338241895, 666307205, 773529912, 1294757372, 1396182291, 1695183700, 1986661051, 2177026350, 2456956037, 2730485921, 2820302411, 3259730800, 3345764771, 3516065817, 3600352804, 4094571909, 275423344, 430227734, 506948616, 659060556, 883997877, 958139571, 1322822218, 1537002063, 1747873779, 1955562222, 2024104815, 2227730452, 2361852424, 2428436474, 2756734187, 3204031479, 3329325298]
theorem ktab_of {W : World} {r : List (String × DataW Unit)} (h : laidMet Tryz.prog (("graftage/ident.roundWords", Rows.laid_graftage_ident_roundWords) :: r) W) : KTab W := by
  have ht : Lib.TabIs Tryz.prog W "graftage/ident.roundWords" .u32 kwList := Lib.tabIs_of_head Tryz.gKw Tryz.gKwType Tryz.underlying178 Tryz.underlying141 Tryz.cellsU32 Tryz.cellsKw h
  intro i hi
  have hc := ht.cell Tryz.gKw i (by simpa using hi)
  rw [hc]
  have e : ∀ i, i < 64 → ([1116352408, 1899447441, 3049323471, 3921009573, 961987163, 1508970993, 2453635748, 2870763221, 3624381080, 310598401, 607225278, 1426881987, 1925078388, 2162078206, 2614888103, 3248222580, 3835390401, 4022224774, 264347078, 604807628, 770255983, 1249150122, 1555081692, 1996064986, 2554220882, 2821834349, 2952996808, 3210313671, 3336571891, 3584528711, 113926993, 338241895, 666307205, 773529912, 1294757372, 1396182291, 1695183700, 1986661051, 2177026350, 2456956037, 2730485921, 2820302411, 3259730800, 3345764771, 3516065817, 3600352804, 4094571909, 275423344, 430227734, 506948616, 659060556, 883997877, 958139571, 1322822218, 1537002063, 1747873779, 1955562222, 2024104815, 2227730452, 2361852424, 2428436474, 2756734187, 3204031479, 3329325298] : List Int).getD i 0 = (kw.getD i 0 : Nat) := by decide +kernel
  rw [e i hi]
theorem sotab_of {W : World} (h : laidMetH Tryz.prog Rows.storeRightsRow.laid W) (hsh : W.ShapedOpen Tryz.prog) : SoTab W := by
  have h0 : laidMet Tryz.prog [("math/bits.deBruijn32tab", Rows.laid_math_bits_deBruijn32tab), ("math/bits.deBruijn64tab", Rows.laid_math_bits_deBruijn64tab), ("internal/strconv.uint64pow10", Rows.laid_internal_strconv_uint64pow10), ("unicode/utf8.acceptRanges", Rows.laid_unicode_utf8_acceptRanges), ("strconv.ErrRange", Rows.laid_strconv_ErrRange), ("strconv.ErrSyntax", Rows.laid_strconv_ErrSyntax), ("graftage/ident.roundWords", Rows.laid_graftage_ident_roundWords), ("graftage/object.words", Rows.laid_graftage_object_words), ("graftage/tree.modeWords", Rows.laid_graftage_tree_modeWords), ("unicode/utf8.first", Rows.laid_unicode_utf8_first)] W := h
  have hm := modes_of h0.tail.tail.tail.tail.tail.tail.tail.tail
  have hl := Tryz.laysM145.s1_3 W hsh
  exact ⟨⟨pow_of h0.tail.tail, err_of h0.tail.tail.tail.tail.tail, hl⟩, words_of h0.tail.tail.tail.tail.tail.tail.tail, ⟨hl, hm 1 (by decide), hm 2 (by decide), hm 3 (by decide), hm 4 (by decide)⟩, ktab_of h0.tail.tail.tail.tail.tail.tail⟩

/-- A row's cells laid anew. -/
def setRow (cs : Array Value) : Obj → Obj
  | .cells _ t frozen => .cells cs t frozen
  | o => o
/-- So many blocks has the settled world. -/
noncomputable def low : Nat := (World.holding Tryz.prog default ⟨#[], #[], []⟩).heap.size
/-- A world for the witness: the settled one and two blocks more, the variables holding what their initialisers lay. -/
noncomputable def soWorld (os : Os) : World :=
  let w0 := World.holding Tryz.prog os ⟨#[.cells #[.string ⟨#[105, 110, 118, 97, 108, 105, 100, 32, 115, 121, 110, 116, 97, 120]⟩] 251, .cells #[.string ⟨#[118, 97, 108, 117, 101, 32, 111, 117, 116, 32, 111, 102, 32, 114, 97, 110, 103, 101]⟩] 251], #[], []⟩
  { w0 with heap := ((((((((((w0.heap.modify 7 (setRow #[.iface 249 (.pointer (some ⟨low, 0, none⟩))])).modify 8 (setRow #[.iface 249 (.pointer (some ⟨low + 1, 0, none⟩))])).modify 2 (setRow #[.int .u32 1116352408, .int .u32 1899447441, .int .u32 3049323471, .int .u32 3921009573, .int .u32 961987163, .int .u32 1508970993, .int .u32 2453635748, .int .u32 2870763221, .int .u32 3624381080, .int .u32 310598401, .int .u32 607225278, .int .u32 1426881987, .int .u32 1925078388, .int .u32 2162078206, .int .u32 2614888103, .int .u32 3248222580, .int .u32 3835390401, .int .u32 4022224774, .int .u32 264347078, .int .u32 604807628, .int .u32 770255983, .int .u32 1249150122, .int .u32 1555081692, .int .u32 1996064986, .int .u32 2554220882, .int .u32 2821834349, .int .u32 2952996808, .int .u32 3210313671, .int .u32 3336571891, .int .u32 3584528711, .int .u32 113926993, .int .u32 338241895, .int .u32 666307205, .int .u32 773529912, .int .u32 1294757372, .int .u32 1396182291, .int .u32 1695183700, .int .u32 1986661051, .int .u32 2177026350, .int .u32 2456956037, .int .u32 2730485921, .int .u32 2820302411, .int .u32 3259730800, .int .u32 3345764771, .int .u32 3516065817, .int .u32 3600352804, .int .u32 4094571909, .int .u32 275423344, .int .u32 430227734, .int .u32 506948616, .int .u32 659060556, .int .u32 883997877, .int .u32 958139571, .int .u32 1322822218, .int .u32 1537002063, .int .u32 1747873779, .int .u32 1955562222, .int .u32 2024104815, .int .u32 2227730452, .int .u32 2361852424, .int .u32 2428436474, .int .u32 2756734187, .int .u32 3204031479, .int .u32 3329325298])).modify 1 (setRow #[.string ⟨#[]⟩, .string ⟨#[98, 108, 111, 98]⟩, .string ⟨#[116, 114, 101, 101]⟩, .string ⟨#[99, 111, 109, 109, 105, 116]⟩, .string ⟨#[116, 97, 103]⟩])).modify 4 (setRow #[.int .u64 1, .int .u64 10, .int .u64 100, .int .u64 1000, .int .u64 10000, .int .u64 100000, .int .u64 1000000, .int .u64 10000000, .int .u64 100000000, .int .u64 1000000000, .int .u64 10000000000, .int .u64 100000000000, .int .u64 1000000000000, .int .u64 10000000000000, .int .u64 100000000000000, .int .u64 1000000000000000, .int .u64 10000000000000000, .int .u64 100000000000000000, .int .u64 1000000000000000000, .int .u64 10000000000000000000]))).modify 5 (setRow #[.int .u8 0, .int .u8 1, .int .u8 28, .int .u8 2, .int .u8 29, .int .u8 14, .int .u8 24, .int .u8 3, .int .u8 30, .int .u8 22, .int .u8 20, .int .u8 15, .int .u8 25, .int .u8 17, .int .u8 4, .int .u8 8, .int .u8 31, .int .u8 27, .int .u8 13, .int .u8 23, .int .u8 21, .int .u8 19, .int .u8 16, .int .u8 7, .int .u8 26, .int .u8 12, .int .u8 18, .int .u8 6, .int .u8 11, .int .u8 5, .int .u8 10, .int .u8 9])).modify 6 (setRow #[.int .u8 0, .int .u8 1, .int .u8 56, .int .u8 2, .int .u8 57, .int .u8 49, .int .u8 28, .int .u8 3, .int .u8 61, .int .u8 58, .int .u8 42, .int .u8 50, .int .u8 38, .int .u8 29, .int .u8 17, .int .u8 4, .int .u8 62, .int .u8 47, .int .u8 59, .int .u8 36, .int .u8 45, .int .u8 43, .int .u8 51, .int .u8 22, .int .u8 53, .int .u8 39, .int .u8 33, .int .u8 30, .int .u8 24, .int .u8 18, .int .u8 12, .int .u8 5, .int .u8 63, .int .u8 55, .int .u8 48, .int .u8 27, .int .u8 60, .int .u8 41, .int .u8 37, .int .u8 16, .int .u8 46, .int .u8 35, .int .u8 44, .int .u8 21, .int .u8 52, .int .u8 32, .int .u8 23, .int .u8 11, .int .u8 54, .int .u8 26, .int .u8 40, .int .u8 15, .int .u8 34, .int .u8 20, .int .u8 31, .int .u8 10, .int .u8 25, .int .u8 14, .int .u8 19, .int .u8 9, .int .u8 13, .int .u8 8, .int .u8 7, .int .u8 6])).modify 10 (setRow #[.int .u8 128, .int .u8 191, .int .u8 160, .int .u8 191, .int .u8 128, .int .u8 159, .int .u8 144, .int .u8 191, .int .u8 128, .int .u8 143, .int .u8 0, .int .u8 0, .int .u8 0, .int .u8 0, .int .u8 0, .int .u8 0, .int .u8 0, .int .u8 0, .int .u8 0, .int .u8 0, .int .u8 0, .int .u8 0, .int .u8 0, .int .u8 0, .int .u8 0, .int .u8 0, .int .u8 0, .int .u8 0, .int .u8 0, .int .u8 0, .int .u8 0, .int .u8 0])).modify 9 (setRow (Go.Pinned.utf8FirstZ.map fun (n : Nat) => Value.int .u8 (n : Int)).toArray)).modify 3 (setRow #[.string ⟨#[]⟩, .string ⟨#[49, 48, 48, 54, 52, 52, 32]⟩, .string ⟨#[49, 48, 48, 55, 53, 53, 32]⟩, .string ⟨#[49, 50, 48, 48, 48, 48, 32]⟩, .string ⟨#[52, 48, 48, 48, 48, 32]⟩]) }
end Go.Proofs.YtpkgiojicbdcfaaGreatDoor
/-
  The order of entries: plain.
-/
namespace Go.Proofs.YtpkgiojicbdcfaaGreatDoor
open Go.RowKit

theorem bl_irr : ∀ x : List UInt8, Op.bytesLess x x = false
  | [] => rfl
  | a :: x => by
    have h : ¬ a < a := UInt8.lt_irrefl a
    simp [Op.bytesLess, bl_irr x, h]
theorem bl_asym : ∀ x y : List UInt8, Op.bytesLess x y = true → Op.bytesLess y x = false
  | [], [], h => by simp [Op.bytesLess] at h
  | [], b :: y, _ => rfl
  | a :: x, [], h => by simp [Op.bytesLess] at h
  | a :: x, b :: y, h => by
    simp only [Op.bytesLess, Bool.or_eq_true, Bool.and_eq_true, decide_eq_true_eq, beq_iff_eq] at h
    simp only [Op.bytesLess, Bool.or_eq_false_iff, Bool.and_eq_false_iff, decide_eq_false_iff_not, beq_eq_false_iff_ne]
    rcases h with h | ⟨rfl, h⟩
    · exact ⟨fun h2 => absurd (UInt8.lt_trans h h2) (UInt8.lt_irrefl a), .inl fun e => by rw [e] at h; exact UInt8.lt_irrefl _ h⟩
    · exact ⟨UInt8.lt_irrefl _, .inr (bl_asym x y h)⟩
theorem bl_total : ∀ x y : List UInt8, x ≠ y → Op.bytesLess x y = true ∨ Op.bytesLess y x = true
  | [], [], h => absurd rfl h
  | [], b :: y, _ => .inl rfl
  | a :: x, [], _ => .inr rfl
  | a :: x, b :: y, h => by
    simp only [Op.bytesLess, Bool.or_eq_true, Bool.and_eq_true, decide_eq_true_eq, beq_iff_eq]
    by_cases e : a = b
    · subst e
      have hxy : x ≠ y := fun e => h (by rw [e])
      rcases bl_total x y hxy with h1 | h1
      · exact .inl (.inr ⟨rfl, h1⟩)
      · exact .inr (.inr ⟨rfl, h1⟩)
    · rcases UInt8.lt_or_lt_of_ne e with h1 | h1
      · exact .inl (.inl h1)
      · exact .inr (.inl h1)
theorem bl_trans : ∀ x y z : List UInt8, Op.bytesLess x y = true → Op.bytesLess y z = true → Op.bytesLess x z = true
  | x, [], z, h, _ => by cases x <;> simp [Op.bytesLess] at h
  | x, b :: y, [], _, h => by simp [Op.bytesLess] at h
  | [], b :: y, c :: z, _, _ => rfl
  | a :: x, b :: y, c :: z, h1, h2 => by
    simp only [Op.bytesLess, Bool.or_eq_true, Bool.and_eq_true, decide_eq_true_eq, beq_iff_eq] at h1 h2 ⊢
    rcases h1 with h1 | ⟨rfl, h1⟩ <;> rcases h2 with h2 | ⟨rfl, h2⟩
    · exact .inl (UInt8.lt_trans h1 h2)
    · exact .inl h1
    · exact .inl h2
    · exact .inr ⟨rfl, bl_trans x y z h1 h2⟩
theorem lessE_irr (a : En) : lessE a a = false := bl_irr _
theorem lessE_asym {a b : En} (h : lessE a b = true) : lessE b a = false := bl_asym _ _ h
theorem lessE_trans {a b c : En} (h1 : lessE a b = true) (h2 : lessE b c = true) : lessE a c = true := bl_trans _ _ _ h1 h2
theorem lessE_total {a b : En} (h : keyE a ≠ keyE b) : lessE a b = true ∨ lessE b a = true := bl_total _ _ fun e => h (ba_ext (by rwa [ByteArray.toList_eq, ByteArray.toList_eq] at e))
theorem lessE_xor {a b : En} (h : keyE a ≠ keyE b) : lessE a b = !lessE b a := by
  rcases lessE_total h with h1 | h1
  · rw [h1, lessE_asym h1]; rfl
  · rw [h1, lessE_asym h1]; rfl
theorem key_list (e : En) : (keyE e).data.toList = if e.m = 4 then e.n.data.toList ++ [47] else e.n.data.toList := by
  unfold keyE
  split
  · rw [app_list]
  · rfl
theorem key_ne {a b : En} (ha : flatN a.n = true) (hb : flatN b.n = true) (h : a.n ≠ b.n) : keyE a ≠ keyE b := by
  intro e
  have h1 := flatN_no ha
  have h2 := flatN_no hb
  have e2 := congrArg (fun x => x.data.toList) e
  simp only [key_list] at e2
  split at e2 <;> split at e2
  · exact h (ba_ext (List.append_cancel_right e2))
  · exact h2 47 (by rw [← e2]; simp) rfl
  · exact h1 47 (by rw [e2]; simp) rfl
  · exact h (ba_ext e2)
theorem key_same {a b : En} (h : a.n = b.n) : keyE a = keyE b ↔ (a.m = 4 ↔ b.m = 4) := by
  constructor
  · intro e
    have e2 := congrArg (fun x => x.data.toList) e
    simp only [key_list, h] at e2
    split at e2 <;> split at e2
    · simp_all
    · have := congrArg List.length e2
      simp at this
    · have := congrArg List.length e2
      simp at this
    · simp_all
  · intro e
    unfold keyE
    rw [h]
    by_cases h4 : a.m = 4
    · rw [if_pos h4, if_pos (e.1 h4)]
    · rw [if_neg h4, if_neg (fun h => h4 (e.2 h))]
theorem okEn_flat {e : En} (h : okEn e = true) : flatN e.n = true := by
  simp only [okEn, Bool.and_eq_true, decide_eq_true_eq] at h
  exact h.2.2.2.1
theorem ord_same {a b : En} (h : a.n = b.n) : (!(lessE a b && lessE b a) && ((lessE a b || lessE b a) == ((a.m == 4) != (b.m == 4)))) = true := by
  by_cases h4 : a.m = 4 ↔ b.m = 4
  · have hk := (key_same h).2 h4
    have h1 : lessE a b = false := by unfold lessE; rw [hk]; exact bl_irr _
    have h2 : lessE b a = false := by unfold lessE; rw [hk]; exact bl_irr _
    have h3 : (a.m == 4) = (b.m == 4) := by
      rw [Bool.eq_iff_iff, beq_iff_eq, beq_iff_eq]
      exact h4
    rw [h1, h2, h3]
    cases (b.m == 4) <;> rfl
  · have hk : keyE a ≠ keyE b := fun e => h4 ((key_same h).1 e)
    have h3 : (a.m == 4) = !(b.m == 4) := by
      rw [Bool.eq_iff_iff, beq_iff_eq, Bool.not_eq_true', beq_eq_false_iff_ne]
      constructor
      · intro ha hb
        exact h4 ⟨fun _ => hb, fun _ => ha⟩
      · intro hb
        by_cases ha : a.m = 4
        · exact ha
        · exact absurd ⟨fun h => absurd h ha, fun h => absurd h hb⟩ h4
    rw [lessE_xor hk, h3]
    cases lessE b a <;> cases (b.m == 4) <;> rfl
end Go.Proofs.YtpkgiojicbdcfaaGreatDoor
/-
  Stores, plain: items, the binary search, what is found.
-/
namespace Go.Proofs.YtpkgiojicbdcfaaGreatDoor
open Go Go.RowKit

/-- An item of a store. -/
structure It where
  i : ByteArray
  k : Int
  b : ByteArray
deriving DecidableEq
def It.cells (e : It) : List Value := [.string e.i, .int .i64 e.k, .string e.b]
def It.zero : It := ⟨⟨#[]⟩, 0, ⟨#[]⟩⟩
/-- One string is ahead of another. -/
def ltB (a b : ByteArray) : Bool := Op.bytesLess a.toList b.toList
theorem ltB_irr (a : ByteArray) : ltB a a = false := bl_irr _
theorem ltB_trans {a b c : ByteArray} (h : ltB a b = true) (k : ltB b c = true) : ltB a c = true := bl_trans _ _ _ h k
theorem ltB_asym {a b : ByteArray} (h : ltB a b = true) : ltB b a = false := bl_asym _ _ h
theorem toList_inj {a b : ByteArray} (h : a.toList = b.toList) : a = b := by
  rw [ByteArray.toList_eq, ByteArray.toList_eq] at h
  exact ba_ext h
theorem ltB_total {a b : ByteArray} (h : a ≠ b) : ltB a b = true ∨ ltB b a = true := bl_total _ _ fun e => h (toList_inj e)
theorem ltB_ne {a b : ByteArray} (h : ltB a b = true) : a ≠ b := fun e => by rw [e, ltB_irr] at h; cases h
/-- The binary search of the first place at which f no longer holds. -/
def bsN (f : Nat → Bool) (lo hi : Nat) : Nat := if lo < hi then (if f ((lo + hi) / 2) = true then bsN f ((lo + hi) / 2 + 1) hi else bsN f lo ((lo + hi) / 2)) else lo
termination_by hi - lo
theorem bsN_up {f : Nat → Bool} {lo hi : Nat} (h : lo < hi) (hf : f ((lo + hi) / 2) = true) : bsN f lo hi = bsN f ((lo + hi) / 2 + 1) hi := by rw [bsN, if_pos h, if_pos hf]
theorem bsN_dn {f : Nat → Bool} {lo hi : Nat} (h : lo < hi) (hf : f ((lo + hi) / 2) = false) : bsN f lo hi = bsN f lo ((lo + hi) / 2) := by rw [bsN, if_pos h, if_neg (by rw [hf]; decide)]
theorem bsN_end {f : Nat → Bool} {lo hi : Nat} (h : ¬ lo < hi) : bsN f lo hi = lo := by rw [bsN, if_neg h]
theorem bsN_in (f : Nat → Bool) : ∀ (d lo hi : Nat), hi - lo ≤ d → lo ≤ hi → lo ≤ bsN f lo hi ∧ bsN f lo hi ≤ hi
  | d, lo, hi, hd, hl => by
    by_cases h : lo < hi
    · cases d with
      | zero => omega
      | succ d =>
        cases hf : f ((lo + hi) / 2) with
        | true =>
          have := bsN_in f d ((lo + hi) / 2 + 1) hi (by omega) (by omega)
          rw [bsN_up h hf]
          omega
        | false =>
          have := bsN_in f d lo ((lo + hi) / 2) (by omega) (by omega)
          rw [bsN_dn h hf]
          omega
    · rw [bsN_end h]; omega
/-- Where f holds ahead of c and not from c on, c is found. -/
theorem bsN_at (f : Nat → Bool) (c : Nat) : ∀ (d lo hi : Nat), hi - lo ≤ d → lo ≤ c → c ≤ hi → (∀ j, lo ≤ j → j < c → f j = true) → (∀ j, c ≤ j → j < hi → f j = false) → bsN f lo hi = c
  | d, lo, hi, hd, h1, h2, ht, hf => by
    by_cases h : lo < hi
    · cases d with
      | zero => omega
      | succ d =>
        by_cases hm : (lo + hi) / 2 < c
        · rw [bsN_up h (ht _ (by omega) hm)]
          exact bsN_at f c d _ _ (by omega) (by omega) h2 (fun j a b => ht j (by omega) b) hf
        · rw [bsN_dn h (hf _ (by omega) (by omega))]
          exact bsN_at f c d _ _ (by omega) h1 (by omega) ht (fun j a b => hf j a (by omega))
    · rw [bsN_end h]; omega

/-- Where an ID stands, or would stand. -/
def atI (l : List It) (id : ByteArray) : Nat := bsN (fun m => ltB (l.getD m It.zero).i id) 0 l.length
def hasI (l : List It) (id : ByteArray) : Bool := decide (atI l id < l.length) && decide ((l.getD (atI l id) It.zero).i = id)
def getI (l : List It) (id : ByteArray) : It := if hasI l id = true then l.getD (atI l id) It.zero else It.zero
def getE (l : List It) (id : ByteArray) : Nat := if hasI l id = true then 0 else 5
theorem atI_le (l : List It) (id : ByteArray) : atI l id ≤ l.length := (bsN_in _ _ _ _ (Nat.le_refl _) (Nat.zero_le _)).2
/-- The same over a list of strings. -/
def spotS (l : List (List UInt8)) (s : ByteArray) : Nat := bsN (fun m => ltB (str (l.getD m [])) s) 0 l.length
def holdsS (l : List (List UInt8)) (s : ByteArray) : Bool := decide (spotS l s < l.length) && decide (str (l.getD (spotS l s) []) = s)
def insS (l : List (List UInt8)) (s : ByteArray) : List (List UInt8) := if holdsS l s = true then l else l.take (spotS l s) ++ s.data.toList :: l.drop (spotS l s)
theorem spotS_le (l : List (List UInt8)) (s : ByteArray) : spotS l s ≤ l.length := (bsN_in _ _ _ _ (Nat.le_refl _) (Nat.zero_le _)).2
/-- A list of strings in order, each once. -/
def SrtS (l : List (List UInt8)) : Prop := l.Pairwise fun a b => ltB (str a) (str b) = true
def SrtI (l : List It) : Prop := l.Pairwise fun a b => ltB a.i b.i = true
theorem srt_getI {l : List It} (h : SrtI l) {j k : Nat} (hj : j < k) (hk : k < l.length) : ltB (l.getD j It.zero).i (l.getD k It.zero).i = true := by
  have := List.pairwise_iff_getElem.mp h j k (by omega) hk hj
  rw [List.getD_eq_getElem?_getD, List.getD_eq_getElem?_getD, List.getElem?_eq_getElem (by omega), List.getElem?_eq_getElem hk]
  exact this
theorem srt_getS {l : List (List UInt8)} (h : SrtS l) {j k : Nat} (hj : j < k) (hk : k < l.length) : ltB (str (l.getD j [])) (str (l.getD k [])) = true := by
  have := List.pairwise_iff_getElem.mp h j k (by omega) hk hj
  rw [List.getD_eq_getElem?_getD, List.getD_eq_getElem?_getD, List.getElem?_eq_getElem (by omega), List.getElem?_eq_getElem hk]
  exact this
/-- In a list in order an ID is found where it stands. -/
theorem atI_of {l : List It} (h : SrtI l) {k : Nat} (hk : k < l.length) : atI l (l.getD k It.zero).i = k :=
  bsN_at _ k _ _ _ (Nat.le_refl _) (Nat.zero_le _) (by omega) (fun j _ hj => srt_getI h hj hk) fun j hj hl => by
    rcases Nat.lt_or_ge k j with h1 | h1
    · exact ltB_asym (srt_getI h h1 hl)
    · obtain rfl : j = k := by omega
      exact ltB_irr _
theorem hasI_iff {l : List It} (h : SrtI l) (id : ByteArray) : hasI l id = true ↔ ∃ x ∈ l, x.i = id := by
  constructor
  · intro hh
    unfold hasI at hh
    rw [Bool.and_eq_true, decide_eq_true_eq, decide_eq_true_eq] at hh
    refine ⟨l.getD (atI l id) It.zero, ?_, hh.2⟩
    rw [List.getD_eq_getElem?_getD, List.getElem?_eq_getElem hh.1]
    exact List.getElem_mem hh.1
  · rintro ⟨x, hx, rfl⟩
    obtain ⟨k, hk, rfl⟩ := List.getElem_of_mem hx
    have e : l[k] = l.getD k It.zero := by rw [List.getD_eq_getElem?_getD, List.getElem?_eq_getElem hk]; rfl
    unfold hasI
    rw [e, atI_of h hk, decide_eq_true hk, decide_eq_true rfl]
    rfl
theorem spotS_of {l : List (List UInt8)} (h : SrtS l) {k : Nat} (hk : k < l.length) : spotS l (str (l.getD k [])) = k :=
  bsN_at _ k _ _ _ (Nat.le_refl _) (Nat.zero_le _) (by omega) (fun j _ hj => srt_getS h hj hk) fun j hj hl => by
    rcases Nat.lt_or_ge k j with h1 | h1
    · exact ltB_asym (srt_getS h h1 hl)
    · obtain rfl : j = k := by omega
      exact ltB_irr _
theorem holdsS_iff {l : List (List UInt8)} (h : SrtS l) (s : ByteArray) : holdsS l s = true ↔ s.data.toList ∈ l := by
  constructor
  · intro hh
    unfold holdsS at hh
    rw [Bool.and_eq_true, decide_eq_true_eq, decide_eq_true_eq] at hh
    have e : s.data.toList = l.getD (spotS l s) [] := by conv => lhs; rw [← hh.2]
                                                         rfl
    rw [e, List.getD_eq_getElem?_getD, List.getElem?_eq_getElem hh.1]
    exact List.getElem_mem hh.1
  · intro hx
    obtain ⟨k, hk, e⟩ := List.getElem_of_mem hx
    have e2 : l.getD k [] = s.data.toList := by rw [List.getD_eq_getElem?_getD, List.getElem?_eq_getElem hk]; exact e
    have h1 := spotS_of h hk
    rw [e2] at h1
    have h2 : spotS l s = k := h1
    unfold holdsS
    rw [h2, decide_eq_true hk, e2, decide_eq_true (show str s.data.toList = s from rfl)]
    rfl
end Go.Proofs.YtpkgiojicbdcfaaGreatDoor
