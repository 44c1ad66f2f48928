/-
  The walks of Links and Whole.
-/
import Derived.Test.YtddmnibioacelaaGreatDoorTrBackPPk
import Derived.Test.YtddmnibioacelaaGreatDoorLawPostPk
import Derived.Stop.LaidErr
import Derived.Lib.LaidTab
import Derived.Lib.SmallJoins
import Derived.Deep.Slices
namespace Go.Proofs.YtddmnibioacelaaGreatDoor
open Go Go.RowKit Go.Maps Go.WideMaps

theorem lnkL_err {k : Int} {l : List UInt8} (h : bytesE k l ≠ 0) : lnkL k l = (bytesE k l, []) := by rw [lnkL, if_pos h]
theorem lnkL_4 {l : List UInt8} (h : bytesE 4 l = 0) : lnkL 4 l = tgL l := by rw [lnkL, if_neg (by omega), if_pos rfl]
theorem lnkL_2 {l : List UInt8} (h : bytesE 2 l = 0) : lnkL 2 l = ((trL l).1, disL (trL l).2) := by rw [lnkL, if_neg (by omega), if_neg (by decide), if_pos rfl]
theorem lnkL_3 {l : List UInt8} (h : bytesE 3 l = 0) : lnkL 3 l = ((cmL l).1, disL (cmL l).2) := by rw [lnkL, if_neg (by omega), if_neg (by decide), if_neg (by decide), if_pos rfl]
theorem lnkL_1 {l : List UInt8} (h : bytesE 1 l = 0) : lnkL 1 l = (0, []) := by rw [lnkL, if_neg (by omega), if_neg (by decide), if_neg (by decide), if_neg (by decide)]
theorem bytesE_kinds {k : Int} {l : List UInt8} (h : bytesE k l = 0) : k = 1 ∨ k = 2 ∨ k = 3 ∨ k = 4 := by
  have h1 : wordL k ≠ [] := fun e => by
    rw [bytesE_kind e] at h
    cases h
  have h2 : 1 ≤ k ∧ k ≤ 4 := by
    by_cases h' : 1 ≤ k ∧ k ≤ 4
    · exact h'
    · exact absurd (wordL_nil.mpr h') h1
  omega
theorem trL_len (l : List UInt8) : (trL l).2.length ≤ 1024 := by
  show (tids (parE l).2).length ≤ 1024
  rw [tids, List.length_map]
  exact parE_len l
theorem cmL_len (l : List UInt8) : (cmL l).2.length ≤ 9 := by
  unfold cmL
  split
  · rename_i h
    have := parC_len h
    simp only [List.length_cons]
    omega
  · simp
theorem trL_all {l : List UInt8} (hl : l.length ≤ 1048576) : ∀ y ∈ (trL l).2, y.length ≤ 140737488355328 := fun y hy => by
  rw [show (trL l).2 = tids (parE l).2 from rfl, tids, List.mem_map] at hy
  obtain ⟨e, he, rfl⟩ := hy
  have := (par_size e he).2
  rw [list_len]
  omega
theorem cmL_all {l : List UInt8} : ∀ y ∈ (cmL l).2, y.length ≤ 140737488355328 := fun y hy => by
  unfold cmL at hy
  split at hy
  · rename_i h
    obtain ⟨i1, i2, -⟩ := okC_parts (chkC_ok (parC_back h).1).1
    have h1 := isId_size i1
    rcases List.mem_cons.1 hy with rfl | hy
    · rw [list_len]; omega
    · have := isId_size (allId_mem i2 hy)
      rw [str_size] at this
      omega
  · simp at hy

set_option maxHeartbeats 4000000 in
set_option maxRecDepth 4000 in
theorem links_any (k : Int) (b : ByteArray) (w : World) (hT : StrTab w) (hO : WoTab w) (hR : TrTab w) (hb : b.size ≤ 140737488355328) (hk : bytesE k b.data.toList = 0 → b.size ≤ 1000000) :
    Calls Tryz.prog 28 #[.agg #[.int .i64 k, .string b]] w (LnkR (lnkL k b.data.toList) w) := by
  obtain ⟨E, hE⟩ : ∃ E, E = bytesE k b.data.toList := ⟨_, rfl⟩
  obtain ⟨l, hl⟩ : ∃ l, l = b.data.toList := ⟨_, rfl⟩
  obtain ⟨R, hRR⟩ : ∃ R, R = lnkL k l := ⟨_, rfl⟩
  rw [← hl, ← hRR]
  obtain ⟨w1, hw1⟩ : ∃ w1, w1 = w.alloc (.cells #[.int .i64 k, .string b] 50) := ⟨_, rfl⟩
  have hx : w1.heap[w.heap.size]? = some (.cells #[.int .i64 k, .string b] 50 (0, 0)) := by rw [hw1]; exact heap_alloc_new w _
  have hbx : Below w.heap.size w w1 := by rw [hw1]; exact below_new (Below.refl _ _) _
  have x0 : w1.cell? ⟨w.heap.size, 0, none⟩ = some (.int .i64 k) := cell_of_row _ _ 0 _ _ _ hx
  have x1 : w1.cell? ⟨w.heap.size, 1, none⟩ = some (.string b) := cell_of_row _ _ 1 _ _ _ hx
  have HBX := Lib.hid hbx
  have HW1 := Lib.hid hw1
  obtain ⟨W, hW⟩ : ∃ W, W = str (bytesL k b.data.toList) := ⟨_, rfl⟩
  have HB : Hid (Calls Tryz.prog 66 #[.agg #[.int .i64 k, .string b]] w1 fun e w' => e = .returned (.tuple #[.string W, .int .i64 (E : Int)]) ∧ Below w1.heap.size w1 w') := by
    rw [hW, hE]
    exact bytes_any k b w1 (hO.below hbx) (hT.below hbx) hb
  have h2 : ∀ w2, Below w1.heap.size w1 w2 → StrTab w2 ∧ WoTab w2 ∧ TrTab w2 := fun w2 h => ⟨(hT.below hbx).below h, (hO.below hbx).below h, (hR.below hbx).below h⟩
  by_cases h0 : E = 0
  case neg =>
    have HQ : Hid (R = (E, [])) := by show _ = _; rw [hRR, hl, lnkL_err (by rw [← hE]; exact h0), hE]
    have g0 : ((E : Int) != 0) = true := by simp; omega
    clear hRR hl hE hw1 hx hbx hW h0 hT hO hR h2 hk
    go_enter Tryz.func28, Tryz.ntmps28
    go_upto_region 1 with fail
    rw [← HW1.out]
    go_wp2_with (go_at_call 66; ((with_reducible refine (HB.out).mono ?_); rintro e w2 ⟨rfl, hb2⟩))
    go_ret2
    rw [HQ.out]
    exact ⟨⟨_, rfl, SOw.nil _ _⟩, HBX.out.trans (hb2.mono HBX.out.size)⟩
  have g0 : ((E : Int) != 0) = false := by simp [h0]
  have hbs : b.size ≤ 1000000 := hk (by rw [← hE]; exact h0)
  have hE0 : bytesE k l = 0 := by rw [hl, ← hE, h0]
  have hll : l.length ≤ 1048576 := by rw [hl, list_len]; omega
  have HT1 : Hid (∀ w2, Below w1.heap.size w1 w2 → Calls Tryz.prog 68 #[.string b] w2 (LnkR (tgL l) w2)) := fun w2 h => by rw [hl]; exact tagLinks_any b w2 (h2 w2 h).1 (h2 w2 h).2.1 (by omega)
  have HT2 : Hid (∀ w2, Below w1.heap.size w1 w2 → Calls Tryz.prog 69 #[.string b] w2 (LnkR (trL l) w2)) := fun w2 h => by rw [hl]; exact treeLinks_any b w2 (h2 w2 h).2.2 hbs
  have HT3 : Hid (∀ w2, Below w1.heap.size w1 w2 → Calls Tryz.prog 67 #[.string b] w2 (LnkR (cmL l) w2)) := fun w2 h => by rw [hl]; exact commitLinks_any b w2 (h2 w2 h).1 (by omega)
  have q1 := trL_len l
  have q2 := cmL_len l
  have q3 := trL_all hll
  have q4 := cmL_all (l := l)
  obtain ⟨⟨tc, tl⟩, htl⟩ : ∃ q, q = trL l := ⟨_, rfl⟩
  obtain ⟨⟨cc, cl⟩, hcl⟩ : ∃ q, q = cmL l := ⟨_, rfl⟩
  obtain ⟨⟨gc, gl⟩, hgl⟩ : ∃ q, q = tgL l := ⟨_, rfl⟩
  rw [← htl] at HT2 q1 q3
  rw [← hcl] at HT3 q2 q4
  rw [← hgl] at HT1
  simp only at q1 q2 q3 q4
  have HD1 : Hid (∀ w2 p c n, n = tl.length → SRw w2 p tl → Calls Tryz.prog 39 #[.slice p n c] w2 fun e w' => ∃ v, e = .returned v ∧ SOw w' w2.heap.size v (disL tl) ∧ Below w2.heap.size w2 w') := fun w2 p c n hn h => distinct_any tl p c n w2 hn h q3 (by omega)
  have HD2 : Hid (∀ w2 p c n, n = cl.length → SRw w2 p cl → Calls Tryz.prog 39 #[.slice p n c] w2 fun e w' => ∃ v, e = .returned v ∧ SOw w' w2.heap.size v (disL cl) ∧ Below w2.heap.size w2 w') := fun w2 p c n hn h => distinct_any cl p c n w2 hn h q4 (by omega)
  have hkk := bytesE_kinds hE0
  have HR : Hid (R = if k = 4 then (gc, gl) else if k = 2 then (tc, disL tl) else if k = 3 then (cc, disL cl) else (0, [])) := by
    show _ = _
    rw [hRR, lnkL, if_neg (by omega), ← htl, ← hcl, ← hgl]
  clear hRR hl hE hx hbx hW h0 hT hO hR h2 hk hbs hE0 hll htl hcl hgl q1 q2 q3 q4 hw1
  go_enter Tryz.func28, Tryz.ntmps28
  go_upto_region 1 with fail
  rw [← HW1.out]
  go_upto_region 4 with (go_at_call 66; ((with_reducible refine (HB.out).mono ?_); rintro e w2 ⟨rfl, hb2⟩; have y0 := cell_bel x0 hb2; have y1 := cell_bel x1 hb2))
  have HB2 := Lib.hid hb2
  have HBY := Lib.hid (HBX.out.trans (hb2.mono HBX.out.size))
  clear x0 x1 HB hb2
  by_cases k4 : k = 4
  · have g4 : ((k : Int) == 4) = true := by simp [k4]
    have HQ : Hid (R = (gc, gl)) := by show _ = _; rw [HR.out, if_pos k4]
    clear k4 hkk HR
    go_wp2_with (go_at_call 68; ((with_reducible refine (HT1.out _ HB2.out).mono ?_); rintro e w3 ⟨⟨v, rfl, hv⟩, hb3⟩))
    go_ret2
    rw [HQ.out]
    exact ⟨⟨_, rfl, hv.mono HBY.out.size⟩, HBY.out.trans (hb3.mono HBY.out.size)⟩
  have g4 : ((k : Int) == 4) = false := by simp [k4]
  by_cases k2 : k = 2
  · have g2 : ((k : Int) == 2) = true := by simp [k2]
    have HQ : Hid (R = (tc, disL tl)) := by show _ = _; rw [HR.out, if_neg k4, if_pos k2]
    clear k4 k2 hkk HR
    go_wp2_with (first
      | (go_at_call 69; ((with_reducible refine (HT2.out _ HB2.out).mono ?_); rintro e w3 ⟨⟨v, rfl, hv⟩, hb3⟩; obtain ⟨p, c, rfl, hr⟩ := hv.rw))
      | (go_at_call 39; ((with_reducible refine (HD1.out _ _ _ _ rfl hr).mono ?_); rintro e w4 ⟨u, rfl, hu, hb4⟩)))
    go_ret2
    rw [HQ.out]
    have HBZ := HBY.out.trans (hb3.mono HBY.out.size)
    exact ⟨⟨_, rfl, hu.mono HBZ.size⟩, HBZ.trans (hb4.mono HBZ.size)⟩
  have g2 : ((k : Int) == 2) = false := by simp [k2]
  by_cases k3 : k = 3
  · have g3 : ((k : Int) == 3) = true := by simp [k3]
    have HQ : Hid (R = (cc, disL cl)) := by show _ = _; rw [HR.out, if_neg k4, if_neg k2, if_pos k3]
    clear k4 k2 k3 hkk HR
    go_wp2_with (first
      | (go_at_call 67; ((with_reducible refine (HT3.out _ HB2.out).mono ?_); rintro e w3 ⟨⟨v, rfl, hv⟩, hb3⟩; obtain ⟨p, c, rfl, hr⟩ := hv.rw))
      | (go_at_call 39; ((with_reducible refine (HD2.out _ _ _ _ rfl hr).mono ?_); rintro e w4 ⟨u, rfl, hu, hb4⟩)))
    go_ret2
    rw [HQ.out]
    have HBZ := HBY.out.trans (hb3.mono HBY.out.size)
    exact ⟨⟨_, rfl, hu.mono HBZ.size⟩, HBZ.trans (hb4.mono HBZ.size)⟩
  have g3 : ((k : Int) == 3) = false := by simp [k3]
  have HQ : Hid (R = (0, [])) := by show _ = _; rw [HR.out, if_neg k4, if_neg k2, if_neg k3]
  clear k4 k2 k3 hkk HR
  go_wp2_with fail
  go_ret2
  rw [HQ.out]
  exact ⟨⟨_, rfl, SOw.nil _ _⟩, HBY.out⟩

set_option maxHeartbeats 2000000 in
theorem whole_any (k : Int) (b : ByteArray) (w : World) (hT : StrTab w) (hO : WoTab w) (hR : TrTab w) (hb : b.size ≤ 140737488355328) (hk : bytesE k b.data.toList = 0 → b.size ≤ 1000000) :
    Calls Tryz.prog 30 #[.agg #[.int .i64 k, .string b]] w fun e w' => e = .returned (.int .i64 ((lnkL k b.data.toList).1 : Int)) ∧ Below w.heap.size w w' := by
  obtain ⟨⟨C, L⟩, hL⟩ : ∃ q, q = lnkL k b.data.toList := ⟨_, rfl⟩
  obtain ⟨w1, hw1⟩ : ∃ w1, w1 = w.alloc (.cells #[.int .i64 k, .string b] 50) := ⟨_, rfl⟩
  have hx : w1.heap[w.heap.size]? = some (.cells #[.int .i64 k, .string b] 50 (0, 0)) := by rw [hw1]; exact heap_alloc_new w _
  have hbx : Below w.heap.size w w1 := by rw [hw1]; exact below_new (Below.refl _ _) _
  have x0 : w1.cell? ⟨w.heap.size, 0, none⟩ = some (.int .i64 k) := cell_of_row _ _ 0 _ _ _ hx
  have x1 : w1.cell? ⟨w.heap.size, 1, none⟩ = some (.string b) := cell_of_row _ _ 1 _ _ _ hx
  have HBX := Lib.hid hbx
  have HW1 := Lib.hid hw1
  have HL : Hid (Calls Tryz.prog 28 #[.agg #[.int .i64 k, .string b]] w1 (LnkR (C, L) w1)) := by
    rw [hL]
    exact links_any k b w1 (hT.below hbx) (hO.below hbx) (hR.below hbx) hb hk
  rw [← hL]
  clear hL hw1 hx hbx hT hO hR hb hk
  go_enter Tryz.func30, Tryz.ntmps30
  go_upto_region 1 with fail
  rw [← HW1.out]
  go_wp2_with (go_at_call 28; ((with_reducible refine (HL.out).mono ?_); rintro e w2 ⟨⟨v, rfl, hv⟩, hb2⟩))
  go_ret
  exact ⟨rfl, HBX.out.trans (hb2.mono HBX.out.size)⟩
end Go.Proofs.YtddmnibioacelaaGreatDoor
/-
  The tables of commit's laws out of their rows' lists; a world that holds them; commits, tags and persons that are handed in.
-/
namespace Go.Proofs.YtddmnibioacelaaGreatDoor
open Go.ChangeShapes Go.WideShapes Go.ChangeAt Go.RowKit
open Go.WideMaps Go.WideElems

theorem Tryz.gWords : Tryz.prog.globalNamed "graftage/object.words" = some 0 := by kernel_rfl
theorem Tryz.gWordsType : (Tryz.prog.globals[0]?).map (·.type) = some 93 := by kernel_rfl
theorem Tryz.cellsWords : Tryz.prog.cellsOf 93 = 5 := by kernel_rfl
theorem Tryz.cellsStr : Tryz.prog.cellsOf 9 = 1 := by kernel_rfl
theorem Tryz.gPow : Tryz.prog.globalNamed "internal/strconv.uint64pow10" = some 4 := by kernel_rfl
theorem Tryz.gPowType : (Tryz.prog.globals[4]?).map (·.type) = some 149 := by kernel_rfl
theorem Tryz.cellsPow : Tryz.prog.cellsOf 149 = 20 := by kernel_rfl
theorem Tryz.cellsU64 : Tryz.prog.cellsOf 131 = 1 := by kernel_rfl
theorem Tryz.gErr : Tryz.prog.globalNamed "strconv.ErrSyntax" = some 2 := by kernel_rfl
theorem Tryz.gErrType : (Tryz.prog.globals[2]?).map (·.type) = some 96 := by kernel_rfl
theorem Tryz.cellsErrStr : Tryz.prog.cellsOf 160 = 1 := by kernel_rfl
theorem Tryz.star : "*" ++ "errors.errorString" = "*errors.errorString" := by decide
theorem Tryz.rowErr (u : TypeId) (h : Tryz.prog.typeName? 3 u = some "*errors.errorString") : u = 158 :=
  typeName_ptr_named (nm := "errors.errorString") (by rw [Tryz.star]; kernel_rfl) (by kernel_rfl) (by decide) u (by rw [Tryz.star]; exact h)
theorem words_of {W : World} {r : List (String × DataW Unit)} (h : laidMet Tryz.prog (("graftage/object.words", Rows.laid_graftage_object_words) :: r) W) : WoTab W := by
  obtain ⟨ps, ⟨g', t', cs, fuel, p, q, hg', ht', hvar, hd, _, _⟩, _⟩ := h
  obtain rfl := Option.some.inj (Tryz.gWords.symm.trans hg')
  obtain rfl := Option.some.inj (Tryz.gWordsType.symm.trans ht')
  have hc := cells_of_strs (zs := [[], [98, 108, 111, 98], [116, 114, 101, 101], [99, 111, 109, 109, 105, 116], [116, 97, 103]]) Tryz.underlying93 Tryz.underlying9 Tryz.cellsStr Tryz.cellsWords hd
  have hcell : ∀ i, W.cell? ⟨0, i, none⟩ = cs.toList[i]? := fun i => by
    have := World.var?_cell Tryz.gWords hvar i
    rw [this]
    simp
  exact ⟨by rw [hcell, hc]; rfl, by rw [hcell, hc]; rfl, by rw [hcell, hc]; rfl, by rw [hcell, hc]; rfl, by rw [hcell, hc]; rfl⟩
theorem pow_of {W : World} {r : List (String × DataW Unit)} (h : laidMet Tryz.prog (("internal/strconv.uint64pow10", Rows.laid_internal_strconv_uint64pow10) :: r) W) : Lib.TabIs Tryz.prog W "internal/strconv.uint64pow10" .u64 Lib.pow10Tab :=
  Lib.tabIs_of_head Tryz.gPow Tryz.gPowType Tryz.underlying149 Tryz.underlying131 Tryz.cellsU64 Tryz.cellsPow h
theorem err_of {W : World} {r : List (String × DataW Unit)} (h : laidMet Tryz.prog (("strconv.ErrSyntax", Rows.laid_strconv_ErrSyntax) :: r) W) : ∃ te pe, W.cell? ⟨2, 0, none⟩ = some (.iface te pe) := by
  obtain ⟨a0, s0, hv0, -, -, -⟩ := laid_sentinel h Tryz.gErr Tryz.gErrType Tryz.underlying96 Tryz.rowErr Tryz.underlying158 Tryz.underlying160 rfl rfl Tryz.underlying9 Tryz.cellsErrStr Tryz.cellsStr
  have h0 := World.var?_cell Tryz.gErr hv0 0
  exact ⟨_, _, by simpa using h0⟩
theorem Tryz.gModes : Tryz.prog.globalNamed "graftage/tree.modeWords" = some 5 := by kernel_rfl
theorem Tryz.gModesType : (Tryz.prog.globals[5]?).map (·.type) = some 93 := by kernel_rfl
theorem Tryz.cellsModes : Tryz.prog.cellsOf 93 = 5 := by kernel_rfl
theorem modes_of {W : World} {r : List (String × DataW Unit)} (h : laidMet Tryz.prog (("graftage/tree.modeWords", Rows.laid_graftage_tree_modeWords) :: r) W) : ∀ q : Nat, q < 5 → W.cell? ⟨5, q, none⟩ = some (.string (str (wordM q))) := by
  obtain ⟨ps, ⟨g', t', cs, fuel, p, q, hg', ht', hvar, hd, _, _⟩, _⟩ := h
  obtain rfl := Option.some.inj (Tryz.gModes.symm.trans hg')
  obtain rfl := Option.some.inj (Tryz.gModesType.symm.trans ht')
  have hc := cells_of_strs (zs := [[], wordM 1, wordM 2, wordM 3, wordM 4]) Tryz.underlying93 Tryz.underlying9 Tryz.cellsStr Tryz.cellsModes hd
  have hcell : ∀ i, W.cell? ⟨5, i, none⟩ = cs.toList[i]? := fun i => by
    have := World.var?_cell Tryz.gModes hvar i
    rw [this]
    simp
  intro q hq
  rw [hcell, hc]
  have : q = 0 ∨ q = 1 ∨ q = 2 ∨ q = 3 ∨ q = 4 := by omega
  rcases this with rfl | rfl | rfl | rfl | rfl <;> rfl
/-- What commit's laws read. -/
structure CmTab (w : World) : Prop where
  s : StrTab w
  o : WoTab w
  t : TrTab w
theorem cmtab_of {W : World} (h : laidMetH Tryz.prog Rows.commitNamesRow.laid W) (hsh : W.ShapedOpen Tryz.prog) : CmTab W := by
  have h0 : laidMet Tryz.prog [("math/bits.deBruijn32tab", Rows.laid_math_bits_deBruijn32tab), ("math/bits.deBruijn64tab", Rows.laid_math_bits_deBruijn64tab), ("internal/strconv.uint64pow10", Rows.laid_internal_strconv_uint64pow10), ("unicode/utf8.acceptRanges", Rows.laid_unicode_utf8_acceptRanges), ("strconv.ErrRange", Rows.laid_strconv_ErrRange), ("strconv.ErrSyntax", Rows.laid_strconv_ErrSyntax), ("graftage/object.words", Rows.laid_graftage_object_words), ("graftage/tree.modeWords", Rows.laid_graftage_tree_modeWords), ("unicode/utf8.first", Rows.laid_unicode_utf8_first)] W := h
  have hm := modes_of h0.tail.tail.tail.tail.tail.tail.tail
  have hl := Tryz.laysM145.s1_3 W hsh
  exact ⟨⟨pow_of h0.tail.tail, err_of h0.tail.tail.tail.tail.tail, hl⟩, words_of h0.tail.tail.tail.tail.tail.tail, ⟨hl, hm 1 (by decide), hm 2 (by decide), hm 3 (by decide), hm 4 (by decide)⟩⟩

/-- A row's cells laid anew. -/
def setRow (cs : Array Value) : Obj → Obj
  | .cells _ t frozen => .cells cs t frozen
  | o => o
/-- So many blocks has the settled world. -/
noncomputable def low : Nat := (World.holding Tryz.prog default ⟨#[], #[], []⟩).heap.size
/-- A world for the witness: the settled one and two blocks more, the variables holding what their initialisers lay. -/
noncomputable def cmWorld (os : Os) : World :=
  let w0 := World.holding Tryz.prog os ⟨#[.cells #[.string ⟨#[105, 110, 118, 97, 108, 105, 100, 32, 115, 121, 110, 116, 97, 120]⟩] 160, .cells #[.string ⟨#[118, 97, 108, 117, 101, 32, 111, 117, 116, 32, 111, 102, 32, 114, 97, 110, 103, 101]⟩] 160], #[], []⟩
  { w0 with heap := (((((((((w0.heap.modify 2 (setRow #[.iface 158 (.pointer (some ⟨low, 0, none⟩))])).modify 3 (setRow #[.iface 158 (.pointer (some ⟨low + 1, 0, none⟩))])).modify 0 (setRow #[.string ⟨#[]⟩, .string ⟨#[98, 108, 111, 98]⟩, .string ⟨#[116, 114, 101, 101]⟩, .string ⟨#[99, 111, 109, 109, 105, 116]⟩, .string ⟨#[116, 97, 103]⟩])).modify 4 (setRow #[.int .u64 1, .int .u64 10, .int .u64 100, .int .u64 1000, .int .u64 10000, .int .u64 100000, .int .u64 1000000, .int .u64 10000000, .int .u64 100000000, .int .u64 1000000000, .int .u64 10000000000, .int .u64 100000000000, .int .u64 1000000000000, .int .u64 10000000000000, .int .u64 100000000000000, .int .u64 1000000000000000, .int .u64 10000000000000000, .int .u64 100000000000000000, .int .u64 1000000000000000000, .int .u64 10000000000000000000]))).modify 6 (setRow #[.int .u8 0, .int .u8 1, .int .u8 28, .int .u8 2, .int .u8 29, .int .u8 14, .int .u8 24, .int .u8 3, .int .u8 30, .int .u8 22, .int .u8 20, .int .u8 15, .int .u8 25, .int .u8 17, .int .u8 4, .int .u8 8, .int .u8 31, .int .u8 27, .int .u8 13, .int .u8 23, .int .u8 21, .int .u8 19, .int .u8 16, .int .u8 7, .int .u8 26, .int .u8 12, .int .u8 18, .int .u8 6, .int .u8 11, .int .u8 5, .int .u8 10, .int .u8 9])).modify 7 (setRow #[.int .u8 0, .int .u8 1, .int .u8 56, .int .u8 2, .int .u8 57, .int .u8 49, .int .u8 28, .int .u8 3, .int .u8 61, .int .u8 58, .int .u8 42, .int .u8 50, .int .u8 38, .int .u8 29, .int .u8 17, .int .u8 4, .int .u8 62, .int .u8 47, .int .u8 59, .int .u8 36, .int .u8 45, .int .u8 43, .int .u8 51, .int .u8 22, .int .u8 53, .int .u8 39, .int .u8 33, .int .u8 30, .int .u8 24, .int .u8 18, .int .u8 12, .int .u8 5, .int .u8 63, .int .u8 55, .int .u8 48, .int .u8 27, .int .u8 60, .int .u8 41, .int .u8 37, .int .u8 16, .int .u8 46, .int .u8 35, .int .u8 44, .int .u8 21, .int .u8 52, .int .u8 32, .int .u8 23, .int .u8 11, .int .u8 54, .int .u8 26, .int .u8 40, .int .u8 15, .int .u8 34, .int .u8 20, .int .u8 31, .int .u8 10, .int .u8 25, .int .u8 14, .int .u8 19, .int .u8 9, .int .u8 13, .int .u8 8, .int .u8 7, .int .u8 6])).modify 9 (setRow #[.int .u8 128, .int .u8 191, .int .u8 160, .int .u8 191, .int .u8 128, .int .u8 159, .int .u8 144, .int .u8 191, .int .u8 128, .int .u8 143, .int .u8 0, .int .u8 0, .int .u8 0, .int .u8 0, .int .u8 0, .int .u8 0, .int .u8 0, .int .u8 0, .int .u8 0, .int .u8 0, .int .u8 0, .int .u8 0, .int .u8 0, .int .u8 0, .int .u8 0, .int .u8 0, .int .u8 0, .int .u8 0, .int .u8 0, .int .u8 0, .int .u8 0, .int .u8 0])).modify 8 (setRow (Go.Pinned.utf8FirstZ.map fun (n : Nat) => Value.int .u8 (n : Int)).toArray)).modify 5 (setRow #[.string ⟨#[]⟩, .string ⟨#[49, 48, 48, 54, 52, 52, 32]⟩, .string ⟨#[49, 48, 48, 55, 53, 53, 32]⟩, .string ⟨#[49, 50, 48, 48, 48, 48, 32]⟩, .string ⟨#[52, 48, 48, 48, 48, 32]⟩]) }
end Go.Proofs.YtddmnibioacelaaGreatDoor
