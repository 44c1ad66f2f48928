/-
  The walks of Bytes and of the reference's Check and Bytes.
-/
import Derived.Test.YtddmnibioacelaaGreatDoorObLenPk
import Derived.Test.YtddmnibioacelaaGreatDoorObNumPk
import Derived.Lib.ItoaLen
import Derived.BigQuiet
import Derived.Deep.QuietTactic
import Derived.Test.YtddmnibioacelaaGreatDoorCmParse
import Derived.Test.YtddmnibioacelaaGreatDoorCmPTag
import Derived.Test.YtddmnibioacelaaGreatDoorTrBackP
namespace Go.Proofs.YtddmnibioacelaaGreatDoor
open Go.RowKit

theorem wordL_le (k : Int) : (wordL k).length ≤ 6 := by
  unfold wordL
  repeat (split; · decide)
  decide
theorem itoa_nat (n : Nat) : Lib.itoa (n : Int) = Lib.decDigits n := by rw [Lib.itoa, if_neg (by omega)]; simp
theorem enc_str (k : Int) (b : ByteArray) : str (wordL k) ++ ⟨#[32]⟩ ++ str (Lib.decDigits b.size) ++ ⟨#[0]⟩ ++ b = str (encL k b.data.toList) := by
  refine ba_ext ?_
  rw [str_list, encL]
  simp only [app_list, str_list, list_len]
  simp
theorem bytesE_kind {k : Int} {l : List UInt8} (h : wordL k = []) : bytesE k l = 140 := by rw [bytesE, if_pos h]
theorem bytesE_big {k : Int} {l : List UInt8} (h : wordL k ≠ []) (h2 : 1048576 < l.length) : bytesE k l = 4 := by rw [bytesE, if_neg h, if_pos h2]
theorem bytesE_ok {k : Int} {l : List UInt8} (h : wordL k ≠ []) (h2 : ¬ 1048576 < l.length) : bytesE k l = 0 := by rw [bytesE, if_neg h, if_neg h2]
theorem bytesL_err {k : Int} {l : List UInt8} (h : bytesE k l ≠ 0) : bytesL k l = [] := by rw [bytesL, if_neg h]
theorem bytesL_ok {k : Int} {l : List UInt8} (h : bytesE k l = 0) : bytesL k l = encL k l := by rw [bytesL, if_pos h]

set_option maxHeartbeats 2000000 in
set_option maxRecDepth 4000 in
theorem bytes_any (k : Int) (b : ByteArray) (w : World) (h : WoTab w) (h2 : StrTab w) (hb : b.size ≤ 140737488355328) :
    Calls Tryz.prog 66 #[.agg #[.int .i64 k, .string b]] w fun e w' => e = .returned (.tuple #[.string (str (bytesL k b.data.toList)), .int .i64 (bytesE k b.data.toList : Int)]) ∧ Below w.heap.size w w' := by
  obtain ⟨t, ht⟩ : ∃ t, t = str (wordL k) := ⟨_, rfl⟩
  have hts : t.size ≤ 6 := by rw [ht, str_size]; exact wordL_le k
  have HWd : Hid (∀ w', Below w.heap.size w w' → Calls Tryz.prog 51 #[.int .i64 k] w' fun e w'' => e = .returned (.string t) ∧ w'' = w') := fun w' hb => by
    rw [ht]
    exact word_any k w' (h.below hb)
  have hx := heap_alloc_new w (.cells #[.int .i64 k, .string b] 50)
  have hbx : Below w.heap.size w (w.alloc (.cells #[.int .i64 k, .string b] 50)) := (Below.refl _ _).alloc (Nat.le_refl _) _
  obtain ⟨w1, hw1⟩ : ∃ w1, w1 = w.alloc (.cells #[.int .i64 k, .string b] 50) := ⟨_, rfl⟩
  have HW1 := Lib.hid hw1
  rw [← hw1] at hx hbx
  have c0 := cell_of_row w1 w.heap.size 0 _ _ _ hx
  have c1 := cell_of_row w1 w.heap.size 1 _ _ _ hx
  have c0 : w1.cell? ⟨w.heap.size, 0, none⟩ = some (.int .i64 k) := c0
  have c1 : w1.cell? ⟨w.heap.size, 1, none⟩ = some (.string b) := c1
  have HBX := Lib.hid hbx
  clear hw1 hx hbx
  by_cases hk : wordL k = []
  · have HR : Hid (bytesL k b.data.toList = [] ∧ (bytesE k b.data.toList) = 140) := ⟨bytesL_err (by rw [bytesE_kind hk]; decide), bytesE_kind hk⟩
    have f1 : t.toList.isEmpty = true := by rw [ByteArray.toList_eq, ht, str_list, hk]; rfl
    have f2 : (t.toList == []) = true := by rw [ByteArray.toList_eq, ht, str_list, hk]; rfl
    clear ht hk
    go_enter Tryz.func66, Tryz.ntmps66
    go_upto_region 1 with fail
    rw [← HW1.out]
    go_wp2_with (go_at_call 51; ((with_reducible refine (HWd.out _ HBX.out).mono ?_); rintro e w2 ⟨rfl, rfl⟩))
    go_ret2
    exact ⟨by rw [HR.out.1, HR.out.2]; rfl, HBX.out⟩
  have f1 : t.toList.isEmpty = false := by
    rw [ByteArray.toList_eq, ht, str_list]
    cases hx : wordL k with
    | nil => exact absurd hx hk
    | cons a l => rfl
  have f2 : (t.toList == []) = false := by rw [ByteArray.toList_eq, ht, str_list, beq_eq_false_iff_ne]; exact hk
  by_cases hbig : 1048576 < b.size
  · have HR : Hid (bytesL k b.data.toList = [] ∧ (bytesE k b.data.toList) = 4) := ⟨bytesL_err (by rw [bytesE_big hk (by rw [list_len]; exact hbig)]; decide), bytesE_big hk (by rw [list_len]; exact hbig)⟩
    clear ht hk
    go_enter Tryz.func66, Tryz.ntmps66
    go_upto_region 1 with fail
    rw [← HW1.out]
    go_wp2_with (go_at_call 51; ((with_reducible refine (HWd.out _ HBX.out).mono ?_); rintro e w2 ⟨rfl, rfl⟩))
    go_ret2
    exact ⟨by rw [HR.out.1, HR.out.2]; rfl, HBX.out⟩
  · obtain ⟨d, hd⟩ : ∃ d, d = str (Lib.decDigits b.size) := ⟨_, rfl⟩
    have hds : d.size ≤ 21 := by rw [hd, str_size, ← itoa_nat]; exact Lib.itoa_length_le _ (by omega) (by omega)
    have HIt := Lib.hid (fun (x : BelW w1) => Calls.bel_class (x := x) (v := .string d) (by
      have := itoa_any (b.size : Int) x.w (by omega) (by omega) ((h2.below HBX.out).below x.h)
      rw [itoa_nat, ← hd] at this
      exact this))
    have HR : Hid (bytesL k b.data.toList = encL k b.data.toList ∧ (bytesE k b.data.toList) = 0) := ⟨bytesL_ok (bytesE_ok hk (by rw [list_len]; exact hbig)), bytesE_ok hk (by rw [list_len]; exact hbig)⟩
    have HE : Hid (t ++ ⟨#[32]⟩ ++ d ++ ⟨#[0]⟩ ++ b = str (encL k b.data.toList)) := by show _ = _; rw [ht, hd]; exact enc_str k b
    have k1 : ∀ x : BelW w1, x.w.cell? ⟨w.heap.size, 1, none⟩ = some (.string b) := fun x => cell_bel c1 x.h
    have hq : Nonempty (BelW w1) := ⟨⟨w1, Below.refl _ _⟩⟩
    clear ht hk hd
    go_enter Tryz.func66, Tryz.ntmps66
    go_upto_region 1 with fail
    rw [← HW1.out]
    go_wp2_with (go_at_call 51; ((with_reducible refine (HWd.out _ HBX.out).mono ?_); rintro e w2 ⟨rfl, rfl⟩))
    refine wp_region_bel (w0 := w2) (Below.refl _ _) (by kernel_rfl) (by kernel_rfl) ?_
    repeat (go_big_quiet_step ((go_at_call 62; exact HIt.out _)))
    refine wpQuiet_nil ?_
    rintro _ ⟨x, rfl⟩
    have HX := Lib.hid (HBX.out.trans (x.h.mono HBX.out.size))
    go_wp2
    go_ret2
    exact ⟨by rw [HR.out.1, HR.out.2, ← HE.out]; rfl, HX.out⟩
end Go.Proofs.YtddmnibioacelaaGreatDoor
/-
  The walks of the links of a tree, of a commit and of a tag; of Links and Whole.
-/
namespace Go.Proofs.YtddmnibioacelaaGreatDoor
open Go Go.RowKit Go.Maps Go.WideMaps

/-- A list of strings and a code. -/
def LnkR (R : Nat × List (List UInt8)) (w : World) (e : Ending) (w' : World) : Prop := (∃ v, e = .returned (.tuple #[v, .int .i64 (R.1 : Int)]) ∧ SOw w' w.heap.size v R.2) ∧ Below w.heap.size w w'
/-- The links of a tree's entries. -/
def tids (es : List En) : List (List UInt8) := es.map fun e => e.i.data.toList
theorem tids_take {es : List En} {k : Nat} (h : k < es.length) : tids (es.take (k + 1)) = tids (es.take k) ++ [es[k].i.data.toList] := by
  unfold tids
  rw [List.take_succ_eq_append_getElem h, List.map_append, List.map_singleton]
def trL (l : List UInt8) : Nat × List (List UInt8) := ((parE l).1, tids (parE l).2)
def cmL (l : List UInt8) : Nat × List (List UInt8) := ((parC l).1, if (parC l).1 = 0 then (parC l).2.t.data.toList :: (parC l).2.ps else [])
def tgL (l : List UInt8) : Nat × List (List UInt8) := ((parG l).1, if (parG l).1 = 0 then [(parG l).2.o.data.toList] else [])
def lnkL (k : Int) (l : List UInt8) : Nat × List (List UInt8) :=
  if bytesE k l ≠ 0 then (bytesE k l, []) else if k = 4 then tgL l else if k = 2 then ((trL l).1, disL (trL l).2) else if k = 3 then ((cmL l).1, disL (cmL l).2) else (0, [])
theorem parE_len (l : List UInt8) : (parE l).2.length ≤ 1024 := by
  by_cases h : (parE l).1 = 0
  · exact (chkT_all (body_par h).1).1
  · rw [par_err h]; simp
theorem parC_len {l : List UInt8} (h : (parC l).1 = 0) : (parC l).2.ps.length ≤ 8 := (chkC_ok (parC_back h).1).2.2.1

set_option maxHeartbeats 4000000 in
set_option maxRecDepth 4000 in
theorem treeLinks_any (s : ByteArray) (w : World) (hT : TrTab w) (hs : s.size ≤ 1000000) : Calls Tryz.prog 69 #[.string s] w (LnkR (trL s.data.toList) w) := by
  obtain ⟨⟨C, es⟩, hP⟩ : ∃ P, P = parE s.data.toList := ⟨_, rfl⟩
  have hlen := parE_len s.data.toList
  have HTP : Hid (Calls Tryz.prog 87 #[.string s] w (ParT (C, es) w)) := by rw [hP]; exact tparse_any s w hT hs
  have hR : trL s.data.toList = (C, tids es) := by rw [trL, ← hP]
  rw [hR]
  rw [← hP] at hlen
  simp only at hlen
  clear hP hR hT hs
  go_enter Tryz.func69, Tryz.ntmps69
  go_upto_region 2 with (go_at_call 87; ((with_reducible refine (HTP.out).mono ?_); rintro e w1 ⟨⟨v, rfl, p, c, rfl, hcap, hrow⟩, hb1⟩))
  obtain ⟨n, hn⟩ : ∃ n, n = es.length := ⟨_, rfl⟩
  rw [← hn] at hlen ⊢
  have HN := Lib.hid hn
  have HP := Lib.hid hrow
  have HB1 := Lib.hid hb1
  clear hn hrow hb1 hcap HTP
  go_wp2_with fail
  go_loopw [6, 16] (fun ov iv wr => ∃ (k : Nat) (os : List (List UInt8)), k ≤ n ∧ iv = .int .i64 (k : Int) ∧ SOw wr w1.heap.size ov os ∧ os.length = k ∧ Hid (os = tids (es.take k)) ∧ Hid (Below w1.heap.size w1 wr)) (fun _ iv _ => n - (intOf iv).toNat)
  case atStart => exact ⟨0, [], by omega, rfl, SOw.nil _ _, rfl, rfl, Below.refl _ _⟩
  case round =>
    obtain ⟨k, os, hk, rfl, ho, hol, HO, HB⟩ := hrel
    by_cases hlt : k < n
    · have hkl : k < es.length := by rw [← HN.out]; exact hlt
      obtain ⟨e, he⟩ : ∃ e, e = es[k] := ⟨_, rfl⟩
      obtain ⟨g, o, rfl, hg, a0, a1, a2⟩ := HP.out.below HB.out k hkl
      rw [← he] at a0 a1 a2
      have HO2 : Hid (os ++ [e.i.data.toList] = tids (es.take (k + 1))) := by show _ = _; rw [tids_take hkl, ← he, HO.out]
      obtain ⟨m', n', i'⟩ := e
      simp only at a0 a1 a2 HO2
      obtain ⟨w2, hw2⟩ : ∃ w2, w2 = wr.alloc (.cells #[.int .i64 m', .string n', .string i'] 85) := ⟨_, rfl⟩
      obtain ⟨E, hE⟩ : ∃ E, E = wr.heap.size := ⟨_, rfl⟩
      have hrow : w2.heap[E]? = some (.cells #[.int .i64 m', .string n', .string i'] 85 (0, 0)) := by rw [hw2, hE]; exact heap_alloc_new _ _
      have hbx : Below wr.heap.size wr w2 := by rw [hw2]; exact below_new (Below.refl _ _) _
      have e2 : w2.cell? ⟨E, 2, none⟩ = some (.string i') := cell_of_row w2 _ 2 _ _ _ hrow
      have ho2 := ho.below hbx
      have hb2 : Below w1.heap.size w1 w2 := HB.out.trans (hbx.mono HB.out.size)
      have HB2 := Lib.hid hb2
      have hs2 := hb2.size
      have HW2 := Lib.hid hw2
      have HE0 := Lib.hid hE
      clear he hw2 hE hrow hbx ho hb2 hkl hg
      go_upto_region 6 with fail
      rw [← HW2.out, ← HE0.out]
      go_wp2_with (at_builtin; refine wp_so_one rfl _ _ rfl rfl ho2 i' rfl (by omega) hs2 ?_; intro v4 w4 ho4 hg4; have hb4 := ho2.bel1 HB2.out (Nat.le_refl _) hs2 hg4)
      go_roundw
      case rel => exact ⟨k + 1, _, by omega, by go_num, ho4, by simp [hol], HO2.out, hb4⟩
      case measure => simp [intOf]; omega
    · obtain rfl : k = n := by omega
      have HX : Hid (os = tids es) := by
        show _ = _
        rw [HO.out, List.take_of_length_le (by have := HN.out; omega)]
      have HOO := Lib.hid ho
      clear ho
      go_wp2_with fail
      go_ret2
      refine ⟨⟨_, rfl, ?_⟩, HB1.out.trans (HB.out.mono HB1.out.size)⟩
      rw [← HX.out]
      exact HOO.out.mono HB1.out.size

set_option maxHeartbeats 4000000 in
set_option maxRecDepth 4000 in
theorem commitLinks_any (s : ByteArray) (w : World) (hT : StrTab w) (hs : s.size ≤ 1048576) : Calls Tryz.prog 67 #[.string s] w (LnkR (cmL s.data.toList) w) := by
  obtain ⟨⟨C, ⟨t, ps, ⟨an, am, aT, az⟩, ⟨cn, cm, cT, cz⟩, x⟩⟩, hP⟩ : ∃ P, P = parC s.data.toList := ⟨_, rfl⟩
  have HTP : Hid (Calls Tryz.prog 14 #[.string s] w (ParCR (C, ⟨t, ps, ⟨an, am, aT, az⟩, ⟨cn, cm, cT, cz⟩, x⟩) w)) := by rw [hP]; exact cparse_any s w hT hs
  have hlen : C = 0 → ps.length ≤ 8 := fun h => by
    have := @parC_len s.data.toList
    rw [← hP] at this
    exact this h
  have hR : cmL s.data.toList = (C, if C = 0 then t.data.toList :: ps else []) := by rw [cmL, ← hP]
  rw [hR]
  clear hP hR hT hs
  go_enter Tryz.func67, Tryz.ntmps67
  go_upto_region 2 with (go_at_call 14; ((with_reducible refine (HTP.out).mono ?_); rintro e w1 ⟨⟨p, cap, rfl, hrow⟩, hb1⟩; simp only at hrow))
  obtain ⟨n, hn⟩ : ∃ n, n = ps.length := ⟨_, rfl⟩
  rw [← hn] at hlen ⊢
  obtain ⟨w2, hw2⟩ : ∃ w2, w2 = w1.alloc (.cells #[.string t, .slice p n cap, .string an, .string am, .int .i64 aT, .int .i64 az, .string cn, .string cm, .int .i64 cT, .int .i64 cz, .string x] 26) := ⟨_, rfl⟩
  obtain ⟨E, hE⟩ : ∃ E, E = w1.heap.size := ⟨_, rfl⟩
  have hr2 : w2.heap[E]? = some (.cells #[.string t, .slice p n cap, .string an, .string am, .int .i64 aT, .int .i64 az, .string cn, .string cm, .int .i64 cT, .int .i64 cz, .string x] 26 (0, 0)) := by rw [hw2, hE]; exact heap_alloc_new _ _
  have hbx : Below w1.heap.size w1 w2 := by rw [hw2]; exact below_new (Below.refl _ _) _
  rw [← hw2, ← hE]
  have HB2 := Lib.hid (hb1.trans (hbx.mono hb1.size))
  have hrow2 := hrow.below hbx
  have HN := Lib.hid hn
  obtain ⟨x0, x1, -⟩ := cm_at hr2
  clear hw2 hE hbx hrow hb1 HTP hn
  by_cases h0 : C = 0
  · have g0 : ((C : Int) != 0) = false := by simp [h0]
    have h8 := hlen h0
    have HC0 := Lib.hid h0
    have hown : SOw (w2.alloc (.cells #[.string t] 9)) w2.heap.size (.slice (some ⟨w2.heap.size, 0, none⟩) 1 1) [t.data.toList] := SOw.one w2 t (Nat.le_refl _)
    have hbn : Below w2.heap.size w2 (w2.alloc (.cells #[.string t] 9)) := below_new (Below.refl _ _) _
    have hr3 := hrow2.below hbn
    have y1 := cell_bel x1 hbn
    have hs3 := hbn.size
    have HB3 := Lib.hid hbn
    clear h0 hlen hrow2 hr2 hbn
    go_wp2_with (at_builtin; refine wp_so_many rfl _ _ rfl rfl hown p n cap rfl HN.out hr3 (by simp; omega) hs3 ?_; intro v4 w4 ho4 hg4; have hb4 : Below w2.heap.size w2 w4 := HB3.out.grown hg4 hs3 (fun k hk => (World.ownsRow.lt hown k hk).1))
    go_ret2
    refine ⟨⟨_, rfl, ?_⟩, HB2.out.trans (hb4.mono HB2.out.size)⟩
    exact SOw.mono ho4 HB2.out.size
  · have g0 : ((C : Int) != 0) = true := by simp; omega
    have HC0 := Lib.hid h0
    clear h0 hlen
    go_wp2_with fail
    go_ret2
    refine ⟨⟨_, rfl, ?_⟩, HB2.out⟩
    exact SOw.nil _ _

set_option maxHeartbeats 4000000 in
set_option maxRecDepth 4000 in
theorem tagLinks_any (s : ByteArray) (w : World) (hT : StrTab w) (hO : WoTab w) (hs : s.size ≤ 1048576) : Calls Tryz.prog 68 #[.string s] w (LnkR (tgL s.data.toList) w) := by
  obtain ⟨⟨C, ⟨t, k, n, ⟨an, am, aT, az⟩, x⟩⟩, hP⟩ : ∃ P, P = parG s.data.toList := ⟨_, rfl⟩
  have HTP : Hid (Calls Tryz.prog 17 #[.string s] w (ParGR (C, ⟨t, k, n, ⟨an, am, aT, az⟩, x⟩) w)) := by rw [hP]; exact gparse_any s w hT hO hs
  have hR : tgL s.data.toList = (C, if C = 0 then [t.data.toList] else []) := by rw [tgL, ← hP]
  rw [hR]
  clear hP hR hT hO hs
  go_enter Tryz.func68, Tryz.ntmps68
  go_upto_region 2 with (go_at_call 17; ((with_reducible refine (HTP.out).mono ?_); rintro e w1 ⟨rfl, hb1⟩))
  obtain ⟨w2, hw2⟩ : ∃ w2, w2 = w1.alloc (.cells #[.string t, .int .i64 k, .string n, .string an, .string am, .int .i64 aT, .int .i64 az, .string x] 37) := ⟨_, rfl⟩
  obtain ⟨E, hE⟩ : ∃ E, E = w1.heap.size := ⟨_, rfl⟩
  have hr2 : w2.heap[E]? = some (.cells #[.string t, .int .i64 k, .string n, .string an, .string am, .int .i64 aT, .int .i64 az, .string x] 37 (0, 0)) := by rw [hw2, hE]; exact heap_alloc_new _ _
  have hbx : Below w1.heap.size w1 w2 := by rw [hw2]; exact below_new (Below.refl _ _) _
  rw [← hw2, ← hE]
  have HB2 := Lib.hid (hb1.trans (hbx.mono hb1.size))
  obtain ⟨x0, -⟩ := tg_at hr2
  clear hw2 hE hbx hb1 HTP hr2
  by_cases h0 : C = 0
  · have g0 : ((C : Int) != 0) = false := by simp [h0]
    have HC0 := Lib.hid h0
    clear h0
    go_wp2_with fail
    go_ret2
    refine ⟨⟨_, rfl, ?_⟩, HB2.out.trans ((below_new (Below.refl _ _) _).mono HB2.out.size)⟩
    exact SOw.one w2 t HB2.out.size
  · have g0 : ((C : Int) != 0) = true := by simp; omega
    have HC0 := Lib.hid h0
    clear h0
    go_wp2_with fail
    go_ret2
    refine ⟨⟨_, rfl, ?_⟩, HB2.out⟩
    exact SOw.nil _ _
end Go.Proofs.YtddmnibioacelaaGreatDoor
