/-
  The walks of Count, of small and of the laws' own check.
-/
import Derived.Test.YtnmebnpldacngaaHsScript
namespace Go.Proofs.Ytnmebnpldacngaa
open Go.RowKit

theorem srw_made (w : World) (ls : List (List UInt8)) (t : TypeId) : SRw (w.alloc (.cells (strs ls).toArray t)) (some ⟨w.heap.size, 0, none⟩) ls := fun k hk =>
  ⟨w.heap.size, 0, rfl, by simp, by
    rw [World.cell?_alloc_mark w (strs ls).toArray t (0, 0) (0 + k), Nat.zero_add]
    simp [strs, List.getElem?_map, List.getElem?_eq_getElem hk]⟩
theorem count_snoc (l : List (List UInt8)) (x s : List UInt8) : (l ++ [x]).count s = l.count s + if x = s then 1 else 0 := by
  rw [List.count_append, List.count_singleton]
  congr 1
  simp
set_option maxHeartbeats 1000000 in
set_option maxRecDepth 4000 in
theorem hcount_any (la : List (List UInt8)) (s : List UInt8) (p : Option Addr) (c n C : Nat) (w : World) (hn : n = la.length) (hp : SRw w p la) (hl : n ≤ 1048576) (hC : C = la.count s) :
    Calls Try.prog 15 #[.slice p n c, .string (str s)] w fun e w' => e = .returned (.int .i64 (C : Int)) ∧ w = w' := by
  have HN := Lib.hid hn
  have HC := Lib.hid hC
  have HP := Lib.hid hp
  obtain ⟨t, ht⟩ : ∃ t, t = str s := ⟨_, rfl⟩
  have HT := Lib.hid ht
  rw [← ht]
  clear hn hC hp ht
  go_enter Try.func15, Try.ntmps15
  go_wp2
  go_loopw [5, 10] (fun cv iv wr => ∃ k x : Nat, k ≤ n ∧ iv = .int .i64 k ∧ cv = .int .i64 x ∧ x ≤ k ∧ wr = w ∧ Hid (x = (la.take k).count s)) (fun _ iv _ => n - (intOf iv).toNat)
  case atStart => exact ⟨0, 0, by omega, rfl, rfl, Nat.le_refl _, rfl, rfl⟩
  case round =>
    obtain ⟨k, x, hk, rfl, rfl, hxk, rfl, HX⟩ := hrel
    by_cases hlt : k < n
    · have hkl : k < la.length := by rw [← HN.out]; exact hlt
      obtain ⟨g, o, rfl, hg, a0⟩ := HP.out k hkl
      have hnx : (la.take (k + 1)).count s = (la.take k).count s + if la[k] = s then 1 else 0 := by rw [List.take_succ_eq_append_getElem hkl, count_snoc]
      by_cases he : la[k] = s
      · rw [if_pos he, ← HX.out] at hnx
        have HNX := Lib.hid hnx.symm
        obtain ⟨e1, -⟩ := str_is he
        obtain ⟨u, hu⟩ : ∃ u, u = str la[k] := ⟨_, rfl⟩
        rw [← hu] at a0 e1
        rw [← HT.out] at e1
        clear hu he hkl hnx HX hg
        go_wp2
        go_roundw
        case rel => exact ⟨k + 1, x + 1, by omega, by go_num, by go_num, by omega, trivial, HNX⟩
        case measure => simp [intOf]; omega
      · rw [if_neg he, ← HX.out, Nat.add_zero] at hnx
        have HNX := Lib.hid hnx.symm
        obtain ⟨e1, -⟩ := str_ne he
        obtain ⟨u, hu⟩ : ∃ u, u = str la[k] := ⟨_, rfl⟩
        rw [← hu] at a0 e1
        rw [← HT.out] at e1
        clear hu he hkl hnx HX hg
        go_wp2
        go_roundw
        case rel => exact ⟨k + 1, x, by omega, by go_num, rfl, by omega, trivial, HNX⟩
        case measure => simp [intOf]; omega
    · have HE : Hid (C = x) := by show _ = _; rw [HC.out, HX.out, List.take_of_length_le (by have := HN.out; omega)]
      clear HX
      go_wp2
      go_ret
      exact ⟨by rw [HE.out]; rfl, rfl⟩
def smallL (ls : List (List UInt8)) : Bool := decide (ls.length ≤ 100) && ls.all fun t => decide (t.length ≤ 200)
theorem smallL_out {ls : List (List UInt8)} (h : smallL ls = true) : ls.length ≤ 100 ∧ ∀ t ∈ ls, t.length ≤ 200 := by
  unfold smallL at h
  rw [Bool.and_eq_true, decide_eq_true_iff] at h
  exact ⟨h.1, fun t ht => of_decide_eq_true (List.all_eq_true.mp h.2 t ht)⟩
set_option maxHeartbeats 1000000 in
set_option maxRecDepth 4000 in
theorem hsmall_any (la : List (List UInt8)) (p : Option Addr) (c n : Nat) (B : Bool) (w : World) (hn : n = la.length) (hp : SRw w p la) (hl : n ≤ 140737488355328) (hs : ∀ t ∈ la, t.length ≤ 140737488355328) (hB : B = smallL la) :
    Calls Try.prog 8 #[.slice p n c] w fun e w' => e = .returned (.bool B) ∧ w = w' := by
  by_cases h100 : 100 < n
  · have HE : Hid (B = false) := by show _ = _; rw [hB, smallL, decide_eq_false (by omega)]; rfl
    clear hB hn hp hs
    go_enter Try.func8, Try.ntmps8
    go_wp2
    go_ret
    exact ⟨by rw [HE.out]; rfl, rfl⟩
  · have HN := Lib.hid hn
    have HP := Lib.hid hp
    have HS := Lib.hid hs
    have HB : Hid (B = (la.drop 0).all fun t => decide (t.length ≤ 200)) := by show _ = _; rw [hB, smallL, decide_eq_true (by omega), List.drop_zero]; rfl
    clear hB hn hp hs
    go_enter Try.func8, Try.ntmps8
    go_wp2
    go_loopw [3] (fun iv wr => ∃ k : Nat, k ≤ n ∧ iv = .int .i64 k ∧ wr = w ∧ Hid (B = (la.drop k).all fun t => decide (t.length ≤ 200))) (fun iv _ => n - (intOf iv).toNat)
    case atStart => exact ⟨0, by omega, rfl, rfl, HB⟩
    case round =>
      clear HB
      obtain ⟨k, hk, rfl, rfl, HB⟩ := hrel
      by_cases hlt : k < n
      · have hkl : k < la.length := by rw [← HN.out]; exact hlt
        obtain ⟨g, o, rfl, hg, a0⟩ := HP.out k hkl
        have hbd := HS.out _ (List.getElem_mem hkl)
        have hb := HB.out
        rw [List.drop_eq_getElem_cons hkl, List.all_cons] at hb
        have hsz := str_size la[k]
        obtain ⟨u, hu⟩ : ∃ u, u = str la[k] := ⟨_, rfl⟩
        rw [← hu] at a0 hsz
        by_cases h200 : la[k].length ≤ 200
        · rw [decide_eq_true h200, Bool.true_and] at hb
          have HX := Lib.hid hb
          have hu2 : u.size ≤ 200 := by omega
          clear hb hu hsz hbd h200 hkl HB hg
          go_wp2
          go_roundw
          case rel => exact ⟨k + 1, by omega, by go_num, trivial, HX⟩
          case measure => simp [intOf]; omega
        · rw [decide_eq_false h200, Bool.false_and] at hb
          have HX := Lib.hid hb
          have hu2 : 200 < u.size := by omega
          clear hb hu hsz hbd h200 hkl HB hg
          go_wp2
          go_ret
          exact ⟨by rw [HX.out]; rfl, rfl⟩
      · have HX : Hid (B = true) := by show _ = _; rw [HB.out, List.drop_of_length_le (by have := HN.out; omega)]; rfl
        clear HB
        go_wp2
        go_ret
        exact ⟨by rw [HX.out]; rfl, rfl⟩
theorem sc1 : scL [[120], [49], [120]] [[120], [50], [49], [120]] = [⟨1, 0, 1, 1⟩] := by decide +kernel
theorem an1 : anc [[97], [98], [98]] [[98], [98], ([99] : List UInt8)] = some ⟨1, 0, 2⟩ := by
  have h : (anc [[97], [98], [98]] [[98], [98], ([99] : List UInt8)]).map (fun r => (r.a, r.b, r.n)) = some (1, 0, 2) := by decide +kernel
  cases ho : anc [[97], [98], [98]] [[98], [98], ([99] : List UInt8)] with
  | none => rw [ho] at h; cases h
  | some r =>
    rw [ho] at h
    obtain ⟨a, b, n⟩ := r
    simp only [Option.map_some, Option.some.injEq, Prod.mk.injEq] at h
    rw [h.1, h.2.1, h.2.2]
theorem two_rows (w : World) (L M : List (List UInt8)) : ∃ W1, W1 = (w.alloc (.cells (strs L).toArray 9)).alloc (.cells (strs M).toArray 9) ∧ SRw W1 (some ⟨w.heap.size, 0, none⟩) L ∧ SRw W1 (some ⟨w.heap.size + 1, 0, none⟩) M ∧ Below w.heap.size w W1 := by
  have h1 := srw_made w L 9
  have h2 := srw_made (w.alloc (.cells (strs L).toArray 9)) M 9
  rw [show (w.alloc (.cells (strs L).toArray 9)).heap.size = w.heap.size + 1 by simp] at h2
  exact ⟨_, rfl, h1.below (below_new (Below.refl _ _) _), h2, below_new (below_new (Below.refl _ _) _) _⟩
theorem live1 (w : World) : Calls Try.prog 11 #[.slice (some ⟨w.heap.size, 0, none⟩) 3 3, .slice (some ⟨w.heap.size + 1, 0, none⟩) 4 4]
    ((w.alloc (.cells #[.string ⟨#[120]⟩, .string ⟨#[49]⟩, .string ⟨#[120]⟩] 9)).alloc (.cells #[.string ⟨#[120]⟩, .string ⟨#[50]⟩, .string ⟨#[49]⟩, .string ⟨#[120]⟩] 9)) fun e w' =>
    ∃ g cap, e = .returned (.slice (some ⟨g, 0, none⟩) 1 cap) ∧ g < w'.heap.size ∧ ERw w' (some ⟨g, 0, none⟩) [⟨1, 0, 1, 1⟩] ∧ Below w.heap.size w w' := by
  obtain ⟨W1, hW1, h1, h2, hb1⟩ := two_rows w [[120], [49], [120]] [[120], [50], [49], [120]]
  show Calls _ _ _ ((w.alloc (.cells (strs [[120], [49], [120]]).toArray 9)).alloc (.cells (strs [[120], [50], [49], [120]]).toArray 9)) _
  rw [← hW1]
  refine (hscript_any [[120], [49], [120]] [[120], [50], [49], [120]] _ _ 3 4 3 4 W1 rfl rfl h1 h2 (by decide) (by decide) (by decide) (by decide) (by decide) (by decide)).mono ?_
  rintro e w' ⟨⟨v, rfl, ho⟩, hb⟩
  rw [sc1] at ho
  obtain ⟨g, cap, hv, hg1, hg2⟩ := ho.form (by decide)
  obtain ⟨p, cap2, hv2, hr⟩ := ho.rw
  rw [hv] at hv2
  simp only [Value.slice.injEq] at hv2
  obtain ⟨rfl, _, rfl⟩ := hv2
  exact ⟨g, cap, by rw [hv]; rfl, hg2, hr, hb1.trans (hb.mono hb1.size)⟩
theorem live2 (w : World) : Calls Try.prog 13 #[.slice (some ⟨w.heap.size, 0, none⟩) 3 3, .slice (some ⟨w.heap.size + 1, 0, none⟩) 3 3]
    ((w.alloc (.cells #[.string ⟨#[97]⟩, .string ⟨#[98]⟩, .string ⟨#[98]⟩] 9)).alloc (.cells #[.string ⟨#[98]⟩, .string ⟨#[98]⟩, .string ⟨#[99]⟩] 9)) fun e w' =>
    e = .returned (.tuple #[.agg #[.int .i64 1, .int .i64 0, .int .i64 2], .bool true]) ∧ Below w.heap.size w w' := by
  obtain ⟨W1, hW1, h1, h2, hb1⟩ := two_rows w [[97], [98], [98]] [[98], [98], [99]]
  show Calls _ _ _ ((w.alloc (.cells (strs [[97], [98], [98]]).toArray 9)).alloc (.cells (strs [[98], [98], [99]]).toArray 9)) _
  rw [← hW1]
  refine (hAnchor_any [[97], [98], [98]] [[98], [98], [99]] _ _ 3 3 3 3 W1 rfl rfl h1 h2 (by decide) (by decide) (by decide) (by decide)).mono ?_
  rintro e w' ⟨rfl, hb⟩
  rw [an1]
  exact ⟨rfl, hb1.trans (hb.mono hb1.size)⟩
theorem live3 (w : World) : Calls Try.prog 13 #[.slice none 0 0, .slice (some ⟨w.heap.size, 0, none⟩) 1 1] (w.alloc (.cells #[.string ⟨#[97]⟩] 9)) fun e w' =>
    e = .returned (.tuple #[.agg #[.int .i64 0, .int .i64 0, .int .i64 0], .bool false]) ∧ Below w.heap.size w w' := by
  have h2 := srw_made w [[97]] 9
  refine (hAnchor_any [] [[97]] none _ 0 1 0 1 _ rfl rfl (SRw.none _ _) h2 (by decide) (by decide) (by decide) (by decide)).mono ?_
  rintro e w' ⟨rfl, hb⟩
  exact ⟨rfl, (below_new (Below.refl _ _) _).trans (hb.mono (by simp))⟩
theorem live4 (w : World) : Calls Try.prog 15 #[.slice (some ⟨w.heap.size, 0, none⟩) 3 3, .string ⟨#[97]⟩] (w.alloc (.cells #[.string ⟨#[97]⟩, .string ⟨#[98]⟩, .string ⟨#[97]⟩] 9)) fun e w' =>
    e = .returned (.int .i64 2) ∧ Below w.heap.size w w' := by
  have h2 := srw_made w [[97], [98], [97]] 9
  refine (hcount_any [[97], [98], [97]] [97] _ 3 3 2 _ rfl h2 (by decide) (by decide)).mono ?_
  rintro e w' ⟨rfl, rfl⟩
  exact ⟨rfl, below_new (Below.refl _ _) _⟩
set_option maxHeartbeats 1000000 in
set_option maxRecDepth 4000 in
theorem hlives_any (w : World) : Calls Try.prog 9 #[] w fun e w' => e = .returned (.bool true) ∧ Below w.heap.size w w' := by
  go_enter Try.func9, Try.ntmps9
  go_upto_region 3 with (first
    | (go_at_call 11; ((with_reducible refine (live1 _).mono ?_); rintro e w1 ⟨g1, cap1, rfl, hg1, hr1, hb1⟩))
    | (go_at_call 13; ((with_reducible refine (live2 _).mono ?_); rintro e w2 ⟨rfl, hb2⟩)))
  obtain ⟨w3, hw3⟩ : ∃ w3, w3 = w2.alloc (.cells #[.int .i64 1, .int .i64 0, .int .i64 2] 30) := ⟨_, rfl⟩
  obtain ⟨E, hE⟩ : ∃ E, E = w2.heap.size := ⟨_, rfl⟩
  rw [← hw3, ← hE]
  have hent : w3.heap[E]? = some (.cells #[.int .i64 1, .int .i64 0, .int .i64 2] 30 (0, 0)) := by rw [hw3, hE]; exact heap_alloc_new _ _
  have hb3 : Below w1.heap.size w1 w3 := by rw [hw3]; exact below_new hb2 _
  have hb03 := hb1.trans (hb3.mono hb1.size)
  have hr3 := hr1.below hb3
  have HENT := Lib.hid hent
  have HR3 := Lib.hid hr3
  have HB03 := Lib.hid hb03
  clear hw3 hE hent hb3 hb03 hr3 hr1 hb1 hb2
  go_upto_region 4 with (go_at_call 13; ((with_reducible refine (live3 _).mono ?_); rintro e w4 ⟨rfl, hb4⟩))
  obtain ⟨w5, hw5⟩ : ∃ w5, w5 = w4.alloc (.cells #[.int .i64 0, .int .i64 0, .int .i64 0] 30) := ⟨_, rfl⟩
  rw [← hw5]
  have hb5 : Below w3.heap.size w3 w5 := by rw [hw5]; exact below_new hb4 _
  have hent5 := (hb5.block _ (row_lt HENT.out)).trans HENT.out
  have hr5 := HR3.out.below hb5
  have HB05 := Lib.hid (HB03.out.trans (hb5.mono HB03.out.size))
  obtain ⟨g', o', hgo, _, x0, x1, x2, x3⟩ := hr5 0 (by simp)
  simp only [Option.some.injEq, Addr.mk.injEq, and_true] at hgo
  obtain ⟨rfl, rfl⟩ := hgo
  simp only [List.getElem_cons_zero] at x0 x1 x2 x3
  have r0 := cell_of_row w5 E 0 _ _ _ hent5
  have r1 := cell_of_row w5 E 1 _ _ _ hent5
  have r2 := cell_of_row w5 E 2 _ _ _ hent5
  clear hw5 hb5 hent5 hr5 hb4
  go_wp2_with (go_at_call 15; ((with_reducible refine (live4 _).mono ?_); rintro e w6 ⟨rfl, hb6⟩))
  go_ret
  exact ⟨rfl, HB05.out.trans (hb6.mono HB05.out.size)⟩
end Go.Proofs.Ytnmebnpldacngaa
