/-
  The reference's signs: a part pattern's elements as strings; the walk.
-/
import Derived.Test.YtdgcmapmnkopaaaDoorGlRClass
import Derived.Test.YtdgcmapmnkopaaaDoorGlCap
namespace Go.Proofs.YtdgcmapmnkopaaaDoor
open Go.RowKit

/-- The elements of a part pattern, each as its own bytes. -/
def rt : List UInt8 → Option (List (List UInt8))
  | [] => some []
  | c :: r => match _h : tk (c :: r) with
    | none => none
    | some x => (rt ((c :: r).drop x.2)).map fun y => (c :: r).take x.2 :: y
termination_by l => l.length
decreasing_by
  have := tk_le (t := x.1) (k := x.2) _h
  simp only [List.length_drop, List.length_cons]
  omega
theorem rt_nil : rt [] = some [] := by rw [rt]
theorem rt_bad {c : UInt8} {r : List UInt8} (h : tk (c :: r) = none) : rt (c :: r) = none := by
  rw [rt]
  split
  · rfl
  · rename_i h2
    rw [h] at h2
    cases h2
theorem rt_on {c : UInt8} {r : List UInt8} {t : Tok} {k : Nat} (h : tk (c :: r) = some (t, k)) : rt (c :: r) = (rt ((c :: r).drop k)).map fun y => (c :: r).take k :: y := by
  rw [rt]
  split
  · rename_i h2
    rw [h] at h2
    cases h2
  · rename_i x h2
    rw [h, Option.some.injEq] at h2
    subst h2
    rfl
/-- Both ways to cut a part pattern succeed together. -/
theorem rt_tks : ∀ l : List UInt8, (rt l).isSome = (tks l).isSome
  | [] => by rw [rt_nil, tks_nil]; rfl
  | c :: r => by
    cases h : tk (c :: r) with
    | none => rw [rt_bad h, tks_bad h]; rfl
    | some x =>
      obtain ⟨t, k⟩ := x
      have := tk_le h
      rw [rt_on h, tks_on h, Option.isSome_map, Option.isSome_map, rt_tks ((c :: r).drop k)]
termination_by l => l.length
decreasing_by
  simp only [List.length_drop, List.length_cons]
  omega

/-- What class answers at a bracket. -/
def clsR (p : ByteArray) (i : Nat) : Int := endR true (p.data.toList.drop (i + 1 + ng (p.data.toList.drop (i + 1)))) (i + 1 + ng (p.data.toList.drop (i + 1)))
theorem sstep (p : ByteArray) (i : Nat) (h : i < p.size) :
    (p[i] = 92 ∧ (tk (p.data.toList.drop i) = none ∧ p.size < i + 2 ∨ ∃ t, tk (p.data.toList.drop i) = some (t, 2) ∧ i + 2 ≤ p.size)) ∨
    (p[i] = 91 ∧ (tk (p.data.toList.drop i) = none ∧ clsR p i = -1 ∨ ∃ t k, tk (p.data.toList.drop i) = some (t, k) ∧ 1 ≤ k ∧ clsR p i = ((i + k : Nat) : Int) ∧ i + k ≤ p.size)) ∨
    (p[i] ≠ 92 ∧ p[i] ≠ 91 ∧ ∃ t, tk (p.data.toList.drop i) = some (t, 1)) := by
  have hd := pt_drop p i h
  by_cases h92 : p[i] = 92
  · left
    refine ⟨h92, ?_⟩
    by_cases h2 : i + 2 ≤ p.size
    · right
      rw [hd, tk, if_neg (by rw [h92]; decide), if_neg (by rw [h92]; decide), if_neg (fun e => by
        have := congrArg List.length e.2
        rw [List.length_drop, list_len, List.length_nil] at this
        omega), ck, if_pos h92]
      exact ⟨_, rfl, h2⟩
    · left
      rw [hd, tk, if_neg (by rw [h92]; decide), if_neg (by rw [h92]; decide), if_pos ⟨h92, List.drop_of_length_le (by rw [list_len]; omega)⟩]
      exact ⟨rfl, by omega⟩
  · right
    by_cases h91 : p[i] = 91
    · left
      refine ⟨h91, ?_⟩
      have hR : clsR p i = endR true (p.data.toList.drop (i + 1 + ng (p.data.toList.drop (i + 1)))) (i + 1 + ng (p.data.toList.drop (i + 1))) := rfl
      rw [endR, sc_cl, ← List.drop_drop (i := ng (p.data.toList.drop (i + 1)))] at hR
      have ht : tk (p.data.toList.drop i) = (cl true ((p.data.toList.drop (i + 1)).drop (ng (p.data.toList.drop (i + 1))))).map fun x => (.cls (decide (ng (p.data.toList.drop (i + 1)) = 1)) x.1, 1 + ng (p.data.toList.drop (i + 1)) + x.2) := by
        rw [hd, tk, if_neg (by rw [h91]; decide), if_pos h91]
      cases hc : cl true ((p.data.toList.drop (i + 1)).drop (ng (p.data.toList.drop (i + 1)))) with
      | none =>
        rw [hc] at ht hR
        exact .inl ⟨ht, hR⟩
      | some x =>
        rw [hc] at ht hR
        right
        have hl := tk_le ht
        rw [List.length_drop, list_len] at hl
        exact ⟨_, _, ht, hl.1, by rw [hR]; simp only [Option.map_some]; congr 1; omega, by omega⟩
    · right
      by_cases h63 : p[i] = 63
      · exact ⟨h92, h91, .any, by rw [hd, tk, if_pos h63]⟩
      · exact ⟨h92, h91, _, by rw [hd, tk, if_neg h63, if_neg h91, if_neg (fun e => h92 e.1), ck, if_neg h92]⟩

/-- What signs answers. -/
def sg (p : ByteArray) : List (List UInt8) × Bool := match rt p.data.toList with
  | some L => (L, decide (0 < L.length))
  | none => ([], false)
set_option maxHeartbeats 4000000 in
set_option maxRecDepth 4000 in
theorem rsigns_any (p : ByteArray) (L : List (List UInt8)) (B : Bool) (n : Nat) (w : World) (hs : p.size ≤ 1048576) (hR : sg p = (L, B)) (hn : n = L.length) :
    Calls Tryd.prog 55 #[.string p] w fun e w' => (∃ q cap, e = .returned (.tuple #[.slice q n cap, .bool B]) ∧ n ≤ cap ∧ SRw w' q L) ∧ Below w.heap.size w w' := by
  obtain ⟨i0, hi, hz0, hz1, hz2⟩ := info_parts Tryd.infoStr
  have HR : Hid (sg p = (L, B)) := hR
  have HN : Hid (n = L.length) := hn
  have HC := Lib.hid (fun (k : Nat) (hk : k < p.size) (w : World) => rclass_any p k (clsR p k) w hk hs rfl)
  have HS := Lib.hid (sstep p)
  have HT : Hid (rt p.data.toList = (rt (p.data.toList.drop 0)).map (([] : List (List UInt8)) ++ ·)) := by
    show _ = _
    rw [List.drop_zero]
    cases rt p.data.toList <;> rfl
  clear hR hn
  go_enter Tryd.func55, Tryd.ntmps55
  go_wp2
  go_loopw [4, 5, 6] (fun v iv _ wr => ∃ (i : Nat) (done : List (List UInt8)), iv = .int .i64 i ∧ i ≤ p.size ∧ done.length ≤ i ∧ Hid (rt p.data.toList = (rt (p.data.toList.drop i)).map (done ++ ·)) ∧ wr.ownsRow w.heap.size 9 1 v done.length (strs done) ∧ Below w.heap.size w wr) (fun _ iv _ _ => p.size - (intOf iv).toNat)
  case atStart => exact ⟨0, [], rfl, by omega, by simp, HT, World.ownsRow_nil _ _ _ _, Below.refl _ _⟩
  case round =>
    clear HT
    obtain ⟨i, done, rfl, hip, hdl, HX, ho, hb⟩ := hrel
    have hbw := hb.size
    by_cases hlt : i < p.size
    · have hst := HS.out i hlt
      have hd := pt_drop p i hlt
      have hbad : tk (p.data.toList.drop i) = none → Hid (L = [] ∧ B = false) := fun e => by
        have h1 := HR.out
        rw [hd] at e
        rw [sg, HX.out, hd, rt_bad e] at h1
        simp only [Option.map_none, Prod.mk.injEq] at h1
        exact ⟨h1.1.symm, h1.2.symm⟩
      have hgood : ∀ t k, tk (p.data.toList.drop i) = some (t, k) → Hid (rt p.data.toList = (rt (p.data.toList.drop (i + k))).map ((done ++ [(p.extract i (i + k)).data.toList]) ++ ·)) := fun t k e => by
        show _ = _
        rw [hd] at e
        rw [HX.out, hd, rt_on e, ← hd, List.drop_drop, ext_bytes, Nat.add_sub_cancel_left]
        cases rt (p.data.toList.drop (i + k)) with
        | none => rfl
        | some y => simp
      clear hd HX
      rcases hst with ⟨h92, ⟨ht, hl⟩ | ⟨t, ht, hl⟩⟩ | ⟨h91, ⟨ht, hc⟩ | ⟨t, k, ht, hk1, hc, hl⟩⟩ | ⟨h92, h91, t, ht⟩
      · have a1 : (((p[i]'hlt).toNat : Int) == 92) = true := by rw [beq_iff_eq, h92]; rfl
        have HB := hbad ht
        have HNN : Hid (n = 0) := by show _ = _; rw [HN.out, HB.out.1]; rfl
        clear hbad hgood ht h92 ho
        go_wp2
        go_ret2
        exact ⟨⟨none, 0, by rw [HNN.out, HB.out.2]; rfl, by rw [HNN.out]; exact Nat.le_refl _, by rw [HB.out.1]; exact SRw.none _ _⟩, hb⟩
      · have a1 : (((p[i]'hlt).toNat : Int) == 92) = true := by rw [beq_iff_eq, h92]; rfl
        have HX := hgood t 2 ht
        clear hbad hgood ht h92
        go_wp2_with (at_builtin; refine wpList_append_own _ rfl _ _ 25 rfl w.heap.size 9 i0 (.string ⟨#[]⟩) 1 16 Tryd.underlying25 hi hz0 hz1 hz2 rfl (by decide) _ _ _ rfl (ho.alloc _) ⟨wr.heap.size, 0, none⟩ 1 1 [.string (p.extract i (i + 2))] rfl rfl (new_cell wr _ _) (pt_one _) (by unfold maxLen; omega) (by omega) (by simp; omega) ?_; intro v1 w1 ho1 hg1 _)
        have hb1 : Below w.heap.size w w1 := below_own (below_new hb _) (ho.alloc _) (Nat.le_refl _) hg1
        rw [strs_snoc] at ho1
        go_roundw
        case rel => exact ⟨i + 2, done ++ [(p.extract i (i + 2)).data.toList], by go_num, by omega, by simp; omega, HX, by rw [List.length_append]; exact ho1, hb1⟩
        case measure => simp [intOf]; omega
      · have a1 : (((p[i]'hlt).toNat : Int) == 92) = false := u8_not (n := 92) (by decide) (by rw [h91]; decide)
        have a2 : (((p[i]'hlt).toNat : Int) == 91) = true := by rw [beq_iff_eq, h91]; rfl
        have HCC := HC.out i hlt
        rw [hc] at HCC
        have HK := Lib.hid HCC
        have HB := hbad ht
        have HNN : Hid (n = 0) := by show _ = _; rw [HN.out, HB.out.1]; rfl
        clear hbad hgood ht h91 ho hc HCC
        go_wp2_with (go_at_call 71; ((with_reducible refine (HK.out _).mono ?_); rintro e w2 ⟨rfl, rfl⟩))
        go_ret2
        exact ⟨⟨none, 0, by rw [HNN.out, HB.out.2]; rfl, by rw [HNN.out]; exact Nat.le_refl _, by rw [HB.out.1]; exact SRw.none _ _⟩, hb⟩
      · have a1 : (((p[i]'hlt).toNat : Int) == 92) = false := u8_not (n := 92) (by decide) (by rw [h91]; decide)
        have a2 : (((p[i]'hlt).toNat : Int) == 91) = true := by rw [beq_iff_eq, h91]; rfl
        have HCC := HC.out i hlt
        rw [hc] at HCC
        obtain ⟨m, hm⟩ : ∃ m, m = i + k := ⟨_, rfl⟩
        have HX := hgood t k ht
        rw [← hm] at HCC HX hl
        have HK := Lib.hid HCC
        have hmi : i < m := by omega
        clear hbad hgood ht h91 hc HCC hm hk1
        go_wp2_with (first
          | (go_at_call 71; ((with_reducible refine (HK.out _).mono ?_); rintro e w2 ⟨rfl, rfl⟩))
          | (at_builtin; refine wpList_append_own _ rfl _ _ 25 rfl w.heap.size 9 i0 (.string ⟨#[]⟩) 1 16 Tryd.underlying25 hi hz0 hz1 hz2 rfl (by decide) _ _ _ rfl (ho.alloc _) ⟨wr.heap.size, 0, none⟩ 1 1 [.string (p.extract i (m))] rfl rfl (new_cell wr _ _) (pt_one _) (by unfold maxLen; omega) (by omega) (by simp; omega) ?_; intro v1 w1 ho1 hg1 _))
        have hb1 : Below w.heap.size w w1 := below_own (below_new hb _) (ho.alloc _) (Nat.le_refl _) hg1
        rw [strs_snoc] at ho1
        go_roundw
        case rel => exact ⟨m, done ++ [(p.extract i (m)).data.toList], by go_num, by omega, by simp; omega, HX, by rw [List.length_append]; exact ho1, hb1⟩
        case measure => simp [intOf]; omega
      · have a1 : (((p[i]'hlt).toNat : Int) == 92) = false := u8_not (n := 92) (by decide) h92
        have a2 : (((p[i]'hlt).toNat : Int) == 91) = false := u8_not (n := 91) (by decide) h91
        have HX := hgood t 1 ht
        clear hbad hgood ht h92 h91
        go_wp2_with (at_builtin; refine wpList_append_own _ rfl _ _ 25 rfl w.heap.size 9 i0 (.string ⟨#[]⟩) 1 16 Tryd.underlying25 hi hz0 hz1 hz2 rfl (by decide) _ _ _ rfl (ho.alloc _) ⟨wr.heap.size, 0, none⟩ 1 1 [.string (p.extract i (i + 1))] rfl rfl (new_cell wr _ _) (pt_one _) (by unfold maxLen; omega) (by omega) (by simp; omega) ?_; intro v1 w1 ho1 hg1 _)
        have hb1 : Below w.heap.size w w1 := below_own (below_new hb _) (ho.alloc _) (Nat.le_refl _) hg1
        rw [strs_snoc] at ho1
        go_roundw
        case rel => exact ⟨i + 1, done ++ [(p.extract i (i + 1)).data.toList], by go_num, by omega, by simp; omega, HX, by rw [List.length_append]; exact ho1, hb1⟩
        case measure => simp [intOf]; omega
    · obtain rfl : i = p.size := by omega
      have HL : Hid (L = done ∧ B = decide (0 < done.length)) := by
        have h1 := HR.out
        rw [sg, HX.out, List.drop_of_length_le (by rw [list_len]; omega), rt_nil] at h1
        simp only [Option.map_some, List.append_nil, Prod.mk.injEq] at h1
        exact ⟨h1.1.symm, h1.2.symm⟩
      have ho2 : wr.ownsRow w.heap.size 9 1 u4 L.length (strs L) := by rw [HL.out.1]; exact ho
      rw [← HN.out] at ho2
      obtain ⟨q, cap, rfl, hcp, hsr⟩ := srw_cap (by rw [← HN.out]; exact ho2 : wr.ownsRow w.heap.size 9 1 u4 L.length (strs L))
      rw [← HN.out] at hcp ⊢
      have HB : Hid (B = decide (0 < n)) := by show _ = _; rw [HL.out.2, HN.out, HL.out.1]
      clear ho ho2 HX HL
      go_wp2
      go_ret2
      exact ⟨⟨q, cap, by rw [HB.out]; simp, hcp, hsr⟩, hb⟩
end Go.Proofs.YtdgcmapmnkopaaaDoor
