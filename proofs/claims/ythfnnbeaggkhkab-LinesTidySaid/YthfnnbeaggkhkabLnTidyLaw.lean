/-
  The walk of the law LinesTidy.
-/
import Derived.Test.YthfnnbeaggkhkabLnCleanSLaw
namespace Go.Proofs.Ythfnnbeaggkhkab
open Go.RowKit

/-- A world in which what was there is as it was. -/
structure BelW (w0 : World) where
  w : World
  h : Below w0.heap.size w0 w
theorem wp_region_bel {P : Program} {id : Nat} {Q : Exit → Act → World → Prop} {a : Act} {w w0 : World} {l : List Oper} (hi : Below w0.heap.size w0 w) (hm : P.follows .mixedOrders = true) (hB : Region.lexB .any l.toArray = true)
    (h : wpQuiet P l.toArray (fun w' => ∃ x : BelW w0, w' = x.w) (fun a' => ∀ w', (∃ x : BelW w0, w' = x.w) → Q .normal a' w') l a) : (Code.region id l.toArray true).wp P Q a w :=
  wp_region_quiet (C := fun w' => ∃ x : BelW w0, w' = x.w) hm hB ⟨⟨w.drew, hi.drew⟩, rfl⟩ (by simpa using h)
theorem Calls.bel_class {P : Program} {f : FuncId} {args : Array Value} {w0 : World} {x : BelW w0} {v : Value} (h : Calls P f args x.w fun e w' => e = .returned v ∧ Below w0.heap.size w0 w') :
    Calls P f args x.w fun e w'' => e = .returned v ∧ ∃ y : BelW w0, w'' = y.w :=
  h.mono fun _ w' ⟨he, hw⟩ => ⟨he, ⟨w', hw⟩, rfl⟩
theorem first_class {w0 : World} (x : BelW w0) (s r : ByteArray) (hs : s.size ≤ 1048576) (hr : r.data.toList = first (split s.data.toList)) :
    Calls Try.prog 16 #[.string s] x.w fun e w'' => e = .returned (.string r) ∧ ∃ y : BelW w0, w'' = y.w := Calls.bel_class (first_inv x.h s r hs hr)
theorem lives_class {w0 : World} (x : BelW w0) : Calls Try.prog 10 #[] x.w fun e w'' => e = .returned (.bool true) ∧ ∃ y : BelW w0, w'' = y.w := Calls.bel_class (lives_inv x.h)

/-- A line of the lines that are written, as the law looks at it. -/
theorem tidy_at {it : List (Bool × List UInt8)} (h : okItems it) (k : Nat) (hk : k < (flat it).length) :
    (flat it)[k].head? ≠ some 35 ∧ (flat it)[k].getLast? = some 10 ∧ ((flat it)[k] = [10] → k + 1 < (flat it).length ∧ ∃ j, ∃ hj : j < (flat it).length, j + 1 = k ∧ (flat it)[j] ≠ [10]) := by
  have e : flat it = (flat it).take k ++ (flat it)[k] :: (flat it).drop (k + 1) := by
    rw [← List.drop_eq_getElem_cons hk, List.take_append_drop]
  obtain ⟨h1, h2, h3⟩ := flat_tidy it h.1 _ _ _ e
  refine ⟨h1, h2, fun hx => ?_⟩
  obtain ⟨a, b, c⟩ := h3 hx
  have ha : k + 1 < (flat it).length := by
    rcases Nat.lt_or_ge (k + 1) (flat it).length with h | h
    · exact h
    · exact absurd (List.drop_eq_nil_of_le h) a
  have hk0 : k ≠ 0 := by
    intro h0
    obtain ⟨t, r, hit⟩ := b (by rw [h0]; rfl)
    have := h.2 _ _ hit
    simp at this
  obtain ⟨j, rfl⟩ : ∃ j, k = j + 1 := ⟨k - 1, by omega⟩
  refine ⟨ha, j, by omega, rfl, fun e2 => c ?_⟩
  rw [take_next _ j (by omega), e2]
  simp

set_option maxHeartbeats 4000000 in
set_option maxRecDepth 10000 in
theorem lnTidy_walk (s : ByteArray) (W : World) : Calls Try.prog 8 #[.string s] W fun e W' => e = .returned (.bool true) ∧ Below W.heap.size W W' := by
  have hb0 := Below.refl W.heap.size W
  by_cases h1 : 5000 < s.size
  · go_enter Try.func8, Try.ntmps8
    go_wp2_with (go_at_call 10; ((with_reducible refine (lives_inv hb0).mono ?_); rintro e w' ⟨rfl, hi⟩))
    go_ret
    exact ⟨rfl, hi⟩
  · obtain ⟨m, hm⟩ : ∃ m, m = str (clean s.data.toList) := ⟨_, rfl⟩
    obtain ⟨it, hit⟩ : ∃ it, it = (ifold (split s.data.toList)).1 := ⟨_, rfl⟩
    have HM : Hid (m.data.toList = clean s.data.toList) := by show _ = _; rw [hm, str_list]
    have HO : Hid (okItems it) := by show okItems it; rw [hit]; exact split_items _
    have HSL : Hid (split m.data.toList = flat it) := by show _ = _; rw [HM.out, clean_flat, ← hit, split_flat HO.out]
    have hms : m.size ≤ 15000 := by
      have h1 := cfold_len (split s.data.toList)
      have h2 := split_le s.data.toList
      rw [split_join, list_len] at h1
      rw [list_len] at h2
      have h3 : m.size = (cfold (split s.data.toList)).1.length := by rw [← list_len, HM.out]; rfl
      omega
    obtain ⟨L, hL⟩ : ∃ L, L = flat it := ⟨_, rfl⟩
    obtain ⟨n, hn⟩ : ∃ n, n = L.length := ⟨_, rfl⟩
    have HN := Lib.hid hn
    have hn2 : n ≤ 15000 := by have := split_le m.data.toList; rw [HSL.out, ← hL, list_len] at this; omega
    have HSP : Hid (∀ w, Calls Try.prog 13 #[.string m] w fun e w' => (∃ p cap, e = .returned (.slice p n cap) ∧ SRw w' p L) ∧ Below w.heap.size w w') := fun w => by
      have := rSplit_any m w (by omega) n (by rw [hn, HSL.out, hL])
      rw [HSL.out, ← hL] at this
      exact this
    have HTD : Hid (∀ k (hk : k < L.length), L[k].head? ≠ some 35 ∧ L[k].getLast? = some 10 ∧ (L[k] = [10] → k + 1 < L.length ∧ ∃ j, ∃ hj : j < L.length, j + 1 = k ∧ L[j] ≠ [10])) := by subst hL; exact fun k hk => tidy_at HO.out k hk
    have HJ : Hid (∀ k (h : k < L.length), L[k].length ≤ 15000) := by
      intro k h
      have := join_at_le L k h
      have h2 : (join L).length = m.size := by rw [hL, ← HSL.out, split_join, list_len]
      omega
    have HLN : Hid (∀ k (h : k < L.length), isLine L[k] = true) := by subst hL; exact fun k h => (flat_lines HO.out _ (List.getElem_mem h)).1
    obtain ⟨f, hf⟩ : ∃ f, f = str (first L) := ⟨_, rfl⟩
    have HF : Hid (f.data.toList = first (split m.data.toList)) := by show _ = _; rw [hf, str_list, HSL.out, hL]
    have HFF : Hid ((n = 0 ∧ f = ⟨#[]⟩) ∨ ∃ h : 0 < L.length, str L[0] = f ++ ⟨#[10]⟩) := by
      rcases flat_first HO.out with ⟨h1, h2⟩ | ⟨x, r, h1, h2⟩
      · exact .inl ⟨by rw [hn, hL, h1]; rfl, ba_ext (by rw [hf, str_list, hL, h2])⟩
      · refine .inr ⟨by rw [hL, h1]; simp, ba_ext ?_⟩
        rw [str_list, app_list, hf, str_list]
        simp only [hL, h1] at h2 ⊢
        simpa using h2.symm
    have hfs : f.size + 1 ≤ 20000 := by
      have h1 : (first L).length ≤ (join L).length := by
        have : ∀ ls : List (List UInt8), (first ls).length ≤ (join ls).length := by
          intro ls
          induction ls with
          | nil => simp [first]
          | cons x r ih =>
            rw [first]
            simp only [join, List.flatten_cons, List.length_append] at ih ⊢
            split
            · omega
            · have := cont_len x; omega
        exact this L
      have h2 : (join L).length = m.size := by rw [hL, ← HSL.out, split_join, list_len]
      rw [hf, str_size]
      omega
    clear hm hit HO HSL hn hL hf
    go_enter Try.func8, Try.ntmps8
    go_wp2_with (first
      | (go_at_call 26; ((with_reducible refine (clean_inv hb0 s m (by omega) HM.out).mono ?_); rintro e w1 ⟨rfl, h1⟩))
      | (go_at_call 13; ((with_reducible refine (HSP.out _).mono ?_); rintro e w2 ⟨⟨p, cap, rfl, hp⟩, hb2⟩; have h2 := h1.trans (hb2.mono h1.size); clear hb2)))
    go_loopw [16] (fun i wr => ∃ (k q : Nat), k ≤ n ∧ i = .int .i64 k ∧ wr = w2.drewN q) (fun i _ => n - (intOf i).toNat)
    case atStart => exact ⟨0, 0, by omega, rfl, rfl⟩
    case round =>
      obtain ⟨k, q, hk, rfl, rfl⟩ := hrel
      by_cases hlt : k < n
      · have hkl : k < L.length := by rw [← HN.out]; exact hlt
        obtain ⟨g, o, rfl, hg, hc⟩ := hp k hkl
        obtain ⟨t1, t2, t3⟩ := HTD.out k hkl
        have hx0 := line_pos (HLN.out k hkl)
        have hxn := HJ.out k hkl
        obtain ⟨x, hx⟩ : ∃ x, x = L[k] := ⟨_, rfl⟩
        rw [← hx] at hc t1 t2 t3 hx0 hxn
        obtain ⟨z, hz⟩ : ∃ z, z + 1 = n := ⟨n - 1, by omega⟩
        have i9 : IntKind.i64.wrap ((n : Int) - 1) = (z : Int) := by rw [IntWalk.i64_in _ (by omega)]; omega
        obtain ⟨t, ht⟩ : ∃ t, t = str x := ⟨_, rfl⟩
        rw [← ht] at hc
        have hts : t.size = x.length := by rw [ht, str_size]
        have htl : t.data.toList = x := by rw [ht, str_list]
        have ht0 : 0 < t.size := by omega
        have ht1 : t.size ≤ 15000 := by omega
        obtain ⟨b, hb⟩ : ∃ b, b + 1 = t.size := ⟨t.size - 1, by omega⟩
        have hb2 : b < t.size := by omega
        have i1 : IntKind.i64.wrap ((t.size : Int) - 1) = (b : Int) := by rw [IntWalk.i64_in _ (by omega)]; omega
        have hh := head_at t ht0
        have hl := last_at hb
        rw [htl] at hh hl
        have a1 : ((t[0].toNat : Int) == 35) = false := u8_not (n := 35) (by decide) (fun e => t1 (by rw [hh, e]; rfl))
        have a2 : ((t[b].toNat : Int) != 10) = false := u8_isn (n := 10) (by decide) (by rw [hl] at t2; simpa using t2)
        by_cases h10 : x = [10]
        · obtain ⟨hk1, j, hj, hjk, hne⟩ := t3 h10
          have e3 : (t.toList == [10]) = true := by rw [ByteArray.toList_eq, htl, h10]; rfl
          have e4 : (t.toList == (⟨#[10]⟩ : ByteArray).toList) = true := by rw [ByteArray.toList_eq, ByteArray.toList_eq, htl, h10]; rfl
          obtain ⟨g', o', e', hg', hcj⟩ := hp j hj
          simp only [Option.some.injEq, Addr.mk.injEq, and_true] at e'
          obtain ⟨rfl, rfl⟩ := e'
          obtain ⟨y, hy⟩ : ∃ y, y = str L[j] := ⟨_, rfl⟩
          rw [← hy] at hcj
          have hyl : y.toList ≠ [10] := by rw [ByteArray.toList_eq, hy, str_list]; exact hne
          have e1 : (y.toList == [10]) = false := by simpa using hyl
          have e2 : (y.toList == (⟨#[10]⟩ : ByteArray).toList) = false := ba_ne (fun e => hyl (by rw [e, ByteArray.toList_eq]))
          have i2 : IntKind.i64.wrap ((k : Int) - 1) = (j : Int) := by rw [IntWalk.i64_in _ (by omega)]; omega
          have a5 : ((k : Int) == 0) = false := by simp; omega
          have a6 : ((k : Int) == (z : Int)) = false := by have := HN.out; simp; omega
          have hjn : j < n := by omega
          clear hx hx0 hxn t1 t2 t3 h10 ht hts htl hh hl hb hk1 hj hjk hne hy hyl hkl hg hg' hz
          go_wp2
          go_quiet (fail)
          go_wp2
          go_roundw
          case rel => exact ⟨k + 1, _, by omega, by go_num, rfl⟩
          case measure => simp [intOf]; omega
        · have hyl : t.toList ≠ [10] := by rw [ByteArray.toList_eq, htl]; exact h10
          have e1 : (t.toList == [10]) = false := by simpa using hyl
          have e2 : (t.toList == (⟨#[10]⟩ : ByteArray).toList) = false := ba_ne (fun e => hyl (by rw [e, ByteArray.toList_eq]))
          clear hx hx0 hxn t1 t2 t3 h10 ht hts htl hh hl hyl hb hkl hg hz
          go_wp2
          go_quiet (fail)
          go_wp2
          go_roundw
          case rel => exact ⟨k + 1, _, by omega, by go_num, rfl⟩
          case measure => simp [intOf]; omega
      · rcases HFF.out with ⟨hn0, hfe⟩ | ⟨hL0, hf0⟩
        · have hfe2 := HF.out
          rw [hfe] at hfe2
          have HFE := Lib.hid hfe2
          have d0 : ((n : Int) == 0) = true := by rw [hn0]; rfl
          clear hfe hfe2 hn0 HF HFF HTD HJ HLN HSP HN HM
          go_wp2
          have hq : Nonempty (BelW w2) := ⟨⟨w2, Below.refl _ _⟩⟩
          refine wp_region_bel (w0 := w2) (below_drewN (Below.refl _ _) q) (by kernel_rfl) (by kernel_rfl) ?_
          repeat (go_big_quiet_step (first | (go_at_call 16; exact first_class _ m ⟨#[]⟩ (by omega) HFE.out) | (go_at_call 10; exact lives_class _)))
          refine wpQuiet_nil ?_
          rintro _ ⟨x, rfl⟩
          have hx := x.h
          go_wp2
          go_ret
          exact ⟨rfl, h2.trans (hx.mono h2.size)⟩
        · obtain ⟨g, o, rfl, hg, hc⟩ := hp 0 hL0
          rw [hf0] at hc
          have hcell : ∀ x : BelW w2, x.w.cell? ⟨g, o, none⟩ = some (.string (f ++ ⟨#[10]⟩)) := fun x => (x.h.cell (p := ⟨g, o, none⟩) hg).trans hc
          have d0 : ((n : Int) == 0) = false := by have := HN.out; simp; omega
          have d1 : decide ((0 : Int) < (n : Int)) = true := by have := HN.out; simp; omega
          have d2 : 0 < n := by have := HN.out; omega
          clear hf0 hc HFF HTD HJ HLN HSP HN HM hL0
          go_wp2
          have hq : Nonempty (BelW w2) := ⟨⟨w2, Below.refl _ _⟩⟩
          refine wp_region_bel (w0 := w2) (below_drewN (Below.refl _ _) q) (by kernel_rfl) (by kernel_rfl) ?_
          repeat (go_big_quiet_step (first | (go_at_call 16; exact first_class _ m f (by omega) HF.out) | (go_at_call 10; exact lives_class _)))
          refine wpQuiet_nil ?_
          rintro _ ⟨x, rfl⟩
          have hx := x.h
          go_wp2
          go_ret
          exact ⟨rfl, h2.trans (hx.mono h2.size)⟩
end Go.Proofs.Ythfnnbeaggkhkab
