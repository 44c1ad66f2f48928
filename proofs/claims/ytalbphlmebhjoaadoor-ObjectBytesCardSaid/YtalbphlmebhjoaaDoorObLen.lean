/-
  The walk of length: the number that digits state, if they are written as they must be.
-/
import Derived.Test.YtalbphlmebhjoaaDoorObWord
import Derived.Lib.AtoiErrMem
import Derived.Lib.AtoiBound
import Derived.Lib.AppendIntMem
namespace Go.Proofs.YtalbphlmebhjoaaDoor
open Go.RowKit

/-- What the library's functions read. -/
structure StrTab (w : World) : Prop where
  p : Lib.TabIs Tryd.prog w "internal/strconv.uint64pow10" .u64 Lib.pow10Tab
  e : ∃ te pe, w.cell? ⟨4, 0, none⟩ = some (.iface te pe)
  m : ∃ m, w.cell? ⟨1, 0, none⟩ = some (.int .i64 m)
theorem tab_bel {P : Program} {w w' : World} {n : String} {k : IntKind} {zs : List Int} (h : Lib.TabIs P w n k zs) (hb : Below w.heap.size w w') : Lib.TabIs P w' n k zs := by
  unfold Lib.TabIs World.var? at *
  cases hg : P.globalNamed n with
  | none => rw [hg] at h; cases h
  | some g =>
    rw [hg] at h
    simp only [Option.bind_some] at h ⊢
    have hlt : g < w.heap.size := by
      rcases Nat.lt_or_ge g w.heap.size with h' | h'
      · exact h'
      · rw [Array.getElem?_eq_none h'] at h
        cases h
    rw [hb.block g hlt]
    exact h
theorem StrTab.below {w w' : World} (h : StrTab w) (hb : Below w.heap.size w w') : StrTab w' := ⟨tab_bel h.p hb, by obtain ⟨te, pe, h1⟩ := h.e; exact ⟨te, pe, cell_bel h1 hb⟩, by obtain ⟨m, h1⟩ := h.m; exact ⟨m, cell_bel h1 hb⟩⟩
theorem itoa_any (n : Int) (w : World) (h0 : -9223372036854775808 ≤ n) (h1 : n ≤ 9223372036854775807) (h : StrTab w) :
    Calls Tryd.prog 18 #[.int .i64 n] w fun e w' => e = .returned (.string (str (Lib.itoa n))) ∧ Below w.heap.size w w' :=
  (Tryd.strconv_Itoa n h0 h1 w h.p).mono fun e w' ⟨he, k, os, hw⟩ => ⟨he, by rw [hw]; exact Lib.below_grow _ w (Nat.le_refl _) k os⟩
def lenI (l : List UInt8) : Int := match numR 7 l with
  | some m => (m : Int)
  | none => 0
def lenB (l : List UInt8) : Bool := (numR 7 l).isSome

set_option maxHeartbeats 2000000 in
set_option maxRecDepth 4000 in
theorem length_any (s : ByteArray) (w : World) (h : StrTab w) (hs : s.size ≤ 140737488355328) :
    Calls Tryd.prog 24 #[.string s] w fun e w' => e = .returned (.tuple #[.int .i64 (lenI s.data.toList), .bool (lenB s.data.toList)]) ∧ Below w.heap.size w w' := by
  obtain ⟨I, hI⟩ : ∃ I, I = lenI s.data.toList := ⟨_, rfl⟩
  obtain ⟨B, hB⟩ : ∃ B, B = lenB s.data.toList := ⟨_, rfl⟩
  rw [← hI, ← hB]
  have none_case : numR 7 s.data.toList = none → Hid (I = 0 ∧ B = false) := fun h => ⟨by rw [hI, lenI, h], by rw [hB, lenB, h]; rfl⟩
  have some_case : ∀ m, numR 7 s.data.toList = some m → Hid (I = (m : Int) ∧ B = true) := fun m h => ⟨by rw [hI, lenI, h], by rw [hB, lenB, h]; rfl⟩
  clear hI hB
  by_cases h7 : 7 < s.size
  · have HR := none_case (by rw [numR, if_pos (.inr (.inl (by rw [list_len]; exact h7)))])
    clear none_case some_case
    go_enter Tryd.func24, Tryd.ntmps24
    go_wp2
    go_ret2
    exact ⟨by rw [HR.out.1, HR.out.2]; rfl, Below.refl _ _⟩
  cases ha : Lib.atoi s.data.toList with
  | none =>
    have HR := none_case (by
      cases hn : numR 7 s.data.toList with
      | none => rfl
      | some m => rw [(atoi_of_num hn).1] at ha; cases ha)
    obtain ⟨te, pe, hev⟩ := h.e
    have HA := Lib.hid (Tryd.strconv_Atoi_err s (by omega) ha (.iface te pe) w hev (.inr ⟨te, pe, rfl⟩))
    clear none_case some_case ha hev
    go_enter Tryd.func24, Tryd.ntmps24
    go_wp2_with (go_at_call 33; ((with_reducible refine HA.out.mono ?_); rintro e w1 ⟨N, rfl, hN, hN2, hb1⟩))
    go_ret2
    exact ⟨by rw [HR.out.1, HR.out.2]; rfl, hb1⟩
  | some n =>
    have hbd := Lib.atoi_bound ha (by rw [list_len]; omega)
    have HA : Hid (Calls Tryd.prog 33 #[.string s] w fun e w' => e = .returned (.tuple #[.int .i64 n, .nilIface]) ∧ Below w.heap.size w w') :=
      (Tryd.strconv_Atoi s n (by omega) ha w).mono fun e w' ⟨he, t, hw⟩ => ⟨he, by rw [hw]; exact Lib.bytesWorld_below w _ t⟩
    by_cases hneg : n < 0
    · have HR := none_case (by
        cases hn : numR 7 s.data.toList with
        | none => rfl
        | some m =>
          rw [(atoi_of_num hn).1] at ha
          simp only [Option.some.injEq] at ha
          omega)
      clear none_case some_case ha
      go_enter Tryd.func24, Tryd.ntmps24
      go_wp2_with (go_at_call 33; ((with_reducible refine HA.out.mono ?_); rintro e w1 ⟨rfl, hb1⟩))
      go_ret2
      exact ⟨by rw [HR.out.1, HR.out.2]; rfl, hb1⟩
    · obtain ⟨t, ht⟩ : ∃ t, t = str (Lib.itoa n) := ⟨_, rfl⟩
      have HT : Hid (∀ w', Below w.heap.size w w' → Calls Tryd.prog 18 #[.int .i64 n] w' fun e w'' => e = .returned (.string t) ∧ Below w.heap.size w w'') := fun w' hb =>
        (itoa_any n w' (by omega) (by omega) (h.below hb)).mono fun e w'' ⟨he, hb2⟩ => ⟨by rw [he, ht], hb.trans (hb2.mono hb.size)⟩
      by_cases hst : t = s
      · have hnum := atoi_back ha (by omega) (by rw [← hst, ht]; rfl) (by rw [list_len]; omega)
        have HR := some_case _ hnum
        have HN : Hid (((n.toNat : Nat) : Int) = n) := by show _ = _; omega
        subst hst
        clear none_case some_case ha hnum ht
        go_enter Tryd.func24, Tryd.ntmps24
        go_wp2_with (first
          | (go_at_call 33; ((with_reducible refine HA.out.mono ?_); rintro e w1 ⟨rfl, hb1⟩))
          | (go_at_call 18; ((with_reducible refine (HT.out _ hb1).mono ?_); rintro e w2 ⟨rfl, hb2⟩)))
        go_ret2
        exact ⟨by rw [HR.out.1, HR.out.2, HN.out]; rfl, hb2⟩
      · have HR := none_case (by
          cases hn : numR 7 s.data.toList with
          | none => rfl
          | some m =>
            have h1 := atoi_of_num hn
            rw [h1.1] at ha
            simp only [Option.some.injEq] at ha
            subst ha
            exact absurd (ba_ext (by rw [ht, h1.2]; rfl)) hst)
        have hne : (t.toList == s.toList) = false := ba_ne hst
        have hne2 : (t.toList != s.toList) = true := by rw [bne, hne]; rfl
        clear none_case some_case ha ht hst
        go_enter Tryd.func24, Tryd.ntmps24
        go_wp2_with (first
          | (go_at_call 33; ((with_reducible refine HA.out.mono ?_); rintro e w1 ⟨rfl, hb1⟩))
          | (go_at_call 18; ((with_reducible refine (HT.out _ hb1).mono ?_); rintro e w2 ⟨rfl, hb2⟩)))
        go_ret2
        exact ⟨by rw [HR.out.1, HR.out.2]; rfl, hb2⟩
end Go.Proofs.YtalbphlmebhjoaaDoor
