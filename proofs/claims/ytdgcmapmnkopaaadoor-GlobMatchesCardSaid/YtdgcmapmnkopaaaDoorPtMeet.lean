/-
  The walks of Meet and of the reference's.
-/
import Derived.Test.YtdgcmapmnkopaaaDoorPtFirst
import Derived.BigQuiet
import Derived.Deep.QuietTactic
namespace Go.Proofs.YtdgcmapmnkopaaaDoor
open Go.RowKit

theorem cl_at (ls : List (List UInt8)) (i k : Nat) : coll (ls.getD i []) (ls.getD k []) = ((str (ls.getD i [])).toList == (str (ls.getD k [])).toList || (wthn (str (ls.getD i [])) (str (ls.getD k [])) || wthn (str (ls.getD k [])) (str (ls.getD i [])))) := by
  unfold coll
  rw [ByteArray.toList_eq, ByteArray.toList_eq, str_list, str_list]
  congr 1
  apply Bool.eq_iff_iff.mpr
  rw [decide_eq_true_eq, beq_iff_eq]
theorem no_next {ls : List (List UInt8)} {f k : Nat} (h : ∀ y, f < y → y < k → ¬ Cl ls f y) (hk : ¬ Cl ls f k) : ∀ y, f < y → y < k + 1 → ¬ Cl ls f y := fun y a b => by
  rcases Nat.lt_or_ge y k with hl | hl
  · exact h y a hl
  · obtain rfl : y = k := by omega
    exact hk
theorem srw_at {w : World} {p : Option Addr} {ls : List (List UInt8)} (hp : SRw w p ls) (hs : ∀ t ∈ ls, t.length ≤ 1048576) (k : Nat) (hk : k < ls.length) : ∃ g o, p = some ⟨g, o, none⟩ ∧ g < w.heap.size ∧ w.cell? ⟨g, o + k, none⟩ = some (.string (str (ls.getD k []))) ∧ (str (ls.getD k [])).size ≤ 1048576 := by
  obtain ⟨g, o, h1, h2, h3⟩ := hp k hk
  rw [getD_in ls k hk]
  exact ⟨g, o, h1, h2, h3, by rw [str_size]; exact hs _ (List.getElem_mem hk)⟩
/-- What Meet answers, in the world behind it. -/
def MRes (ls : List (List UInt8)) (w : World) (e : Ending) (w' : World) : Prop := (∃ (i k : Nat) (b : Bool), e = .returned (.tuple #[.int .i64 (i : Int), .int .i64 (k : Int), .bool b]) ∧ Met ls i k b) ∧ Below w.heap.size w w'

set_option maxHeartbeats 4000000 in
set_option maxRecDepth 4000 in
theorem meet_any (ls : List (List UInt8)) (p : Option Addr) (cap n : Nat) (w : World) (hn : n = ls.length) (hp : SRw w p ls) (hn2 : n ≤ 1048576) (hs : ∀ t ∈ ls, t.length ≤ 1048576) :
    Calls Tryd.prog 31 #[.slice p n cap] w (MRes ls w) := by
  have HF : Hid (Calls Tryd.prog 52 #[.slice p n cap] w fun e w' => (∃ f : Nat, e = .returned (.int .i64 f) ∧ Fm ls f) ∧ Below w.heap.size w w') := firstM_any ls p cap n w hn hp hn2 hs
  have HN := Lib.hid hn
  have HS := Lib.hid hs
  have HP := Lib.hid hp
  clear hn hs hp
  go_enter Tryd.func31, Tryd.ntmps31
  go_wp2_with (go_at_call 52; ((with_reducible refine HF.out.mono ?_); rintro e w1 ⟨⟨f, rfl, hfm⟩, hb⟩; have hfn : f ≤ n := (by rw [HN.out]; exact hfm.1.le); have HFM := Lib.hid hfm; clear hfm))
  go_loopw [6] (fun kv wr => ∃ k : Nat, kv = .int .i64 k ∧ f < k ∧ k ≤ n + 1 ∧ Hid (∀ y, f < y → y < k → ¬ Cl ls f y) ∧ Below w.heap.size w wr) (fun kv _ => n + 1 - (intOf kv).toNat)
  case atStart => exact ⟨f + 1, by go_num, by omega, by omega, fun y a b => by omega, hb⟩
  case round =>
    obtain ⟨k, rfl, hfk, hkn, HNO, hbel⟩ := hrel
    by_cases hlt : k < n
    · have hkl : k < ls.length := by rw [← HN.out]; exact hlt
      have hfl : f < ls.length := by omega
      obtain ⟨g, o, rfl, hg, c0, s0⟩ := srw_at (HP.out.below hbel) HS.out f hfl
      obtain ⟨g', o', he, -, c1, s1⟩ := srw_at (HP.out.below hbel) HS.out k hkl
      simp only [Option.some.injEq, Addr.mk.injEq, and_true] at he
      obtain ⟨rfl, rfl⟩ := he
      have hcl := cl_at ls f k
      have HCL : Hid (Cl ls f k ↔ coll (ls.getD f []) (ls.getD k []) = true) := Iff.rfl
      rw [hcl] at HCL
      obtain ⟨x, hx⟩ : ∃ x, x = str (ls.getD f []) := ⟨_, rfl⟩
      obtain ⟨y, hy⟩ : ∃ y, y = str (ls.getD k []) := ⟨_, rfl⟩
      rw [← hx, ← hy] at HCL
      rw [← hx] at c0 s0
      rw [← hy] at c1 s1
      clear hcl hx hy hkl hfl hg
      have hfn2 : f < n := by omega
      have H1 : Hid (∀ w, Calls Tryd.prog 29 #[.string x, .string y] w fun e w' => e = .returned (.bool (wthn x y)) ∧ w' = w) := fun w => (within_any x y w s0 s1).mono fun _ _ h => ⟨h.1, h.2.symm⟩
      have H2 : Hid (∀ w, Calls Tryd.prog 29 #[.string y, .string x] w fun e w' => e = .returned (.bool (wthn y x)) ∧ w' = w) := fun w => (within_any y x w s1 s0).mono fun _ _ h => ⟨h.1, h.2.symm⟩
      cases h1 : (x.toList == y.toList) with
      | true =>
        have HX : Hid (Cl ls f k) := HCL.out.mpr (by rw [h1]; rfl)
        clear HCL H1 H2
        go_wp2
        go_quiet (fail)
        go_wp2
        go_ret3
        exact ⟨⟨f, k, true, rfl, HFM.out.at hfk (by rw [← HN.out]; exact hlt) HX.out HNO.out⟩, below_drewN hbel _⟩
      | false =>
        obtain ⟨B1, hB1⟩ : ∃ B, B = wthn x y := ⟨_, rfl⟩
        obtain ⟨B2, hB2⟩ : ∃ B, B = wthn y x := ⟨_, rfl⟩
        rw [← hB1] at H1
        rw [← hB2] at H2
        have HCL2 : Hid (Cl ls f k ↔ (B1 || B2) = true) := by
          have h := HCL.out
          rw [h1, ← hB1, ← hB2, Bool.false_or] at h
          exact h
        clear HCL hB1 hB2
        cases B1 with
        | true =>
          have HX : Hid (Cl ls f k) := HCL2.out.mpr rfl
          clear HCL2 H2
          go_wp2
          go_quiet ((go_at_call 29; with_reducible exact Calls.quiet_of_same (H1.out _)))
          go_wp2
          go_ret3
          exact ⟨⟨f, k, true, rfl, HFM.out.at hfk (by rw [← HN.out]; exact hlt) HX.out HNO.out⟩, below_drewN hbel _⟩
        | false =>
          cases B2 with
          | true =>
            have HX : Hid (Cl ls f k) := HCL2.out.mpr rfl
            clear HCL2
            go_wp2
            go_quiet ((go_at_call 29; first | with_reducible exact Calls.quiet_of_same (H1.out _) | with_reducible exact Calls.quiet_of_same (H2.out _)))
            go_wp2
            go_ret3
            exact ⟨⟨f, k, true, rfl, HFM.out.at hfk (by rw [← HN.out]; exact hlt) HX.out HNO.out⟩, below_drewN hbel _⟩
          | false =>
            have HX : Hid (¬ Cl ls f k) := fun h => by cases HCL2.out.mp h
            have HNX : Hid (∀ y, f < y → y < k + 1 → ¬ Cl ls f y) := no_next HNO.out HX.out
            clear HCL2 HX HNO
            go_wp2
            go_quiet ((go_at_call 29; first | with_reducible exact Calls.quiet_of_same (H1.out _) | with_reducible exact Calls.quiet_of_same (H2.out _)))
            go_wp2
            go_roundw
            case rel => exact ⟨k + 1, by go_num, by omega, by omega, HNX, below_drewN hbel _⟩
            case measure => simp [intOf]; omega
    · have HX : Hid (Met ls 0 0 false) := HFM.out.out (by rw [← HN.out]; omega) HNO.out
      go_wp2
      go_ret3
      exact ⟨⟨0, 0, false, rfl, HX.out⟩, hbel⟩

set_option maxHeartbeats 4000000 in
set_option maxRecDepth 4000 in
theorem rmeet_any (ls : List (List UInt8)) (p : Option Addr) (cap n : Nat) (w : World) (hn : n = ls.length) (hp : SRw w p ls) (hn2 : n ≤ 1048576) (hs : ∀ t ∈ ls, t.length ≤ 1048576) :
    Calls Tryd.prog 32 #[.slice p n cap] w (MRes ls w) := by
  have HN := Lib.hid hn
  have HS := Lib.hid hs
  have HP := Lib.hid hp
  clear hn hs hp
  go_enter Tryd.func32, Tryd.ntmps32
  go_wp2
  go_loopw [5] (fun iv wr => ∃ f : Nat, iv = .int .i64 f ∧ f ≤ n ∧ Hid (∀ x y, x < f → x < y → y < ls.length → ¬ Cl ls x y) ∧ Below w.heap.size w wr) (fun iv _ => n - (intOf iv).toNat)
  case atStart => exact ⟨0, rfl, by omega, fun x y a b c => absurd a (Nat.not_lt_zero _), Below.refl _ _⟩
  case round =>
    obtain ⟨f, rfl, hfn, HB, hbf⟩ := hrel
    obtain ⟨W, rfl⟩ : ∃ W, W = wr := ⟨_, rfl⟩
    by_cases hfl0 : f < n
    · go_wp2
      go_loopw [6] (fun kv wr => ∃ k : Nat, kv = .int .i64 k ∧ f < k ∧ k ≤ n ∧ Hid (∀ y, f < y → y < k → ¬ Cl ls f y) ∧ Below w.heap.size w wr) (fun kv _ => n + 1 - (intOf kv).toNat)
      case atStart => exact ⟨f + 1, by go_num, by omega, by omega, fun y a b => by omega, hbf⟩
      case round =>
        clear hbf
        obtain ⟨k, rfl, hfk, hkn, HNO, hbel⟩ := hrel
        by_cases hlt : k < n
        · have hkl : k < ls.length := by rw [← HN.out]; exact hlt
          have hfl : f < ls.length := by omega
          obtain ⟨g, o, rfl, hg, c0, s0⟩ := srw_at (HP.out.below hbel) HS.out f hfl
          obtain ⟨g', o', he, -, c1, s1⟩ := srw_at (HP.out.below hbel) HS.out k hkl
          simp only [Option.some.injEq, Addr.mk.injEq, and_true] at he
          obtain ⟨rfl, rfl⟩ := he
          have hcl := cl_at ls f k
          have HCL : Hid (Cl ls f k ↔ coll (ls.getD f []) (ls.getD k []) = true) := Iff.rfl
          rw [hcl] at HCL
          obtain ⟨x, hx⟩ : ∃ x, x = str (ls.getD f []) := ⟨_, rfl⟩
          obtain ⟨y, hy⟩ : ∃ y, y = str (ls.getD k []) := ⟨_, rfl⟩
          rw [← hx, ← hy] at HCL
          rw [← hx] at c0 s0
          rw [← hy] at c1 s1
          have HKL := Lib.hid hkl
          clear hcl hx hy hkl hfl hg
          have H1 : Hid (∀ w, Calls Tryd.prog 30 #[.string x, .string y] w fun e w' => e = .returned (.bool (wthn x y)) ∧ w' = w) := fun w => (rwithin_any x y w s0 s1).mono fun _ _ h => ⟨h.1, h.2.symm⟩
          have H2 : Hid (∀ w, Calls Tryd.prog 30 #[.string y, .string x] w fun e w' => e = .returned (.bool (wthn y x)) ∧ w' = w) := fun w => (rwithin_any y x w s1 s0).mono fun _ _ h => ⟨h.1, h.2.symm⟩
          cases h1 : (x.toList == y.toList) with
          | true =>
            have HX : Hid (Cl ls f k) := HCL.out.mpr (by rw [h1]; rfl)
            clear HCL H1 H2
            go_wp2
            go_quiet (fail)
            go_wp2
            go_ret3
            exact ⟨⟨f, k, true, rfl, hfk, HKL.out, HX.out, HB.out, HNO.out⟩, below_drewN hbel _⟩
          | false =>
            obtain ⟨B1, hB1⟩ : ∃ B, B = wthn x y := ⟨_, rfl⟩
            obtain ⟨B2, hB2⟩ : ∃ B, B = wthn y x := ⟨_, rfl⟩
            rw [← hB1] at H1
            rw [← hB2] at H2
            have HCL2 : Hid (Cl ls f k ↔ (B1 || B2) = true) := by
              have h := HCL.out
              rw [h1, ← hB1, ← hB2, Bool.false_or] at h
              exact h
            clear HCL hB1 hB2
            cases B1 with
            | true =>
              have HX : Hid (Cl ls f k) := HCL2.out.mpr rfl
              clear HCL2 H2
              go_wp2
              go_quiet ((go_at_call 30; with_reducible exact Calls.quiet_of_same (H1.out _)))
              go_wp2
              go_ret3
              exact ⟨⟨f, k, true, rfl, hfk, HKL.out, HX.out, HB.out, HNO.out⟩, below_drewN hbel _⟩
            | false =>
              cases B2 with
              | true =>
                have HX : Hid (Cl ls f k) := HCL2.out.mpr rfl
                clear HCL2
                go_wp2
                go_quiet ((go_at_call 30; first | with_reducible exact Calls.quiet_of_same (H1.out _) | with_reducible exact Calls.quiet_of_same (H2.out _)))
                go_wp2
                go_ret3
                exact ⟨⟨f, k, true, rfl, hfk, HKL.out, HX.out, HB.out, HNO.out⟩, below_drewN hbel _⟩
              | false =>
                have HX : Hid (¬ Cl ls f k) := fun h => by cases HCL2.out.mp h
                have HNX : Hid (∀ y, f < y → y < k + 1 → ¬ Cl ls f y) := no_next HNO.out HX.out
                clear HCL2 HX HNO
                go_wp2
                go_quiet ((go_at_call 30; first | with_reducible exact Calls.quiet_of_same (H1.out _) | with_reducible exact Calls.quiet_of_same (H2.out _)))
                go_wp2
                go_roundw
                case rel => exact ⟨k + 1, by go_num, by omega, by omega, HNX, below_drewN hbel _⟩
                case measure => simp [intOf]; omega
        · have HX : Hid (∀ x y, x < f + 1 → x < y → y < ls.length → ¬ Cl ls x y) := fun x y a b c => by
            rcases Nat.lt_or_ge x f with hl | hl
            · exact HB.out x y hl b c
            · obtain rfl : x = f := by omega
              exact HNO.out y b (by have := HN.out; omega)
          clear HNO HB
          go_wp2
          go_roundw
          case rel => exact ⟨f + 1, by go_num, by omega, HX, hbel⟩
          case measure => simp [intOf]; omega
    · have HX : Hid (Met ls 0 0 false) := ⟨rfl, rfl, fun x y a b => HB.out x y (by have := HN.out; omega) a b⟩
      go_wp2
      go_ret3
      exact ⟨⟨0, 0, false, rfl, HX.out⟩, hbf⟩
end Go.Proofs.YtdgcmapmnkopaaaDoor
