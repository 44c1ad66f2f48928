/-
  The walks of the reference's Number and Digits.
-/
import Derived.Test.YtddmnibioacelaaGreatDoorIdHexPk
import Derived.Test.YtddmnibioacelaaGreatDoorLawPostPk
import Derived.Lib.Hide
import Derived.BigQuiet
import Derived.Deep.QuietTactic
namespace Go.Proofs.YtddmnibioacelaaGreatDoor
open Go.RowKit

/-- What Number answers. -/
def numI (l : List UInt8) : Int := match numR 7 l with
  | some m => (m : Int)
  | none => -1
def decI (n : Nat) (l : List UInt8) : Int := match Lib.decFrom n l with
  | some m => (m : Int)
  | none => -1
theorem decI_cons (n : Nat) (c : UInt8) (l : List UInt8) (h : 48 ≤ c.toNat ∧ c.toNat ≤ 57) : decI n (c :: l) = decI (n * 10 + (c.toNat - 48)) l := by
  unfold decI
  rw [Lib.decFrom, Lib.digitVal, if_pos h]
theorem decI_bad (n : Nat) (c : UInt8) (l : List UInt8) (h : ¬ (48 ≤ c.toNat ∧ c.toNat ≤ 57)) : decI n (c :: l) = -1 := by
  unfold decI
  rw [Lib.decFrom, Lib.digitVal, if_neg h]

/-- What is left of a number to be written before the digits that stand. -/
def restD (k : Nat) (s : List UInt8) : List UInt8 := if k = 0 ∧ s ≠ [] then s else Lib.decDigits k ++ s
theorem restD_step (k : Nat) (s : List UInt8) (h : k ≠ 0 ∨ s = []) : restD k s = restD (k / 10) (UInt8.ofNat (48 + k % 10) :: s) := by
  unfold restD
  rw [if_neg (by rintro ⟨h1, h2⟩; rcases h with h | h; exact h h1; exact h2 h)]
  by_cases h0 : k < 10
  · rw [if_pos ⟨by omega, by simp⟩, Lib.decDigits_one h0, show k % 10 = k by omega]
    rfl
  · rw [if_neg (by omega), decDigits_big h0]
    simp
theorem restD_end (s : List UInt8) (h : s ≠ []) : restD 0 s = s := by unfold restD; rw [if_pos ⟨rfl, h⟩]

set_option maxHeartbeats 4000000 in
set_option maxRecDepth 4000 in
theorem robdigits_any (n : Nat) (w : World) (hn : n ≤ 1000000000000) :
    Calls Tryz.prog 91 #[.int .i64 (n : Int)] w fun e w' => e = .returned (.string (str (Lib.decDigits n))) ∧ Below w.heap.size w w' := by
  obtain ⟨R, hR⟩ : ∃ R, R = Lib.decDigits n := ⟨_, rfl⟩
  rw [← hR]
  have HR : Hid (R = restD n []) := by show _ = _; rw [hR, restD, if_neg (by simp)]; simp
  clear hR
  go_enter Tryz.func91, Tryz.ntmps91
  go_wp2
  go_loopw [4, 3] (fun iv sv wr => ∃ (k : Nat) (s : ByteArray), k ≤ n ∧ s.size ≤ 140737488355328 - k ∧ iv = .int .i64 (k : Int) ∧ sv = .string s ∧ Hid (R = restD k s.data.toList) ∧ Hid (Below w.heap.size w wr)) (fun iv sv _ => 2 * (intOf iv).toNat + (match sv with | .string s => if s.size = 0 then 1 else 0 | _ => 0))
  case atStart => exact ⟨n, ⟨#[]⟩, Nat.le_refl _, by show 0 ≤ _; omega, rfl, rfl, HR.out, Below.refl _ _⟩
  case round =>
    clear HR
    obtain ⟨k, s, hk, hs, rfl, rfl, HR, HB⟩ := hrel
    by_cases hgo : k ≠ 0 ∨ s.data.toList = []
    · have hx := HR.out
      rw [restD_step k _ hgo] at hx
      obtain ⟨d, hd⟩ : ∃ d, d = k % 10 := ⟨_, rfl⟩
      obtain ⟨k2, hk2⟩ : ∃ k2, k2 = k / 10 := ⟨_, rfl⟩
      rw [← hd, ← hk2] at hx
      obtain ⟨s2, hs2⟩ : ∃ s2, s2 = str [UInt8.ofNat (48 + d)] ++ s := ⟨_, rfl⟩
      have hl2 : s2.size = s.size + 1 := by rw [hs2, ByteArray.size_append, str_size]; simp; omega
      have HX : Hid (R = restD k2 s2.data.toList) := by show _ = _; rw [hx, hs2, app_list]; rfl
      obtain ⟨T, hT⟩ : ∃ T, T = str [UInt8.ofNat (48 + d)] := ⟨_, rfl⟩
      rw [← hT] at hs2
      have HT1 : T.size = 1 := by rw [hT, str_size]; rfl
      have hcv := conv_one (P := Tryz.prog) wr (48 + (d : Int)) (48 + d) (by omega) (by omega) 78 9 5 5 1 Tryz.underlying78 Tryz.underlying5 Tryz.underlying9
      rw [← hT] at hcv
      have e1 : (k : Int) % 10 = (d : Int) := by omega
      have e1' : (k : Int).tmod 10 = (d : Int) := by rw [Int.tmod_eq_emod_of_nonneg (by omega)]; exact e1
      have e2 : (k : Int) / 10 = (k2 : Int) := by omega
      have e2' : (k : Int).tdiv 10 = (k2 : Int) := by rw [Int.tdiv_eq_ediv_of_nonneg (by omega)]; exact e2
      have e3 : IntKind.i64.wrap (-(d : Int)) = -(d : Int) := IntWalk.i64_in _ (by omega)
      have e4 : IntKind.i64.wrap (48 + (d : Int)) = 48 + (d : Int) := IntWalk.i64_in _ (by omega)
      have e5 : IntKind.u8.wrap (48 + (d : Int)) = 48 + (d : Int) := IntWalk.u8_in _ (by omega)
      have e6 : ¬ (d : Int) < -(d : Int) := by omega
      have e6' : decide ((d : Int) < -(d : Int)) = false := decide_eq_false e6
      have hB2 : Hid (Below w.heap.size w (wr.alloc (.cells #[.int .u8 (48 + (d : Int))] 5))) := HB.out.alloc HB.out.size _
      have HS2 : Hid (s2 = T ++ s) := hs2
      have hk2n : k2 ≤ n := by omega
      have hmes : 2 * k2 < 2 * k ∨ (k = 0 ∧ s.size = 0) := by
        rcases hgo with h | h
        · left; omega
        · rcases Nat.eq_zero_or_pos k with h0 | h0
          · right
            refine ⟨h0, ?_⟩
            rw [← list_len, h]
            rfl
          · left; omega
      have hk20 : k2 ≤ k := by omega
      have hs2' : s2.size ≤ 140737488355328 - k2 := by
        have : s.size + 1 ≤ 140737488355328 - k2 := by
          rcases hgo with h | h
          · have : k2 < k := by omega
            omega
          · have : s.size = 0 := by rw [← list_len, h]; rfl
            omega
        omega
      have HTd := Lib.hid hT
      have hd0 : k = 0 → d = 0 := fun h => by omega
      clear hx hd hk2 hs2 hT hl2 HR HB
      by_cases h0 : k = 0
      · obtain rfl := hd0 h0
        subst h0
        have hcv0 := conv_one (P := Tryz.prog) wr 48 48 rfl (by omega) 78 9 5 5 1 Tryz.underlying78 Tryz.underlying5 Tryz.underlying9
        rw [← HTd.out] at hcv0
        obtain ⟨_, hs0⟩ : True ∧ s.size = 0 := by
          rcases hmes with h | h
          · omega
          · exact ⟨trivial, h.2⟩
        obtain rfl : k2 = 0 := by omega
        have hsl : s.data.toList = [] := List.eq_nil_of_length_eq_zero (by rw [list_len]; exact hs0)
        have f1 : s.toList.isEmpty = true := by rw [ByteArray.toList_eq, hsl]; rfl
        have f2 : (s.toList == []) = true := by rw [ByteArray.toList_eq, hsl]; rfl
        have f3 : s.toList = [] := by rw [ByteArray.toList_eq, hsl]
        have hm3 : ¬ s2.size = 0 := by
          rw [HS2.out, ByteArray.size_append]
          omega
        clear hsl hgo hmes hcv hd0 e1 e1' e2 e2' e3 e4 e5 e6 e6'
        go_wp2
        go_roundw
        case rel => exact ⟨0, s2, by omega, hs2', rfl, by first | rfl | (rw [HS2.out]), HX.out, hB2.out⟩
        case measure =>
          have hTn : ¬ T = ByteArray.empty := by
            intro e
            rw [e] at HT1
            cases HT1
          simp [intOf, hs0, hm3, hTn]
      · have f0 : ((k : Int) != 0) = true := by simpa using h0
        have hm2 : 2 * k2 < 2 * k - 1 := by
          rcases hmes with h | h
          · omega
          · exact absurd h.1 h0
        clear hmes hgo hd0
        go_wp2
        go_roundw
        case rel => exact ⟨k2, s2, hk2n, hs2', rfl, by first | rfl | (rw [HS2.out]), HX.out, hB2.out⟩
        case measure => simp [intOf]; split <;> split <;> omega
    · obtain ⟨h0, hne⟩ : k = 0 ∧ s.data.toList ≠ [] := by
        constructor
        · rcases Nat.eq_zero_or_pos k with h | h
          · exact h
          · exact absurd (.inl (by omega)) hgo
        · exact fun h => hgo (.inr h)
      subst h0
      have f1 : s.toList.isEmpty = false := by
        rw [ByteArray.toList_eq]
        cases hx : s.data.toList with
        | nil => exact absurd hx hne
        | cons a t => rfl
      have f2 : (s.toList == []) = false := by
        rw [ByteArray.toList_eq, beq_eq_false_iff_ne]
        exact hne
      have HX : Hid (str R = s) := by
        show _ = _
        rw [HR.out, restD_end _ hne]
        rfl
      have hn0 : ¬ (n : Int) < 0 := by omega
      have hn1 : decide ((n : Int) < 0) = false := decide_eq_false hn0
      clear hgo hne HR
      go_wp2
      go_ret
      exact ⟨by rw [HX.out]; rfl, HB.out⟩
end Go.Proofs.YtddmnibioacelaaGreatDoor
/-
  A region that draws its order, walked once in the text's order, over all worlds in which what was there is as it was.
-/
namespace Go.Proofs.YtddmnibioacelaaGreatDoor
open Go.RowKit

theorem cell_bel {w w' : World} {g o : Nat} {v : Value} (h : w.cell? ⟨g, o, none⟩ = some v) (hb : Below w.heap.size w w') : w'.cell? ⟨g, o, none⟩ = some v := (hb.cell (p := ⟨g, o, none⟩) (World.block_lt_of_cell? w _ h)).trans h
/-- A world in which what was there is as it was. -/
structure BelW (w0 : World) where
  w : World
  h : Below w0.heap.size w0 w
theorem wp_region_bel {P : Program} {id : Nat} {Q : Exit → Act → World → Prop} {a : Act} {w w0 : World} {l : List Oper} (hi : Below w0.heap.size w0 w) (hm : P.follows .mixedOrders = true) (hB : Region.lexB .any l.toArray = true)
    (h : wpQuiet P l.toArray (fun w' => ∃ x : BelW w0, w' = x.w) (fun a' => ∀ w', (∃ x : BelW w0, w' = x.w) → Q .normal a' w') l a) : (Code.region id l.toArray true).wp P Q a w :=
  wp_region_quiet (C := fun w' => ∃ x : BelW w0, w' = x.w) hm hB ⟨⟨w.drew, hi.drew⟩, rfl⟩ (by simpa using h)
theorem Calls.bel_class {P : Program} {f : FuncId} {args : Array Value} {w0 : World} {x : BelW w0} {v : Value} (h : Calls P f args x.w fun e w' => e = .returned v ∧ Below x.w.heap.size x.w w') :
    Calls P f args x.w fun e w'' => e = .returned v ∧ ∃ y : BelW w0, w'' = y.w :=
  h.mono fun _ w' ⟨he, hw⟩ => ⟨he, ⟨w', x.h.trans (hw.mono x.h.size)⟩, rfl⟩
theorem Calls.same_class {P : Program} {f : FuncId} {args : Array Value} {w0 : World} {x : BelW w0} {v : Value} (h : Calls P f args x.w fun e w' => e = .returned v ∧ w' = x.w) :
    Calls P f args x.w fun e w'' => e = .returned v ∧ ∃ y : BelW w0, w'' = y.w :=
  h.mono fun _ w' ⟨he, hw⟩ => ⟨he, x, hw⟩
end Go.Proofs.YtddmnibioacelaaGreatDoor
