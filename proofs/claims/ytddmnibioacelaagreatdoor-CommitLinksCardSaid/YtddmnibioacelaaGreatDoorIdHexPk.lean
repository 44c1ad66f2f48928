/-
  The walk of Hex.
-/
import Derived.Test.YtddmnibioacelaaGreatDoorLawPostPk
import Derived.Deep.AppendLies
import Derived.Deep.RegionLaw
import Derived.IntWalk
import Derived.Deep.DeepCutAuto
import Derived.Test.YtddmnibioacelaaGreatDoorObPlainPk
import Derived.Lib.Hide
import Derived.BigQuiet
import Derived.Deep.QuietTactic
namespace Go.Proofs.YtddmnibioacelaaGreatDoor
open Go.RowKit

/-- The digit of a half byte. -/
def dig16 (n : Nat) : UInt8 := if n < 10 then UInt8.ofNat (48 + n) else UInt8.ofNat (87 + n)
def hexL : List UInt8 → List UInt8
  | [] => []
  | b :: l => dig16 (b.toNat / 16) :: dig16 (b.toNat % 16) :: hexL l
theorem hexL_len (l : List UInt8) : (hexL l).length = 2 * l.length := by
  induction l with
  | nil => rfl
  | cons b l ih => simp [hexL, ih]; omega
theorem hexL_append (l m : List UInt8) : hexL (l ++ m) = hexL l ++ hexL m := by
  induction l with
  | nil => rfl
  | cons b l ih => simp [hexL, ih]
def hexTab : ByteArray := { data := #[48, 49, 50, 51, 52, 53, 54, 55, 56, 57, 97, 98, 99, 100, 101, 102] }
theorem hexTab_get : ∀ n : Fin 16, hexTab.data[n.val]? = some (dig16 n.val) := by decide

theorem hex_index (n : Nat) (hn : n < 16) (w : World) : (Instr.index 9 (.string { data := #[48, 49, 50, 51, 52, 53, 54, 55, 56, 57, 97, 98, 99, 100, 101, 102] }) (.int .u8 (n : Int))).run Tryz.prog w = .ok (.int .u8 ((dig16 n).toNat : Int)) w := by
  rcases (by omega : n = 0 ∨ n = 1 ∨ n = 2 ∨ n = 3 ∨ n = 4 ∨ n = 5 ∨ n = 6 ∨ n = 7 ∨ n = 8 ∨ n = 9 ∨ n = 10 ∨ n = 11 ∨ n = 12 ∨ n = 13 ∨ n = 14 ∨ n = 15) with rfl | rfl | rfl | rfl | rfl | rfl | rfl | rfl | rfl | rfl | rfl | rfl | rfl | rfl | rfl | rfl <;> kernel_rfl
theorem and15 (c : Nat) (hc : c < 256) : bits .and .u8 (c : Int) 15 = ((c % 16 : Nat) : Int) := by
  have h := u8_and_nat c 15 hc (by omega)
  rw [show (15 : Int) = ((15 : Nat) : Int) from rfl, h, show (15 : Nat) = 2 ^ 4 - 1 from rfl, Nat.and_two_pow_sub_one_eq_mod]

theorem four_cells' (wr : World) (C : Array Value) (l : List UInt8) (j : Nat) (u : Value) {t : TypeId} (hC : C = (bcells l).toArray) (hj : (bcells l)[j]? = some u) : (wr.alloc (.cells C t)).cell? ((⟨wr.heap.size, 0, none⟩ : Addr).add j) = some u := by
  subst hC
  rw [Addr.add_lit, Nat.zero_add, World.cell?_alloc_mark]
  simpa using hj

theorem grown_drew {w w' : World} {r : Option Nat} (h : w.drew.grownBy w' r) : w.grownBy w' r := ⟨h.os, h.tape, h.output, h.size, h.block⟩

set_option maxHeartbeats 1000000 in
set_option maxRecDepth 4000 in
theorem hex_any (s : ByteArray) (w : World) (hs : s.size ≤ 70368744177664) :
    Calls Tryz.prog 131 #[.string s] w fun e w' => e = .returned (.string (str (hexL s.data.toList))) ∧ Below w.heap.size w w' := by
  obtain ⟨i0, hi, hz0, hz1, hz2⟩ := info_parts Tryz.info5
  go_enter Tryz.func131, Tryz.ntmps131
  have i1 : IntKind.i64.wrap (2 * (s.size : Int)) = 2 * (s.size : Int) := IntWalk.i64_in _ (by omega)
  go_wp2_with (at_make; refine wpList_make_own _ rfl _ _ 78 rfl w.heap.size 5 i0 (.int .u8 0) 1 Tryz.underlying78 hi hz0 hz1 _ _ _ (2 * s.size) rfl rfl (by omega) ?b1 ?b2 ?b3 ?_)
  case b1 => rw [hz2]; omega
  case b2 => unfold maxLen; omega
  case b3 => exact Nat.le_refl _
  intro w1 hown1 hgrow1
  have hb1 : Below w.heap.size w w1 := (Below.refl _ _).grown hgrow1 (Nat.le_refl _) (by simp)
  clear i1
  go_wp2
  go_loopw [3, 11] (fun v i wr => ∃ k : Nat, k ≤ s.size ∧ i = .int .i64 k ∧ wr.ownsRow w.heap.size 5 1 v (2 * k) (bcells (hexL (s.data.toList.take k))) ∧ Below w.heap.size w wr)
    (fun _ i _ => s.size - (intOf i).toNat)
  case atStart => exact ⟨0, by omega, rfl, hown1, hb1⟩
  case round =>
    clear hown1 hb1 hgrow1
    obtain ⟨k, hk, rfl, hown, hbel⟩ := hrel
    by_cases hlt : k < s.size
    · have hc := UInt8.toNat_lt s[k]
      have e2 := and15 _ hc
      have x1 := hex_index (s[k].toNat / 16) (by omega)
      have x2 := hex_index (s[k].toNat % 16) (by omega)
      have HT : Hid (hexL (s.data.toList.take (k + 1)) = hexL (s.data.toList.take k) ++ [dig16 (s[k].toNat / 16), dig16 (s[k].toNat % 16)]) := by
        show _ = _
        rw [take_snoc s k hlt, hexL_append]; rfl
      obtain ⟨x, hx⟩ : ∃ x, x = s[k].toNat / 16 := ⟨_, rfl⟩
      obtain ⟨y, hy⟩ : ∃ y, y = s[k].toNat % 16 := ⟨_, rfl⟩
      have e1 : (s[k].toNat : Int) / 16 = (x : Int) := by rw [hx]; rfl
      rw [← hy] at e2 x2 HT
      rw [← hx] at x1 HT
      obtain ⟨X, hX⟩ : ∃ X, X = dig16 x := ⟨_, rfl⟩
      obtain ⟨Y, hY⟩ : ∃ Y, Y = dig16 y := ⟨_, rfl⟩
      rw [← hX] at x1 HT
      rw [← hY] at x2 HT
      clear hx hy hX hY hc
      go_upto_region 5 with fail
      go_region_law (refine step_append_lies _ rfl (.tmp 14) (.tmp 25) 78 rfl w.heap.size 5 i0 (.int .u8 0) 1 1 Tryz.underlying78 hi hz0 hz1 hz2 rfl (by decide) _ _ _ rfl (World.ownsRow.alloc (w := wr.drew) hown _) ⟨wr.heap.size, 0, none⟩ 2 2 (bcells [X, Y]) rfl rfl (fun j u hj => four_cells' wr.drew _ _ j u rfl hj) (bcells_one _) (by decide) (by unfold maxLen; omega) (by omega) (by have := hbel.size; simp; omega) _ rfl ?_; intro g cap w3 ho3 hg3 _ _)
      all_goals
        have hb3 : Below w.heap.size w w3 := app_step hbel hown (grown_drew hg3) (Nat.le_refl _) hbel.size
        clear hown hg3 hbel x1 x2 e1 e2
        go_wp2
        go_roundw
        case rel => exact ⟨k + 1, by omega, by go_num, owns_eq ho3 (by rw [HT.out, bcells_append]), hb3⟩
        case measure => simp [intOf]; omega
    · obtain rfl : k = s.size := by omega
      have hcl := conv_owned (P := Tryz.prog) 78 9 5 Tryz.underlying78 Tryz.underlying5 Tryz.underlying9 hown
      rw [take_all] at hcl
      clear hown
      go_wp2
      go_ret
      exact ⟨rfl, hbel⟩
end Go.Proofs.YtddmnibioacelaaGreatDoor
/-
  The walks of the reference's Word, Kind, Find, Number and Digits.
-/
namespace Go.Proofs.YtddmnibioacelaaGreatDoor
open Go.RowKit

set_option maxHeartbeats 1000000 in
theorem rword_any (k : Int) (w : World) :
    Calls Tryz.prog 52 #[.int .i64 k] w fun e w' => e = .returned (.string (str (wordL k))) ∧ w' = w := by
  by_cases h1 : k = 1
  · subst h1
    go_enter Tryz.func52, Tryz.ntmps52
    go_wp2
    go_ret
    exact ⟨rfl, rfl⟩
  by_cases h2 : k = 2
  · subst h2
    go_enter Tryz.func52, Tryz.ntmps52
    go_wp2
    go_ret
    exact ⟨rfl, rfl⟩
  by_cases h3 : k = 3
  · subst h3
    go_enter Tryz.func52, Tryz.ntmps52
    go_wp2
    go_ret
    exact ⟨rfl, rfl⟩
  by_cases h4 : k = 4
  · subst h4
    go_enter Tryz.func52, Tryz.ntmps52
    go_wp2
    go_ret
    exact ⟨rfl, rfl⟩
  · have e1 : (k == 1) = false := by simpa using h1
    have e2 : (k == 2) = false := by simpa using h2
    have e3 : (k == 3) = false := by simpa using h3
    have e4 : (k == 4) = false := by simpa using h4
    have HR : Hid (str (wordL k) = ⟨#[]⟩) := by show _ = _; rw [wordL, if_neg h1, if_neg h2, if_neg h3, if_neg h4]; rfl
    clear h1 h2 h3 h4
    go_enter Tryz.func52, Tryz.ntmps52
    go_wp2
    go_ret
    exact ⟨by rw [HR.out]; rfl, rfl⟩

/-- The kind of a word, the kinds from k on. -/
def kindF (l : List UInt8) (k : Nat) : Nat := if kindL l = 0 ∨ k ≤ kindL l then kindL l else 0
theorem str_ne {s : ByteArray} {l : List UInt8} (h : s.data.toList ≠ l) : ((str l).toList == s.toList) = false := ba_ne fun e => h (by rw [← e]; rfl)

set_option maxHeartbeats 2000000 in
theorem rkind_any (s : ByteArray) (w : World) :
    Calls Tryz.prog 50 #[.string s] w fun e w' => e = .returned (.int .i64 (kindL s.data.toList : Int)) ∧ w' = w := by
  have HW : Hid (∀ k : Int, ∀ w, Calls Tryz.prog 52 #[.int .i64 k] w fun e w' => e = .returned (.string (str (wordL k))) ∧ w' = w) := rword_any
  go_enter Tryz.func50, Tryz.ntmps50
  go_wp2
  go_loop [3] (fun iv => ∃ k : Nat, 1 ≤ k ∧ k ≤ 5 ∧ iv = .int .i64 (k : Int) ∧ Hid (∀ j : Nat, 1 ≤ j → j < k → s.data.toList ≠ wordL (j : Int))) (fun iv => 5 - (intOf iv).toNat)
  case atStart => exact ⟨1, by omega, by omega, rfl, fun j h1 h2 => by omega⟩
  case round =>
    obtain ⟨k, h1, h5, rfl, HN⟩ := hrel
    by_cases hlt : k ≤ 4
    · obtain ⟨t, ht⟩ : ∃ t, t = str (wordL (k : Int)) := ⟨_, rfl⟩
      have HC : Hid (∀ w, Calls Tryz.prog 52 #[.int .i64 (k : Int)] w fun e w' => e = .returned (.string t) ∧ w' = w) := fun w => by
        have h := HW.out (k : Int) w
        rw [← ht] at h
        exact h
      by_cases hs : s = t
      · subst hs
        have HK : Hid ((kindL s.data.toList : Int) = (k : Int)) := by show _ = _; rw [ht]; exact kind_word (by omega)
        clear ht
        go_wp2_with (go_at_call 52; ((with_reducible refine (HC.out _).mono ?_); rintro e w1 ⟨rfl, rfl⟩))
        go_ret
        exact ⟨by rw [HK.out]; rfl, rfl⟩
      · have hne : (t.toList == s.toList) = false := ba_ne fun e => hs e.symm
        have HN2 : Hid (∀ j : Nat, 1 ≤ j → j < k + 1 → s.data.toList ≠ wordL (j : Int)) := fun j h1 h2 => by
          rcases Nat.lt_or_ge j k with h | h
          · exact HN.out j h1 h
          · obtain rfl : j = k := by omega
            intro e
            exact hs (ba_ext (by rw [ht, e]; rfl))
        clear ht hs HN
        go_wp2_with (go_at_call 52; ((with_reducible refine (HC.out _).mono ?_); rintro e w1 ⟨rfl, rfl⟩))
        go_round
        case rel => exact ⟨k + 1, by omega, by omega, by go_num, HN2.out⟩
        case measure => simp [intOf]; omega
    · obtain rfl : k = 5 := by omega
      have HK : Hid (kindL s.data.toList = 0) := by
        show _ = _
        rcases Nat.eq_zero_or_pos (kindL s.data.toList) with h | h
        · exact h
        · exact absurd (word_kind (by omega)).symm (HN.out _ h (by have := kindL_le s.data.toList; omega))
      clear HN
      go_wp2
      go_ret
      exact ⟨by rw [HK.out]; rfl, rfl⟩

/-- An index, told from further on. -/
def shI (k : Nat) (x : Int) : Int := if x = -1 then -1 else k + x
theorem shI_hit (l : List UInt8) (c : UInt8) (k : Nat) : shI k (Lib.indexByte (c :: l) c) = k := by
  unfold shI
  rw [Lib.indexByte]
  simp
theorem shI_miss (l : List UInt8) (b c : UInt8) (k : Nat) (h : b ≠ c) : shI k (Lib.indexByte (b :: l) c) = shI (k + 1) (Lib.indexByte l c) := by
  unfold shI
  have hbc : (b == c) = false := beq_eq_false_iff_ne.mpr h
  rw [Lib.indexByte, hbc, if_neg Bool.false_ne_true]
  by_cases hx : Lib.indexByte l c = -1
  · rw [hx]
    rfl
  · have := Lib.indexByte_ge l c
    have hb : (Lib.indexByte l c == -1) = false := by simpa using hx
    rw [hb, if_neg Bool.false_ne_true, if_neg (by omega), if_neg hx]
    omega

set_option maxHeartbeats 1000000 in
theorem rfindF_any (s : ByteArray) (c : UInt8) (z : Int) (f : Nat) (w : World) (hf : f ≤ s.size) (hz : z = (c.toNat : Int)) (hs : s.size ≤ 140737488355328) :
    Calls Tryz.prog 109 #[.string s, .int .u8 z, .int .i64 (f : Int)] w fun e w' => e = .returned (.int .i64 (shI f (Lib.indexByte (s.data.toList.drop f) c))) ∧ w' = w := by
  obtain ⟨R, hR⟩ : ∃ R, R = shI f (Lib.indexByte (s.data.toList.drop f) c) := ⟨_, rfl⟩
  rw [← hR]
  have HR := Lib.hid hR
  clear hR
  have HZ := Lib.hid hz
  clear hz
  go_enter Tryz.func109, Tryz.ntmps109
  go_wp2
  go_loop [7] (fun iv => ∃ k : Nat, k ≤ s.size ∧ iv = .int .i64 (k : Int) ∧ Hid (R = shI k (Lib.indexByte (s.data.toList.drop k) c))) (fun iv => s.size - (intOf iv).toNat)
  case atStart => exact ⟨f, by omega, rfl, HR.out⟩
  case round =>
    clear HR
    obtain ⟨k, hk, rfl, HR⟩ := hrel
    by_cases hlt : k < s.size
    · have hx := HR.out
      rw [drop_byte s k hlt] at hx
      by_cases hc : s[k] = c
      · have e1 : ((s[k].toNat : Int) == z) = true := by rw [HZ.out, hc]; simp
        rw [hc, shI_hit] at hx
        have HX := Lib.hid hx
        clear hx HR hc
        go_wp2
        go_ret
        exact ⟨by rw [HX.out]; rfl, rfl⟩
      · have e1 : ((s[k].toNat : Int) == z) = false := by
          rw [HZ.out, beq_eq_false_iff_ne]
          intro e
          exact hc (UInt8.toNat_inj.mp (by omega))
        rw [shI_miss _ _ _ _ hc] at hx
        have HX := Lib.hid hx
        clear hx HR hc
        go_wp2
        go_round
        case rel => exact ⟨k + 1, by omega, by go_num, HX.out⟩
        case measure => simp [intOf]; omega
    · obtain rfl : k = s.size := by omega
      have HX : Hid (R = -1) := by
        show _ = _
        rw [HR.out, drop_none s _ (Nat.le_refl _)]
        rfl
      clear HR
      go_wp2
      go_ret
      exact ⟨by rw [HX.out]; rfl, rfl⟩
theorem rfindB_any (s : ByteArray) (c : UInt8) (z : Int) (w : World) (hz : z = (c.toNat : Int)) (hs : s.size ≤ 140737488355328) :
    Calls Tryz.prog 109 #[.string s, .int .u8 z, .int .i64 0] w fun e w' => e = .returned (.int .i64 (Lib.indexByte s.data.toList c)) ∧ w' = w :=
  (rfindF_any s c z 0 w (Nat.zero_le _) hz hs).mono fun e w' ⟨he, hw⟩ => ⟨by rw [he, List.drop_zero, shI]; split <;> (refine ret_int ?_; omega), hw⟩
end Go.Proofs.YtddmnibioacelaaGreatDoor
/-
  The walks of the reference's Number and Digits.
-/
namespace Go.Proofs.YtddmnibioacelaaGreatDoor
open Go.RowKit

/-- What Number answers. -/
def numI (l : List UInt8) : Int := match numR 7 l with
  | some m => (m : Int)
  | none => -1
def decI (n : Nat) (l : List UInt8) : Int := match Lib.decFrom n l with
  | some m => (m : Int)
  | none => -1
theorem decI_cons (n : Nat) (c : UInt8) (l : List UInt8) (h : 48 ≤ c.toNat ∧ c.toNat ≤ 57) : decI n (c :: l) = decI (n * 10 + (c.toNat - 48)) l := by
  unfold decI
  rw [Lib.decFrom, Lib.digitVal, if_pos h]
theorem decI_bad (n : Nat) (c : UInt8) (l : List UInt8) (h : ¬ (48 ≤ c.toNat ∧ c.toNat ≤ 57)) : decI n (c :: l) = -1 := by
  unfold decI
  rw [Lib.decFrom, Lib.digitVal, if_neg h]

/-- What is left of a number to be written before the digits that stand. -/
def restD (k : Nat) (s : List UInt8) : List UInt8 := if k = 0 ∧ s ≠ [] then s else Lib.decDigits k ++ s
theorem restD_step (k : Nat) (s : List UInt8) (h : k ≠ 0 ∨ s = []) : restD k s = restD (k / 10) (UInt8.ofNat (48 + k % 10) :: s) := by
  unfold restD
  rw [if_neg (by rintro ⟨h1, h2⟩; rcases h with h | h; exact h h1; exact h2 h)]
  by_cases h0 : k < 10
  · rw [if_pos ⟨by omega, by simp⟩, Lib.decDigits_one h0, show k % 10 = k by omega]
    rfl
  · rw [if_neg (by omega), decDigits_big h0]
    simp
theorem restD_end (s : List UInt8) (h : s ≠ []) : restD 0 s = s := by unfold restD; rw [if_pos ⟨rfl, h⟩]

set_option maxHeartbeats 4000000 in
set_option maxRecDepth 4000 in
theorem robdigits_any (n : Nat) (w : World) (hn : n ≤ 1000000000000) :
    Calls Tryz.prog 91 #[.int .i64 (n : Int)] w fun e w' => e = .returned (.string (str (Lib.decDigits n))) ∧ Below w.heap.size w w' := by
  obtain ⟨R, hR⟩ : ∃ R, R = Lib.decDigits n := ⟨_, rfl⟩
  rw [← hR]
  have HR : Hid (R = restD n []) := by show _ = _; rw [hR, restD, if_neg (by simp)]; simp
  clear hR
  go_enter Tryz.func91, Tryz.ntmps91
  go_wp2
  go_loopw [4, 3] (fun iv sv wr => ∃ (k : Nat) (s : ByteArray), k ≤ n ∧ s.size ≤ 140737488355328 - k ∧ iv = .int .i64 (k : Int) ∧ sv = .string s ∧ Hid (R = restD k s.data.toList) ∧ Hid (Below w.heap.size w wr)) (fun iv sv _ => 2 * (intOf iv).toNat + (match sv with | .string s => if s.size = 0 then 1 else 0 | _ => 0))
  case atStart => exact ⟨n, ⟨#[]⟩, Nat.le_refl _, by show 0 ≤ _; omega, rfl, rfl, HR.out, Below.refl _ _⟩
  case round =>
    clear HR
    obtain ⟨k, s, hk, hs, rfl, rfl, HR, HB⟩ := hrel
    by_cases hgo : k ≠ 0 ∨ s.data.toList = []
    · have hx := HR.out
      rw [restD_step k _ hgo] at hx
      obtain ⟨d, hd⟩ : ∃ d, d = k % 10 := ⟨_, rfl⟩
      obtain ⟨k2, hk2⟩ : ∃ k2, k2 = k / 10 := ⟨_, rfl⟩
      rw [← hd, ← hk2] at hx
      obtain ⟨s2, hs2⟩ : ∃ s2, s2 = str [UInt8.ofNat (48 + d)] ++ s := ⟨_, rfl⟩
      have hl2 : s2.size = s.size + 1 := by rw [hs2, ByteArray.size_append, str_size]; simp; omega
      have HX : Hid (R = restD k2 s2.data.toList) := by show _ = _; rw [hx, hs2, app_list]; rfl
      obtain ⟨T, hT⟩ : ∃ T, T = str [UInt8.ofNat (48 + d)] := ⟨_, rfl⟩
      rw [← hT] at hs2
      have HT1 : T.size = 1 := by rw [hT, str_size]; rfl
      have hcv := conv_one (P := Tryz.prog) wr (48 + (d : Int)) (48 + d) (by omega) (by omega) 78 9 5 5 1 Tryz.underlying78 Tryz.underlying5 Tryz.underlying9
      rw [← hT] at hcv
      have e1 : (k : Int) % 10 = (d : Int) := by omega
      have e1' : (k : Int).tmod 10 = (d : Int) := by rw [Int.tmod_eq_emod_of_nonneg (by omega)]; exact e1
      have e2 : (k : Int) / 10 = (k2 : Int) := by omega
      have e2' : (k : Int).tdiv 10 = (k2 : Int) := by rw [Int.tdiv_eq_ediv_of_nonneg (by omega)]; exact e2
      have e3 : IntKind.i64.wrap (-(d : Int)) = -(d : Int) := IntWalk.i64_in _ (by omega)
      have e4 : IntKind.i64.wrap (48 + (d : Int)) = 48 + (d : Int) := IntWalk.i64_in _ (by omega)
      have e5 : IntKind.u8.wrap (48 + (d : Int)) = 48 + (d : Int) := IntWalk.u8_in _ (by omega)
      have e6 : ¬ (d : Int) < -(d : Int) := by omega
      have e6' : decide ((d : Int) < -(d : Int)) = false := decide_eq_false e6
      have hB2 : Hid (Below w.heap.size w (wr.alloc (.cells #[.int .u8 (48 + (d : Int))] 5))) := HB.out.alloc HB.out.size _
      have HS2 : Hid (s2 = T ++ s) := hs2
      have hk2n : k2 ≤ n := by omega
      have hmes : 2 * k2 < 2 * k ∨ (k = 0 ∧ s.size = 0) := by
        rcases hgo with h | h
        · left; omega
        · rcases Nat.eq_zero_or_pos k with h0 | h0
          · right
            refine ⟨h0, ?_⟩
            rw [← list_len, h]
            rfl
          · left; omega
      have hk20 : k2 ≤ k := by omega
      have hs2' : s2.size ≤ 140737488355328 - k2 := by
        have : s.size + 1 ≤ 140737488355328 - k2 := by
          rcases hgo with h | h
          · have : k2 < k := by omega
            omega
          · have : s.size = 0 := by rw [← list_len, h]; rfl
            omega
        omega
      have HTd := Lib.hid hT
      have hd0 : k = 0 → d = 0 := fun h => by omega
      clear hx hd hk2 hs2 hT hl2 HR HB
      by_cases h0 : k = 0
      · obtain rfl := hd0 h0
        subst h0
        have hcv0 := conv_one (P := Tryz.prog) wr 48 48 rfl (by omega) 78 9 5 5 1 Tryz.underlying78 Tryz.underlying5 Tryz.underlying9
        rw [← HTd.out] at hcv0
        obtain ⟨_, hs0⟩ : True ∧ s.size = 0 := by
          rcases hmes with h | h
          · omega
          · exact ⟨trivial, h.2⟩
        obtain rfl : k2 = 0 := by omega
        have hsl : s.data.toList = [] := List.eq_nil_of_length_eq_zero (by rw [list_len]; exact hs0)
        have f1 : s.toList.isEmpty = true := by rw [ByteArray.toList_eq, hsl]; rfl
        have f2 : (s.toList == []) = true := by rw [ByteArray.toList_eq, hsl]; rfl
        have f3 : s.toList = [] := by rw [ByteArray.toList_eq, hsl]
        have hm3 : ¬ s2.size = 0 := by
          rw [HS2.out, ByteArray.size_append]
          omega
        clear hsl hgo hmes hcv hd0 e1 e1' e2 e2' e3 e4 e5 e6 e6'
        go_wp2
        go_roundw
        case rel => exact ⟨0, s2, by omega, hs2', rfl, by first | rfl | (rw [HS2.out]), HX.out, hB2.out⟩
        case measure =>
          have hTn : ¬ T = ByteArray.empty := by
            intro e
            rw [e] at HT1
            cases HT1
          simp [intOf, hs0, hm3, hTn]
      · have f0 : ((k : Int) != 0) = true := by simpa using h0
        have hm2 : 2 * k2 < 2 * k - 1 := by
          rcases hmes with h | h
          · omega
          · exact absurd h.1 h0
        clear hmes hgo hd0
        go_wp2
        go_roundw
        case rel => exact ⟨k2, s2, hk2n, hs2', rfl, by first | rfl | (rw [HS2.out]), HX.out, hB2.out⟩
        case measure => simp [intOf]; split <;> split <;> omega
    · obtain ⟨h0, hne⟩ : k = 0 ∧ s.data.toList ≠ [] := by
        constructor
        · rcases Nat.eq_zero_or_pos k with h | h
          · exact h
          · exact absurd (.inl (by omega)) hgo
        · exact fun h => hgo (.inr h)
      subst h0
      have f1 : s.toList.isEmpty = false := by
        rw [ByteArray.toList_eq]
        cases hx : s.data.toList with
        | nil => exact absurd hx hne
        | cons a t => rfl
      have f2 : (s.toList == []) = false := by
        rw [ByteArray.toList_eq, beq_eq_false_iff_ne]
        exact hne
      have HX : Hid (str R = s) := by
        show _ = _
        rw [HR.out, restD_end _ hne]
        rfl
      have hn0 : ¬ (n : Int) < 0 := by omega
      have hn1 : decide ((n : Int) < 0) = false := decide_eq_false hn0
      clear hgo hne HR
      go_wp2
      go_ret
      exact ⟨by rw [HX.out]; rfl, HB.out⟩
end Go.Proofs.YtddmnibioacelaaGreatDoor
/-
  A region that draws its order, walked once in the text's order, over all worlds in which what was there is as it was.
-/
namespace Go.Proofs.YtddmnibioacelaaGreatDoor
open Go.RowKit

theorem cell_bel {w w' : World} {g o : Nat} {v : Value} (h : w.cell? ⟨g, o, none⟩ = some v) (hb : Below w.heap.size w w') : w'.cell? ⟨g, o, none⟩ = some v := (hb.cell (p := ⟨g, o, none⟩) (World.block_lt_of_cell? w _ h)).trans h
/-- A world in which what was there is as it was. -/
structure BelW (w0 : World) where
  w : World
  h : Below w0.heap.size w0 w
theorem wp_region_bel {P : Program} {id : Nat} {Q : Exit → Act → World → Prop} {a : Act} {w w0 : World} {l : List Oper} (hi : Below w0.heap.size w0 w) (hm : P.follows .mixedOrders = true) (hB : Region.lexB .any l.toArray = true)
    (h : wpQuiet P l.toArray (fun w' => ∃ x : BelW w0, w' = x.w) (fun a' => ∀ w', (∃ x : BelW w0, w' = x.w) → Q .normal a' w') l a) : (Code.region id l.toArray true).wp P Q a w :=
  wp_region_quiet (C := fun w' => ∃ x : BelW w0, w' = x.w) hm hB ⟨⟨w.drew, hi.drew⟩, rfl⟩ (by simpa using h)
theorem Calls.bel_class {P : Program} {f : FuncId} {args : Array Value} {w0 : World} {x : BelW w0} {v : Value} (h : Calls P f args x.w fun e w' => e = .returned v ∧ Below x.w.heap.size x.w w') :
    Calls P f args x.w fun e w'' => e = .returned v ∧ ∃ y : BelW w0, w'' = y.w :=
  h.mono fun _ w' ⟨he, hw⟩ => ⟨he, ⟨w', x.h.trans (hw.mono x.h.size)⟩, rfl⟩
theorem Calls.same_class {P : Program} {f : FuncId} {args : Array Value} {w0 : World} {x : BelW w0} {v : Value} (h : Calls P f args x.w fun e w' => e = .returned v ∧ w' = x.w) :
    Calls P f args x.w fun e w'' => e = .returned v ∧ ∃ y : BelW w0, w'' = y.w :=
  h.mono fun _ w' ⟨he, hw⟩ => ⟨he, x, hw⟩
end Go.Proofs.YtddmnibioacelaaGreatDoor
