/-
  The walks of the reference's Digit, digits and Is.
-/
import Derived.Test.YtddmnibioacelaaGreatDoorIdDigitPk
import Derived.IntWalk
import Derived.Test.YtddmnibioacelaaGreatDoorTrPlainPk
import Derived.Test.YtddmnibioacelaaGreatDoorPtRPartPk
import Derived.Test.YtddmnibioacelaaGreatDoorIdHexPk
import Derived.Test.YtddmnibioacelaaGreatDoorShelf
namespace Go.Proofs.YtddmnibioacelaaGreatDoor
open Go.RowKit

def rdig (b : UInt8) : Int := match halfOf b with
  | some x => (x : Int)
  | none => -1
theorem rdig_some {b : UInt8} {x : Nat} (h : halfOf b = some x) : rdig b = (x : Int) := by rw [rdig, h]
theorem rdig_none {b : UInt8} (h : halfOf b = none) : rdig b = -1 := by rw [rdig, h]

set_option maxHeartbeats 1000000 in
theorem rdigit_any (b : UInt8) (w : World) :
    Calls Tryz.prog 95 #[.int .u8 b.toNat] w fun e w' => e = .returned (.int .i64 (rdig b)) ∧ w = w' := by
  have hb := UInt8.toNat_lt b
  obtain ⟨c, hc⟩ : ∃ c, c = b.toNat := ⟨_, rfl⟩
  have HC : Hid (c = b.toNat) := hc
  rw [← hc] at hb ⊢
  clear hc
  go_enter Tryz.func95, Tryz.ntmps95
  by_cases h1 : 48 ≤ c ∧ c ≤ 57
  · have HO : Hid (halfOf b = some (c - 48)) := by show _ = _; rw [halfOf, ← HC.out, if_pos h1]
    obtain ⟨h1, h2⟩ := h1
    obtain ⟨y, hy⟩ : ∃ y, y = c - 48 := ⟨_, rfl⟩
    rw [← hy] at HO
    have e1 : IntKind.u8.wrap ((c : Int) - 48) = (y : Int) := by rw [IntKind.wrap_u8]; omega
    have e2 : IntKind.i64.wrap (y : Int) = (y : Int) := IntWalk.i64_in _ (by omega)
    clear hy
    go_wp2
    go_ret
    exact ⟨ret_int (rdig_some HO.out).symm, rfl⟩
  · by_cases h2 : 97 ≤ c ∧ c ≤ 102
    · have HO : Hid (halfOf b = some (c - 87)) := by show _ = _; rw [halfOf, ← HC.out, if_neg h1, if_pos h2]
      obtain ⟨h3, h4⟩ := h2
      obtain ⟨y, hy⟩ : ∃ y, y = c - 97 := ⟨_, rfl⟩
      have e1 : IntKind.u8.wrap ((c : Int) - 97) = (y : Int) := by rw [IntKind.wrap_u8]; omega
      have e2 : IntKind.i64.wrap (y : Int) = (y : Int) := IntWalk.i64_in _ (by omega)
      have e3 : 57 < c := by omega
      have e4 : 48 ≤ c := by omega
      have HY : Hid (c - 87 = y + 10) := by show _ = _; omega
      have hy6 : y < 6 := by omega
      clear hy h1
      go_wp2
      go_ret
      exact ⟨ret_int (by rw [rdig_some HO.out, HY.out]; rfl), rfl⟩
    · have HO : Hid (halfOf b = none) := by show _ = _; rw [halfOf, ← HC.out, if_neg h1, if_neg h2]
      have hcs : c < 48 ∨ (57 < c ∧ c < 97) ∨ 102 < c := by omega
      clear h1 h2
      rcases hcs with h | ⟨h, h'⟩ | h
      · have e4 : c < 97 := by omega
        go_wp2
        go_ret
        exact ⟨ret_int (rdig_none HO.out).symm, rfl⟩
      · have e4 : 48 ≤ c := by omega
        go_wp2
        go_ret
        exact ⟨ret_int (rdig_none HO.out).symm, rfl⟩
      · have e4 : 97 ≤ c := by omega
        have e5 : 57 < c := by omega
        have e6 : 48 ≤ c := by omega
        go_wp2
        go_ret
        exact ⟨ret_int (rdig_none HO.out).symm, rfl⟩

set_option maxHeartbeats 1000000 in
theorem rdigits_any (s : ByteArray) (w : World) (hs : s.size ≤ 140737488355328) :
    Calls Tryz.prog 76 #[.string s] w fun e w' => e = .returned (.bool (allDig s.data.toList)) ∧ w = w' := by
  go_enter Tryz.func76, Tryz.ntmps76
  go_wp2
  go_loopw [3] (fun i wr => ∃ k : Nat, k ≤ s.size ∧ i = .int .i64 k ∧ allDig (s.data.toList.take k) = true ∧ wr = w) (fun i _ => s.size - (intOf i).toNat)
  case atStart => exact ⟨0, by omega, rfl, rfl, rfl⟩
  case round =>
    obtain ⟨k, hk, rfl, ha, rfl⟩ := hrel
    have HA : Hid (allDig (s.data.toList.take k) = true) := ha
    clear ha
    by_cases hlt : k < s.size
    · have hh := rdigit_any s[k] wr
      cases ho : halfOf s[k] with
      | none =>
        have HO : Hid (halfOf s[k] = none) := ho
        rw [rdig_none ho] at hh
        have HH : Hid (Calls Tryz.prog 95 #[.int .u8 s[k].toNat] wr fun e w' => e = .returned (.int .i64 (-1)) ∧ wr = w') := hh
        clear ho hh
        go_wp2_with (go_at_call 95; refine HH.out.mono ?_; rintro e w' ⟨rfl, rfl⟩)
        go_ret
        refine ⟨ret_bool ?_, rfl⟩
        rw [allDig_not (b := s[k]) (by rw [← Array.mem_def]; exact Array.getElem_mem _) (by rw [HO.out]; rfl)]
      | some x =>
        have HO : Hid (halfOf s[k] = some x) := ho
        rw [rdig_some ho] at hh
        have HH : Hid (Calls Tryz.prog 95 #[.int .u8 s[k].toNat] wr fun e w' => e = .returned (.int .i64 (x : Int)) ∧ wr = w') := hh
        clear ho hh
        go_wp2_with (go_at_call 95; refine HH.out.mono ?_; rintro e w' ⟨rfl, rfl⟩)
        go_roundw
        case rel => exact ⟨k + 1, by omega, by go_num, by rw [take_snoc s k hlt, allDig_snoc, HA.out, HO.out]; rfl, by trivial⟩
        case measure => simp [intOf]; omega
    · obtain rfl : k = s.size := by omega
      go_wp2
      go_ret
      exact ⟨ret_bool (by rw [← take_all s, HA.out]), rfl⟩

set_option maxHeartbeats 1000000 in
theorem ris_any (s : ByteArray) (w : World) (hs : s.size ≤ 140737488355328) :
    Calls Tryz.prog 40 #[.string s] w fun e w' => e = .returned (.bool (isId s)) ∧ w = w' := by
  have hd := rdigits_any s w hs
  go_enter Tryz.func40, Tryz.ntmps40
  by_cases h : s.size = 40
  · have h1 : ((s.size : Int) == 40) = true := by rw [h]; rfl
    have HS : Hid (s.size = 40) := h
    clear h
    go_wp2_with (go_at_call 76; refine hd.mono ?_; rintro e w' ⟨rfl, rfl⟩)
    go_ret
    exact ⟨ret_bool (by rw [isId, HS.out]; simp), rfl⟩
  · have h1 : ((s.size : Int) == 40) = false := by simp; omega
    have HS : Hid (isId s = false) := by show _ = _; simp [isId, h]
    clear h
    go_wp2
    go_ret
    exact ⟨ret_bool HS.out.symm, rfl⟩
theorem ris_at (s : ByteArray) (w : World) (hs : s.size ≤ 140737488355328) (b : Bool) (h : isId s = b) :
    Calls Tryz.prog 40 #[.string s] w fun e w' => e = .returned (.bool b) ∧ w = w' := h ▸ ris_any s w hs
theorem rdigits_at (s : ByteArray) (w : World) (hs : s.size ≤ 140737488355328) (b : Bool) (h : allDig s.data.toList = b) :
    Calls Tryz.prog 76 #[.string s] w fun e w' => e = .returned (.bool b) ∧ w = w' := h ▸ rdigits_any s w hs
end Go.Proofs.YtddmnibioacelaaGreatDoor
/-
  What the functions of tree read; the walks of valid and of the reference's May.
-/
namespace Go.Proofs.YtddmnibioacelaaGreatDoor
open Go.RowKit

/-- What the functions of tree read of package-level variables. -/
structure TrTab (w : World) : Prop where
  ml : ∃ m, w.cell? ⟨1, 0, none⟩ = some (.int .i64 m)
  c1 : w.cell? ⟨5, 1, none⟩ = some (.string (str (wordM 1)))
  c2 : w.cell? ⟨5, 2, none⟩ = some (.string (str (wordM 2)))
  c3 : w.cell? ⟨5, 3, none⟩ = some (.string (str (wordM 3)))
  c4 : w.cell? ⟨5, 4, none⟩ = some (.string (str (wordM 4)))
theorem TrTab.below {w w' : World} (h : TrTab w) (hb : Below w.heap.size w w') : TrTab w' :=
  ⟨by obtain ⟨m, hm⟩ := h.ml; exact ⟨m, cell_bel hm hb⟩, cell_bel h.c1 hb, cell_bel h.c2 hb, cell_bel h.c3 hb, cell_bel h.c4 hb⟩
theorem flatN_ne (s : ByteArray) : decide (0 ≤ Lib.indexByte s.data.toList 47) = !flatN s := by
  unfold flatN
  by_cases h : 0 ≤ Lib.indexByte s.data.toList 47
  · simp [h, Int.not_lt.mpr h]
  · simp [h, Int.not_le.mp h]

set_option maxHeartbeats 2000000 in
set_option maxRecDepth 4000 in
theorem valid_any (e : En) (w : World) (hT : TrTab w) (hn : e.n.size ≤ 1048576) (hi : e.i.size ≤ 140737488355328) :
    Calls Tryz.prog 132 #[.agg #[.int .i64 e.m, .string e.n, .string e.i]] w fun x w' => x = .returned (.bool (okEn e)) ∧ Below w.heap.size w w' := by
  obtain ⟨m, n, i⟩ := e
  simp only at hn hi ⊢
  obtain ⟨P, hP⟩ : ∃ P, P = isP n := ⟨_, rfl⟩
  obtain ⟨F, hF⟩ : ∃ F, F = flatN n := ⟨_, rfl⟩
  obtain ⟨I, hI⟩ : ∃ I, I = isId i := ⟨_, rfl⟩
  obtain ⟨R, hR⟩ : ∃ R, R = okEn ⟨m, n, i⟩ := ⟨_, rfl⟩
  rw [← hR]
  have HR : Hid (R = (decide (1 ≤ m) && (decide (m ≤ 4) && (P && (F && I))))) := by
    show _ = _
    rw [hR, okEn, hP, hF, hI]
  have HP : Hid (∀ w', Below w.heap.size w w' → Calls Tryz.prog 150 #[.string n] w' fun e w'' => e = .returned (.bool P) ∧ Below w'.heap.size w' w'') := fun w' hb => by
    obtain ⟨z, hz⟩ := (hT.below hb).ml
    rw [hP]
    exact pis_any n z w' hn hz
  have HF : Hid (∀ w', Calls Tryz.prog 38 #[.string n, .string ⟨#[47]⟩] w' fun e w'' => e = .returned (.bool !F) ∧ w'' = w') := fun w' => by
    rw [hF, ← flatN_ne]
    exact Tryz.strings_Contains_one n 47 w'
  have HI : Hid (∀ w', Calls Tryz.prog 35 #[.string i] w' fun e w'' => e = .returned (.bool I) ∧ w' = w'') := fun w' => by
    rw [hI]
    exact is_any i w' hi
  have hx := heap_alloc_new w (.cells #[.int .i64 m, .string n, .string i] 85)
  have hbx : Below w.heap.size w (w.alloc (.cells #[.int .i64 m, .string n, .string i] 85)) := below_new (Below.refl _ _) _
  have hbl : w.heap.size < (w.alloc (.cells #[.int .i64 m, .string n, .string i] 85)).heap.size := by simp
  obtain ⟨w1, hw1⟩ : ∃ w1, w1 = w.alloc (.cells #[.int .i64 m, .string n, .string i] 85) := ⟨_, rfl⟩
  have HW1 := Lib.hid hw1
  rw [← hw1] at hx hbx hbl
  have a0 : w1.cell? ⟨w.heap.size, 0, none⟩ = some (.int .i64 m) := cell_of_row w1 _ 0 _ _ _ hx
  have a1 : w1.cell? ⟨w.heap.size, 1, none⟩ = some (.string n) := cell_of_row w1 _ 1 _ _ _ hx
  have a2 : w1.cell? ⟨w.heap.size, 2, none⟩ = some (.string i) := cell_of_row w1 _ 2 _ _ _ hx
  have HB := Lib.hid hbx
  have HT := Lib.hid hT
  clear hP hF hI hR hw1 hx hT hbx hn hi
  have hc : (decide (1 ≤ m) = false) ∨ (decide (1 ≤ m) = true ∧ decide (m ≤ 4) = false) ∨ (decide (1 ≤ m) = true ∧ decide (m ≤ 4) = true) := by
    cases decide (1 ≤ m) <;> cases decide (m ≤ 4) <;> simp
  rcases hc with h1 | ⟨h1, h2⟩ | ⟨h1, h2⟩
  · have HX : Hid (R = false) := by show _ = _; rw [HR.out, h1]; rfl
    clear HR
    go_enter Tryz.func132, Tryz.ntmps132
    go_upto_region 1 with fail
    rw [← HW1.out]
    go_wp2
    go_ret
    exact ⟨by rw [HX.out]; rfl, HB.out⟩
  · have HX : Hid (R = false) := by show _ = _; rw [HR.out, h1, h2]; rfl
    clear HR
    go_enter Tryz.func132, Tryz.ntmps132
    go_upto_region 1 with fail
    rw [← HW1.out]
    go_wp2
    go_ret
    exact ⟨by rw [HX.out]; rfl, HB.out⟩
  · have HX : Hid (R = (P && (F && I))) := by show _ = _; rw [HR.out, h1, h2]; rfl
    clear HR
    rcases P with _ | _
    · go_enter Tryz.func132, Tryz.ntmps132
      go_upto_region 1 with fail
      rw [← HW1.out]
      go_wp2_with (go_at_call 150; ((with_reducible refine (HP.out _ HB.out).mono ?_); rintro e w2 ⟨rfl, hb2⟩; have b1 := cell_bel a1 hb2; have b2 := cell_bel a2 hb2))
      go_ret
      exact ⟨by rw [HX.out]; rfl, HB.out.trans (hb2.mono HB.out.size)⟩
    · rcases F with _ | _
      · go_enter Tryz.func132, Tryz.ntmps132
        go_upto_region 1 with fail
        rw [← HW1.out]
        go_wp2_with (first
          | (go_at_call 150; ((with_reducible refine (HP.out _ HB.out).mono ?_); rintro e w2 ⟨rfl, hb2⟩; have b1 := cell_bel a1 hb2; have b2 := cell_bel a2 hb2))
          | (go_at_call 38; ((with_reducible refine (HF.out _).mono ?_); rintro e w3 ⟨rfl, rfl⟩)))
        go_ret
        exact ⟨by rw [HX.out]; rfl, HB.out.trans (hb2.mono HB.out.size)⟩
      · go_enter Tryz.func132, Tryz.ntmps132
        go_upto_region 1 with fail
        rw [← HW1.out]
        go_wp2_with (first
          | (go_at_call 150; ((with_reducible refine (HP.out _ HB.out).mono ?_); rintro e w2 ⟨rfl, hb2⟩; have b1 := cell_bel a1 hb2; have b2 := cell_bel a2 hb2))
          | (go_at_call 38; ((with_reducible refine (HF.out _).mono ?_); rintro e w3 ⟨rfl, rfl⟩))
          | (go_at_call 35; ((with_reducible refine (HI.out _).mono ?_); rintro e w4 ⟨rfl, rfl⟩)))
        go_ret
        exact ⟨by rw [HX.out]; rfl, HB.out.trans (hb2.mono HB.out.size)⟩
set_option maxHeartbeats 2000000 in
set_option maxRecDepth 4000 in
theorem may_any (e : En) (w : World) (hn : e.n.size ≤ 1048576) (hi : e.i.size ≤ 140737488355328) :
    Calls Tryz.prog 111 #[.agg #[.int .i64 e.m, .string e.n, .string e.i]] w fun x w' => x = .returned (.bool (okEn e)) ∧ Below w.heap.size w w' := by
  obtain ⟨m, n, i⟩ := e
  simp only at hn hi ⊢
  obtain ⟨P, hP⟩ : ∃ P, P = isP n := ⟨_, rfl⟩
  obtain ⟨K, hK⟩ : ∃ K, K = Lib.indexByte n.data.toList 47 := ⟨_, rfl⟩
  obtain ⟨F, hF⟩ : ∃ F, F = decide (K < 0) := ⟨_, rfl⟩
  obtain ⟨I, hI⟩ : ∃ I, I = isId i := ⟨_, rfl⟩
  obtain ⟨R, hR⟩ : ∃ R, R = okEn ⟨m, n, i⟩ := ⟨_, rfl⟩
  rw [← hR]
  have HR : Hid (R = (decide (1 ≤ m) && (decide (m ≤ 4) && (P && (F && I))))) := by
    show _ = _
    rw [hR, okEn, hP, hF, hI, hK]; rfl
  have HP : Hid (∀ w', Below w.heap.size w w' → Calls Tryz.prog 135 #[.string n] w' fun e w'' => e = .returned (.bool P) ∧ Below w'.heap.size w' w'') := fun w' hb => by
    rw [hP]
    exact pris_any n w' hn
  have HF : Hid (∀ w', Calls Tryz.prog 109 #[.string n, .int .u8 47, .int .i64 0] w' fun e w'' => e = .returned (.int .i64 K) ∧ w'' = w') := fun w' => by
    rw [hK]
    exact rfindB_any n 47 47 w' rfl (by omega)
  have HI : Hid (∀ w', Calls Tryz.prog 40 #[.string i] w' fun e w'' => e = .returned (.bool I) ∧ w' = w'') := fun w' => by
    rw [hI]
    exact ris_any i w' hi
  have hx := heap_alloc_new w (.cells #[.int .i64 m, .string n, .string i] 85)
  have hbx : Below w.heap.size w (w.alloc (.cells #[.int .i64 m, .string n, .string i] 85)) := below_new (Below.refl _ _) _
  have hbl : w.heap.size < (w.alloc (.cells #[.int .i64 m, .string n, .string i] 85)).heap.size := by simp
  obtain ⟨w1, hw1⟩ : ∃ w1, w1 = w.alloc (.cells #[.int .i64 m, .string n, .string i] 85) := ⟨_, rfl⟩
  have HW1 := Lib.hid hw1
  rw [← hw1] at hx hbx hbl
  have a0 : w1.cell? ⟨w.heap.size, 0, none⟩ = some (.int .i64 m) := cell_of_row w1 _ 0 _ _ _ hx
  have a1 : w1.cell? ⟨w.heap.size, 1, none⟩ = some (.string n) := cell_of_row w1 _ 1 _ _ _ hx
  have a2 : w1.cell? ⟨w.heap.size, 2, none⟩ = some (.string i) := cell_of_row w1 _ 2 _ _ _ hx
  have HB := Lib.hid hbx
  clear hP hK hI hR hw1 hx hbx hn hi
  have hc : (decide (1 ≤ m) = false) ∨ (decide (1 ≤ m) = true ∧ decide (m ≤ 4) = false) ∨ (decide (1 ≤ m) = true ∧ decide (m ≤ 4) = true) := by
    cases decide (1 ≤ m) <;> cases decide (m ≤ 4) <;> simp
  rcases hc with h1 | ⟨h1, h2⟩ | ⟨h1, h2⟩
  · have HX : Hid (R = false) := by show _ = _; rw [HR.out, h1]; rfl
    clear HR
    go_enter Tryz.func111, Tryz.ntmps111
    go_upto_region 1 with fail
    rw [← HW1.out]
    go_wp2
    go_ret
    exact ⟨by rw [HX.out]; rfl, HB.out⟩
  · have HX : Hid (R = false) := by show _ = _; rw [HR.out, h1, h2]; rfl
    clear HR
    go_enter Tryz.func111, Tryz.ntmps111
    go_upto_region 1 with fail
    rw [← HW1.out]
    go_wp2
    go_ret
    exact ⟨by rw [HX.out]; rfl, HB.out⟩
  · have HX : Hid (R = (P && (F && I))) := by show _ = _; rw [HR.out, h1, h2]; rfl
    clear HR
    rcases P with _ | _
    · go_enter Tryz.func111, Tryz.ntmps111
      go_upto_region 1 with fail
      rw [← HW1.out]
      go_wp2_with (go_at_call 135; ((with_reducible refine (HP.out _ HB.out).mono ?_); rintro e w2 ⟨rfl, hb2⟩; have b1 := cell_bel a1 hb2; have b2 := cell_bel a2 hb2))
      go_ret
      exact ⟨by rw [HX.out]; rfl, HB.out.trans (hb2.mono HB.out.size)⟩
    · have hFK := hF.symm
      clear hF
      rcases F with _ | _
      · go_enter Tryz.func111, Tryz.ntmps111
        go_upto_region 1 with fail
        rw [← HW1.out]
        go_wp2_with (first
          | (go_at_call 135; ((with_reducible refine (HP.out _ HB.out).mono ?_); rintro e w2 ⟨rfl, hb2⟩; have b1 := cell_bel a1 hb2; have b2 := cell_bel a2 hb2))
          | (go_at_call 109; ((with_reducible refine (HF.out _).mono ?_); rintro e w3 ⟨rfl, rfl⟩)))
        go_ret
        exact ⟨by rw [HX.out]; rfl, HB.out.trans (hb2.mono HB.out.size)⟩
      · go_enter Tryz.func111, Tryz.ntmps111
        go_upto_region 1 with fail
        rw [← HW1.out]
        go_wp2_with (first
          | (go_at_call 135; ((with_reducible refine (HP.out _ HB.out).mono ?_); rintro e w2 ⟨rfl, hb2⟩; have b1 := cell_bel a1 hb2; have b2 := cell_bel a2 hb2))
          | (go_at_call 109; ((with_reducible refine (HF.out _).mono ?_); rintro e w3 ⟨rfl, rfl⟩))
          | (go_at_call 40; ((with_reducible refine (HI.out _).mono ?_); rintro e w4 ⟨rfl, rfl⟩)))
        go_ret
        exact ⟨by rw [HX.out]; rfl, HB.out.trans (hb2.mono HB.out.size)⟩
end Go.Proofs.YtddmnibioacelaaGreatDoor
