/-
  The walks of least and isName: which strings a person may have as a name or a mail address.
-/
import Derived.Test.YtddmnibioacelaaGreatDoorCmAny
namespace Go.Proofs.YtddmnibioacelaaGreatDoor
open Go Go.RowKit

def leastN (a : Nat) (l : List UInt8) : Nat := l.foldl (fun a x => min a x.toNat) a
theorem leastN_snoc (a : Nat) (l : List UInt8) (x : UInt8) : leastN a (l ++ [x]) = min (leastN a l) x.toNat := by
  unfold leastN
  rw [List.foldl_append]
  rfl
theorem leastN_ge : ∀ (l : List UInt8) (a n : Nat), n ≤ leastN a l ↔ n ≤ a ∧ ∀ x ∈ l, n ≤ x.toNat
  | [], a, n => by simp [leastN]
  | x :: l, a, n => by
    have h : leastN a (x :: l) = leastN (min a x.toNat) l := rfl
    rw [h, leastN_ge l]
    simp only [List.mem_cons, forall_eq_or_imp]
    constructor
    · rintro ⟨h1, h2⟩
      exact ⟨by omega, by omega, h2⟩
    · rintro ⟨h1, h2, h3⟩
      exact ⟨by omega, h3⟩
theorem leastN_le (l : List UInt8) (a : Nat) : leastN a l ≤ a := ((leastN_ge l a _).mp (Nat.le_refl _)).1

set_option maxHeartbeats 2000000 in
set_option maxRecDepth 4000 in
theorem least_any (s : ByteArray) (w : World) (h0 : 0 < s.size) (hs : s.size ≤ 140737488355328) :
    Calls Tryz.prog 81 #[.string s] w fun e w' => e = .returned (.int .u8 (leastN s[0].toNat s.data.toList)) ∧ w' = w := by
  obtain ⟨R, hR⟩ : ∃ R, R = leastN s[0].toNat s.data.toList := ⟨_, rfl⟩
  rw [← hR]
  have HR := Lib.hid hR
  clear hR
  go_enter Tryz.func81, Tryz.ntmps81
  go_wp2
  go_loopg [3, 4, 9] s.size (fun g b _ at' wx => ∃ (k m : Nat), k + g = s.size ∧ at' = .int .i64 k ∧ b = .int .u8 m ∧ Hid (m = leastN s[0].toNat (s.data.toList.take k)) ∧ m ≤ 255 ∧ wx = w)
  case atStart => exact ⟨0, s[0].toNat, by omega, rfl, rfl, rfl, by have := s[0].toNat_lt; omega, rfl⟩
  case round =>
    obtain ⟨k, m, hk, rfl, rfl, HM, hm, rfl⟩ := hrel
    cases gk with
    | zero =>
      obtain rfl : k = s.size := by omega
      go_wp2
      go_ret
      refine ⟨?_, rfl⟩
      have := HM.out
      rw [take_all] at this
      rw [this, HR.out]
      rfl
    | succ g =>
      have hi : k < s.size := by omega
      obtain ⟨x, hx⟩ : ∃ x, x = (s[k]'hi).toNat := ⟨_, rfl⟩
      have hx2 : x ≤ 255 := by have := (s[k]'hi).toNat_lt; omega
      have HX : Hid (min m x = leastN s[0].toNat (s.data.toList.take (k + 1))) := by
        show _ = _
        rw [take_snoc s k hi, leastN_snoc, ← HM.out, hx]
      go_wp2
      go_roundg g
      case measure => omega
      case rel => exact ⟨k + 1, min m x, by omega, rfl, by rw [hx]; exact congrArg (Value.int .u8) (by omega), HX, by omega, rfl⟩
/-- Which strings a person may have as a name or a mail address. -/
def nameB (l : List UInt8) : Bool := decide (l ≠ []) && decide (l.length ≤ 64) && !(l.any fun b => ([60, 62] : List UInt8).contains b) && (l.all fun b => decide (32 ≤ b.toNat)) && !Lib.hasPrefix l [32] && !Lib.hasSuffix l [32]

set_option maxHeartbeats 2000000 in
set_option maxRecDepth 4000 in
theorem pname_any (s : ByteArray) (w : World) (hs : s.size ≤ 140737488355328) :
    Calls Tryz.prog 74 #[.string s] w fun e w' => e = .returned (.bool (nameB s.data.toList)) ∧ Below w.heap.size w w' := by
  obtain ⟨B, hB⟩ : ∃ B, B = nameB s.data.toList := ⟨_, rfl⟩
  rw [← hB]
  have hlen := list_len s
  by_cases h0 : s = ⟨#[]⟩
  · have HR : Hid (B = false) := by show _ = _; rw [hB, h0]; rfl
    have he : (s.toList == []) = true := by rw [h0, ByteArray.toList_eq]; rfl
    have hz : s.size = 0 := by rw [h0]; rfl
    clear hB hlen h0
    go_enter Tryz.func74, Tryz.ntmps74
    go_wp2
    go_ret
    exact ⟨by rw [HR.out]; rfl, Below.refl _ _⟩
  have he : (s.toList == []) = false := by
    have e := ba_ne h0
    rw [ByteArray.toList_eq ⟨#[]⟩] at e
    exact e
  have hpos : 0 < s.size := by
    rcases Nat.eq_zero_or_pos s.size with h | h
    · exact absurd (ba_ext (List.eq_nil_of_length_eq_zero (by rw [hlen]; exact h))) h0
    · exact h
  have hnil : decide (s.data.toList ≠ []) = true := decide_eq_true (fun h => by rw [h] at hlen; simp at hlen; omega)
  by_cases h64 : s.size ≤ 64
  case neg =>
    have HR : Hid (B = false) := by show _ = _; rw [hB, nameB, decide_eq_false (show ¬ s.data.toList.length ≤ 64 by omega)]; simp
    clear hB hlen h0 hnil
    go_enter Tryz.func74, Tryz.ntmps74
    go_wp2
    go_ret
    exact ⟨by rw [HR.out]; rfl, Below.refl _ _⟩
  obtain ⟨A, hA⟩ : ∃ A, A = s.data.toList.any fun b => ([60, 62] : List UInt8).contains b := ⟨_, rfl⟩
  obtain ⟨L, hL⟩ : ∃ L, L = leastN s[0].toNat s.data.toList := ⟨_, rfl⟩
  obtain ⟨p, hp⟩ : ∃ p, p = Lib.hasPrefix s.data.toList [32] := ⟨_, rfl⟩
  obtain ⟨q, hq⟩ : ∃ q, q = Lib.hasSuffix s.data.toList [32] := ⟨_, rfl⟩
  have hall : (s.data.toList.all fun b => decide (32 ≤ b.toNat)) = decide (32 ≤ L) := by
    rw [hL, Bool.eq_iff_iff, List.all_eq_true, decide_eq_true_eq, leastN_ge]
    simp only [decide_eq_true_eq]
    refine ⟨fun h => ⟨h _ ?_, h⟩, fun h => h.2⟩
    have := drop_byte s 0 hpos
    rw [List.drop_zero] at this
    rw [this]
    exact List.mem_cons_self
  have HB : Hid (B = (!A && decide (32 ≤ L) && !p && !q)) := by
    show _ = _
    rw [hB, nameB, hnil, decide_eq_true (show s.data.toList.length ≤ 64 by omega), ← hA, hall, ← hp, ← hq]
    rfl
  have HC : Hid (∀ w', Below w.heap.size w w' → Calls Tryz.prog 57 #[.string s, .string ⟨#[60, 62]⟩] w' fun e w'' => e = .returned (.bool A) ∧ Below w.heap.size w w'') := fun w' h => (cany s A w' (by omega) hA).mono fun _ _ x => ⟨x.1, h.trans (x.2.mono h.size)⟩
  have HE : Hid (∀ w', Calls Tryz.prog 81 #[.string s] w' fun e w'' => e = .returned (.int .u8 (L : Int)) ∧ w'' = w') := fun w' => by rw [hL]; exact least_any s w' hpos hs
  have HP : Hid (∀ w', Calls Tryz.prog 78 #[.string s, .string ⟨#[32]⟩] w' fun e w'' => e = .returned (.bool p) ∧ w'' = w') := fun w' => by rw [hp]; exact Tryz.strings_HasPrefix s ⟨#[32]⟩ w'
  have HQ : Hid (∀ w', Calls Tryz.prog 93 #[.string s, .string ⟨#[32]⟩] w' fun e w'' => e = .returned (.bool q) ∧ w'' = w') := fun w' => by rw [hq]; exact Tryz.strings_HasSuffix s ⟨#[32]⟩ w' (by omega)
  have hL2 : L ≤ 255 := by
    have := leastN_le s.data.toList s[0].toNat
    have := s[0].toNat_lt
    omega
  have hb0 : Below w.heap.size w w := Below.refl _ _
  clear hB hA hL hp hq hall hlen h0 hnil
  cases A
  case true =>
    go_enter Tryz.func74, Tryz.ntmps74
    go_wp2_with (go_at_call 57; ((with_reducible refine (HC.out _ hb0).mono ?_); rintro e w1 ⟨rfl, hb1⟩))
    go_ret
    exact ⟨by rw [HB.out]; rfl, hb1⟩
  by_cases h32 : 32 ≤ L
  case neg =>
    have HR : Hid (B = false) := by show _ = _; rw [HB.out, decide_eq_false h32]; rfl
    go_enter Tryz.func74, Tryz.ntmps74
    go_wp2_with (first
      | (go_at_call 57; ((with_reducible refine (HC.out _ hb0).mono ?_); rintro e w1 ⟨rfl, hb1⟩))
      | (go_at_call 81; ((with_reducible refine (HE.out _).mono ?_); rintro e w2 ⟨rfl, rfl⟩)))
    go_ret
    exact ⟨by rw [HR.out]; rfl, hb1⟩
  have HR : Hid (B = (!p && !q)) := by show _ = _; rw [HB.out, decide_eq_true h32]; rfl
  cases p <;> cases q
  all_goals
    go_enter Tryz.func74, Tryz.ntmps74
    go_wp2_with (first
      | (go_at_call 57; ((with_reducible refine (HC.out _ hb0).mono ?_); rintro e w1 ⟨rfl, hb1⟩))
      | (go_at_call 81; ((with_reducible refine (HE.out _).mono ?_); rintro e w2 ⟨rfl, rfl⟩))
      | (go_at_call 78; ((with_reducible refine (HP.out _).mono ?_); rintro e w3 ⟨rfl, rfl⟩))
      | (go_at_call 93; ((with_reducible refine (HQ.out _).mono ?_); rintro e w4 ⟨rfl, rfl⟩)))
    go_ret
    exact ⟨by rw [HR.out]; rfl, hb1⟩
end Go.Proofs.YtddmnibioacelaaGreatDoor
/-
  The walk of isPerson.
-/
namespace Go.Proofs.YtddmnibioacelaaGreatDoor
open Go Go.RowKit

/-- A person. -/
structure Pn where
  n : ByteArray
  m : ByteArray
  t : Int
  z : Int
def Pn.val (p : Pn) : Value := .agg #[.string p.n, .string p.m, .int .i64 p.t, .int .i64 p.z]
def Pn.zero : Pn := ⟨⟨#[]⟩, ⟨#[]⟩, 0, 0⟩
def okPn (p : Pn) : Bool := nameB p.n.data.toList && (nameB p.m.data.toList && (decide (0 ≤ p.t) && (decide (p.t ≤ 1099511627776) && (decide (-840 ≤ p.z) && decide (p.z ≤ 840)))))

set_option maxHeartbeats 2000000 in
set_option maxRecDepth 4000 in
theorem person_any (p : Pn) (w : World) (hn : p.n.size ≤ 140737488355328) (hi : p.m.size ≤ 140737488355328) :
    Calls Tryz.prog 37 #[.agg #[.string p.n, .string p.m, .int .i64 p.t, .int .i64 p.z]] w fun x w' => x = .returned (.bool (okPn p)) ∧ Below w.heap.size w w' := by
  obtain ⟨n, m, t, z⟩ := p
  simp only at hn hi ⊢
  obtain ⟨N, hN⟩ : ∃ N, N = nameB n.data.toList := ⟨_, rfl⟩
  obtain ⟨M, hM⟩ : ∃ M, M = nameB m.data.toList := ⟨_, rfl⟩
  obtain ⟨R, hR⟩ : ∃ R, R = okPn ⟨n, m, t, z⟩ := ⟨_, rfl⟩
  rw [← hR]
  have HR : Hid (R = (N && (M && (decide (0 ≤ t) && (decide (t ≤ 1099511627776) && (decide (-840 ≤ z) && decide (z ≤ 840))))))) := by
    show _ = _
    rw [hR, okPn, hN, hM]
  have HN : Hid (∀ w', Calls Tryz.prog 74 #[.string n] w' fun e w'' => e = .returned (.bool N) ∧ Below w'.heap.size w' w'') := fun w' => by
    rw [hN]
    exact pname_any n w' hn
  have HM : Hid (∀ w', Calls Tryz.prog 74 #[.string m] w' fun e w'' => e = .returned (.bool M) ∧ Below w'.heap.size w' w'') := fun w' => by
    rw [hM]
    exact pname_any m w' hi
  have hx := heap_alloc_new w (.cells #[.string n, .string m, .int .i64 t, .int .i64 z] 24)
  have hbx : Below w.heap.size w (w.alloc (.cells #[.string n, .string m, .int .i64 t, .int .i64 z] 24)) := below_new (Below.refl _ _) _
  have hbl : w.heap.size < (w.alloc (.cells #[.string n, .string m, .int .i64 t, .int .i64 z] 24)).heap.size := by simp
  obtain ⟨w1, hw1⟩ : ∃ w1, w1 = w.alloc (.cells #[.string n, .string m, .int .i64 t, .int .i64 z] 24) := ⟨_, rfl⟩
  have HW1 := Lib.hid hw1
  rw [← hw1] at hx hbx hbl
  have a0 : w1.cell? ⟨w.heap.size, 0, none⟩ = some (.string n) := cell_of_row w1 _ 0 _ _ _ hx
  have a1 : w1.cell? ⟨w.heap.size, 1, none⟩ = some (.string m) := cell_of_row w1 _ 1 _ _ _ hx
  have a2 : w1.cell? ⟨w.heap.size, 2, none⟩ = some (.int .i64 t) := cell_of_row w1 _ 2 _ _ _ hx
  have a3 : w1.cell? ⟨w.heap.size, 3, none⟩ = some (.int .i64 z) := cell_of_row w1 _ 3 _ _ _ hx
  have HB := Lib.hid hbx
  clear hN hM hR hw1 hx hbx hn hi
  rcases N with _ | _
  · have HX : Hid (R = false) := by show _ = _; rw [HR.out]; rfl
    clear HR
    go_enter Tryz.func37, Tryz.ntmps37
    go_upto_region 1 with fail
    rw [← HW1.out]
    go_wp2_with (go_at_call 74; ((with_reducible refine (HN.out _).mono ?_); rintro e w2 ⟨rfl, hb2⟩))
    go_ret
    exact ⟨by rw [HX.out]; rfl, HB.out.trans (hb2.mono HB.out.size)⟩
  rcases M with _ | _
  · have HX : Hid (R = false) := by show _ = _; rw [HR.out]; rfl
    clear HR
    go_enter Tryz.func37, Tryz.ntmps37
    go_upto_region 1 with fail
    rw [← HW1.out]
    go_wp2_with (first
      | (go_at_call 74; ((with_reducible refine (HM.out _).mono ?_); rintro e w3 ⟨rfl, hb3⟩))
      | (go_at_call 74; ((with_reducible refine (HN.out _).mono ?_); rintro e w2 ⟨rfl, hb2⟩; have b1 := cell_bel a1 hb2)))
    go_ret
    exact ⟨by rw [HX.out]; rfl, HB.out.trans ((hb2.trans (hb3.mono hb2.size)).mono HB.out.size)⟩
  have hc : (¬ 0 ≤ t) ∨ (0 ≤ t ∧ ¬ t ≤ 1099511627776) ∨ (0 ≤ t ∧ t ≤ 1099511627776 ∧ ¬ -840 ≤ z) ∨ (0 ≤ t ∧ t ≤ 1099511627776 ∧ -840 ≤ z ∧ ¬ z ≤ 840) ∨ (0 ≤ t ∧ t ≤ 1099511627776 ∧ -840 ≤ z ∧ z ≤ 840) := by omega
  have HX : Hid (R = decide (0 ≤ t ∧ t ≤ 1099511627776 ∧ -840 ≤ z ∧ z ≤ 840)) := by
    show _ = _
    rw [HR.out]
    simp
  clear HR
  rcases hc with h1 | ⟨h1, h2⟩ | ⟨h1, h2, h3⟩ | ⟨h1, h2, h3, h4⟩ | ⟨h1, h2, h3, h4⟩
  all_goals
    go_enter Tryz.func37, Tryz.ntmps37
    go_upto_region 1 with fail
    rw [← HW1.out]
    go_wp2_with (first
      | (go_at_call 74; ((with_reducible refine (HM.out _).mono ?_); rintro e w3 ⟨rfl, hb3⟩; have c2 := cell_bel b2 hb3; have c3 := cell_bel b3 hb3))
      | (go_at_call 74; ((with_reducible refine (HN.out _).mono ?_); rintro e w2 ⟨rfl, hb2⟩; have b1 := cell_bel a1 hb2; have b2 := cell_bel a2 hb2; have b3 := cell_bel a3 hb2)))
    go_ret
    refine ⟨?_, HB.out.trans ((hb2.trans (hb3.mono hb2.size)).mono HB.out.size)⟩
    first
      | (have hy : R = true := by rw [HX.out]; exact decide_eq_true (by omega)
         rw [hy]; rfl)
      | (have hy : R = false := by rw [HX.out]; exact decide_eq_false (by omega)
         rw [hy]; rfl)
      | (have hy : R = decide (z ≤ 840) := by rw [HX.out, Bool.eq_iff_iff]; simp only [decide_eq_true_eq]; omega
         rw [hy]; rfl)
end Go.Proofs.YtddmnibioacelaaGreatDoor
