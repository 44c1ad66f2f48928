/-
  The walks of twoDigits, zoneText and Who.
-/
import Derived.Test.YtddmnibioacelaaGreatDoorCmWho
import Derived.Maps.Own
namespace Go.Proofs.YtddmnibioacelaaGreatDoor
open Go Go.RowKit

theorem itoa_dig {k : Nat} (h : k < 10) : Lib.itoa (k : Int) = [UInt8.ofNat (48 + k)] := by
  rw [Lib.itoa, if_neg (by omega)]
  simpa using Lib.decDigits_one h
theorem str_app (a b : List UInt8) : str a ++ str b = str (a ++ b) := ba_ext (by simp [str])

set_option maxHeartbeats 2000000 in
theorem two_any (k : Nat) (w : World) (hk : k < 100) (h : StrTab w) :
    Calls Tryz.prog 86 #[.int .i64 (k : Int)] w fun e w' => e = .returned (.string (str [UInt8.ofNat (48 + k / 10), UInt8.ofNat (48 + k % 10)])) ∧ Below w.heap.size w w' := by
  obtain ⟨a, ha⟩ : ∃ a, a = str [UInt8.ofNat (48 + k / 10)] := ⟨_, rfl⟩
  obtain ⟨b, hb⟩ : ∃ b, b = str [UInt8.ofNat (48 + k % 10)] := ⟨_, rfl⟩
  obtain ⟨q, hq⟩ : ∃ q : Nat, q = k / 10 := ⟨_, rfl⟩
  obtain ⟨r, hr⟩ : ∃ r : Nat, r = k % 10 := ⟨_, rfl⟩
  have HAB : Hid (a ++ b = str [UInt8.ofNat (48 + k / 10), UInt8.ofNat (48 + k % 10)]) := by show _ = _; rw [ha, hb, str_app]; rfl
  have HQ : Hid (∀ w', Below w.heap.size w w' → Calls Tryz.prog 62 #[.int .i64 (q : Int)] w' fun e w'' => e = .returned (.string a) ∧ Below w.heap.size w w'') := fun w' hb =>
    (itoa_any q w' (by omega) (by omega) (h.below hb)).mono fun e w'' ⟨he, hb2⟩ => ⟨by rw [he, itoa_dig (by omega), ha, hq], hb.trans (hb2.mono hb.size)⟩
  have HRR : Hid (∀ w', Below w.heap.size w w' → Calls Tryz.prog 62 #[.int .i64 (r : Int)] w' fun e w'' => e = .returned (.string b) ∧ Below w.heap.size w w'') := fun w' hb' =>
    (itoa_any r w' (by omega) (by omega) (h.below hb')).mono fun e w'' ⟨he, hb2⟩ => ⟨by rw [he, itoa_dig (by omega), hb, hr], hb'.trans (hb2.mono hb'.size)⟩
  have e1 : (k : Int) / 10 = (q : Int) := by omega
  have e2 : (k : Int) % 10 = (r : Int) := by omega
  have hsa : a.size = 1 := by rw [ha]; rfl
  have hsb : b.size = 1 := by rw [hb]; rfl
  have hb0 : Below w.heap.size w w := Below.refl _ _
  clear ha hb hq hr
  go_enter Tryz.func86, Tryz.ntmps86
  go_wp2_with (go_at_call 62; first
    | ((with_reducible refine (HQ.out _ hb0).mono ?_); rintro e w1 ⟨rfl, hb1⟩)
    | ((with_reducible refine (HRR.out _ hb1).mono ?_); rintro e w2 ⟨rfl, hb2⟩))
  go_ret
  exact ⟨by rw [← HAB.out]; rfl, hb2⟩

set_option maxHeartbeats 2000000 in
theorem zoneText_any (z : Int) (w : World) (hz : z.natAbs < 6000) (h : StrTab w) :
    Calls Tryz.prog 63 #[.int .i64 z] w fun e w' => e = .returned (.string (str (zonL z))) ∧ Below w.heap.size w w' := by
  obtain ⟨k, hk⟩ : ∃ k : Nat, k = z.natAbs := ⟨_, rfl⟩
  obtain ⟨q, hq⟩ : ∃ q : Nat, q = k / 60 := ⟨_, rfl⟩
  obtain ⟨r, hr⟩ : ∃ r : Nat, r = k % 60 := ⟨_, rfl⟩
  obtain ⟨a, ha⟩ : ∃ a, a = str [UInt8.ofNat (48 + q / 10), UInt8.ofNat (48 + q % 10)] := ⟨_, rfl⟩
  obtain ⟨b, hb⟩ : ∃ b, b = str [UInt8.ofNat (48 + r / 10), UInt8.ofNat (48 + r % 10)] := ⟨_, rfl⟩
  have HAB : Hid (str [if z < 0 then 45 else 43] ++ a ++ b = str (zonL z)) := by show _ = _; rw [ha, hb, str_app, str_app, zonL, ← hk, ← hq, ← hr]; rfl
  have HQ : Hid (∀ w', Below w.heap.size w w' → Calls Tryz.prog 86 #[.int .i64 (q : Int)] w' fun e w'' => e = .returned (.string a) ∧ Below w.heap.size w w'') := fun w' hb =>
    (two_any q w' (by omega) (h.below hb)).mono fun e w'' ⟨he, hb2⟩ => ⟨by rw [he, ha], hb.trans (hb2.mono hb.size)⟩
  have HRR : Hid (∀ w', Below w.heap.size w w' → Calls Tryz.prog 86 #[.int .i64 (r : Int)] w' fun e w'' => e = .returned (.string b) ∧ Below w.heap.size w w'') := fun w' hb' =>
    (two_any r w' (by omega) (h.below hb')).mono fun e w'' ⟨he, hb2⟩ => ⟨by rw [he, hb], hb'.trans (hb2.mono hb'.size)⟩
  have hsa : a.size = 2 := by rw [ha]; rfl
  have hsb : b.size = 2 := by rw [hb]; rfl
  have hb0 : Below w.heap.size w w := Below.refl _ _
  by_cases hn : z < 0
  · rw [if_pos hn] at HAB
    have e0 : -z = (k : Int) := by omega
    have e1 : (k : Int) / 60 = (q : Int) := by omega
    have e2 : (k : Int) % 60 = (r : Int) := by omega
    obtain rfl : z = -(k : Int) := by omega
    have e3 : k < 6000 := by omega
    clear ha hb hq hr hk hz e0
    go_enter Tryz.func63, Tryz.ntmps63
    go_wp2_with (go_at_call 86; first
      | ((with_reducible refine (HQ.out _ hb0).mono ?_); rintro e w1 ⟨rfl, hb1⟩)
      | ((with_reducible refine (HRR.out _ hb1).mono ?_); rintro e w2 ⟨rfl, hb2⟩))
    go_ret
    exact ⟨by rw [← HAB.out]; rfl, hb2⟩
  · rw [if_neg hn] at HAB
    have e1 : (k : Int) / 60 = (q : Int) := by omega
    have e2 : (k : Int) % 60 = (r : Int) := by omega
    obtain rfl : z = (k : Int) := by omega
    have e3 : k < 6000 := by omega
    clear ha hb hq hr hk hz hn
    go_enter Tryz.func63, Tryz.ntmps63
    go_wp2_with (go_at_call 86; first
      | ((with_reducible refine (HQ.out _ hb0).mono ?_); rintro e w1 ⟨rfl, hb1⟩)
      | ((with_reducible refine (HRR.out _ hb1).mono ?_); rintro e w2 ⟨rfl, hb2⟩))
    go_ret
    exact ⟨by rw [← HAB.out]; rfl, hb2⟩

/-- A person as in bodies. -/
def whoL (p : Pn) : ByteArray := p.n ++ ⟨#[32, 60]⟩ ++ p.m ++ ⟨#[62, 32]⟩ ++ str (Lib.itoa p.t) ++ ⟨#[32]⟩ ++ str (zonL p.z)
theorem zonL_len (z : Int) : (str (zonL z)).size = 5 := rfl
theorem nDig_le : ∀ (k u : Nat), u < 10 ^ (k + 1) → Lib.nDigits u ≤ k + 1
  | 0, u, h => by rw [Lib.nDigits_small (by simpa using h)]; omega
  | k + 1, u, h => by
    by_cases h1 : u < 10
    · rw [Lib.nDigits_small h1]; omega
    · rw [Lib.nDigits_big h1]
      have := nDig_le k (u / 10) (by rw [Nat.pow_succ] at h; omega)
      omega
theorem itoa_len {n : Int} (h0 : 0 ≤ n) (h1 : n ≤ 9223372036854775807) : (str (Lib.itoa n)).size ≤ 19 := by
  rw [str_size, Lib.itoa, if_neg (by omega), Lib.decDigits_length]
  have h10 : (10 : Nat) ^ (18 + 1) = 10000000000000000000 := by decide
  exact nDig_le 18 _ (by omega)

set_option maxHeartbeats 4000000 in
set_option maxRecDepth 4000 in
theorem fmt_any (p : Pn) (w : World) (h : StrTab w) (hn : p.n.size ≤ 140737488355328) (hm : p.m.size ≤ 140737488355328) (ht0 : 0 ≤ p.t) (ht : p.t ≤ 9223372036854775807) (hz : p.z.natAbs < 6000) :
    Calls Tryz.prog 25 #[.agg #[.string p.n, .string p.m, .int .i64 p.t, .int .i64 p.z]] w fun e w' => e = .returned (.string (whoL p)) ∧ Below w.heap.size w w' := by
  obtain ⟨n, m, t, z⟩ := p
  simp only at hn hm ht0 ht hz ⊢
  obtain ⟨R, hR⟩ : ∃ R, R = whoL ⟨n, m, t, z⟩ := ⟨_, rfl⟩
  rw [← hR]
  obtain ⟨a, ha⟩ : ∃ a, a = str (Lib.itoa t) := ⟨_, rfl⟩
  obtain ⟨b, hb⟩ : ∃ b, b = str (zonL z) := ⟨_, rfl⟩
  have HR : Hid (n ++ ⟨#[32, 60]⟩ ++ m ++ ⟨#[62, 32]⟩ ++ a ++ ⟨#[32]⟩ ++ b = R) := by show _ = _; rw [hR, ha, hb]; rfl
  have hsa : a.size ≤ 19 := by rw [ha]; exact itoa_len ht0 ht
  have hsb : b.size = 5 := by rw [hb]; rfl
  have hx := heap_alloc_new w (.cells #[.string n, .string m, .int .i64 t, .int .i64 z] 24)
  have hbx : Below w.heap.size w (w.alloc (.cells #[.string n, .string m, .int .i64 t, .int .i64 z] 24)) := below_new (Below.refl _ _) _
  have hbl : w.heap.size < (w.alloc (.cells #[.string n, .string m, .int .i64 t, .int .i64 z] 24)).heap.size := by simp
  obtain ⟨w1, hw1⟩ : ∃ w1, w1 = w.alloc (.cells #[.string n, .string m, .int .i64 t, .int .i64 z] 24) := ⟨_, rfl⟩
  have HW1 := Lib.hid hw1
  rw [← hw1] at hx hbx hbl
  have k0 : ∀ x : BelW w1, x.w.cell? ⟨w.heap.size, 0, none⟩ = some (.string n) := fun x => (x.h.cell (p := ⟨w.heap.size, 0, none⟩) hbl).trans (cell_of_row w1 _ 0 _ _ _ hx)
  have k1 : ∀ x : BelW w1, x.w.cell? ⟨w.heap.size, 1, none⟩ = some (.string m) := fun x => (x.h.cell (p := ⟨w.heap.size, 1, none⟩) hbl).trans (cell_of_row w1 _ 1 _ _ _ hx)
  have k2 : ∀ x : BelW w1, x.w.cell? ⟨w.heap.size, 2, none⟩ = some (.int .i64 t) := fun x => (x.h.cell (p := ⟨w.heap.size, 2, none⟩) hbl).trans (cell_of_row w1 _ 2 _ _ _ hx)
  have k3 : ∀ x : BelW w1, x.w.cell? ⟨w.heap.size, 3, none⟩ = some (.int .i64 z) := fun x => (x.h.cell (p := ⟨w.heap.size, 3, none⟩) hbl).trans (cell_of_row w1 _ 3 _ _ _ hx)
  have HB := Lib.hid hbx
  have h1 := h.below hbx
  have HI : Hid (∀ x : BelW w1, Calls Tryz.prog 62 #[.int .i64 t] x.w fun e w'' => e = .returned (.string a) ∧ ∃ y : BelW w1, w'' = y.w) := fun x =>
    Calls.bel_class ((itoa_any t x.w (by omega) ht (h1.below x.h)).mono fun e w' ⟨he, hw⟩ => ⟨by rw [he, ha], hw⟩)
  have HZ : Hid (∀ x : BelW w1, Calls Tryz.prog 63 #[.int .i64 z] x.w fun e w'' => e = .returned (.string b) ∧ ∃ y : BelW w1, w'' = y.w) := fun x =>
    Calls.bel_class ((zoneText_any z x.w hz (h1.below x.h)).mono fun e w' ⟨he, hw⟩ => ⟨by rw [he, hb], hw⟩)
  clear hR ha hb hw1 hx hbx h1 h hbl
  go_enter Tryz.func25, Tryz.ntmps25
  go_upto_region 1 with fail
  rw [← HW1.out]
  have hq : Nonempty (BelW w1) := ⟨⟨w1, Below.refl _ _⟩⟩
  refine wp_region_bel (w0 := w1) (Below.refl _ _) (by kernel_rfl) (by kernel_rfl) ?_
  repeat (go_big_quiet_step (first
    | (go_at_call 62; exact HI.out _)
    | (go_at_call 63; exact HZ.out _)))
  refine wpQuiet_nil ?_
  rintro _ ⟨x, rfl⟩
  have hx := x.h
  go_wp2
  go_ret
  exact ⟨by rw [← HR.out]; rfl, HB.out.trans (hx.mono HB.out.size)⟩
end Go.Proofs.YtddmnibioacelaaGreatDoor
/-
  The walks of the reader's methods.
-/
namespace Go.Proofs.YtddmnibioacelaaGreatDoor
open Go Go.RowKit

/-- A reader at its place. -/
def Rd (w : World) (b : Nat) (s : ByteArray) (B : Bool) : Prop := w.heap[b]? = some (.cells #[.string s, .bool B] 63 (0, 0))
theorem Rd.lt {w : World} {b : Nat} {s : ByteArray} {B : Bool} (h : Rd w b s B) : b < w.heap.size := row_lt h
theorem Rd.at {w : World} {b : Nat} {s : ByteArray} {B : Bool} (h : Rd w b s B) : w.cell? ⟨b, 0, none⟩ = some (.string s) ∧ w.cell? ⟨b, 1, none⟩ = some (.bool B) ∧ w.frozen? ⟨b, 0, none⟩ = false ∧ w.frozen? ⟨b, 1, none⟩ = false :=
  ⟨cell_of_row _ _ 0 _ _ _ h, cell_of_row _ _ 1 _ _ _ h, frozen_of_row _ _ 0 _ _ h, frozen_of_row _ _ 1 _ _ h⟩
theorem Rd.set0 {w : World} {b : Nat} {s t : ByteArray} {B : Bool} (h : Rd w b s B) : Rd (w.setCell ⟨b, 0, none⟩ (.string t)) b t B := by
  have h := heap_setCell_same w b 0 _ 63 (.string t) h
  simp only [List.setIfInBounds_toArray, List.set_cons_zero] at h
  exact h
theorem Rd.set1 {w : World} {b : Nat} {s : ByteArray} {B C : Bool} (h : Rd w b s B) : Rd (w.setCell ⟨b, 1, none⟩ (.bool C)) b s C := by
  have h := heap_setCell_same w b 1 _ 63 (.bool C) h
  simp only [List.setIfInBounds_toArray, List.set_cons_zero, List.set_cons_succ] at h
  exact h
theorem gb_below {w w' : World} (b : Nat) (h : Below w.heap.size w w') : w.grownBy w' (some b) := ⟨h.os, h.tape, h.output, h.size, fun i hi _ => h.block i hi⟩
theorem gb_refl (w : World) (b : Nat) : w.grownBy w (some b) := gb_below b (Below.refl _ _)
theorem gb_set (w : World) (b o : Nat) (v : Value) : w.grownBy (w.setCell ⟨b, o, none⟩ v) (some b) :=
  ⟨rfl, rfl, rfl, by simp, fun i _ hne => Below.heap_setCell _ ⟨b, o, none⟩ v i (fun e => hne (by rw [e]))⟩
theorem Rd.below {w w' : World} {b : Nat} {s : ByteArray} {B : Bool} (h : Rd w b s B) (hb : Below w.heap.size w w') : Rd w' b s B := (hb.block b h.lt).trans h

set_option maxHeartbeats 2000000 in
theorem expect_any (b : Nat) (s : ByteArray) (B ok : Bool) (w : World) (h : Rd w b s B) :
    Calls Tryz.prog 77 #[.pointer (some ⟨b, 0, none⟩), .bool ok] w fun e w' => e = .returned (.tuple #[]) ∧ w.grownBy w' (some b) ∧ Rd w' b s (B || !ok) := by
  have HH := Lib.hid h
  obtain ⟨a0, a1, f0, f1⟩ := h.at
  clear h
  rcases B with _ | _ <;> rcases ok with _ | _
  all_goals
    go_enter Tryz.func77, Tryz.ntmps77
    go_wp2
    refine bodyPost_end (results_none rfl _ _ _) rfl ?_
    exact ⟨rfl, gb_set _ _ _ _, HH.out.set1⟩

theorem gb_trans {w w' w'' : World} {b : Nat} (h : w.grownBy w' (some b)) (k : w'.grownBy w'' (some b)) : w.grownBy w'' (some b) := h.trans k
theorem gb_drewN {w w' : World} {b : Nat} (h : w.grownBy w' (some b)) (n : Nat) : w.grownBy (w'.drewN n) (some b) := h.trans (gb_below b (below_drewN (Below.refl _ _) n))
theorem Rd.drewN {w : World} {b : Nat} {s : ByteArray} {B : Bool} (h : Rd w b s B) (n : Nat) : Rd (w.drewN n) b s B := h.below (below_drewN (Below.refl _ _) n)
/-- A cell that is no cell of the reader. -/
theorem gb_cell {w w' : World} {b g o : Nat} {v : Value} (h : w.grownBy w' (some b)) (hne : g ≠ b) (hc : w.cell? ⟨g, o, none⟩ = some v) : w'.cell? ⟨g, o, none⟩ = some v :=
  (World.cell?_of_block (h.block g (World.block_lt_of_cell? w _ hc) (by simpa using hne))).trans hc
theorem StrTab.grown {w w' : World} {b : Nat} (h : StrTab w) (hg : w.grownBy w' (some b)) (hb : 2 ≠ b ∧ 1 ≠ b) (hp : ∀ g, Tryz.prog.globalNamed "internal/strconv.uint64pow10" = some g → g ≠ b) : StrTab w' := by
  refine ⟨?_, ?_, ?_⟩
  · have h := h.p
    unfold Lib.TabIs World.var? at *
    cases hq : Program.globalNamed Tryz.prog "internal/strconv.uint64pow10" with
    | none => rw [hq] at h; cases h
    | some g =>
      rw [hq] at h
      simp only [Option.bind_some] at h ⊢
      have hlt : g < w.heap.size := by
        rcases Nat.lt_or_ge g w.heap.size with h' | h'
        · exact h'
        · rw [Array.getElem?_eq_none h'] at h
          cases h
      rw [hg.block g hlt (by simpa using hp g hq)]
      exact h
  · obtain ⟨te, pe, h1⟩ := h.e
    exact ⟨te, pe, gb_cell hg hb.1 h1⟩
  · obtain ⟨m, h1⟩ := h.m
    exact ⟨m, gb_cell hg hb.2 h1⟩

set_option maxHeartbeats 2000000 in
theorem at_any (b : Nat) (s word : ByteArray) (B : Bool) (w : World) (h : Rd w b s B) (hw : word.size ≤ 1048576) :
    Calls Tryz.prog 43 #[.pointer (some ⟨b, 0, none⟩), .string word] w fun e w' => e = .returned (.bool (Lib.hasPrefix s.data.toList (word.data.toList ++ [32]))) ∧ w' = w := by
  obtain ⟨a0, a1, f0, f1⟩ := h.at
  obtain ⟨R, hR⟩ : ∃ R, R = Lib.hasPrefix s.data.toList (word.data.toList ++ [32]) := ⟨_, rfl⟩
  rw [← hR]
  have HP : Hid (∀ w', Calls Tryz.prog 78 #[.string s, .string (word ++ ⟨#[32]⟩)] w' fun e w'' => e = .returned (.bool R) ∧ w'' = w') := fun w' => by
    rw [hR, show word.data.toList ++ [32] = (word ++ ⟨#[32]⟩ : ByteArray).data.toList by simp]
    exact Tryz.strings_HasPrefix s _ w'
  clear h hR
  go_enter Tryz.func43, Tryz.ntmps43
  go_wp2_with (go_at_call 78; ((with_reducible refine (HP.out _).mono ?_); rintro e w1 ⟨rfl, rfl⟩))
  go_ret
  exact ⟨rfl, rfl⟩

/-- What CutPrefix answers. -/
def cutP (l p : List UInt8) : List UInt8 := if Lib.hasPrefix l p = true then l.drop p.length else l
theorem has_len {l p : List UInt8} (h : Lib.hasPrefix l p = true) : p.length ≤ l.length := by
  unfold Lib.hasPrefix at h
  have := List.IsPrefix.length_le (List.isPrefixOf_iff_prefix.mp h)
  exact this
set_option maxHeartbeats 2000000 in
theorem cutPre_lite (s p : ByteArray) (w : World) (hs : s.size ≤ 140737488355328) :
    Calls Tryz.prog 97 #[.string s, .string p] w fun e w' => e = .returned (.tuple #[.string (str (cutP s.data.toList p.data.toList)), .bool (Lib.hasPrefix s.data.toList p.data.toList)]) ∧ w' = w := by
  obtain ⟨R, hR⟩ : ∃ R, R = str (cutP s.data.toList p.data.toList) := ⟨_, rfl⟩
  obtain ⟨B, hB⟩ : ∃ B, B = Lib.hasPrefix s.data.toList p.data.toList := ⟨_, rfl⟩
  rw [← hR, ← hB]
  have HP : Hid (∀ w', Calls Tryz.prog 96 #[.string s, .string p] w' fun e w'' => e = .returned (.bool B) ∧ w'' = w') := fun w' => by
    rw [hB]
    exact Tryz.stringslite_HasPrefix s p w'
  rcases B with _ | _
  · have HR : Hid (R = s) := by show _ = _; rw [hR, cutP, ← hB]; rfl
    clear hR hB
    go_enter Tryz.func97, Tryz.ntmps97
    go_wp2_with (go_at_call 96; ((with_reducible refine (HP.out _).mono ?_); rintro e w1 ⟨rfl, rfl⟩))
    go_ret2
    exact ⟨by rw [HR.out]; rfl, rfl⟩
  · have hl := has_len hB.symm
    rw [list_len, list_len] at hl
    have HR : Hid (R = s.extract p.size s.size) := by
      show _ = _
      rw [hR, cutP, ← hB, if_pos rfl]
      refine ba_ext ?_
      rw [ext_bytes]
      show List.drop _ _ = _
      rw [list_len, List.take_of_length_le (by simp)]
    clear hR hB
    go_enter Tryz.func97, Tryz.ntmps97
    go_wp2_with (go_at_call 96; ((with_reducible refine (HP.out _).mono ?_); rintro e w1 ⟨rfl, rfl⟩))
    go_ret2
    exact ⟨by rw [HR.out]; rfl, rfl⟩
theorem cutPre_any (s p : ByteArray) (w : World) (hs : s.size ≤ 140737488355328) :
    Calls Tryz.prog 79 #[.string s, .string p] w fun e w' => e = .returned (.tuple #[.string (str (cutP s.data.toList p.data.toList)), .bool (Lib.hasPrefix s.data.toList p.data.toList)]) ∧ w' = w := by
  have HP := Lib.hid (fun w' => cutPre_lite s p w' hs)
  go_enter Tryz.func79, Tryz.ntmps79
  go_wp2_with (go_at_call 97; ((with_reducible refine (HP.out _).mono ?_); rintro e w1 ⟨rfl, rfl⟩))
  go_ret2
  exact ⟨rfl, rfl⟩
end Go.Proofs.YtddmnibioacelaaGreatDoor
/-
  The walks of the reader's value, id, who and text.
-/
namespace Go.Proofs.YtddmnibioacelaaGreatDoor
open Go Go.RowKit

/-- What value takes off, whether it was as it must be, and what is left. -/
def valV (l wd : List UInt8) : List UInt8 := cutP (Lib.cut l [10]).1 (wd ++ [32])
def valO (l wd : List UInt8) : Bool := (Lib.cut l [10]).2.2 && Lib.hasPrefix (Lib.cut l [10]).1 (wd ++ [32])
def valR (l : List UInt8) : List UInt8 := (Lib.cut l [10]).2.1
theorem cutP_len (l p : List UInt8) : (cutP l p).length ≤ l.length := by
  unfold cutP
  split
  · simp
  · exact Nat.le_refl _
theorem val_len (l wd : List UInt8) : (valV l wd).length ≤ l.length ∧ (valR l).length ≤ l.length := by
  have h := cutLen_le l [10]
  have h2 := cutP_len (Lib.cut l [10]).1 (wd ++ [32])
  unfold valV valR
  omega

set_option maxHeartbeats 1000000 in
set_option maxRecDepth 4000 in
theorem value_any (b : Nat) (s word : ByteArray) (B : Bool) (w : World) (h : Rd w b s B) (hT : StrTab w) (hs : s.size ≤ 1048576) (hw : word.size ≤ 1048576) :
    Calls Tryz.prog 49 #[.pointer (some ⟨b, 0, none⟩), .string word] w fun e w' => e = .returned (.string (str (valV s.data.toList word.data.toList))) ∧ w.grownBy w' (some b) ∧ Rd w' b (str (valR s.data.toList)) (B || !(valO s.data.toList word.data.toList)) := by
  obtain ⟨V, hV⟩ : ∃ V, V = str (valV s.data.toList word.data.toList) := ⟨_, rfl⟩
  obtain ⟨O, hO⟩ : ∃ O, O = valO s.data.toList word.data.toList := ⟨_, rfl⟩
  obtain ⟨r, hr⟩ : ∃ r, r = str (valR s.data.toList) := ⟨_, rfl⟩
  rw [← hV, ← hO, ← hr]
  obtain ⟨t, ht⟩ : ∃ t, t = str (Lib.cut s.data.toList [10]).1 := ⟨_, rfl⟩
  obtain ⟨x, hx⟩ : ∃ x, x = (Lib.cut s.data.toList [10]).2.2 := ⟨_, rfl⟩
  obtain ⟨y, hy⟩ : ∃ y, y = Lib.hasPrefix t.data.toList (word.data.toList ++ [32]) := ⟨_, rfl⟩
  have ht' : t.data.toList = (Lib.cut s.data.toList [10]).1 := by rw [ht]; rfl
  have HO : Hid (O = (x && y)) := by show _ = _; rw [hO, valO, hx, hy, ht']
  obtain ⟨m, hm⟩ := hT.m
  have hts : t.size ≤ 1048576 := by
    have := cutLen_le s.data.toList [10]
    rw [list_len] at this
    rw [ht, str_size]
    omega
  obtain ⟨a0, a1, f0, f1⟩ := h.at
  have HC : Hid (Calls Tryz.prog 54 #[.string s, .string ⟨#[10]⟩] w fun e w' => e = .returned (.tuple #[.string t, .string r, .bool x]) ∧ Below w.heap.size w w') :=
    (Tryz.strings_Cut s ⟨#[10]⟩ m w (by omega) hm).mono fun e w' ⟨he, n, hw⟩ => ⟨by rw [he, ht, hr, hx]; rfl, by rw [hw]; exact below_drewN (Below.refl _ _) n⟩
  have HPE : ∀ w', Calls Tryz.prog 79 #[.string t, .string (word ++ (⟨#[32]⟩ : ByteArray))] w' fun e w'' => e = .returned (.tuple #[.string (str (cutP t.data.toList (word ++ (⟨#[32]⟩ : ByteArray)).data.toList)), .bool (Lib.hasPrefix t.data.toList (word ++ (⟨#[32]⟩ : ByteArray)).data.toList)]) ∧ w'' = w' := fun w' => cutPre_any t _ w' (Nat.le_trans hts (by decide))
  have e32 : (word ++ (⟨#[32]⟩ : ByteArray)).data.toList = word.data.toList ++ [32] := by simp
  have eV : str (cutP t.data.toList (word.data.toList ++ [32])) = V := by rw [hV, ht']; rfl
  rw [e32, eV, ← hy] at HPE
  have HP := Lib.hid HPE
  clear HPE e32 eV
  have HE : Hid (∀ w' ok, Below w.heap.size w w' → Calls Tryz.prog 77 #[.pointer (some ⟨b, 0, none⟩), .bool ok] w' fun e w'' => e = .returned (.tuple #[]) ∧ w.grownBy w'' (some b) ∧ Rd w'' b s (B || !ok)) := fun w' ok hb =>
    (expect_any b s B ok w' (h.below hb)).mono fun e w'' ⟨he, hg, hr⟩ => ⟨he, (gb_below b hb).trans hg, hr⟩
  clear hV hO hr ht hx hy ht' hm hts h hT hs
  rcases x with _ | _
  · go_enter Tryz.func49, Tryz.ntmps49
    go_upto_region 4 with (first
      | (go_at_call 54; ((with_reducible refine (HC.out).mono ?_); rintro e w1 ⟨rfl, hb1⟩))
      | (go_at_call 79; ((with_reducible refine (HP.out _).mono ?_); rintro e w2 ⟨rfl, rfl⟩))
      | (go_at_call 77; ((with_reducible refine (HE.out _ _ hb1).mono ?_); rintro e w3 ⟨rfl, hg3, hr3⟩)))
    have HR3 := Lib.hid hr3
    obtain ⟨c0, c1, g0, g1⟩ := hr3.at
    clear hr3
    go_wp2
    go_ret
    exact ⟨rfl, hg3.trans (gb_set _ _ _ _), by rw [HO.out]; exact HR3.out.set0⟩
  · go_enter Tryz.func49, Tryz.ntmps49
    go_upto_region 4 with (first
      | (go_at_call 54; ((with_reducible refine (HC.out).mono ?_); rintro e w1 ⟨rfl, hb1⟩))
      | (go_at_call 79; ((with_reducible refine (HP.out _).mono ?_); rintro e w2 ⟨rfl, rfl⟩))
      | (go_at_call 77; ((with_reducible refine (HE.out _ _ hb1).mono ?_); rintro e w3 ⟨rfl, hg3, hr3⟩)))
    have HR3 := Lib.hid hr3
    obtain ⟨c0, c1, g0, g1⟩ := hr3.at
    clear hr3
    go_wp2
    go_ret
    exact ⟨rfl, hg3.trans (gb_set _ _ _ _), by rw [HO.out, Bool.true_and]; exact HR3.out.set0⟩
end Go.Proofs.YtddmnibioacelaaGreatDoor
