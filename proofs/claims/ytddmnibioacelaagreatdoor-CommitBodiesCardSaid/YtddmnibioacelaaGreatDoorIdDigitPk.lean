/-
  The walks of half, allDigits and Is.
-/
import Derived.Test.YtddmnibioacelaaGreatDoorLawPostPk
import Derived.Test.YtddmnibioacelaaGreatDoorCmRdPk
namespace Go.Proofs.YtddmnibioacelaaGreatDoor
open Go.RowKit

/-- The value of a digit. -/
def halfOf (b : UInt8) : Option Nat := if 48 ≤ b.toNat ∧ b.toNat ≤ 57 then some (b.toNat - 48) else if 97 ≤ b.toNat ∧ b.toNat ≤ 102 then some (b.toNat - 87) else none

set_option maxHeartbeats 1000000 in
theorem half_any (b : UInt8) (w : World) :
    Calls Tryz.prog 92 #[.int .u8 b.toNat] w fun e w' => e = .returned (.tuple #[.int .u8 ((halfOf b).getD 0 : Nat), .bool (halfOf b).isSome]) ∧ w = w' := by
  have hb := UInt8.toNat_lt b
  obtain ⟨c, hc⟩ : ∃ c, c = b.toNat := ⟨_, rfl⟩
  have HC : Hid (c = b.toNat) := hc
  rw [← hc] at hb ⊢
  clear hc
  go_enter Tryz.func92, Tryz.ntmps92
  have r {x y : Nat} {p q : Bool} (h : x = y) (h2 : p = q) : Ending.returned (.tuple #[.int .u8 (x : Int), .bool p]) = .returned (.tuple #[.int .u8 (y : Int), .bool q]) := by rw [h, h2]
  by_cases h1 : 48 ≤ c ∧ c ≤ 57
  · have HO : Hid (halfOf b = some (c - 48)) := by show _ = _; rw [halfOf, ← HC.out, if_pos h1]
    obtain ⟨h1, h2⟩ := h1
    obtain ⟨y, hy⟩ : ∃ y, y = c - 48 := ⟨_, rfl⟩
    rw [← hy] at HO
    have e1 : IntKind.u8.wrap ((c : Int) - 48) = (y : Int) := by rw [IntKind.wrap_u8]; omega
    clear hy
    go_wp2
    go_ret2
    exact ⟨r (by rw [HO.out]; rfl) (by rw [HO.out]; rfl), rfl⟩
  · by_cases h2 : 97 ≤ c ∧ c ≤ 102
    · have HO : Hid (halfOf b = some (c - 87)) := by show _ = _; rw [halfOf, ← HC.out, if_neg h1, if_pos h2]
      obtain ⟨h3, h4⟩ := h2
      obtain ⟨y, hy⟩ : ∃ y, y = c - 87 := ⟨_, rfl⟩
      rw [← hy] at HO
      have e1 : IntKind.u8.wrap ((c : Int) - 97) = (c : Int) - 97 := by rw [IntKind.wrap_u8]; omega
      have e2 : IntKind.u8.wrap ((c : Int) - 97 + 10) = (y : Int) := by rw [IntKind.wrap_u8]; omega
      have e3 : 57 < c := by omega
      have e4 : 48 ≤ c := by omega
      clear hy h1
      go_wp2
      go_ret2
      exact ⟨r (by rw [HO.out]; rfl) (by rw [HO.out]; rfl), rfl⟩
    · have HO : Hid (halfOf b = none) := by show _ = _; rw [halfOf, ← HC.out, if_neg h1, if_neg h2]
      have hcs : c < 48 ∨ (57 < c ∧ c < 97) ∨ 102 < c := by omega
      clear h1 h2
      rcases hcs with h | ⟨h, h'⟩ | h
      · have e4 : c < 97 := by omega
        go_wp2
        go_ret2
        exact ⟨r (x := 0) (by rw [HO.out]; rfl) (by rw [HO.out]; rfl), rfl⟩
      · have e4 : 48 ≤ c := by omega
        go_wp2
        go_ret2
        exact ⟨r (x := 0) (by rw [HO.out]; rfl) (by rw [HO.out]; rfl), rfl⟩
      · have e4 : 97 ≤ c := by omega
        have e5 : 57 < c := by omega
        have e6 : 48 ≤ c := by omega
        go_wp2
        go_ret2
        exact ⟨r (x := 0) (by rw [HO.out]; rfl) (by rw [HO.out]; rfl), rfl⟩
end Go.Proofs.YtddmnibioacelaaGreatDoor
/-
  The walks of allDigits and Is.
-/
namespace Go.Proofs.YtddmnibioacelaaGreatDoor
open Go.RowKit

def allDig (l : List UInt8) : Bool := l.all fun b => (halfOf b).isSome
theorem allDig_snoc (l : List UInt8) (b : UInt8) : allDig (l ++ [b]) = (allDig l && (halfOf b).isSome) := by simp [allDig]
theorem allDig_not {l : List UInt8} {b : UInt8} (hb : b ∈ l) (h : (halfOf b).isSome = false) : allDig l = false := by
  rw [allDig, List.all_eq_false]
  exact ⟨b, hb, by rw [h]; decide⟩

set_option maxHeartbeats 1000000 in
theorem allDigits_any (s : ByteArray) (w : World) (hs : s.size ≤ 140737488355328) :
    Calls Tryz.prog 73 #[.string s] w fun e w' => e = .returned (.bool (allDig s.data.toList)) ∧ w = w' := by
  go_enter Tryz.func73, Tryz.ntmps73
  go_wp2
  go_loopw [8] (fun i wr => ∃ k : Nat, k ≤ s.size ∧ i = .int .i64 k ∧ allDig (s.data.toList.take k) = true ∧ wr = w) (fun i _ => s.size - (intOf i).toNat)
  case atStart => exact ⟨0, by omega, rfl, rfl, rfl⟩
  case round =>
    obtain ⟨k, hk, rfl, ha, rfl⟩ := hrel
    have HA : Hid (allDig (s.data.toList.take k) = true) := ha
    clear ha
    by_cases hlt : k < s.size
    · have hh := half_any s[k] wr
      obtain ⟨o, ho⟩ : ∃ o, o = halfOf s[k] := ⟨_, rfl⟩
      rw [← ho] at hh
      have HO : Hid (o = halfOf s[k]) := ho
      have HH : Hid (Calls Tryz.prog 92 #[.int .u8 s[k].toNat] wr fun e w' => e = .returned (.tuple #[.int .u8 (o.getD 0 : Nat), .bool o.isSome]) ∧ wr = w') := hh
      clear ho hh
      cases o with
      | none =>
        go_wp2_with (go_at_call 92; refine HH.out.mono ?_; rintro e w' ⟨rfl, rfl⟩)
        go_ret
        refine ⟨ret_bool ?_, rfl⟩
        rw [allDig_not (b := s[k]) (by rw [← Array.mem_def]; exact Array.getElem_mem _) (by rw [← HO.out]; rfl)]
      | some x =>
        go_wp2_with (go_at_call 92; refine HH.out.mono ?_; rintro e w' ⟨rfl, rfl⟩)
        go_roundw
        case rel => exact ⟨k + 1, by omega, by go_num, by rw [take_snoc s k hlt, allDig_snoc, HA.out, ← HO.out]; rfl, by trivial⟩
        case measure => simp [intOf]; omega
    · obtain rfl : k = s.size := by omega
      go_wp2
      go_ret
      exact ⟨ret_bool (by rw [← take_all s, HA.out]), rfl⟩

def isId (s : ByteArray) : Bool := decide (s.size = 40) && allDig s.data.toList
set_option maxHeartbeats 1000000 in
theorem is_any (s : ByteArray) (w : World) (hs : s.size ≤ 140737488355328) :
    Calls Tryz.prog 35 #[.string s] w fun e w' => e = .returned (.bool (isId s)) ∧ w = w' := by
  have hd := allDigits_any s w hs
  go_enter Tryz.func35, Tryz.ntmps35
  by_cases h : s.size = 40
  · have h1 : ((s.size : Int) == 40) = true := by rw [h]; rfl
    have HS : Hid (s.size = 40) := h
    clear h
    go_wp2_with (go_at_call 73; refine hd.mono ?_; rintro e w' ⟨rfl, rfl⟩)
    go_ret
    exact ⟨ret_bool (by rw [isId, HS.out]; simp), rfl⟩
  · have h1 : ((s.size : Int) == 40) = false := by simp; omega
    have HS : Hid (isId s = false) := by show _ = _; simp [isId, h]
    clear h
    go_wp2
    go_ret
    exact ⟨ret_bool HS.out.symm, rfl⟩
end Go.Proofs.YtddmnibioacelaaGreatDoor
/-
  The walks of the reader's id, text and who.
-/
namespace Go.Proofs.YtddmnibioacelaaGreatDoor
open Go Go.RowKit

theorem gb_low {w w' : World} {b B : Nat} (h : w.grownBy w' (some b)) (hb : B ≤ b) (hB : B ≤ w.heap.size) : Below B w w' :=
  ⟨h.os, h.tape, h.output, h.size, fun k hk => h.block k (by omega) (by simp; omega)⟩

set_option maxHeartbeats 1000000 in
set_option maxRecDepth 4000 in
theorem rdId_any (b : Nat) (s word : ByteArray) (B : Bool) (w : World) (h : Rd w b s B) (hT : StrTab w) (hs : s.size ≤ 1048576) (hw : word.size ≤ 1048576) :
    Calls Tryz.prog 42 #[.pointer (some ⟨b, 0, none⟩), .string word] w fun e w' => e = .returned (.string (str (valV s.data.toList word.data.toList))) ∧ w.grownBy w' (some b) ∧ Rd w' b (str (valR s.data.toList)) ((B || !(valO s.data.toList word.data.toList)) || !(isId (str (valV s.data.toList word.data.toList)))) := by
  have hv := value_any b s word B w h hT hs hw
  obtain ⟨V, hV⟩ : ∃ V, V = str (valV s.data.toList word.data.toList) := ⟨_, rfl⟩
  obtain ⟨C, hC⟩ : ∃ C, C = (B || !(valO s.data.toList word.data.toList)) := ⟨_, rfl⟩
  obtain ⟨r, hr⟩ : ∃ r, r = str (valR s.data.toList) := ⟨_, rfl⟩
  obtain ⟨I, hI⟩ : ∃ I, I = isId V := ⟨_, rfl⟩
  rw [← hV, ← hC, ← hr] at hv
  rw [← hV, ← hC, ← hr, ← hI]
  have hVs : V.size ≤ 140737488355328 := by
    have := (val_len s.data.toList word.data.toList).1
    rw [list_len] at this
    rw [hV, str_size]
    exact Nat.le_trans this (Nat.le_trans hs (by decide))
  have HV := Lib.hid hv
  have HI : Hid (∀ w', Calls Tryz.prog 35 #[.string V] w' fun e w'' => e = .returned (.bool I) ∧ w' = w'') := fun w' => by rw [hI]; exact is_any V w' hVs
  have HE := Lib.hid (fun w' (h : Rd w' b r C) => expect_any b r C I w' h)
  clear hv hV hC hr hI h hT hVs hs
  go_enter Tryz.func42, Tryz.ntmps42
  go_wp2_with (first
    | (go_at_call 49; ((with_reducible refine (HV.out).mono ?_); rintro e w1 ⟨rfl, hg1, hr1⟩))
    | (go_at_call 35; ((with_reducible refine (HI.out _).mono ?_); rintro e w2 ⟨rfl, rfl⟩))
    | (go_at_call 77; ((with_reducible refine (HE.out _ hr1).mono ?_); rintro e w3 ⟨rfl, hg3, hr3⟩)))
  go_ret
  exact ⟨rfl, hg1.trans hg3, hr3⟩

set_option maxHeartbeats 1000000 in
set_option maxRecDepth 4000 in
theorem rtext_any (b : Nat) (s : ByteArray) (B : Bool) (w : World) (h : Rd w b s B) (hs : s.size ≤ 1048576) :
    Calls Tryz.prog 45 #[.pointer (some ⟨b, 0, none⟩)] w fun e w' => e = .returned (.string (str (cutP s.data.toList [10]))) ∧ w.grownBy w' (some b) ∧ Rd w' b s (B || !(Lib.hasPrefix s.data.toList [10])) := by
  have hc : ∀ w', _ := fun w' => cutPre_any s ⟨#[10]⟩ w' (Nat.le_trans hs (by decide))
  have e10 : (⟨#[10]⟩ : ByteArray).data.toList = [10] := rfl
  rw [e10] at hc
  obtain ⟨V, hV⟩ : ∃ V, V = str (cutP s.data.toList [10]) := ⟨_, rfl⟩
  obtain ⟨I, hI⟩ : ∃ I, I = Lib.hasPrefix s.data.toList [10] := ⟨_, rfl⟩
  rw [← hV, ← hI] at hc
  rw [← hV, ← hI]
  have HC := Lib.hid hc
  have HE := Lib.hid (fun w' (h : Rd w' b s B) => expect_any b s B I w' h)
  have HH := Lib.hid h
  obtain ⟨a0, a1, f0, f1⟩ := h.at
  clear hc hV hI h hs e10
  go_enter Tryz.func45, Tryz.ntmps45
  go_wp2_with (first
    | (go_at_call 79; ((with_reducible refine (HC.out _).mono ?_); rintro e w1 ⟨rfl, rfl⟩))
    | (go_at_call 77; ((with_reducible refine (HE.out _ HH.out).mono ?_); rintro e w3 ⟨rfl, hg3, hr3⟩)))
  go_ret
  exact ⟨rfl, hg3, hr3⟩
end Go.Proofs.YtddmnibioacelaaGreatDoor
/-
  The walk of the reader's who.
-/
namespace Go.Proofs.YtddmnibioacelaaGreatDoor
open Go Go.RowKit

/-- A cell that is laid in a block that is new. -/
theorem gb_new {w x : World} {b R : Nat} (h : w.grownBy x (some b)) (hR : w.heap.size ≤ R) (o : Nat) (v : Value) : w.grownBy (x.setCell ⟨R, o, none⟩ v) (some b) :=
  ⟨h.os, h.tape, h.output, Nat.le_trans h.size (by simp), fun i hi hne => (Below.heap_setCell _ ⟨R, o, none⟩ v i (by show i ≠ R; omega)).trans (h.block i hi hne)⟩
theorem rd_set {x : World} {b R : Nat} {s : ByteArray} {B : Bool} (h : Rd x b s B) (hne : R ≠ b) (o : Nat) (v : Value) : Rd (x.setCell ⟨R, o, none⟩ v) b s B :=
  (Below.heap_setCell _ ⟨R, o, none⟩ v b (fun e => hne e.symm)).trans h

set_option maxHeartbeats 2000000 in
set_option maxRecDepth 4000 in
theorem rwho_any (b : Nat) (s word : ByteArray) (B : Bool) (W w : World) (h : Rd w b s B) (hT : StrTab W) (hW : Below W.heap.size W w) (hbW : W.heap.size ≤ b) (hs : s.size ≤ 1048576) (hw : word.size ≤ 1048576) :
    Calls Tryz.prog 44 #[.pointer (some ⟨b, 0, none⟩), .string word] w fun e w' =>
      e = .returned (.agg #[.string (whoR (valV s.data.toList word.data.toList)).2.n, .string (whoR (valV s.data.toList word.data.toList)).2.m, .int .i64 (whoR (valV s.data.toList word.data.toList)).2.t, .int .i64 (whoR (valV s.data.toList word.data.toList)).2.z]) ∧ w.grownBy w' (some b) ∧
      Rd w' b (str (valR s.data.toList)) ((B || !(valO s.data.toList word.data.toList)) || !((((whoR (valV s.data.toList word.data.toList)).1 : Nat) : Int) != 2)) := by
  have hx := heap_alloc_new w (.cells #[.string ⟨#[]⟩, .string ⟨#[]⟩, .int .i64 0, .int .i64 0] 24)
  have hbx : Below w.heap.size w (w.alloc (.cells #[.string ⟨#[]⟩, .string ⟨#[]⟩, .int .i64 0, .int .i64 0] 24)) := (Below.refl _ _).alloc (Nat.le_refl _) _
  obtain ⟨w1, hw1⟩ : ∃ w1, w1 = w.alloc (.cells #[.string ⟨#[]⟩, .string ⟨#[]⟩, .int .i64 0, .int .i64 0] 24) := ⟨_, rfl⟩
  have HW1 := Lib.hid hw1
  rw [← hw1] at hx hbx
  have hlt1 : w.heap.size < w1.heap.size := by rw [hw1, World.size_alloc]; omega
  have hWw := hW.size
  have hW1 : Below W.heap.size W w1 := hW.trans (hbx.mono hWw)
  have hv := value_any b s word B w1 (h.below hbx) (hT.below hW1) hs hw
  obtain ⟨V, hV⟩ : ∃ V, V = str (valV s.data.toList word.data.toList) := ⟨_, rfl⟩
  have hV2 : valV s.data.toList word.data.toList = V.data.toList := by rw [hV]; rfl
  obtain ⟨C, hC⟩ : ∃ C, C = (B || !(valO s.data.toList word.data.toList)) := ⟨_, rfl⟩
  obtain ⟨r, hr⟩ : ∃ r, r = str (valR s.data.toList) := ⟨_, rfl⟩
  rw [← hV, ← hC, ← hr] at hv
  rw [hV2, ← hC, ← hr]
  have hVs : V.size ≤ 1048576 := by
    have := (val_len s.data.toList word.data.toList).1
    rw [list_len] at this
    rw [hV, str_size]
    exact Nat.le_trans this hs
  obtain ⟨⟨c, ⟨n, m, t, z⟩⟩, hq⟩ : ∃ q, q = whoR V.data.toList := ⟨_, rfl⟩
  rw [← hq]
  simp only
  have hblt := h.lt
  have hne : w.heap.size ≠ b := by omega
  have HV : Hid (Calls Tryz.prog 49 #[.pointer (some ⟨b, 0, none⟩), .string word] w1 fun e w' => e = .returned (.string V) ∧ w1.grownBy w' (some b) ∧ Rd w' b r C) := hv
  have HQ : Hid (∀ w', w1.grownBy w' (some b) → Calls Tryz.prog 23 #[.string V] w' fun e w'' => e = .returned (.tuple #[.agg #[.string n, .string m, .int .i64 t, .int .i64 z], .int .i64 (c : Int)]) ∧ Below w'.heap.size w' w'') := fun w' hg =>
    (who_any V w' (hT.below (hW1.trans (gb_low hg hbW hW1.size))) hVs).mono fun e w'' ⟨he, hb⟩ => ⟨by rw [he, ← hq], hb⟩
  have HE := Lib.hid (fun w' ok (h : Rd w' b r C) => expect_any b r C ok w' h)
  have HX := Lib.hid hx
  have HBX := Lib.hid hbx
  have HNE := Lib.hid hne
  have HLT := Lib.hid hlt1
  clear hv hV hV2 hC hr hVs hq hne hblt hW1 hWw hw1 hx hbx h hT hW hbW hs hlt1
  go_enter Tryz.func44, Tryz.ntmps44
  go_upto_region 1 with fail
  rw [← HW1.out]
  go_upto_region 2 with (first
    | (go_at_call 49; ((with_reducible refine (HV.out).mono ?_); rintro e wa ⟨rfl, hga, hra⟩))
    | (go_at_call 23; ((with_reducible refine (HQ.out _ hga).mono ?_); rintro e wb ⟨rfl, hbb⟩)))
  obtain ⟨P, hP⟩ : ∃ P, P = wb.heap.size := ⟨_, rfl⟩
  obtain ⟨w8, hw8⟩ : ∃ w8, w8 = wb.alloc (.cells #[.string n, .string m, .int .i64 t, .int .i64 z] 24) := ⟨_, rfl⟩
  rw [← hw8, ← hP]
  have hg8 : w1.grownBy w8 (some b) := (hga.trans (gb_below b hbb)).trans (by rw [hw8]; exact gb_below b ((Below.refl _ _).alloc (Nat.le_refl _) _))
  have hr8 : Rd w8 b r C := (hra.below hbb).below (by rw [hw8]; exact (Below.refl _ _).alloc (Nat.le_refl _) _)
  have hP1 : w8.heap[P]? = some (.cells #[.string n, .string m, .int .i64 t, .int .i64 z] 24 (0, 0)) := by rw [hw8, hP]; exact heap_alloc_new _ _
  have hP0 : w8.heap[w.heap.size]? = some (.cells #[.string ⟨#[]⟩, .string ⟨#[]⟩, .int .i64 0, .int .i64 0] 24 (0, 0)) := (hg8.block w.heap.size HLT.out (by simpa using HNE.out)).trans HX.out
  have hPb : P ≠ b := by have h1 := hra.lt; have h2 := hbb.size; omega
  have hPl : P < w8.heap.size := by rw [hP, hw8, World.size_alloc]; omega
  have hWl : w.heap.size < w8.heap.size := by have := HLT.out; have := hg8.size; omega
  have HG8 := Lib.hid hg8
  have HE8 := Lib.hid (fun ok => HE.out w8 ok hr8)
  have HP0 := Lib.hid hP0
  have HP1 := Lib.hid hP1
  have HPB := Lib.hid hPb
  have HPL := Lib.hid hPl
  have HWL := Lib.hid hWl
  clear hga hra hbb hP hw8 hg8 hr8 hP0 hP1 hPb hPl hWl
  go_upto_region 3 with (go_at_call 77; ((with_reducible refine (HE8.out _).mono ?_); rintro e w9 ⟨rfl, hg9, hr9⟩))
  have hrow := (hg9.block w.heap.size HWL.out (by simpa using HNE.out)).trans HP0.out
  have hrow1 := (hg9.block P HPL.out (by simpa using HPB.out)).trans HP1.out
  have HRW := Lib.hid hrow
  have HR9 := Lib.hid hr9
  have HG9 := Lib.hid ((gb_below b HBX.out).trans (HG8.out.trans hg9))
  obtain ⟨y0, y1, y2, y3, z0, z1, z2, z3⟩ := pn_end hrow
  obtain ⟨v0, v1, v2, v3, -, -, -, -⟩ := pn_end hrow1
  clear hrow hrow1 hg9 hr9
  go_wp2
  obtain ⟨d0, d1, d2, d3, _⟩ := pn_end (pn_row (v0 := .string n) (v1 := .string m) (v2 := .int .i64 t) (v3 := .int .i64 z) HRW.out)
  refine bodyPost_ret (v := .agg #[.string n, .string m, .int .i64 t, .int .i64 z]) (by simp [results, Tryz.results44, go_sem, d0, d1, d2, d3]) rfl ⟨rfl, ?_, ?_⟩
  · exact gb_new (gb_new (gb_new (gb_new HG9.out (Nat.le_refl _) _ _) (Nat.le_refl _) _ _) (Nat.le_refl _) _ _) (Nat.le_refl _) _ _
  · exact rd_set (rd_set (rd_set (rd_set HR9.out HNE.out _ _) HNE.out _ _) HNE.out _ _) HNE.out _ _
end Go.Proofs.YtddmnibioacelaaGreatDoor
