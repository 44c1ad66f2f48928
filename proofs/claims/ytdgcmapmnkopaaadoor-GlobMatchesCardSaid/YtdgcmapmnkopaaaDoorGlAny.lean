/-
  What strings.IndexAny answers for any string and the four signs of a pattern.
-/
import Derived.Test.YtdgcmapmnkopaaaDoorGlLives
import Derived.Lib.OthersKept
import Derived.Laws.RangeAny
import Derived.WalkMore
namespace Go.Proofs.YtdgcmapmnkopaaaDoor
open Go.RowKit

theorem get_list (s : ByteArray) (j : Nat) (b : UInt8) (h : s.data.toList[j]? = some b) : s.get! j = b := by
  have hj : j < s.size := by
    have := (List.getElem?_eq_some_iff.mp h).1
    rw [list_len] at this
    exact this
  have h2 : s[j]'hj = b := by
    have := (List.getElem?_eq_some_iff.mp h).2
    rw [← this]
    rfl
  have h3 : s.get! (j + 0) = s[j]'hj := get_at s j hj
  rw [← h2, ← h3, Nat.add_zero]
theorem dec_hi (s : ByteArray) (i : Nat) (h : i < s.size) (ha : 128 ≤ (s[i]'h).toNat) :
    ∃ c k, Utf8.decode s i = (c, k + 1) ∧ 128 ≤ c ∧ Utf8.valid (c : Int) = true ∧ i + k < s.size ∧ ∀ j, j ≤ k → 128 ≤ (s.get! (i + j)).toNat := by
  have hn : ¬ (s[i]'h).toNat < 128 := by omega
  have h0 : s.get! (i + 0) = s[i]'h := get_at s i h
  have hb : ∀ k, (s.get! (i + k)).toNat < 256 := fun k => (s.get! (i + k)).toNat_lt
  have b1 := hb 1; have b2 := hb 2; have b3 := hb 3
  have hbad : ∃ c k, (Utf8.runeError, 1) = (c, k + 1) ∧ 128 ≤ c ∧ Utf8.valid (c : Int) = true ∧ i + k < s.size ∧ ∀ j, j ≤ k → 128 ≤ (s.get! (i + j)).toNat :=
    ⟨65533, 0, rfl, by decide, by decide, by omega, fun j hj => by obtain rfl : j = 0 := by omega
                                                                   rw [h0]; exact ha⟩
  simp only [Utf8.decode, h0, hn, if_false]
  split
  · rename_i h1
    rw [Bool.and_eq_true, Bool.and_eq_true, decide_eq_true_eq, beq_iff_eq, beq_iff_eq] at h1
    split
    · rename_i h2
      refine ⟨_, 1, rfl, h2, ?_, h1.2.1, fun j hj => ?_⟩
      · rw [Utf8.valid]
        have : ((s[i]'h).toNat % 32 * 64 + (s.get! (i + 1)).toNat % 64) < 55296 := by omega
        simp only [Bool.or_eq_true, Bool.and_eq_true, decide_eq_true_eq]
        left
        omega
      · rcases j with _ | _ | j
        · rw [h0]; exact ha
        · show 128 ≤ (s.get! (i + 1)).toNat
          omega
        · omega
    · exact hbad
  · split
    · rename_i h1
      rw [Bool.and_eq_true, Bool.and_eq_true, Bool.and_eq_true, Bool.and_eq_true, decide_eq_true_eq, decide_eq_true_eq, beq_iff_eq, beq_iff_eq, beq_iff_eq] at h1
      split
      · rename_i h2
        rw [Bool.and_eq_true, decide_eq_true_eq] at h2
        refine ⟨_, 2, rfl, by omega, h2.2, h1.2.1, fun j hj => ?_⟩
        rcases j with _ | _ | _ | j
        · rw [h0]; exact ha
        · show 128 ≤ (s.get! (i + 1)).toNat
          omega
        · show 128 ≤ (s.get! (i + 2)).toNat
          omega
        · omega
      · exact hbad
    · split
      · rename_i h1
        rw [Bool.and_eq_true, Bool.and_eq_true, Bool.and_eq_true, Bool.and_eq_true, Bool.and_eq_true, Bool.and_eq_true, decide_eq_true_eq, decide_eq_true_eq, decide_eq_true_eq, beq_iff_eq, beq_iff_eq, beq_iff_eq, beq_iff_eq] at h1
        split
        · rename_i h2
          rw [Bool.and_eq_true, decide_eq_true_eq] at h2
          refine ⟨_, 3, rfl, by omega, h2.2, h1.2.1, fun j hj => ?_⟩
          rcases j with _ | _ | _ | _ | j
          · rw [h0]; exact ha
          · show 128 ≤ (s.get! (i + 1)).toNat
            omega
          · show 128 ≤ (s.get! (i + 2)).toNat
            omega
          · show 128 ≤ (s.get! (i + 3)).toNat
            omega
          · omega
        · exact hbad
      · exact hbad
theorem u8_hi (n : Nat) : 128 ≤ (UInt8.ofNat (128 + n % 64)).toNat := by
  rw [UInt8.toNat_ofNat']
  omega
/-- A rune's bytes: the last is no ASCII byte. -/
theorem enc_hi (c : Nat) (hv : Utf8.valid (c : Int) = true) (h : 128 ≤ c) :
    (∃ a b, Utf8.encode c = ⟨#[a, b]⟩ ∧ 128 ≤ b.toNat) ∨ (∃ a a2 b, Utf8.encode c = ⟨#[a, a2, b]⟩ ∧ 128 ≤ b.toNat) ∨ (∃ a a2 a3 b, Utf8.encode c = ⟨#[a, a2, a3, b]⟩ ∧ 128 ≤ b.toNat) := by
  simp only [Utf8.encode, hv, if_true, Int.toNat_natCast]
  rw [if_neg (by omega)]
  split
  · exact .inl ⟨_, _, rfl, u8_hi c⟩
  · split
    · exact .inr (.inl ⟨_, _, _, rfl, u8_hi c⟩)
    · exact .inr (.inr ⟨_, _, _, _, rfl, u8_hi c⟩)
theorem met_bytes (a b : Nat) (x : UInt8) (h : x ∈ ((⟨#[63, 42, 91, 92]⟩ : ByteArray).extract a b).data.toList) : x.toNat < 128 := by
  rw [ext_bytes] at h
  have h2 : x ∈ ([63, 42, 91, 92] : List UInt8) := List.mem_of_mem_drop (List.mem_of_mem_take h)
  simp only [List.mem_cons, List.not_mem_nil, or_false] at h2
  rcases h2 with rfl | rfl | rfl | rfl <;> decide
theorem met_no (a b : Nat) (y : UInt8) (hy : 128 ≤ y.toNat) : Lib.indexByte ((⟨#[63, 42, 91, 92]⟩ : ByteArray).extract a b).data.toList y = -1 := by
  have hm := met_bytes a b y
  obtain ⟨l, hl⟩ : ∃ l, l = ((⟨#[63, 42, 91, 92]⟩ : ByteArray).extract a b).data.toList := ⟨_, rfl⟩
  rw [← hl] at hm ⊢
  have hge := Lib.indexByte_ge l y
  refine Decidable.byContradiction fun hne => ?_
  obtain ⟨o, ho⟩ : ∃ o : Nat, Lib.indexByte l y = o := ⟨(Lib.indexByte l y).toNat, by omega⟩
  obtain ⟨h2, _⟩ := Lib.indexByte_some ho
  have := hm (List.mem_of_getElem? h2)
  omega

set_option maxHeartbeats 2000000 in
set_option maxRecDepth 4000 in
/-- IndexRune of a rune that is no ASCII byte, among the four signs. -/
theorem rune_err (w : World) : Calls Tryd.prog 80 #[.string ⟨#[63, 42, 91, 92]⟩, .int .i32 65533] w fun e w' => e = .returned (.int .i64 (-1)) ∧ Below w.heap.size w w' := by
  go_enter Tryd.func80, Tryd.ntmps80
  go_wp2
  go_loopg [5, 6] 4 (fun g _ _ wx => ∃ i : Nat, i + g = 4 ∧ wx = w.iter ⟨#[63, 42, 91, 92]⟩ i)
  case atStart => exact ⟨0, by omega, rfl⟩
  case round =>
    obtain ⟨i, hig, rfl⟩ := hrel
    cases gk with
    | zero =>
      obtain rfl : i = 4 := by omega
      have hnx := run_next_end (P := Tryd.prog) w ⟨#[63, 42, 91, 92]⟩ 4
      go_wp2
      go_ret
      exact ⟨rfl, (Below.refl _ _).alloc (Nat.le_refl _) _⟩
    | succ g =>
      have hi : i < (⟨#[63, 42, 91, 92]⟩ : ByteArray).size := by show i < 4; omega
      obtain ⟨x, hx⟩ : ∃ x : UInt8, (⟨#[63, 42, 91, 92]⟩ : ByteArray)[i]'hi = x := ⟨_, rfl⟩
      have hx128 : x.toNat < 128 := by
        rw [← hx]
        rcases i with _ | _ | _ | _ | i
        · show (63 : UInt8).toNat < 128
          decide
        · show (42 : UInt8).toNat < 128
          decide
        · show (91 : UInt8).toNat < 128
          decide
        · show (92 : UInt8).toNat < 128
          decide
        · exact absurd hi (by show ¬ (i + 1 + 1 + 1 + 1 < 4); omega)
      have hnx := fun ty => run_next_ascii (P := Tryd.prog) w ⟨#[63, 42, 91, 92]⟩ i ty hi (by rw [hx]; exact hx128)
      rw [hx] at hnx
      have hne : ((x.toNat : Int) == 65533) = false := beq_eq_false_iff_ne.mpr (by omega)
      clear hx
      go_wp2
      go_roundg g
      case measure => omega
      case rel => exact ⟨i + 1, by omega, rfl⟩
theorem ne_hi {n : Int} (b : UInt8) (h : 128 ≤ b.toNat) (hn : n < 128) : (n != (b.toNat : Int)) = true := bne_iff_ne.mpr (by omega)
set_option maxHeartbeats 4000000 in
set_option maxRecDepth 4000 in
theorem rune_hi2 (r : Int) (hr : 128 ≤ r) (h65 : (r == 65533) = false) (hv : Lib.validRune r = true) (a b : UInt8) (hE : Utf8.encode r = ⟨#[a, b]⟩) (hb : 128 ≤ b.toNat) (w : World) :
    Calls Tryd.prog 80 #[.string ⟨#[63, 42, 91, 92]⟩, .int .i32 r] w fun e w' => e = .returned (.int .i64 (-1)) ∧ Below w.heap.size w w' := by
  have HV : Hid (∀ w, Calls Tryd.prog 94 #[.int .i32 r] w fun e w' => e = .returned (.bool true) ∧ w' = w) := fun w => by rw [← hv]; exact Tryd.utf8_ValidRune _ w
  have HI : Hid (∀ x y w, Calls Tryd.prog 93 #[.string ((⟨#[63, 42, 91, 92]⟩ : ByteArray).extract x y), .int .u8 (((⟨#[a, b]⟩ : ByteArray)[1]'(by show 1 < 2; decide)).toNat : Int)] w fun e w' => e = .returned (.int .i64 (-1)) ∧ w' = w) := fun x y w =>
    (Tryd.strings_IndexByte _ (b.toNat : Int) w).mono fun _ _ z => ⟨by rw [z.1, show ((b.toNat : Int)).toNat.toUInt8 = b by simp, met_no x y b hb], z.2⟩
  have hne := ne_hi (n := 42) b hb (by decide)
  have hne2 : (((((⟨#[63, 42, 91, 92]⟩ : ByteArray)[1]'(by decide)).toNat : Nat) : Int) != (((⟨#[a, b]⟩ : ByteArray)[1]'(by show 1 < 2; decide)).toNat : Int)) = true := hne
  have hsl : ∀ w, (Instr.slice 9 (.string ⟨#[63, 42, 91, 92]⟩) (some (.int .i64 2)) none none).run Tryd.prog w = .ok (.string ((⟨#[63, 42, 91, 92]⟩ : ByteArray).extract 2 4)) w := fun w => by kernel_rfl
  have HE := Lib.hid hE
  clear hv hb hE
  go_enter Tryd.func80, Tryd.ntmps80
  go_upto_region 1 with (go_at_call 94; ((with_reducible refine (HV.out _).mono ?_); rintro e w1 ⟨rfl, rfl⟩))
  go_step3
  go_upto_region 2 with (fail)
  rw [HE.out]
  go_wp2
  go_loopw [9, 10] (fun i f wr => i = .int .i64 1 ∧ f = .int .i64 0 ∧ wr = w1) (fun _ _ _ => 0)
  case atStart => exact ⟨rfl, rfl, rfl⟩
  case round =>
    obtain ⟨rfl, rfl, rfl⟩ := hrel
    go_wp2
    go_step3
    go_wp2
    go_quiet (fail)
    go_wp2
    go_quiet ((go_at_call 93; go_loud (exact (HI.out _ _ _).mono fun e w' h => ⟨h.1, _, h.2⟩)))
    go_wp2
    rw [Exit.noGoto_ret]
    show bodyPost Tryd.prog Tryd.f80 (fun e w' => e = .returned (.int .i64 (-1)) ∧ Below wr.heap.size wr w') .ret _ _
    go_ret
    exact ⟨rfl, below_drewN (Below.refl _ _) _⟩
set_option maxHeartbeats 4000000 in
set_option maxRecDepth 4000 in
theorem rune_hi3 (r : Int) (hr : 128 ≤ r) (h65 : (r == 65533) = false) (hv : Lib.validRune r = true) (a a2 b : UInt8) (hE : Utf8.encode r = ⟨#[a, a2, b]⟩) (hb : 128 ≤ b.toNat) (w : World) :
    Calls Tryd.prog 80 #[.string ⟨#[63, 42, 91, 92]⟩, .int .i32 r] w fun e w' => e = .returned (.int .i64 (-1)) ∧ Below w.heap.size w w' := by
  have HV : Hid (∀ w, Calls Tryd.prog 94 #[.int .i32 r] w fun e w' => e = .returned (.bool true) ∧ w' = w) := fun w => by rw [← hv]; exact Tryd.utf8_ValidRune _ w
  have HI : Hid (∀ x y w, Calls Tryd.prog 93 #[.string ((⟨#[63, 42, 91, 92]⟩ : ByteArray).extract x y), .int .u8 (((⟨#[a, a2, b]⟩ : ByteArray)[2]'(by show 2 < 3; decide)).toNat : Int)] w fun e w' => e = .returned (.int .i64 (-1)) ∧ w' = w) := fun x y w =>
    (Tryd.strings_IndexByte _ (b.toNat : Int) w).mono fun _ _ z => ⟨by rw [z.1, show ((b.toNat : Int)).toNat.toUInt8 = b by simp, met_no x y b hb], z.2⟩
  have hne := ne_hi (n := 91) b hb (by decide)
  have hne2 : (((((⟨#[63, 42, 91, 92]⟩ : ByteArray)[2]'(by decide)).toNat : Nat) : Int) != (((⟨#[a, a2, b]⟩ : ByteArray)[2]'(by show 2 < 3; decide)).toNat : Int)) = true := hne
  have hsl : ∀ w, (Instr.slice 9 (.string ⟨#[63, 42, 91, 92]⟩) (some (.int .i64 3)) none none).run Tryd.prog w = .ok (.string ((⟨#[63, 42, 91, 92]⟩ : ByteArray).extract 3 4)) w := fun w => by kernel_rfl
  have HE := Lib.hid hE
  clear hv hb hE
  go_enter Tryd.func80, Tryd.ntmps80
  go_upto_region 1 with (go_at_call 94; ((with_reducible refine (HV.out _).mono ?_); rintro e w1 ⟨rfl, rfl⟩))
  go_step3
  go_upto_region 2 with (fail)
  rw [HE.out]
  go_wp2
  go_loopw [9, 10] (fun i f wr => i = .int .i64 2 ∧ f = .int .i64 0 ∧ wr = w1) (fun _ _ _ => 0)
  case atStart => exact ⟨rfl, rfl, rfl⟩
  case round =>
    obtain ⟨rfl, rfl, rfl⟩ := hrel
    go_wp2
    go_step3
    go_wp2
    go_quiet (fail)
    go_wp2
    go_quiet ((go_at_call 93; go_loud (exact (HI.out _ _ _).mono fun e w' h => ⟨h.1, _, h.2⟩)))
    go_wp2
    rw [Exit.noGoto_ret]
    show bodyPost Tryd.prog Tryd.f80 (fun e w' => e = .returned (.int .i64 (-1)) ∧ Below wr.heap.size wr w') .ret _ _
    go_ret
    exact ⟨rfl, below_drewN (Below.refl _ _) _⟩
set_option maxHeartbeats 4000000 in
set_option maxRecDepth 4000 in
theorem rune_hi4 (r : Int) (hr : 128 ≤ r) (h65 : (r == 65533) = false) (hv : Lib.validRune r = true) (a a2 a3 b : UInt8) (hE : Utf8.encode r = ⟨#[a, a2, a3, b]⟩) (hb : 128 ≤ b.toNat) (w : World) :
    Calls Tryd.prog 80 #[.string ⟨#[63, 42, 91, 92]⟩, .int .i32 r] w fun e w' => e = .returned (.int .i64 (-1)) ∧ Below w.heap.size w w' := by
  have HV : Hid (∀ w, Calls Tryd.prog 94 #[.int .i32 r] w fun e w' => e = .returned (.bool true) ∧ w' = w) := fun w => by rw [← hv]; exact Tryd.utf8_ValidRune _ w
  have HI : Hid (∀ w, Calls Tryd.prog 93 #[.string ⟨#[]⟩, .int .u8 (((⟨#[a, a2, a3, b]⟩ : ByteArray)[3]'(by show 3 < 4; decide)).toNat : Int)] w fun e w' => e = .returned (.int .i64 (-1)) ∧ w' = w) := fun w =>
    (Tryd.strings_IndexByte _ (b.toNat : Int) w).mono fun _ _ z => ⟨by rw [z.1]; rfl, z.2⟩
  have hne := ne_hi (n := 92) b hb (by decide)
  have hne2 : (((((⟨#[63, 42, 91, 92]⟩ : ByteArray)[3]'(by decide)).toNat : Nat) : Int) != (((⟨#[a, a2, a3, b]⟩ : ByteArray)[3]'(by show 3 < 4; decide)).toNat : Int)) = true := hne
  have hsl : ∀ w, (Instr.slice 9 (.string ⟨#[63, 42, 91, 92]⟩) (some (.int .i64 4)) none none).run Tryd.prog w = .ok (.string ⟨#[]⟩) w := fun w => by kernel_rfl
  have HE := Lib.hid hE
  clear hv hb hE
  go_enter Tryd.func80, Tryd.ntmps80
  go_upto_region 1 with (go_at_call 94; ((with_reducible refine (HV.out _).mono ?_); rintro e w1 ⟨rfl, rfl⟩))
  go_step3
  go_upto_region 2 with (fail)
  rw [HE.out]
  go_wp2
  go_loopw [9, 10] (fun i f wr => i = .int .i64 3 ∧ f = .int .i64 0 ∧ wr = w1) (fun _ _ _ => 0)
  case atStart => exact ⟨rfl, rfl, rfl⟩
  case round =>
    obtain ⟨rfl, rfl, rfl⟩ := hrel
    go_wp2
    go_step3
    go_wp2
    go_quiet (fail)
    go_wp2
    go_quiet ((go_at_call 93; go_loud (exact (HI.out _).mono fun e w' h => ⟨h.1, _, h.2⟩)))
    go_wp2
    rw [Exit.noGoto_ret]
    show bodyPost Tryd.prog Tryd.f80 (fun e w' => e = .returned (.int .i64 (-1)) ∧ Below wr.heap.size wr w') .ret _ _
    go_ret
    exact ⟨rfl, below_drewN (Below.refl _ _) _⟩
/-- IndexRune of any rune that range hands out for a byte from 128 on: none of the four signs. -/
theorem rune_any (c : Nat) (hc : 128 ≤ c) (hv : Utf8.valid (c : Int) = true) (w : World) :
    Calls Tryd.prog 80 #[.string ⟨#[63, 42, 91, 92]⟩, .int .i32 (c : Int)] w fun e w' => e = .returned (.int .i64 (-1)) ∧ Below w.heap.size w w' := by
  by_cases he : c = 65533
  · subst he
    exact rune_err w
  · have h65 : ((c : Int) == 65533) = false := beq_eq_false_iff_ne.mpr (by omega)
    have hR : Lib.validRune (c : Int) = true := by
      rw [Utf8.valid] at hv
      simp only [Bool.or_eq_true, Bool.and_eq_true, decide_eq_true_eq] at hv
      exact decide_eq_true (by omega)
    rcases enc_hi c hv hc with ⟨a, b, hE, hb⟩ | ⟨a, a2, b, hE, hb⟩ | ⟨a, a2, a3, b, hE, hb⟩
    · exact rune_hi2 c (by omega) h65 hR a b hE hb w
    · exact rune_hi3 c (by omega) h65 hR a a2 b hE hb w
    · exact rune_hi4 c (by omega) h65 hR a a2 a3 b hE hb w
end Go.Proofs.YtdgcmapmnkopaaaDoor
