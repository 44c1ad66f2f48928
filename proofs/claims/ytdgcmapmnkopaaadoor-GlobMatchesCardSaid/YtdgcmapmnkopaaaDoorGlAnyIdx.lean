/-
  strings.ContainsAny of any short string and the four signs of a pattern; Literal.
-/
import Derived.Test.YtdgcmapmnkopaaaDoorGlAny
import Derived.Deep.WholeRow
namespace Go.Proofs.YtdgcmapmnkopaaaDoor
open Go.RowKit Go.Lib

theorem met_noc (x : UInt8) (h : 128 ≤ x.toNat) : ([63, 42, 91, 92] : List UInt8).contains x = false := by
  rw [Bool.eq_false_iff]
  intro e
  rw [List.contains_iff_mem] at e
  simp only [List.mem_cons, List.not_mem_nil, or_false] at e
  rcases e with rfl | rfl | rfl | rfl <;> revert h <;> decide
theorem noAny_skip {s : ByteArray} {i k : Nat} (h : Lib.NoAny s.data.toList [63, 42, 91, 92] i) (hb : ∀ j, j ≤ k → 128 ≤ (s.get! (i + j)).toNat) : Lib.NoAny s.data.toList [63, 42, 91, 92] (i + k + 1) := fun j b hj hjb => by
  by_cases h1 : j < i
  · exact h j b h1 hjb
  · have h2 := hb (j - i) (by omega)
    rw [show i + (j - i) = j by omega, get_list s j b hjb] at h2
    exact met_noc b h2

set_option maxHeartbeats 8000000 in
set_option maxRecDepth 4000 in
theorem idx_short (s : ByteArray) (w : World) (h8 : s.size ≤ 8) :
    Calls Tryd.prog 69 #[.string s, .string ⟨#[63, 42, 91, 92]⟩] w fun e w' => e = .returned (.int .i64 (Lib.indexAny s.data.toList [63, 42, 91, 92])) ∧ Below w.heap.size w w' := by
  have h8z : decide ((8 : Int) < (s.size : Int)) = false := decide_eq_false (by omega)
  have HS : Hid (∀ w, Calls Tryd.prog 81 #[.int .i64 (s.size : Int)] w fun e w' => e = .returned (.bool false) ∧ w' = w) := fun w => (Tryd.strings_shouldUseASCIISet _ w).mono fun _ _ z => ⟨by rw [z.1, h8z], z.2⟩
  have HR : Hid (∀ (c : Nat) (w : World), 128 ≤ c → Utf8.valid (c : Int) = true → Calls Tryd.prog 80 #[.string ⟨#[63, 42, 91, 92]⟩, .int .i32 (c : Int)] w fun e w' => e = .returned (.int .i64 (-1)) ∧ Below w.heap.size w w') := fun c w h1 h2 => rune_any c h1 h2 w
  clear h8z
  go_enter Tryd.func69, Tryd.ntmps69
  go_wp2_with (go_at_call 81; ((with_reducible refine (HS.out _).mono ?_); rintro e w1 ⟨rfl, rfl⟩))
  go_loopg [9, 10] s.size (fun g _ _ wx => ∃ i : Nat, i + g = s.size ∧ wx.heap[w1.heap.size]? = some (.stringIter s i) ∧ Below w1.heap.size w1 wx ∧ Hid (Lib.NoAny s.data.toList [63, 42, 91, 92] i))
  case atStart => exact ⟨0, by omega, World.iter_heap _ _ _, (Below.refl _ _).alloc (Nat.le_refl _) _, Lib.NoAny.zero _ _⟩
  case round =>
    obtain ⟨i, hig, hk, hb, HN⟩ := hrel
    have HK := Lib.hid hk
    cases gk with
    | zero =>
      obtain rfl : i = s.size := by omega
      have hnx := fun ty => run_next_end_at (P := Tryd.prog) _ _ s s.size ty hk (by omega)
      clear hk
      go_wp2
      go_ret
      exact ⟨by rw [Lib.indexAny_none (by rw [list_len]; exact HN.out)]; rfl, hb⟩
    | succ g =>
      have hi : i < s.size := by omega
      obtain ⟨x, hx⟩ : ∃ x : UInt8, s[i]'hi = x := ⟨_, rfl⟩
      have hxl : s.data.toList[i]? = some x := by rw [← hx]; exact Lib.data_getElem? s i hi
      by_cases hx8 : x.toNat < 128
      · have hnx := fun ty => run_next_ascii_at (P := Tryd.prog) _ _ s i ty hk hi (by rw [hx]; exact hx8)
        rw [hx] at hnx
        have Hx : Hid (s.data.toList[i]? = some x) := hxl
        have hcon := Lib.contains_iff_indexByte [63, 42, 91, 92] x
        have HA : Hid (∀ w, Calls Tryd.prog 80 #[.string ⟨#[63, 42, 91, 92]⟩, .int .i32 (x.toNat : Int)] w fun e w' => e = .returned (.int .i64 (Lib.indexByte [63, 42, 91, 92] x)) ∧ w' = w) := fun w => (Tryd.strings_IndexRune_ascii _ _ w (by omega) (by omega)).mono fun _ _ z => ⟨by rw [z.1, show ((x.toNat : Int)).toNat.toUInt8 = x by simp], z.2⟩
        obtain ⟨o, ho⟩ : ∃ o, o = Lib.indexByte [63, 42, 91, 92] x := ⟨_, rfl⟩
        rw [← ho] at hcon HA
        have hb2 := below_iterAt hb (Nat.le_refl _) s (i + 1)
        have hk2 := iterAt_heap _ _ s i (i + 1) hk
        clear hxl hx hx8 ho hk
        cases hin : ([63, 42, 91, 92] : List UInt8).contains x
        · rw [hin] at hcon
          have HIN := Lib.hid hin
          have hlt : ¬ ((0 : Int) ≤ o) := of_decide_eq_false hcon.symm
          clear hcon hin
          go_wp2_with (go_at_call 80; ((with_reducible refine (HA.out _).mono ?_); rintro e w2 ⟨rfl, rfl⟩))
          go_roundg g
          case measure => omega
          case rel => exact ⟨i + 1, by omega, hk2, hb2, HN.out.succ Hx.out HIN.out⟩
        · rw [hin] at hcon
          have HIN := Lib.hid hin
          have hge : (0 : Int) ≤ o := of_decide_eq_true hcon.symm
          clear hcon hin
          go_wp2_with (go_at_call 80; ((with_reducible refine (HA.out _).mono ?_); rintro e w2 ⟨rfl, rfl⟩))
          go_ret
          exact ⟨by rw [Lib.indexAny_hit HN.out Hx.out HIN.out]; rfl, hb2⟩
      · obtain ⟨c, k, hd, hc, hv, hik, hby⟩ := dec_hi s i hi (by rw [hx]; omega)
        have hnx := fun ty => run_next_any_at (P := Tryd.prog) _ _ s i ty hk hi
        rw [hd] at hnx
        simp only at hnx
        have hb2 := below_iterAt hb (Nat.le_refl _) s (i + (k + 1))
        have hk2 := iterAt_heap _ _ s i (i + (k + 1)) hk
        have HN2 : Hid (Lib.NoAny s.data.toList [63, 42, 91, 92] (i + (k + 1))) := noAny_skip HN.out hby
        have HC : Hid (∀ w, Calls Tryd.prog 80 #[.string ⟨#[63, 42, 91, 92]⟩, .int .i32 (c : Int)] w fun e w' => e = .returned (.int .i64 (-1)) ∧ Below w.heap.size w w') := fun w => HR.out c w hc hv
        clear hxl hx hx8 hd hc hv hby hk
        go_wp2_with (go_at_call 80; ((with_reducible refine (HC.out _).mono ?_); rintro e w2 ⟨rfl, hb3⟩))
        go_roundg (g - k)
        case measure => omega
        case rel => exact ⟨i + (k + 1), by omega, (hb3.block _ (Array.getElem?_eq_some_iff.mp hk2).1).trans hk2, hb2.trans (hb3.mono hb2.size), HN2⟩
theorem idx_any (s : ByteArray) (w : World) (hs : s.size ≤ 1048576) :
    Calls Tryd.prog 69 #[.string s, .string ⟨#[63, 42, 91, 92]⟩] w fun e w' => e = .returned (.int .i64 (Lib.indexAny s.data.toList [63, 42, 91, 92])) ∧ Below w.heap.size w w' := by
  by_cases h8 : s.size ≤ 8
  · exact idx_short s w h8
  · refine (Tryd.strings_IndexAny_long (zero_of_info (P := Tryd.prog) (n := 256) (by kernel_rfl)).1 s ⟨#[63, 42, 91, 92]⟩ w (by decide) (by omega) (by omega) (by decide) (fun j b hb => ?_)).mono fun e w' z => ⟨z.1, ?_⟩
    · rcases j with _ | _ | _ | _ | j <;> simp at hb <;> subst hb <;> decide
    · rw [z.2]
      exact below_new (below_new (Below.refl _ _) _) _
set_option maxHeartbeats 1000000 in
set_option maxRecDepth 4000 in
theorem cany (s : ByteArray) (B : Bool) (w : World) (hs : s.size ≤ 1048576) (hB : B = s.data.toList.any (fun b => ([63, 42, 91, 92] : List UInt8).contains b)) :
    Calls Tryd.prog 53 #[.string s, .string ⟨#[63, 42, 91, 92]⟩] w fun e w' => e = .returned (.bool B) ∧ Below w.heap.size w w' := by
  have h := idx_any s w hs
  obtain ⟨o, ho⟩ : ∃ o, o = Lib.indexAny s.data.toList [63, 42, 91, 92] := ⟨_, rfl⟩
  have hBo : B = decide ((0 : Int) ≤ o) := by
    rw [hB, ho]
    clear hB ho h hs
    induction s.data.toList with
    | nil => rfl
    | cons b l ih =>
      rw [List.any_cons, Lib.indexAny]
      have hge := Lib.indexAny_ge [63, 42, 91, 92] l
      cases hc : ([63, 42, 91, 92] : List UInt8).contains b
      · rw [Bool.false_or, ih]
        simp only [Bool.false_eq_true, if_false]
        split
        · rename_i h1
          rw [beq_iff_eq] at h1
          rw [h1]
        · rename_i h1
          rw [beq_iff_eq] at h1
          rw [decide_eq_true (by omega), decide_eq_true (by omega)]
      · simp
  rw [← ho] at h
  have HI := Lib.hid h
  have HB := Lib.hid hBo
  clear hB ho h hBo
  go_enter Tryd.func53, Tryd.ntmps53
  go_wp2_with (go_at_call 69; ((with_reducible refine (HI.out).mono ?_); rintro e w1 ⟨rfl, hb⟩))
  go_ret
  exact ⟨by rw [HB.out]; rfl, hb⟩

/-- Whether a pattern is a path with no sign in it. -/
def lit (p : ByteArray) : Bool := isP p && !p.data.toList.any (fun b => ([63, 42, 91, 92] : List UInt8).contains b)
def none' : ByteArray := ⟨#[]⟩
set_option maxHeartbeats 1000000 in
set_option maxRecDepth 4000 in
theorem literal_any (p : ByteArray) (w0 w : World) (hs : p.size ≤ 140737488355328) (hP : PI w0 w) : 
    Calls Tryd.prog 34 #[.string p] w fun e w' => e = .returned (.tuple #[.string (if lit p = true then p else ⟨#[]⟩), .bool (lit p)]) ∧ PI w0 w' := by
  obtain ⟨I, hI⟩ : ∃ I, isP p = I := ⟨_, rfl⟩
  obtain ⟨C, hC⟩ : ∃ C, C = p.data.toList.any (fun b => ([63, 42, 91, 92] : List UInt8).contains b) := ⟨_, rfl⟩
  have hL : lit p = (I && !C) := by unfold lit; rw [hI, hC]
  have HI : Hid (∀ w', PI w0 w' → Calls Tryd.prog 16 #[.string p] w' fun e w'' => e = .returned (.bool I) ∧ PI w0 w'') := fun w' h => by
    obtain ⟨m, hm⟩ := h.2
    exact (isL_any _ m w' hs hm).mono fun _ _ x => ⟨by rw [x.1, hI], h.step x.2⟩
  rw [hL]
  cases I
  · clear hL hC hI
    go_enter Tryd.func34, Tryd.ntmps34
    go_wp2_with (go_at_call 16; ((with_reducible refine (HI.out _ (by assumption)).mono ?_); rintro e w1 ⟨rfl, hp1⟩))
    go_ret2
    exact ⟨rfl, hp1⟩
  · have hp := isP_size hI
    have HC : Hid (∀ w', PI w0 w' → Calls Tryd.prog 53 #[.string p, .string ⟨#[63, 42, 91, 92]⟩] w' fun e w'' => e = .returned (.bool C) ∧ PI w0 w'') := fun w' h => (cany p C w' (by omega) hC).mono fun _ _ x => ⟨x.1, h.step x.2⟩
    clear hL hC hI
    cases C
    · go_enter Tryd.func34, Tryd.ntmps34
      go_wp2_with (first
        | (go_at_call 16; ((with_reducible refine (HI.out _ (by assumption)).mono ?_); rintro e w1 ⟨rfl, hp1⟩))
        | (go_at_call 53; ((with_reducible refine (HC.out _ (by assumption)).mono ?_); rintro e w2 ⟨rfl, hp2⟩)))
      go_ret2
      exact ⟨rfl, hp2⟩
    · go_enter Tryd.func34, Tryd.ntmps34
      go_wp2_with (first
        | (go_at_call 16; ((with_reducible refine (HI.out _ (by assumption)).mono ?_); rintro e w1 ⟨rfl, hp1⟩))
        | (go_at_call 53; ((with_reducible refine (HC.out _ (by assumption)).mono ?_); rintro e w2 ⟨rfl, hp2⟩)))
      go_ret2
      exact ⟨rfl, hp2⟩
end Go.Proofs.YtdgcmapmnkopaaaDoor
