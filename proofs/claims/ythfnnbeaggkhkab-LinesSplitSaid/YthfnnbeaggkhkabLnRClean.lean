/-
  The walks of the reference's bare, Clean and First.
-/
import Derived.Test.YthfnnbeaggkhkabLnLives
import Derived.Test.YthfnnbeaggkhkabLnTidyPlain
namespace Go.Proofs.Ythfnnbeaggkhkab
open Go.RowKit

theorem sp_cases (c : UInt8) : (sp c = true ∧ (c = 32 ∨ c = 9 ∨ c = 13)) ∨ (sp c = false ∧ c ≠ 32 ∧ c ≠ 9 ∧ c ≠ 13) := by
  by_cases h1 : c = 32
  · exact .inl ⟨by rw [h1]; rfl, .inl h1⟩
  · by_cases h2 : c = 9
    · exact .inl ⟨by rw [h2]; rfl, .inr (.inl h2)⟩
    · by_cases h3 : c = 13
      · exact .inl ⟨by rw [h3]; rfl, .inr (.inr h3)⟩
      · exact .inr ⟨by simp [sp, h1, h2, h3], h1, h2, h3⟩
theorem ext_snoc (s : ByteArray) (n : Nat) (h : n < s.size) : (s.extract 0 (n + 1)).data.toList = (s.extract 0 n).data.toList ++ [s[n]] := by
  rw [ext_bytes, ext_bytes, List.drop_zero, Nat.sub_zero, Nat.sub_zero, take_snoc s n h]
theorem ext_all (s : ByteArray) : s.extract 0 s.size = s := ba_ext (by rw [ext_bytes, List.drop_zero, Nat.sub_zero, take_all])

set_option maxHeartbeats 2000000 in
set_option maxRecDepth 4000 in
theorem bare_any (s r : ByteArray) (w : World) (hs : s.size ≤ 1048576) (h0 : 0 < s.size) (hr : r.data.toList = trim s.data.toList) :
    Calls Try.prog 36 #[.string s] w fun e w' => e = .returned (.string r) ∧ w = w' := by
  obtain ⟨m, hm⟩ : ∃ m, m + 1 = s.size := ⟨s.size - 1, by omega⟩
  have i1 : IntKind.i64.wrap ((s.size : Int) - 1) = (m : Int) := by rw [IntWalk.i64_in _ (by omega)]; omega
  have hlt : m < s.size := by omega
  have hl := last_at hm
  by_cases hc : s[m] = 10
  · have a0 : ((s[m].toNat : Int) == 10) = true := u8_is (n := 10) (by decide) hc
    have HR : Hid (r.data.toList = trimR (s.extract 0 m).data.toList) := by show _ = _; rw [hr, trim, cont, if_pos (by rw [hl, hc]), drop_last hm]
    clear hr hl hc hm
    go_enter Try.func36, Try.ntmps36
    go_wp2
    clear a0 i1
    go_loop [3] (fun t => ∃ n : Nat, n ≤ s.size ∧ t = .int .i64 n ∧ r.data.toList = trimR (s.extract 0 n).data.toList) (fun t => (intOf t).toNat)
    case atStart => exact ⟨m, by omega, rfl, HR.out⟩
    case round =>
      clear HR
      obtain ⟨n, hn, rfl, hR⟩ := hrel
      by_cases h0 : n = 0
      · have HX : Hid (r = ByteArray.empty) := ba_ext (by rw [hR, h0, ext_bytes]; rfl)
        have d0 : decide (0 < n) = false := by simp; omega
        clear hR
        go_wp2
        go_ret
        exact ⟨ret_str HX.out.symm, rfl⟩
      · obtain ⟨j, rfl⟩ : ∃ j, n = j + 1 := ⟨n - 1, by omega⟩
        have d0 : (0 : Int) < ((j : Int) + 1) := by omega
        have hj : j < s.size := by omega
        rw [ext_snoc s j hj] at hR
        have hcast : (((j + 1 : Nat) : Nat) : Int) = (j : Int) + 1 := by omega
        rw [hcast]
        have i1 : IntKind.i64.wrap ((j : Int) + 1 - 1) = (j : Int) := by rw [IntWalk.i64_in _ (by omega)]; omega
        have i2 : (j : Int) + 1 - 1 = (j : Int) := by omega
        clear hcast
        rcases sp_cases s[j] with ⟨hsp, hc⟩ | ⟨hsp, h32, h9, h13⟩
        · rw [trimR_sp _ _ hsp] at hR
          have HX : Hid (r.data.toList = trimR (s.extract 0 j).data.toList) := hR
          clear hR hsp
          rcases hc with hc | hc | hc
          · have a1 : ((s[j].toNat : Int) == 32) = true := u8_is (n := 32) (by decide) hc
            clear hc
            go_wp2
            go_round
            case rel => exact ⟨j, by omega, rfl, HX.out⟩
            case measure => simp [intOf]; try omega
          · have a1 : ((s[j].toNat : Int) == 32) = false := u8_not (n := 32) (by decide) (by rw [hc]; decide)
            have a2 : ((s[j].toNat : Int) == 9) = true := u8_is (n := 9) (by decide) hc
            clear hc
            go_wp2
            go_round
            case rel => exact ⟨j, by omega, rfl, HX.out⟩
            case measure => simp [intOf]; try omega
          · have a1 : ((s[j].toNat : Int) == 32) = false := u8_not (n := 32) (by decide) (by rw [hc]; decide)
            have a2 : ((s[j].toNat : Int) == 9) = false := u8_not (n := 9) (by decide) (by rw [hc]; decide)
            have a3 : ((s[j].toNat : Int) == 13) = true := u8_is (n := 13) (by decide) hc
            clear hc
            go_wp2
            go_round
            case rel => exact ⟨j, by omega, rfl, HX.out⟩
            case measure => simp [intOf]; try omega
        · rw [trimR_not _ _ hsp, ← ext_snoc s j hj] at hR
          have HX : Hid (r = s.extract 0 (j + 1)) := ba_ext hR
          have a1 : ((s[j].toNat : Int) == 32) = false := u8_not (n := 32) (by decide) h32
          have a2 : ((s[j].toNat : Int) == 9) = false := u8_not (n := 9) (by decide) h9
          have a3 : ((s[j].toNat : Int) == 13) = false := u8_not (n := 13) (by decide) h13
          have i3 : ((j : Int) + 1).toNat = j + 1 := by omega
          clear hR hsp h32 h9 h13
          go_wp2
          go_ret
          exact ⟨ret_str HX.out.symm, rfl⟩
  
  · have a0 : ((s[m].toNat : Int) == 10) = false := u8_not (n := 10) (by decide) hc
    have HR : Hid (r.data.toList = trimR (s.extract 0 s.size).data.toList) := by show _ = _; rw [hr, trim, cont, if_neg (by rw [hl]; simpa using hc), ext_all]
    clear hr hl hc hm
    go_enter Try.func36, Try.ntmps36
    go_wp2
    clear a0 i1
    go_loop [3] (fun t => ∃ n : Nat, n ≤ s.size ∧ t = .int .i64 n ∧ r.data.toList = trimR (s.extract 0 n).data.toList) (fun t => (intOf t).toNat)
    case atStart => exact ⟨s.size, by omega, rfl, HR.out⟩
    case round =>
      clear HR
      obtain ⟨n, hn, rfl, hR⟩ := hrel
      by_cases h0 : n = 0
      · have HX : Hid (r = ByteArray.empty) := ba_ext (by rw [hR, h0, ext_bytes]; rfl)
        have d0 : decide (0 < n) = false := by simp; omega
        clear hR
        go_wp2
        go_ret
        exact ⟨ret_str HX.out.symm, rfl⟩
      · obtain ⟨j, rfl⟩ : ∃ j, n = j + 1 := ⟨n - 1, by omega⟩
        have d0 : (0 : Int) < ((j : Int) + 1) := by omega
        have hj : j < s.size := by omega
        rw [ext_snoc s j hj] at hR
        have hcast : (((j + 1 : Nat) : Nat) : Int) = (j : Int) + 1 := by omega
        rw [hcast]
        have i1 : IntKind.i64.wrap ((j : Int) + 1 - 1) = (j : Int) := by rw [IntWalk.i64_in _ (by omega)]; omega
        have i2 : (j : Int) + 1 - 1 = (j : Int) := by omega
        clear hcast
        rcases sp_cases s[j] with ⟨hsp, hc⟩ | ⟨hsp, h32, h9, h13⟩
        · rw [trimR_sp _ _ hsp] at hR
          have HX : Hid (r.data.toList = trimR (s.extract 0 j).data.toList) := hR
          clear hR hsp
          rcases hc with hc | hc | hc
          · have a1 : ((s[j].toNat : Int) == 32) = true := u8_is (n := 32) (by decide) hc
            clear hc
            go_wp2
            go_round
            case rel => exact ⟨j, by omega, rfl, HX.out⟩
            case measure => simp [intOf]; try omega
          · have a1 : ((s[j].toNat : Int) == 32) = false := u8_not (n := 32) (by decide) (by rw [hc]; decide)
            have a2 : ((s[j].toNat : Int) == 9) = true := u8_is (n := 9) (by decide) hc
            clear hc
            go_wp2
            go_round
            case rel => exact ⟨j, by omega, rfl, HX.out⟩
            case measure => simp [intOf]; try omega
          · have a1 : ((s[j].toNat : Int) == 32) = false := u8_not (n := 32) (by decide) (by rw [hc]; decide)
            have a2 : ((s[j].toNat : Int) == 9) = false := u8_not (n := 9) (by decide) (by rw [hc]; decide)
            have a3 : ((s[j].toNat : Int) == 13) = true := u8_is (n := 13) (by decide) hc
            clear hc
            go_wp2
            go_round
            case rel => exact ⟨j, by omega, rfl, HX.out⟩
            case measure => simp [intOf]; try omega
        · rw [trimR_not _ _ hsp, ← ext_snoc s j hj] at hR
          have HX : Hid (r = s.extract 0 (j + 1)) := ba_ext hR
          have a1 : ((s[j].toNat : Int) == 32) = false := u8_not (n := 32) (by decide) h32
          have a2 : ((s[j].toNat : Int) == 9) = false := u8_not (n := 9) (by decide) h9
          have a3 : ((s[j].toNat : Int) == 13) = false := u8_not (n := 13) (by decide) h13
          have i3 : ((j : Int) + 1).toNat = j + 1 := by omega
          clear hR hsp h32 h9 h13
          go_wp2
          go_ret
          exact ⟨ret_str HX.out.symm, rfl⟩
  
/-- Lines that are split off are lines. -/
theorem split_line (l : List UInt8) (k : Nat) (h : k < (split l).length) : isLine (split l)[k] = true := ok_all (split_ok l) _ (List.getElem_mem h)
theorem line_pos {x : List UInt8} (h : isLine x = true) : 0 < x.length := by
  cases x with
  | nil => simp [isLine] at h
  | cons a b => simp
theorem cont_nil {x : List UInt8} (h : isLine x = true) : cont x = [] ↔ x = [10] := by
  constructor
  · intro hc
    unfold cont at hc
    split at hc
    · rename_i hl
      simp only [isLine, Bool.and_eq_true, Bool.not_eq_true', List.isEmpty_eq_false_iff] at h
      obtain ⟨h1, h2⟩ := h
      have e := List.dropLast_concat_getLast h1
      rw [hc, List.nil_append] at e
      rw [List.getLast?_eq_some_getLast h1, Option.some.injEq] at hl
      rw [hl] at e
      exact e.symm
    · rw [hc] at h; cases h
  · intro e; rw [e]; rfl
theorem split_le (l : List UInt8) : (split l).length ≤ l.length := by
  have h : ∀ (ls : List (List UInt8)), (∀ x ∈ ls, isLine x = true) → ls.length ≤ (join ls).length := by
    intro ls
    induction ls with
    | nil => intro _; simp
    | cons x r ih =>
      intro hx
      have := ih (fun y hy => hx y (by simp [hy]))
      have := line_pos (hx x (by simp))
      simp only [join, List.flatten_cons, List.length_append, List.length_cons] at this ⊢
      simp only [join] at *
      omega
  have := h (split l) (ok_all (split_ok l))
  rw [split_join] at this
  exact this
theorem first_cons_nil {x : List UInt8} {r : List (List UInt8)} (h : cont x = []) : first (x :: r) = first r := by rw [first, if_pos h]
theorem first_cons {x : List UInt8} {r : List (List UInt8)} (h : cont x ≠ []) : first (x :: r) = cont x := by rw [first, if_neg h]

set_option maxHeartbeats 2000000 in
set_option maxRecDepth 4000 in
theorem rFirst_any (s r : ByteArray) (w : World) (hs : s.size ≤ 1048576) (hr : r.data.toList = first (split s.data.toList)) :
    Calls Try.prog 17 #[.string s] w fun e w' => e = .returned (.string r) ∧ Below w.heap.size w w' := by
  obtain ⟨ls, hls⟩ : ∃ ls, ls = split s.data.toList := ⟨_, rfl⟩
  obtain ⟨n, hn⟩ : ∃ n, n = (split s.data.toList).length := ⟨_, rfl⟩
  have HSP : Hid (∀ w, Calls Try.prog 13 #[.string s] w fun e w' => (∃ p cap, e = .returned (.slice p n cap) ∧ SRw w' p ls) ∧ Below w.heap.size w w') := fun w => by rw [hls]; exact rSplit_any s w hs n hn
  have HL : Hid (∀ k (h : k < ls.length), isLine ls[k] = true) := by subst hls; exact fun k h => split_line _ k h
  have HJ : Hid (∀ k (h : k < ls.length), ls[k].length ≤ 1048576) := by
    subst hls
    intro k h
    have := join_at_le (split s.data.toList) k h
    rw [split_join, list_len] at this
    omega
  have hn2 : n ≤ 1048576 := by have := split_le s.data.toList; rw [list_len] at this; omega
  have HN : Hid (n = ls.length) := by rw [hls]; exact hn
  have HR : Hid (r.data.toList = first (ls.drop 0)) := by rw [hls]; exact hr
  clear hls hn hr
  go_enter Try.func17, Try.ntmps17
  go_wp2_with (go_at_call 13; ((with_reducible refine (HSP.out _).mono ?_); rintro e w1 ⟨⟨p, cap, rfl, hp⟩, hb1⟩))
  go_loop [10] (fun i => ∃ k : Nat, k ≤ n ∧ i = .int .i64 k ∧ r.data.toList = first (ls.drop k)) (fun i => n - (intOf i).toNat)
  case atStart => exact ⟨0, by omega, rfl, HR.out⟩
  case round =>
    clear HR
    obtain ⟨k, hk, rfl, hR⟩ := hrel
    by_cases hlt : k < n
    · have hkl : k < ls.length := by rw [← HN.out]; exact hlt
      obtain ⟨g, o, rfl, hg, hc⟩ := hp k hkl
      obtain ⟨x, hx⟩ : ∃ x, x = ls[k] := ⟨_, rfl⟩
      rw [List.drop_eq_getElem_cons hkl, ← hx] at hR
      rw [← hx] at hc
      have hxl : isLine x = true := by rw [hx]; exact HL.out k hkl
      have hxn : x.length ≤ 1048576 := by rw [hx]; exact HJ.out k hkl
      have hx0 := line_pos hxl
      by_cases h10 : x = [10]
      · have hc2 : w1.cell? ⟨g, o + k, none⟩ = some (.string ⟨#[10]⟩) := by rw [hc, h10]; rfl
        rw [first_cons_nil ((cont_nil hxl).2 h10)] at hR
        have HX : Hid (r.data.toList = first (ls.drop (k + 1))) := hR
        clear hR hx hxl hxn hx0 h10 hc hkl
        go_wp2
        go_round
        case rel => exact ⟨k + 1, by omega, by go_num, HX.out⟩
        case measure => simp [intOf]; omega
      · have hne : str x ≠ ⟨#[10]⟩ := fun e => h10 (by have := congrArg (fun b : ByteArray => b.data.toList) e; exact this)
        rw [first_cons (fun e => h10 ((cont_nil hxl).1 e))] at hR
        obtain ⟨t, ht⟩ : ∃ t, t = str x := ⟨_, rfl⟩
        rw [← ht] at hc hne
        have hts : t.size = x.length := by rw [ht, str_size]
        have htl : t.data.toList = x := by rw [ht, str_list]
        obtain ⟨m, hm⟩ : ∃ m, m + 1 = t.size := ⟨t.size - 1, by omega⟩
        have e1 := ba_ne hne
        have i1 : IntKind.i64.wrap ((t.size : Int) - 1) = (m : Int) := by rw [IntWalk.i64_in _ (by omega)]; omega
        have hm2 : m < t.size := by omega
        have hm3 : t.size ≤ 1048576 := by omega
        have hl := last_at hm
        have htt : t.toList ≠ [10] := by rw [ByteArray.toList_eq, htl]; exact h10
        have e2 : (t.toList == [10]) = false := by simpa using htt
        have e3 : (t.toList != [10]) = true := by simpa using htt
        by_cases hc10 : t[m] = 10
        · have a0 : ((t[m].toNat : Int) == 10) = true := u8_is (n := 10) (by decide) hc10
          have HX : Hid (r = t.extract 0 m) := ba_ext (by rw [hR, ← htl, cont, if_pos (by rw [hl, hc10]), drop_last hm])
          clear hR hx hxl hxn hx0 h10 hkl hne ht hts htl hl hm hc10 htt
          go_wp2
          go_ret
          exact ⟨ret_str HX.out.symm, hb1⟩
        · have a0 : ((t[m].toNat : Int) == 10) = false := u8_not (n := 10) (by decide) hc10
          have HX : Hid (r = t.extract 0 t.size) := ba_ext (by rw [hR, ← htl, cont, if_neg (by rw [hl]; simpa using hc10), ext_all])
          clear hR hx hxl hxn hx0 h10 hkl hne ht hts htl hl hm hc10 htt
          go_wp2
          go_ret
          exact ⟨ret_str (by rw [HX.out]; try rw [ext_all]), hb1⟩
    · have HX : Hid (r = ⟨#[]⟩) := ba_ext (by rw [hR, List.drop_eq_nil_of_le (by rw [← HN.out]; omega)]; rfl)
      clear hR
      go_wp2
      go_ret
      exact ⟨ret_str HX.out.symm, hb1⟩
end Go.Proofs.Ythfnnbeaggkhkab
