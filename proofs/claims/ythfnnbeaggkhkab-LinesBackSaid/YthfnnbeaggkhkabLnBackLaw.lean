/-
  The walk of the reference's Lines; the laws LinesSplit and LinesBack.
-/
import Derived.Test.YthfnnbeaggkhkabLnCleanSLaw
namespace Go.Proofs.Ythfnnbeaggkhkab
open Go.RowKit

/-- No line feed but at the end. -/
def nl (l : List UInt8) : Bool := l.dropLast.all (· != 10)
theorem nl_one (c : UInt8) : nl [c] = true := rfl
theorem nl_cons (c : UInt8) {l : List UInt8} (h : l ≠ []) : nl (c :: l) = ((c != 10) && nl l) := by
  cases l with
  | nil => exact absurd rfl h
  | cons a b => simp [nl]
def tailOk (x : List UInt8) (r : List (List UInt8)) : Bool := r.isEmpty || ((x.getLast? == some 10) && okLines r)
theorem okLines_cons (x : List UInt8) (r : List (List UInt8)) : okLines (x :: r) = (!x.isEmpty && nl x && tailOk x r) := by
  cases r with
  | nil => simp [okLines, isLine, tailOk, nl]
  | cons y r => simp [okLines, isLine, tailOk, nl, Bool.and_assoc]

set_option maxHeartbeats 4000000 in
set_option maxRecDepth 4000 in
theorem rLines_any (ls : List (List UInt8)) (p : Option Addr) (c n : Nat) (b : Bool) (w : World) (hn : n = ls.length) (hp : SRw w p ls) (hn2 : n ≤ 1048576) (hx : ∀ x ∈ ls, x.length ≤ 1048576) (hb : okLines ls = b) :
    Calls Try.prog 28 #[.slice p n c] w fun e w' => e = .returned (.bool b) ∧ w = w' := by
  have HN := Lib.hid hn
  have HXL := Lib.hid hx
  have HR : Hid (b = okLines (ls.drop 0)) := hb.symm
  clear hn hb hx
  go_enter Try.func28, Try.ntmps28
  go_wp2
  go_loop [8] (fun i => ∃ k : Nat, k ≤ n ∧ i = .int .i64 k ∧ b = okLines (ls.drop k)) (fun i => n - (intOf i).toNat)
  case atStart => exact ⟨0, by omega, rfl, HR.out⟩
  case round =>
    clear HR
    obtain ⟨k, hk, rfl, hR⟩ := hrel
    by_cases hlt : k < n
    · have hkl : k < ls.length := by rw [← HN.out]; exact hlt
      obtain ⟨g, o, rfl, hg, hc⟩ := hp k hkl
      obtain ⟨x, hx⟩ : ∃ x, x = ls[k] := ⟨_, rfl⟩
      rw [List.drop_eq_getElem_cons hkl, ← hx, okLines_cons] at hR
      have hxn : x.length ≤ 1048576 := by rw [hx]; exact HXL.out _ (List.getElem_mem hkl)
      rw [← hx] at hc
      obtain ⟨t, ht⟩ : ∃ t, t = str x := ⟨_, rfl⟩
      rw [← ht] at hc
      have hts : t.size = x.length := by rw [ht, str_size]
      have htl : t.data.toList = x := by rw [ht, str_list]
      have ht1 : t.size ≤ 1048576 := by omega
      obtain ⟨z, hz⟩ : ∃ z, z + 1 = n := ⟨n - 1, by omega⟩
      have i9 : IntKind.i64.wrap ((n : Int) - 1) = (z : Int) := by rw [IntWalk.i64_in _ (by omega)]; omega
      by_cases ht0 : t.size = 0
      · have hx0 : x = [] := List.eq_nil_of_length_eq_zero (by omega)
        have HX : Hid (b = false) := by show _ = _; rw [hR, hx0]; rfl
        have d0 : ((t.size : Int) == 0) = true := by rw [ht0]; rfl
        clear hR hx hxn ht hts htl hx0 ht0 hkl
        go_wp2
        go_ret
        exact ⟨ret_bool HX.out.symm, rfl⟩
      · obtain ⟨q, hq⟩ : ∃ q, q + 1 = t.size := ⟨t.size - 1, by omega⟩
        have hq2 : q < t.size := by omega
        have i1 : IntKind.i64.wrap ((t.size : Int) - 1) = (q : Int) := by rw [IntWalk.i64_in _ (by omega)]; omega
        have d0 : ((t.size : Int) == 0) = false := by rw [beq_eq_false_iff_ne]; omega
        have hxe : x.isEmpty = false := by cases hxx : x with | nil => rw [hxx] at hts; exact absurd hts ht0 | cons a r => rfl
        rw [hxe] at hR
        simp only [Bool.not_false, Bool.true_and] at hR
        obtain ⟨tl, htlo⟩ : ∃ tl, tl = tailOk x (ls.drop (k + 1)) := ⟨_, rfl⟩
        rw [← htlo, ← htl] at hR
        have HTL := Lib.hid htlo
        have hl : x.getLast? = some (t[q]'hq2) := by rw [← htl]; exact last_at hq
        have HL := Lib.hid hl
        have HZ : Hid (z + 1 = n) := hz
        have HR0 : Hid (b = (nl (t.data.toList.drop 0) && tl)) := hR
        have HXT := Lib.hid htl
        have HQ : Hid (q + 1 = t.size) := hq
        clear hR hx hxn ht hts htl hxe ht0 htlo hl hkl hz hq
        go_wp2
        clear d0
        go_loop [19] (fun iv => ∃ j : Nat, j ≤ t.size ∧ iv = .int .i64 j ∧ b = (nl (t.data.toList.drop j) && tl)) (fun iv => t.size - (intOf iv).toNat)
        case atStart => exact ⟨0, by omega, rfl, HR0.out⟩
        case round =>
          clear HR0
          obtain ⟨j, hj, rfl, hJ⟩ := hrel
          by_cases hjl : j < t.size
          · rw [drop_byte t j hjl] at hJ
            by_cases hjq : j < q
            · have hne : t.data.toList.drop (j + 1) ≠ [] := by
                rw [drop_byte t (j + 1) (by have := HQ.out; omega)]
                simp
              rw [nl_cons _ hne] at hJ
              have dj : decide (j < q) = true := decide_eq_true hjq
              by_cases h10 : t[j] = 10
              · have a1 : ((t[j].toNat : Int) == 10) = true := u8_is (n := 10) (by decide) h10
                have HX : Hid (b = false) := by show _ = _; rw [hJ, h10]; rfl
                clear hJ h10 hne
                go_wp2
                go_ret
                exact ⟨ret_bool HX.out.symm, rfl⟩
              · have a1 : ((t[j].toNat : Int) == 10) = false := u8_not (n := 10) (by decide) h10
                have HX : Hid (b = (nl (t.data.toList.drop (j + 1)) && tl)) := by show _ = _; rw [hJ, show (t[j] != 10) = true from bne_iff_ne.2 h10, Bool.true_and]
                clear hJ h10 hne
                go_wp2
                go_round
                case rel => exact ⟨j + 1, by omega, by go_num, HX.out⟩
                case measure => simp [intOf]; omega
            · have dj : decide (j < q) = false := decide_eq_false hjq
              have hend : t.data.toList.drop (j + 1) = [] := drop_none t (j + 1) (by have := HQ.out; omega)
              rw [hend] at hJ
              have HX : Hid (b = (nl (t.data.toList.drop (j + 1)) && tl)) := by show _ = _; rw [hJ, hend]; rfl
              clear hJ hend
              by_cases h10 : t[j] = 10
              · have a1 : ((t[j].toNat : Int) == 10) = true := u8_is (n := 10) (by decide) h10
                clear h10
                go_wp2
                go_round
                case rel => exact ⟨j + 1, by omega, by go_num, HX.out⟩
                case measure => simp [intOf]; omega
              · have a1 : ((t[j].toNat : Int) == 10) = false := u8_not (n := 10) (by decide) h10
                clear h10
                go_wp2
                go_round
                case rel => exact ⟨j + 1, by omega, by go_num, HX.out⟩
                case measure => simp [intOf]; omega
          · rw [drop_none t j (by omega)] at hJ
            have hb : b = tl := by rw [hJ]; rfl
            rw [HTL.out, tailOk, HL.out] at hb
            by_cases hkz : k < z
            · have dk : decide (k < z) = true := decide_eq_true hkz
              have hre : (ls.drop (k + 1)).isEmpty = false := by
                rw [List.drop_eq_getElem_cons (by have := HN.out; have := HZ.out; omega)]
                rfl
              rw [hre, Bool.false_or] at hb
              by_cases h10 : t[q] = 10
              · have a1 : ((t[q].toNat : Int) != 10) = false := u8_isn (n := 10) (by decide) h10
                have HX : Hid (b = okLines (ls.drop (k + 1))) := by show _ = _; rw [hb, h10]; simp
                clear hJ hb hre h10
                go_wp2
                go_round
                case rel => exact ⟨k + 1, by omega, by go_num, HX.out⟩
                case measure => simp [intOf]; omega
              · have a1 : ((t[q].toNat : Int) != 10) = true := u8_notn (n := 10) (by decide) h10
                have HX : Hid (b = false) := by show _ = _; rw [hb]; simp [h10]
                clear hJ hb hre h10
                go_wp2
                go_ret
                exact ⟨ret_bool HX.out.symm, rfl⟩
            · have dk : decide (k < z) = false := decide_eq_false hkz
              have hre : ls.drop (k + 1) = [] := List.drop_eq_nil_of_le (by have := HN.out; have := HZ.out; omega)
              rw [hre] at hb
              have HX : Hid (b = okLines (ls.drop (k + 1))) := by show _ = _; rw [hb, hre]; rfl
              clear hJ hb hre
              by_cases h10 : t[q] = 10
              · have a1 : ((t[q].toNat : Int) != 10) = false := u8_isn (n := 10) (by decide) h10
                clear h10
                go_wp2
                go_round
                case rel => exact ⟨k + 1, by omega, by go_num, HX.out⟩
                case measure => simp [intOf]; omega
              · have a1 : ((t[q].toNat : Int) != 10) = true := u8_notn (n := 10) (by decide) h10
                clear h10
                go_wp2
                go_round
                case rel => exact ⟨k + 1, by omega, by go_num, HX.out⟩
                case measure => simp [intOf]; omega
    · have HX : Hid (b = true) := by show _ = _; rw [hR, List.drop_eq_nil_of_le (by rw [← HN.out]; omega)]; rfl
      clear hR
      go_wp2
      go_ret
      exact ⟨ret_bool HX.out.symm, rfl⟩

/-- RoundTrips, seen from the byte ahead. -/
def pr (p : UInt8) : List UInt8 → Bool
  | [] => true
  | c :: l => if c = 10 ∧ p = 13 then false else pr c l
theorem pr_rt (l : List UInt8) (p : UInt8) : pr p l = if p = 13 ∧ l.head? = some 10 then false else rt l := by
  induction l generalizing p with
  | nil => simp [pr, rt]
  | cons c l ih =>
    rw [pr, ih, rt]
    by_cases h : c = 10 ∧ p = 13
    · rw [if_pos h, if_pos ⟨h.2, by rw [h.1]; rfl⟩]
    · rw [if_neg h, if_neg (c := p = 13 ∧ (c :: l).head? = some 10) (fun x => h ⟨by simpa using x.2, x.1⟩)]
theorem rt_pr (l : List UInt8) : rt l = pr 0 l := by rw [pr_rt, if_neg (by simp)]
theorem pr_drop (s : ByteArray) (k : Nat) (h : k < s.size) : pr (prv s.data.toList k) (s.data.toList.drop k) = if s[k] = 10 ∧ prv s.data.toList k = 13 then false else pr (prv s.data.toList (k + 1)) (s.data.toList.drop (k + 1)) := by
  rw [drop_byte s k h, pr, prv_next s k h]

theorem rSame_inv {W w : World} (h : Below W.heap.size W w) (ls : List (List UInt8)) (p q : Option Addr) (c d n : Nat) (hn : n = ls.length) (hp : SRw w p ls) (hq : SRw w q ls) (hl : n ≤ 1099511627776) :
    Calls Try.prog 11 #[.slice p n c, .slice q n d] w fun e w' => e = .returned (.bool true) ∧ Below W.heap.size W w' :=
  (rSame_any ls p q c d n w hn hp hq hl).mono fun _ _ ⟨he, k, hk⟩ => ⟨he, by rw [hk]; exact below_drewN h k⟩

/-- What the laws over a list of strings are handed. -/
structure LnArg (W : World) (p : Option Addr) (ls : List (List UInt8)) (n : Nat) : Prop where
  len : n = ls.length
  row : SRw W p ls
  few : n ≤ 8796093022208
  short : ∀ x ∈ ls, x.length ≤ 281474976710656


set_option maxHeartbeats 4000000 in
set_option maxRecDepth 4000 in
theorem lnSplit_walk (s : ByteArray) (p : Option Addr) (cap n : Nat) (ls : List (List UInt8)) (W : World) (hh : LnArg W p ls n) : Calls Try.prog 3 #[.string s, .slice p n cap] W fun e W' => e = .returned (.bool true) ∧ Below W.heap.size W W' := by
  have hb0 := Below.refl W.heap.size W
  have HH := Lib.hid hh
  clear hh
  by_cases h1 : 5000 < s.size
  · go_enter Try.func3, Try.ntmps3
    go_wp2_with (go_at_call 10; ((with_reducible refine (lives_inv hb0).mono ?_); rintro e w' ⟨rfl, hi⟩))
    go_ret
    exact ⟨rfl, hi⟩
  · by_cases h2 : (join ls).length ≤ 5000 ∧ n ≤ 500
    · have HSH : Hid (∀ w, SRw w p ls → Calls Try.prog 9 #[.slice p n cap, .int .i64 500, .int .i64 5000] w fun e w' => e = .returned (.bool true) ∧ w = w') := fun w hp =>
        rShort_any ls p cap n 500 5000 true w HH.out.len hp HH.out.few (by omega) (by omega) HH.out.short (by rw [decide_eq_true h2])
      obtain ⟨m, hm⟩ : ∃ m, m = (split s.data.toList).length := ⟨_, rfl⟩
      obtain ⟨j, hj⟩ : ∃ j, j = str (join ls) := ⟨_, rfl⟩
      obtain ⟨f, hf⟩ : ∃ f, f = str (first (split s.data.toList)) := ⟨_, rfl⟩
      have hm2 : m ≤ 5000 := by have := split_le s.data.toList; rw [list_len] at this; omega
      have HM := Lib.hid hm
      have HJ := Lib.hid hj
      have HF : Hid (f.data.toList = first (split s.data.toList)) := by show _ = _; rw [hf, str_list]
      have HT : Hid ((join ls).length ≤ 1048576) := by show _ ≤ _; omega
      have hn5 : n ≤ 500 := h2.2
      clear hm hj hf h2
      go_enter Try.func3, Try.ntmps3
      go_wp2_with (first
        | (go_at_call 9; ((with_reducible refine (HSH.out _ HH.out.row).mono ?_); rintro e w0 ⟨rfl, rfl⟩))
        | (go_at_call 12; ((with_reducible refine (split_inv hb0 s (by omega) m HM.out).mono ?_); rintro e w1 ⟨⟨p1, c1, rfl, r1⟩, h1⟩))
        | (go_at_call 13; ((with_reducible refine (rSplit_any s _ (by omega) m HM.out).mono ?_); rintro e w2 ⟨⟨p2, c2, rfl, r2⟩, hb2⟩; have r1 := r1.below hb2; have h2 := h1.trans (hb2.mono h1.size); clear hb2))
        | (go_at_call 11; ((with_reducible refine (rSame_inv h2 _ p1 p2 c1 c2 m HM.out r1 r2 (by omega)).mono ?_); rintro e w3 ⟨rfl, h3⟩; have q3 := HH.out.row.below h3))
        | (go_at_call 14; ((with_reducible refine (join_any ls p cap n j _ HH.out.len q3 HJ.out HT.out (by omega)).mono ?_); rintro e w4 ⟨rfl, hb4⟩; have h4 := h3.trans (hb4.mono h3.size); have q4 := HH.out.row.below h4; clear hb4))
        | (go_at_call 15; ((with_reducible refine (rJoin_any ls p cap n j _ HH.out.len q4 HJ.out HT.out (by omega)).mono ?_); rintro e w5 ⟨rfl, hb5⟩; have h5 := h4.trans (hb5.mono h4.size); clear hb5))
        | (go_at_call 16; ((with_reducible refine (first_inv h5 s f (by omega) HF.out).mono ?_); rintro e w6 ⟨rfl, h6⟩))
        | (go_at_call 17; ((with_reducible refine (rFirst_any s f _ (by omega) HF.out).mono ?_); rintro e w7 ⟨rfl, hb7⟩; have h7 := h6.trans (hb7.mono h6.size); clear hb7))
        | (go_at_call 10; ((with_reducible refine (lives_inv h7).mono ?_); rintro e w9 ⟨rfl, h9⟩)))
      go_ret
      exact ⟨rfl, h9⟩
    · have HSH : Hid (∀ w, SRw w p ls → Calls Try.prog 9 #[.slice p n cap, .int .i64 500, .int .i64 5000] w fun e w' => e = .returned (.bool false) ∧ w = w') := fun w hp =>
        rShort_any ls p cap n 500 5000 false w HH.out.len hp HH.out.few (by omega) (by omega) HH.out.short (by rw [decide_eq_false h2])
      clear h2
      go_enter Try.func3, Try.ntmps3
      go_wp2_with (first
        | (go_at_call 9; ((with_reducible refine (HSH.out _ HH.out.row).mono ?_); rintro e w0 ⟨rfl, rfl⟩))
        | (go_at_call 10; ((with_reducible refine (lives_inv hb0).mono ?_); rintro e w' ⟨rfl, hi⟩)))
      go_ret
      exact ⟨rfl, hi⟩
end Go.Proofs.Ythfnnbeaggkhkab
