/-
  The walk of lines.visit with the function that Split hands to it, on a seat that has no other function of lines.
-/
import Derived.Test.YtidghjalfbklnaaRowPk
import Derived.Test.YtidghjalfbklnaaLnPlain
import Derived.OneCell
namespace Go.Proofs.Ytidghjalfbklnaa
open Go.RowKit

theorem u8_eq (c : UInt8) (n : Nat) (hn : n < 256) : ((c.toNat : Int) == (n : Int)) = (c == UInt8.ofNat n) := by
  by_cases h : c = UInt8.ofNat n
  · subst h; simp; omega
  · have : ¬ c.toNat = n := fun e => h (by rw [← e]; simp)
    have e1 : (c == UInt8.ofNat n) = false := by simp [h]
    rw [e1]
    simp only [beq_eq_false_iff_ne, ne_eq]
    omega
theorem u8_is {c : UInt8} {n : Nat} (hn : n < 256) (h : c = UInt8.ofNat n) : ((c.toNat : Int) == (n : Int)) = true := by rw [u8_eq c n hn, h]; simp
theorem u8_not {c : UInt8} {n : Nat} (hn : n < 256) (h : c ≠ UInt8.ofNat n) : ((c.toNat : Int) == (n : Int)) = false := by rw [u8_eq c n hn]; simp [h]
theorem u8_isn {c : UInt8} {n : Nat} (hn : n < 256) (h : c = UInt8.ofNat n) : ((c.toNat : Int) != (n : Int)) = false := by rw [bne, u8_is hn h]; rfl
theorem u8_notn {c : UInt8} {n : Nat} (hn : n < 256) (h : c ≠ UInt8.ofNat n) : ((c.toNat : Int) != (n : Int)) = true := by rw [bne, u8_not hn h]; rfl

theorem last_at {s : ByteArray} {n : Nat} (h : n + 1 = s.size) : s.data.toList.getLast? = some (s[n]'(by omega)) := by
  rw [List.getLast?_eq_getElem?, list_len, show s.size - 1 = n by omega, List.getElem?_eq_getElem (by rw [list_len]; omega)]
  rfl
theorem drop_last {s : ByteArray} {n : Nat} (h : n + 1 = s.size) : s.data.toList.dropLast = (s.extract 0 n).data.toList := by
  rw [ext_bytes, List.dropLast_eq_take, list_len, show s.size - 1 = n by omega]
  simp

/-- The lines that are still to come at offset k, the line that has begun there beginning at x. -/
def rest (l : List UInt8) (x k : Nat) : List (List UInt8) := spl ((l.drop x).take (k - x)) (l.drop k)
theorem rest_start (l : List UInt8) : rest l 0 0 = split l := rfl
theorem cur_next (s : ByteArray) (x k : Nat) (h : k < s.size) (hx : x ≤ k) : (s.data.toList.drop x).take (k + 1 - x) = (s.data.toList.drop x).take (k - x) ++ [s[k]] := by
  rw [show k + 1 - x = (k - x) + 1 by omega, List.take_succ_eq_append_getElem (by rw [List.length_drop, list_len]; omega), List.getElem_drop]
  congr 2
  simp only [show x + (k - x) = k by omega]
  rfl
theorem rest_skip (s : ByteArray) (x k : Nat) (h : k < s.size) (hx : x ≤ k) (hc : s[k] ≠ 10) : rest s.data.toList x k = rest s.data.toList x (k + 1) := by
  unfold rest
  rw [drop_byte s k h, spl, if_neg hc, cur_next s x k h hx]
theorem rest_hand (s : ByteArray) (x k : Nat) (h : k < s.size) (hx : x ≤ k) (hc : s[k] = 10 ∨ k + 1 = s.size) :
    rest s.data.toList x k = (s.extract x (k + 1)).data.toList :: rest s.data.toList (k + 1) (k + 1) := by
  have e : (s.extract x (k + 1)).data.toList = (s.data.toList.drop x).take (k - x) ++ [s[k]] := by rw [ext_bytes, cur_next s x k h hx]
  unfold rest
  rw [drop_byte s k h, spl, Nat.sub_self, List.take_zero, e]
  by_cases h10 : s[k] = 10
  · rw [if_pos h10]
  · rw [if_neg h10, drop_none s (k + 1) (by rcases hc with hc | hc; exact absurd hc h10; omega)]
    simp [spl]
theorem rest_end (s : ByteArray) {k : Nat} (h : s.size ≤ k) (x : Nat) (hx : x = k) : rest s.data.toList x k = [] := by
  unfold rest
  rw [drop_none s k h, hx, Nat.sub_self, List.take_zero]
  rfl

set_option maxHeartbeats 2000000 in
set_option maxRecDepth 4000 in
theorem visit_split (s : ByteArray) (B : Nat) (f : List UInt8 → Bool) (J : List (List UInt8) → World → Prop) (w : World) (hs : s.size ≤ 1048576)
    (HF : Hid (∀ (done : List (List UInt8)) (t : ByteArray) (wx : World), J done wx → 0 < t.size → t.size ≤ s.size → done.length < s.size → (join done).length + t.size ≤ s.size → Calls Try.prog 82 #[.string t, .pointer (some ⟨B, 0, none⟩)] wx fun e w' => e = .returned (.bool (f t.data.toList)) ∧ J (done ++ [t.data.toList]) w')) (h0 : J [] w) :
    Calls Try.prog 81 #[.string s, .func (.func 82) #[] #[.pointer (some ⟨B, 0, none⟩)]] w fun e w' => e = .returned (.tuple #[]) ∧ J (upto f (split s.data.toList)) w' := by
  obtain ⟨R, hR⟩ : ∃ R, R = upto f (split s.data.toList) := ⟨_, rfl⟩
  have HR : Hid (R = [] ++ upto f (rest s.data.toList 0 0)) := by show _ = _; rw [hR, rest_start]; rfl
  rw [← hR]
  have HJ : Hid (J [] w) := h0
  clear hR h0
  go_enter Try.func81, Try.ntmps81
  go_wp2
  go_loopw [4, 8] (fun xv i wr => ∃ (x k : Nat) (done : List (List UInt8)), xv = .int .i64 x ∧ i = .int .i64 k ∧ x ≤ k ∧ k ≤ s.size ∧ (k = s.size → x = k) ∧ done.length ≤ x ∧ (join done).length ≤ x ∧ R = done ++ upto f (rest s.data.toList x k) ∧ Hid (J done wr)) (fun _ i _ => s.size - (intOf i).toNat)
  case atStart => exact ⟨0, 0, [], rfl, rfl, by omega, by omega, by omega, by simp, by simp [join], HR.out, HJ⟩
  case round =>
    clear HR HJ
    obtain ⟨x, k, done, rfl, rfl, hxk, hks, hend, hdl, hjl, hR, HJ⟩ := hrel
    by_cases hlt : k < s.size
    · obtain ⟨m, hm⟩ : ∃ m, m + 1 = s.size := ⟨s.size - 1, by omega⟩
      have i1 : IntKind.i64.wrap ((s.size : Int) - 1) = (m : Int) := by rw [IntWalk.i64_in _ (by omega)]; omega
      by_cases hskip : s[k] ≠ 10 ∧ k < m
      · obtain ⟨h10, hkm⟩ := hskip
        have a1 : ((s[k].toNat : Int) != 10) = true := u8_notn (n := 10) (by decide) h10
        have d1 : decide (k < m) = true := by simp; omega
        rw [rest_skip s x k hlt hxk h10] at hR
        have HR : Hid (R = done ++ upto f (rest s.data.toList x (k + 1))) := hR
        have hk1 : k + 1 < s.size := by omega
        clear hR h10 hm hend
        go_wp2
        go_roundw
        case rel => exact ⟨x, k + 1, done, rfl, by go_num, by omega, by omega, by omega, hdl, hjl, HR.out, HJ⟩
        case measure => simp [intOf]; omega
      · obtain ⟨q, hq⟩ : ∃ q, q = k + 1 := ⟨_, rfl⟩
        have i2 : IntKind.i64.wrap ((k : Int) + 1) = (q : Int) := by rw [IntWalk.i64_in _ (by omega)]; omega
        have hxq : x ≤ q := by omega
        have hqs : q ≤ s.size := by omega
        obtain ⟨t, ht⟩ : ∃ t, t = s.extract x q := ⟨_, rfl⟩
        have hts : t.size = q - x := by rw [ht, ByteArray.size_extract]; omega
        have hh := rest_hand s x k hlt hxk (by by_cases h10 : s[k] = 10; exact .inl h10; exact .inr (by have : ¬ k < m := fun h => hskip ⟨h10, h⟩; omega))
        rw [← hq, ← ht] at hh
        rw [hh, upto] at hR
        have hcall := HF.out done t
        have HTX : Hid (s.extract x q = t) := ht.symm
        have HCALL : Hid (∀ wx, J done wx → Calls Try.prog 82 #[.string t, .pointer (some ⟨B, 0, none⟩)] wx fun e w' => e = .returned (.bool (f t.data.toList)) ∧ J (done ++ [t.data.toList]) w') := fun wx hj => hcall wx hj (by omega) (by omega) (by omega) (by omega)
        have hjn : (join (done ++ [t.data.toList])).length ≤ q := by
          simp only [join, List.flatten_append, List.length_append, List.flatten_cons, List.flatten_nil, List.append_nil, list_len] at hjl ⊢
          omega
        have HQ : Hid (q = k + 1) := hq
        have hdl2 : (done ++ [t.data.toList]).length ≤ q := by simp; omega
        cases hf : f t.data.toList with
        | true =>
          rw [hf, if_pos rfl] at hR
          have HR : Hid (R = (done ++ [t.data.toList]) ++ upto f (rest s.data.toList q q)) := by show _ = _; rw [hR]; simp
          have HC2 : Hid (Calls Try.prog 82 #[.string t, .pointer (some ⟨B, 0, none⟩)] wr fun e w' => e = .returned (.bool true) ∧ J (done ++ [t.data.toList]) w') := by have := HCALL.out wr HJ.out; rw [hf] at this; exact this
          clear hR hf hh hcall HCALL ht hts hend hq
          by_cases h10 : s[k] = 10
          · have a1 : ((s[k].toNat : Int) != 10) = false := u8_isn (n := 10) (by decide) h10
            clear hskip h10
            go_wp2_with (go_at_call 82; rw [HTX.out]; refine HC2.out.mono ?_; rintro e w1 ⟨rfl, hj1⟩; have HJ1 := Lib.hid hj1; clear hj1)
            go_roundw
            case rel => exact ⟨q, q, done ++ [t.data.toList], rfl, by rw [HQ.out]; try go_num, Nat.le_refl _, hqs, fun _ => rfl, hdl2, hjn, HR.out, HJ1⟩
            case measure => have := HQ.out; simp [intOf]; omega
          · have a1 : ((s[k].toNat : Int) != 10) = true := u8_notn (n := 10) (by decide) h10
            have d1 : decide (k < m) = false := by have : ¬ k < m := fun h => hskip ⟨h10, h⟩; simp; omega
            have d2 : m ≤ k := by simpa using d1
            clear hskip h10
            go_wp2_with (go_at_call 82; rw [HTX.out]; refine HC2.out.mono ?_; rintro e w1 ⟨rfl, hj1⟩; have HJ1 := Lib.hid hj1; clear hj1)
            go_roundw
            case rel => exact ⟨q, q, done ++ [t.data.toList], rfl, by rw [HQ.out]; try go_num, Nat.le_refl _, hqs, fun _ => rfl, hdl2, hjn, HR.out, HJ1⟩
            case measure => have := HQ.out; simp [intOf]; omega
        | false =>
          rw [hf, if_neg (by decide)] at hR
          have HR : Hid (R = done ++ [t.data.toList]) := hR
          have HC2 : Hid (Calls Try.prog 82 #[.string t, .pointer (some ⟨B, 0, none⟩)] wr fun e w' => e = .returned (.bool false) ∧ J (done ++ [t.data.toList]) w') := by have := HCALL.out wr HJ.out; rw [hf] at this; exact this
          clear hR hf hh hcall HCALL ht hts hend hq
          by_cases h10 : s[k] = 10
          · have a1 : ((s[k].toNat : Int) != 10) = false := u8_isn (n := 10) (by decide) h10
            clear hskip h10
            go_wp2_with (go_at_call 82; rw [HTX.out]; refine HC2.out.mono ?_; rintro e w1 ⟨rfl, hj1⟩; have HJ1 := Lib.hid hj1; clear hj1)
            (try simp only [Exit.inBlock, Exit.then])
            refine bodyPost_ret (results_none rfl _ _ _) rfl ?_
            exact ⟨rfl, by rw [HR.out]; exact HJ1.out⟩
          · have a1 : ((s[k].toNat : Int) != 10) = true := u8_notn (n := 10) (by decide) h10
            have d1 : decide (k < m) = false := by have : ¬ k < m := fun h => hskip ⟨h10, h⟩; simp; omega
            have d2 : m ≤ k := by simpa using d1
            clear hskip h10
            go_wp2_with (go_at_call 82; rw [HTX.out]; refine HC2.out.mono ?_; rintro e w1 ⟨rfl, hj1⟩; have HJ1 := Lib.hid hj1; clear hj1)
            (try simp only [Exit.inBlock, Exit.then])
            refine bodyPost_ret (results_none rfl _ _ _) rfl ?_
            exact ⟨rfl, by rw [HR.out]; exact HJ1.out⟩
    · have hkx : x = k := hend (by omega)
      have HX : Hid (R = done) := by show _ = _; rw [hR, rest_end s (by omega) x hkx]; simp [upto]
      clear hR hend hkx
      go_wp2
      go_end0
      exact ⟨rfl, by rw [HX.out]; exact HJ.out⟩
end Go.Proofs.Ytidghjalfbklnaa
