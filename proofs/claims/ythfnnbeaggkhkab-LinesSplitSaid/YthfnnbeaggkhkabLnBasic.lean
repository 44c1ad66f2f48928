/-
  The walks of isSpace, content, trimmed, crlfAt, ToLF, ToCRLF, Binary, RoundTrips.
-/
import Derived.Test.YthfnnbeaggkhkabRow
import Derived.Test.YthfnnbeaggkhkabLnPlain
namespace Go.Proofs.Ythfnnbeaggkhkab
open Go.RowKit

theorem u8_eq (c : UInt8) (n : Nat) (hn : n < 256) : ((c.toNat : Int) == (n : Int)) = (c == UInt8.ofNat n) := by
  by_cases h : c = UInt8.ofNat n
  · subst h; simp; omega
  · have : ¬ c.toNat = n := fun e => h (by rw [← e]; simp)
    have e1 : (c == UInt8.ofNat n) = false := by simp [h]
    rw [e1]
    simp only [beq_eq_false_iff_ne, ne_eq]
    omega
theorem u8_is {c : UInt8} {n : Nat} (hn : n < 256) (h : c = UInt8.ofNat n) : ((c.toNat : Int) == (n : Int)) = true := by rw [u8_eq c n hn, h]; simp
theorem u8_not {c : UInt8} {n : Nat} (hn : n < 256) (h : c ≠ UInt8.ofNat n) : ((c.toNat : Int) == (n : Int)) = false := by rw [u8_eq c n hn]; simp [h]
theorem u8_isn {c : UInt8} {n : Nat} (hn : n < 256) (h : c = UInt8.ofNat n) : ((c.toNat : Int) != (n : Int)) = false := by rw [bne, u8_is hn h]; rfl
theorem u8_notn {c : UInt8} {n : Nat} (hn : n < 256) (h : c ≠ UInt8.ofNat n) : ((c.toNat : Int) != (n : Int)) = true := by rw [bne, u8_not hn h]; rfl

set_option maxHeartbeats 1000000 in
set_option maxRecDepth 4000 in
theorem isSpace_any (c : UInt8) (w : World) : Calls Try.prog 37 #[.int .u8 c.toNat] w fun e w' => e = .returned (.bool (sp c)) ∧ w = w' := by
  by_cases h1 : c = 32
  · subst h1
    go_enter Try.func37, Try.ntmps37
    go_wp2
    go_ret
    exact ⟨rfl, rfl⟩
  · by_cases h2 : c = 9
    · subst h2
      go_enter Try.func37, Try.ntmps37
      go_wp2
      go_ret
      exact ⟨rfl, rfl⟩
    · by_cases h3 : c = 13
      · subst h3
        go_enter Try.func37, Try.ntmps37
        go_wp2
        go_ret
        exact ⟨rfl, rfl⟩
      · have HS : Hid (sp c = false) := by show _ = _; simp [sp, h1, h2, h3]
        have a1 : ((c.toNat : Int) == 32) = false := u8_not (n := 32) (by decide) h1
        have a2 : ((c.toNat : Int) == 9) = false := u8_not (n := 9) (by decide) h2
        have a3 : ((c.toNat : Int) == 13) = false := u8_not (n := 13) (by decide) h3
        clear h1 h2 h3
        obtain ⟨n, hn⟩ : ∃ n : Int, n = c.toNat := ⟨_, rfl⟩
        rw [← hn] at a1 a2 a3 ⊢
        clear hn
        go_enter Try.func37, Try.ntmps37
        go_wp2
        go_ret
        exact ⟨ret_bool HS.out.symm, rfl⟩

theorem last_at {s : ByteArray} {n : Nat} (h : n + 1 = s.size) : s.data.toList.getLast? = some (s[n]'(by omega)) := by
  rw [List.getLast?_eq_getElem?, list_len, show s.size - 1 = n by omega, List.getElem?_eq_getElem (by rw [list_len]; omega)]
  rfl
theorem drop_last {s : ByteArray} {n : Nat} (h : n + 1 = s.size) : s.data.toList.dropLast = (s.extract 0 n).data.toList := by
  rw [ext_bytes, List.dropLast_eq_take, list_len, show s.size - 1 = n by omega]
  simp

set_option maxHeartbeats 1000000 in
set_option maxRecDepth 4000 in
theorem content_any (s r : ByteArray) (w : World) (h0 : 0 < s.size) (hs : s.size ≤ 1099511627776) (hr : r.data.toList = cont s.data.toList) :
    Calls Try.prog 32 #[.string s] w fun e w' => e = .returned (.string r) ∧ w = w' := by
  obtain ⟨n, hn⟩ : ∃ n, n + 1 = s.size := ⟨s.size - 1, by omega⟩
  have i1 : IntKind.i64.wrap ((s.size : Int) - 1) = (n : Int) := by rw [IntWalk.i64_in _ (by omega)]; omega
  have hlt : n < s.size := by omega
  have hl := last_at hn
  by_cases hc : s[n] = 10
  · have a1 : ((s[n].toNat : Int) == 10) = true := u8_is (n := 10) (by decide) hc
    have HR : Hid (r = s.extract 0 n) := ba_ext (by rw [hr, cont, if_pos (by rw [hl, hc]), drop_last hn])
    have hn2 : n ≤ s.size := by omega
    clear hr hl hc hn
    go_enter Try.func32, Try.ntmps32
    go_wp2
    go_ret
    exact ⟨ret_str HR.out.symm, rfl⟩
  · have a1 : ((s[n].toNat : Int) == 10) = false := u8_not (n := 10) (by decide) hc
    have HR : Hid (r = s) := ba_ext (by rw [hr, cont, if_neg (by rw [hl]; simpa using hc)])
    clear hr hl hc hn
    go_enter Try.func32, Try.ntmps32
    go_wp2
    go_ret
    exact ⟨ret_str HR.out.symm, rfl⟩

theorem snoc_at {s : ByteArray} {n : Nat} (h : n + 1 = s.size) : s.data.toList = (s.extract 0 n).data.toList ++ [s[n]'(by omega)] := by
  have h1 := List.take_of_length_le (l := s.data.toList) (i := n + 1) (by rw [list_len]; omega)
  rw [take_snoc s n (by omega)] at h1
  rw [ext_bytes, List.drop_zero, Nat.sub_zero]
  exact h1.symm
theorem empty_true {s : ByteArray} (h : s.size = 0) : s.toList.isEmpty = true := by
  rw [ByteArray.toList_eq, List.eq_nil_of_length_eq_zero (l := s.data.toList) (by rw [list_len]; exact h)]
  rfl
theorem empty_false {s : ByteArray} (h : 0 < s.size) : s.toList.isEmpty = false := by
  rw [ByteArray.toList_eq]
  cases hx : s.data.toList with
  | nil => have := list_len s; rw [hx] at this; simp at this; omega
  | cons a t => rfl

set_option maxHeartbeats 2000000 in
set_option maxRecDepth 4000 in
theorem trimmed_any (s r : ByteArray) (w : World) (h0 : 0 < s.size) (hs : s.size ≤ 1099511627776) (hr : r.data.toList = trim s.data.toList) :
    Calls Try.prog 35 #[.string s] w fun e w' => e = .returned (.string r) ∧ w = w' := by
  obtain ⟨c, hc⟩ : ∃ c, c = str (cont s.data.toList) := ⟨_, rfl⟩
  have hcl : c.data.toList = cont s.data.toList := by rw [hc, str_list]
  have HC : Hid (∀ w, Calls Try.prog 32 #[.string s] w fun e w' => e = .returned (.string c) ∧ w = w') := fun w => content_any s c w h0 hs hcl
  have HR : Hid (r.data.toList = trimR c.data.toList) := by show _ = _; rw [hr, hcl]; rfl
  have hcs : c.size ≤ 1099511627776 := by
    rw [← list_len, hcl, cont]
    split
    · rw [List.length_dropLast, list_len]; omega
    · rw [list_len]; exact hs
  clear hc hcl hr
  go_enter Try.func35, Try.ntmps35
  go_wp2_with (go_at_call 32; ((with_reducible refine (HC.out _).mono ?_); rintro e w1 ⟨rfl, rfl⟩))
  go_loop [3] (fun t => ∃ x : ByteArray, t = .string x ∧ x.size ≤ c.size ∧ r.data.toList = trimR x.data.toList) (fun t => match t with | .string x => x.size | _ => 0)
  case atStart => exact ⟨c, rfl, Nat.le_refl _, HR.out⟩
  case round =>
    clear HR HC
    obtain ⟨x, rfl, hxs, hR⟩ := hrel
    have HR : Hid (r.data.toList = trimR x.data.toList) := hR
    clear hR
    by_cases hx : x.size = 0
    · have he := empty_true hx
      have HX : Hid (r = x) := ba_ext (by rw [HR.out, List.eq_nil_of_length_eq_zero (l := x.data.toList) (by rw [list_len]; exact hx), trimR_nil])
      have hx2 : x.size ≤ 0 := by omega
      clear HR hx
      go_wp2
      go_ret
      exact ⟨ret_str HX.out.symm, rfl⟩
    · obtain ⟨n, hn⟩ : ∃ n, n + 1 = x.size := ⟨x.size - 1, by omega⟩
      have he := empty_false (s := x) (by omega)
      have i1 : IntKind.i64.wrap ((x.size : Int) - 1) = (n : Int) := by rw [IntWalk.i64_in _ (by omega)]; omega
      have hlt : n < x.size := by omega
      have hsn := snoc_at hn
      cases hsp : sp x[n] with
      | true =>
        have HSP : Hid (∀ w, Calls Try.prog 37 #[.int .u8 x[n].toNat] w fun e w' => e = .returned (.bool true) ∧ w = w') := fun w => by rw [← hsp]; exact isSpace_any _ w
        have HX : Hid (r.data.toList = trimR (x.extract 0 n).data.toList) := by show _ = _; rw [HR.out, hsn, trimR_sp _ _ hsp]
        have HN : Hid ((x.extract 0 n).size < x.size) := by show _ < _; rw [ByteArray.size_extract]; omega
        have hn2 : n ≤ x.size := by omega
        clear hsn hsp HR hn hx
        go_wp2_with (go_at_call 37; ((with_reducible refine (HSP.out _).mono ?_); rintro e w1 ⟨rfl, rfl⟩))
        go_round
        case rel => exact ⟨_, rfl, Nat.le_trans (Nat.le_of_lt HN.out) hxs, HX.out⟩
        case measure => exact HN.out
      | false =>
        have HSP : Hid (∀ w, Calls Try.prog 37 #[.int .u8 x[n].toNat] w fun e w' => e = .returned (.bool false) ∧ w = w') := fun w => by rw [← hsp]; exact isSpace_any _ w
        have HX : Hid (r = x) := ba_ext (by rw [HR.out, hsn, trimR_not _ _ hsp])
        clear hsn hsp HR hn hx
        go_wp2_with (go_at_call 37; ((with_reducible refine (HSP.out _).mono ?_); rintro e w1 ⟨rfl, rfl⟩))
        go_ret
        exact ⟨ret_str HX.out.symm, rfl⟩

/-- A carriage return and a line feed stand at an offset. -/
def crAt (l : List UInt8) (k : Nat) : Bool := decide (l.getD k 0 = 13 ∧ (l.drop (k + 1)).head? = some 10)
theorem head_drop (s : ByteArray) (k : Nat) : (s.data.toList.drop k).head? = if h : k < s.size then some s[k] else none := by
  split
  · rename_i h; rw [drop_byte s k h]; rfl
  · rename_i h; rw [drop_none s k (by omega)]; rfl
set_option maxHeartbeats 1000000 in
set_option maxRecDepth 4000 in
theorem crlfAt_any (s : ByteArray) (k : Nat) (b : Bool) (w : World) (hk : k < s.size) (hs : s.size ≤ 1099511627776) (hb : crAt s.data.toList k = b) :
    Calls Try.prog 33 #[.string s, .int .i64 k] w fun e w' => e = .returned (.bool b) ∧ w = w' := by
  have hg := getD_at s k hk
  have hh := head_drop s (k + 1)
  by_cases h1 : s[k] = 13
  · have a1 : ((s[k].toNat : Int) == 13) = true := u8_is (n := 13) (by decide) h1
    by_cases h2 : k + 1 < s.size
    · obtain ⟨m, hm⟩ : ∃ m, m = k + 1 := ⟨_, rfl⟩
      have i1 : IntKind.i64.wrap ((k : Int) + 1) = (m : Int) := by rw [IntWalk.i64_in _ (by omega)]; omega
      have hm2 : m < s.size := by omega
      rw [← hm] at hh
      rw [dif_pos hm2] at hh
      by_cases h3 : s[m] = 10
      · have a2 : ((s[m].toNat : Int) == 10) = true := u8_is (n := 10) (by decide) h3
        have HB : Hid (b = true) := by show _ = _; rw [← hb, crAt, ← hm, hh, hg, h1, h3]; simp
        clear hb hg hh h1 h3 hm h2
        go_enter Try.func33, Try.ntmps33
        go_wp2
        go_ret
        exact ⟨ret_bool HB.out.symm, rfl⟩
      · have a2 : ((s[m].toNat : Int) == 10) = false := u8_not (n := 10) (by decide) h3
        have HB : Hid (b = false) := by show _ = _; rw [← hb, crAt, ← hm, hh]; simp [h3]
        clear hb hg hh h1 h3 hm h2
        go_enter Try.func33, Try.ntmps33
        go_wp2
        go_ret
        exact ⟨ret_bool HB.out.symm, rfl⟩
    · have HB : Hid (b = false) := by show _ = _; rw [← hb, crAt, hh, dif_neg h2]; simp
      have i2 : (s.size : Int) ≤ (k : Int) + 1 := by omega
      clear hb hg hh h1
      go_enter Try.func33, Try.ntmps33
      go_wp2
      go_ret
      exact ⟨ret_bool HB.out.symm, rfl⟩
  · have a1 : ((s[k].toNat : Int) == 13) = false := u8_not (n := 13) (by decide) h1
    have HB : Hid (b = false) := by show _ = _; rw [← hb, crAt, hg]; simp [h1]
    clear hb hg hh h1
    go_enter Try.func33, Try.ntmps33
    go_wp2
    go_ret
    exact ⟨ret_bool HB.out.symm, rfl⟩
end Go.Proofs.Ythfnnbeaggkhkab
