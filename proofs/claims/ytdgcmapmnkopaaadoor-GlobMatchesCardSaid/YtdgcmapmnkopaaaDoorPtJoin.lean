/-
  The walks of Join and of the reference's.
-/
import Derived.Test.YtdgcmapmnkopaaaDoorPtParts
import Derived.Test.YtdgcmapmnkopaaaDoorShelf
namespace Go.Proofs.YtdgcmapmnkopaaaDoor
open Go.RowKit

def jn (ls : List (List UInt8)) : List UInt8 := Lib.join ls [47]
theorem jn_next (ls : List (List UInt8)) (k : Nat) (h : k < ls.length) (hk : 0 < k) : jn (ls.take (k + 1)) = jn (ls.take k) ++ [47] ++ ls[k] := by
  cases ls with
  | nil => simp at h
  | cons x r =>
    obtain ⟨j, rfl⟩ : ∃ j, k = j + 1 := ⟨k - 1, by omega⟩
    have hj : r[j]? = some (r[j]'(by simpa using h)) := List.getElem?_eq_getElem _
    rw [List.take_succ_cons, List.take_succ_cons, jn, jn, Lib.join_cons, Lib.join_cons, Lib.joinTail_take_succ [47] r j _ hj]
    simp [List.append_assoc]
theorem jn_first (ls : List (List UInt8)) (h : 0 < ls.length) : jn (ls.take 1) = ls[0] := by
  cases ls with
  | nil => simp at h
  | cons x r => rw [List.take_succ_cons, List.take_zero, jn, Lib.join_one]; rfl
theorem jn_take_le (ls : List (List UInt8)) (k : Nat) : (jn (ls.take k)).length ≤ (jn ls).length := by
  cases ls with
  | nil => simp
  | cons x r =>
    cases k with
    | zero => simp [jn, Lib.join_nil]
    | succ j =>
      have := Lib.joinTail_take_le [47] r j
      rw [List.take_succ_cons, jn, jn, Lib.join_cons, Lib.join_cons, List.length_append, List.length_append]
      omega

theorem srw_cell {w : World} {g o : Nat} {ls : List (List UInt8)} (hp : SRw w (some ⟨g, o, none⟩) ls) (j : Nat) (hj : j < ls.length) : w.cell? ⟨g, o + j, none⟩ = some (.string (str ls[j])) := by
  obtain ⟨g', o', he, -, hc'⟩ := hp j hj
  simp only [Option.some.injEq, Addr.mk.injEq, and_true] at he
  obtain ⟨rfl, rfl⟩ := he
  exact hc'

set_option maxHeartbeats 1000000 in
set_option maxRecDepth 4000 in
theorem pjoin_any (ls : List (List UInt8)) (p : Option Addr) (cap n : Nat) (r : ByteArray) (w : World) (hn : n = ls.length) (hp : SRw w p ls) (hc : n ≤ cap) (hl : (jn ls).length ≤ 1048576) (hn2 : n ≤ 1048576) (hr : r = str (jn ls)) :
    Calls Tryd.prog 25 #[.slice p n cap] w fun e w' => e = .returned (.string r) ∧ Below w.heap.size w w' := by
  have HJ : Hid (Calls Tryd.prog 50 #[.slice p n cap, .string ⟨#[47]⟩] w fun e w' => e = .returned (.string r) ∧ Below w.heap.size w w') := by
    show Calls _ _ _ _ _
    rcases Nat.eq_zero_or_pos n with h0 | h0
    · subst h0
      have hl0 : ls = [] := List.eq_nil_of_length_eq_zero hn.symm
      have hr0 : r = ⟨#[]⟩ := by rw [hr, hl0]; rfl
      have h := Tryd.strings_Join_none p cap ⟨#[47]⟩ w
      rw [← hr0] at h
      exact h.mono fun e w' x => ⟨x.1, x.2 ▸ Below.refl _ _⟩
    · obtain ⟨g, o, rfl, hg, -⟩ := hp 0 (by omega)
      have hm : (ls.map str).map (fun x => x.data.toList) = ls := by
        rw [List.map_map]
        exact (List.map_congr_left fun x _ => str_list x).trans (List.map_id _)
      have hjl : (Lib.join ls (⟨#[47]⟩ : ByteArray).data.toList).length ≤ 140737488355328 := Nat.le_trans hl (by decide)
      have h := Tryd.strings_Join g o cap (ls.map str) ⟨#[47]⟩ w (fun j x hx => by
        rw [List.getElem?_map] at hx
        rcases Nat.lt_or_ge j ls.length with hj | hj
        · rw [List.getElem?_eq_getElem hj] at hx
          simp only [Option.map_some, Option.some.injEq] at hx
          subst hx
          exact srw_cell hp j hj
        · rw [List.getElem?_eq_none hj] at hx
          cases hx) hg (by rw [List.length_map]; omega) (by rw [List.length_map]; omega) (by rw [hm]; exact hjl)
      rw [List.length_map, ← hn, hm] at h
      exact h.mono fun e w' x => ⟨by rw [x.1, hr]; rfl, x.2⟩
  clear hr hl hn hp
  go_enter Tryd.func25, Tryd.ntmps25
  go_wp2_with (go_at_call 50; ((with_reducible refine HJ.out.mono ?_); rintro e w1 ⟨rfl, hb⟩))
  go_ret
  exact ⟨rfl, hb⟩

set_option maxHeartbeats 1000000 in
set_option maxRecDepth 4000 in
theorem prjoin_any (ls : List (List UInt8)) (p : Option Addr) (cap n : Nat) (r : ByteArray) (w : World) (hn : n = ls.length) (hp : SRw w p ls) (hl : (jn ls).length ≤ 1048576) (hn2 : n ≤ 1048576) (hr : r = str (jn ls)) :
    Calls Tryd.prog 26 #[.slice p n cap] w fun e w' => e = .returned (.string r) ∧ w' = w := by
  have HN := Lib.hid hn
  have HR := Lib.hid hr
  have HL := Lib.hid hl
  clear hn hr hl
  go_enter Tryd.func26, Tryd.ntmps26
  go_wp2
  go_loopw [3, 4] (fun z i wr => ∃ (k : Nat) (s : ByteArray), k ≤ n ∧ i = .int .i64 k ∧ z = .string s ∧ Hid (s = str (jn (ls.take k))) ∧ wr = w) (fun _ i _ => n - (intOf i).toNat)
  case atStart => exact ⟨0, ⟨#[]⟩, by omega, rfl, rfl, rfl, rfl⟩
  case round =>
    obtain ⟨k, s, hk, rfl, rfl, HS, rfl⟩ := hrel
    have hss : s.size ≤ 1048576 := by rw [HS.out, str_size]; have := jn_take_le ls k; have := HL.out; omega
    by_cases hlt : k < n
    · have hkl : k < ls.length := by rw [← HN.out]; exact hlt
      obtain ⟨g, o, rfl, hg, hc⟩ := hp k hkl
      have hle := jn_take_le ls (k + 1)
      have hJ := HL.out
      obtain ⟨t, ht⟩ : ∃ t, t = str ls[k] := ⟨_, rfl⟩
      rw [← ht] at hc
      have hts : ls[k].length = t.size := by rw [ht, str_size]
      have h1 : (⟨#[47]⟩ : ByteArray).size = 1 := rfl
      rcases Nat.eq_zero_or_pos k with h0 | h0
      · have HX : Hid (s ++ t = str (jn (ls.take (k + 1)))) := by
          show _ = _
          subst h0
          rw [HS.out, List.take_zero, jn_first ls hkl, ht, str_append]
          rfl
        have hs0 : s.size = 0 := by rw [HS.out, h0]; rfl
        have hsz : s.size + t.size ≤ 1048576 := by
          subst h0
          rw [jn_first ls hkl, hts] at hle
          omega
        have hd : decide ((0 : Int) < (k : Int)) = false := decide_eq_false (by omega)
        have hd2 : (k : Int) ≤ 0 := by omega
        clear ht hts hle hJ hkl HS h0
        go_wp2
        go_roundw
        case rel => exact ⟨k + 1, _, by omega, by go_num, rfl, HX, trivial⟩
        case measure => simp [intOf]; omega
      · have h2 : (s ++ ⟨#[47]⟩ : ByteArray).size = s.size + 1 := by rw [ByteArray.size_append, h1]
        have hs1 : s.size = (jn (ls.take k)).length := by rw [HS.out, str_size]
        have HX : Hid (s ++ ⟨#[47]⟩ ++ t = str (jn (ls.take (k + 1)))) := by
          show _ = _
          rw [HS.out, jn_next ls k hkl h0, ht, ← str_append, ← str_append]
          rfl
        have hsz : s.size + 1 + t.size ≤ 1048576 := by
          rw [jn_next ls k hkl h0, List.length_append, List.length_append, hts] at hle
          simp only [List.length_cons, List.length_nil] at hle
          omega
        clear ht hts hle hJ hkl HS hs1
        go_wp2
        go_roundw
        case rel => exact ⟨k + 1, _, by omega, by go_num, rfl, HX, trivial⟩
        case measure => simp [intOf]; omega
    · have HX : Hid (s = r) := by
        show _ = _
        rw [HS.out, HR.out, List.take_of_length_le (by have := HN.out; omega)]
      go_wp2
      go_ret
      exact ⟨by rw [HX.out]; rfl, rfl⟩
end Go.Proofs.YtdgcmapmnkopaaaDoor
