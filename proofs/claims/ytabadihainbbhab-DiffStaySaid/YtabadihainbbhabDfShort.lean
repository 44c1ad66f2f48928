/-
  The walks of Short and of the laws' short.
-/
import Derived.Test.YtabadihainbbhabDfRows
import Derived.Outline
namespace Go.Proofs.Ytabadihainbbhab
open Go.RowKit

/-- Whether strings come to at most 3000 bytes, k being there. -/
def sfit : List (List UInt8) → Nat → Bool
  | [], _ => true
  | x :: l, k => if 3000 < k + x.length then false else sfit l (k + x.length)
theorem sfit_no {x : List UInt8} {k : Nat} (h : 3000 < k + x.length) (l : List (List UInt8)) : sfit (x :: l) k = false := by rw [sfit, if_pos h]
theorem sfit_yes {x : List UInt8} {k : Nat} (h : ¬ 3000 < k + x.length) (l : List (List UInt8)) : sfit (x :: l) k = sfit l (k + x.length) := by rw [sfit, if_neg h]
def shortB (ls : List (List UInt8)) : Bool := sfit ls 0 && decide (ls.length ≤ 60)
theorem shortB_len {ls : List (List UInt8)} (h : shortB ls = true) : ls.length ≤ 60 := by
  unfold shortB at h
  rw [Bool.and_eq_true] at h
  exact of_decide_eq_true h.2

set_option maxHeartbeats 1000000 in
set_option maxRecDepth 4000 in
theorem Short_any (ls : List (List UInt8)) (p : Option Addr) (c n : Nat) (B : Bool) (w : World) (hn : n = ls.length) (hp : SRw w p ls) (hl : n ≤ 8796093022208) (hx : ∀ x ∈ ls, x.length ≤ 281474976710656) (hB : B = shortB ls) :
    Calls Try.prog 28 #[.slice p n c, .int .i64 60, .int .i64 3000] w fun e w' => e = .returned (.bool B) ∧ w = w' := by
  have HN := Lib.hid hn
  have HX := Lib.hid hx
  have HB : Hid (B = (sfit (ls.drop 0) 0 && decide (n ≤ 60))) := by show _ = _; rw [hB, hn]; rfl
  clear hn hB hx
  go_enter Try.func28, Try.ntmps28
  go_wp2
  go_loop [11, 7] (fun i s => ∃ k S : Nat, k ≤ n ∧ S ≤ 3000 ∧ i = .int .i64 k ∧ s = .int .i64 S ∧ Hid (B = (sfit (ls.drop k) S && decide (n ≤ 60)))) (fun i _ => n - (intOf i).toNat)
  case atStart => exact ⟨0, 0, by omega, by omega, rfl, rfl, HB.out⟩
  case round =>
    clear HB
    obtain ⟨k, S, hk, hS, rfl, rfl, HB⟩ := hrel
    by_cases hlt : k < n
    · have hka : k < ls.length := by rw [← HN.out]; omega
      obtain ⟨g, o, rfl, hg, a0⟩ := hp k hka
      have hX := HB.out
      rw [List.drop_eq_getElem_cons hka] at hX
      obtain ⟨x, hx⟩ : ∃ x, x = ls[k] := ⟨_, rfl⟩
      have hxl : x.length ≤ 281474976710656 := by rw [hx]; exact HX.out _ (List.getElem_mem hka)
      rw [← hx] at a0 hX
      obtain ⟨t, ht⟩ : ∃ t, t = str x := ⟨_, rfl⟩
      rw [← ht] at a0
      have hts : t.size = x.length := by rw [ht, str_size]
      obtain ⟨V, hV⟩ : ∃ V, V = S + t.size := ⟨_, rfl⟩
      have i1 : IntKind.i64.wrap ((S : Int) + (t.size : Int)) = (V : Int) := by rw [IntWalk.i64_in _ (by omega)]; omega
      by_cases hb : 3000 < V
      · have HX2 : Hid (B = false) := by show _ = _; rw [hX, sfit_no (by omega)]; rfl
        clear hX hx ht hts hV HB hka
        go_wp2
        go_ret
        exact ⟨by rw [HX2.out]; rfl, rfl⟩
      · have HX2 : Hid (B = (sfit (ls.drop (k + 1)) V && decide (n ≤ 60))) := by show _ = _; rw [hX, sfit_yes (by omega), hV, hts]
        have hV2 : V ≤ 3000 := by omega
        clear hX hx ht hts hV HB hka
        go_wp2
        go_round
        case rel => exact ⟨k + 1, V, by omega, hV2, by go_num, rfl, HX2.out⟩
        case measure => simp [intOf]; omega
    · obtain rfl : k = n := by omega
      have HX2 : Hid (B = decide (k ≤ 60)) := by show _ = _; rw [HB.out, HN.out, List.drop_length]; rfl
      by_cases h60 : k ≤ 60
      · have HX3 : Hid (B = true) := by show _ = _; rw [HX2.out]; exact decide_eq_true h60
        clear HX2 HB
        go_wp2
        go_ret
        exact ⟨ret_bool (by rw [HX3.out]; exact decide_eq_true (by omega)), rfl⟩
      · have HX3 : Hid (B = false) := by show _ = _; rw [HX2.out]; exact decide_eq_false h60
        clear HX2 HB
        go_wp2
        go_ret
        exact ⟨ret_bool (by rw [HX3.out]; exact decide_eq_false (by omega)), rfl⟩
set_option maxHeartbeats 1000000 in
set_option maxRecDepth 4000 in
theorem short_any (ls : List (List UInt8)) (p : Option Addr) (c n : Nat) (B : Bool) (w : World) (hn : n = ls.length) (hp : SRw w p ls) (hl : n ≤ 8796093022208) (hx : ∀ x ∈ ls, x.length ≤ 281474976710656) (hB : B = shortB ls) :
    Calls Try.prog 9 #[.slice p n c] w fun e w' => e = .returned (.bool B) ∧ w = w' := by
  have H := Lib.hid (Short_any ls p c n B w hn hp hl hx hB)
  clear hn hp hx hB
  go_enter Try.func9, Try.ntmps9
  go_wp2_with (go_at_call 28; ((with_reducible refine H.out.mono ?_); rintro e w' ⟨rfl, rfl⟩))
  go_ret
  exact ⟨rfl, rfl⟩
end Go.Proofs.Ytabadihainbbhab
