/-
  The walk of the law OctetBack.
-/
import Derived.Test.YtgnljpcnkmogfaaDoorOctLives
import Derived.Test.YtgnljpcnkmogfaaDoorOctRound
import Derived.BigQuiet
import Derived.Deep.QuietTactic
namespace Go.Proofs.YtgnljpcnkmogfaaDoor
open Go.RowKit

set_option maxHeartbeats 1000000 in
set_option maxRecDepth 10000 in
theorem back_walk (ah t be' : ByteArray) (n m : Nat) (w : World) (h1 : ah.size ≤ 140737488355328) (h2 : t.size ≤ 140737488355328) (h3 : be'.size ≤ 140737488355328) (hn : n < 18446744073709551616) (hm : m < 4294967296) (ht : Tab w) :
    Calls Tryd.prog 4 #[.agg #[.string ah, .string t, .string be', .int .u64 n, .int .u32 m]] w fun e w' => e = .returned (.bool true) ∧ Below w.heap.size w w' := by
  have h0 : Inv w w := Inv.self ht
  clear ht
  by_cases hb : 1048576 < t.size
  · clear hn hm
    go_enter Tryd.func4, Tryd.ntmps4
    go_wp2
    go_quiet (fail)
    go_wp2_with (go_at_call 17; ((with_reducible refine (lives_inv ((h0.alloc _).drewN _)).mono ?_); rintro e w' ⟨rfl, hi⟩))
    go_ret
    exact ⟨rfl, Inv.below ‹_›⟩
  · obtain ⟨p1, e1⟩ : ∃ p, p = ah ++ str (digs n) := ⟨_, rfl⟩
    obtain ⟨p2, e2⟩ : ∃ p, p = p1 ++ str (wbytes m) := ⟨_, rfl⟩
    obtain ⟨p3, e3⟩ : ∃ p, p = p2 ++ lp t := ⟨_, rfl⟩
    have dl := digs_len64 hn
    have dt := digs_len64 (n := t.size) (by omega)
    have hlp : (lp t).size = (digs t.size).length + t.size := by rw [lp, ByteArray.size_append, str_size]
    have s1 : p1.size = ah.size + (digs n).length := by rw [e1, ByteArray.size_append, str_size]
    have s2 : p2.size = p1.size + 4 := by rw [e2, ByteArray.size_append, str_size, wbytes_len]
    have s3 : p3.size = p2.size + (lp t).size := by rw [e3, ByteArray.size_append]
    have hT : Hid (takeAt (p3 ++ be').data.toList (ah.size : Nat) = (n, ((p1.size : Nat) : Int), 0)) := by
      show _ = _
      have h := takeAt_put ah.data.toList ((wbytes m) ++ ((lp t).data.toList ++ be'.data.toList)) n hn
      rw [list_len] at h
      rw [app_list, e3, app_list, e2, app_list, e1, app_list, str_list, str_list, ByteArray.size_append, str_size]
      simp only [List.append_assoc]
      exact h
    have hW : Hid (takeWord (p3 ++ be') (p1.size : Nat) = (m, ((p2.size : Nat) : Int), 0)) := by
      show _ = _
      rw [s2]
      exact takeWord_put _ p1 (lp t ++ be') m hm (by rw [e3, e2]; simp only [ByteArray.append_assoc])
    have hX : Hid (takeText (p3 ++ be') (p2.size : Nat) = (t, ((p3.size : Nat) : Int), 0)) := by
      show _ = _
      rw [s3]
      exact takeText_put _ p2 t be' (by omega) (by rw [e3]; simp only [ByteArray.append_assoc])
    have hsz : (p3 ++ be').size ≤ 1125899906842624 := by rw [ByteArray.size_append]; omega
    have z1 : p1.size ≤ 1125899906842600 := by omega
    have z2 : p2.size ≤ 1125899906842624 := by omega
    have hsum : p3.size + be'.size ≤ 9223372036854775807 := by omega
    have hi1 : Hid (ah ++ str (digs n) = p1) := e1.symm
    have hi2 : Hid (p1 ++ str (wbytes m) = p2) := e2.symm
    have hi3 : Hid (p2 ++ lp t = p3) := e3.symm
    have hn' : Hid (n < 18446744073709551616) := hn
    clear e1 e2 e3 s1 s2 s3 hlp dl dt hn
    go_enter Tryd.func4, Tryd.ntmps4
    go_wp2
    go_quiet (fail)
    have hq := (h0.alloc (.cells #[.string ah, .string t, .string be', .int .u64 n, .int .u32 m] 37)).drewN nq
    go_wp2_with (first
      | (go_at_call 17; ((with_reducible refine (lives_inv (by assumption)).mono ?_); rintro e w' ⟨rfl, hi⟩))
      | (go_at_call 18; ((with_reducible refine (put_inv (by assumption) _ _ hn'.out (by omega)).mono ?_); rintro e w' ⟨rfl, hi⟩; rw [hi1.out]))
      | (go_at_call 20; ((with_reducible refine (word_inv (by assumption) _ _ hm (by omega)).mono ?_); rintro e w' ⟨rfl, hi⟩; rw [hi2.out]))
      | (go_at_call 19; ((with_reducible refine (text_inv (by assumption) _ _ (by omega) (by omega)).mono ?_); rintro e w' ⟨rfl, hi⟩; rw [hi3.out]))
      | (go_at_call 21; ((with_reducible refine (rput_inv (by assumption) _ _ hn'.out (by omega)).mono ?_); rintro e w' ⟨rfl, hi⟩; rw [hi1.out]))
      | (go_at_call 22; ((with_reducible refine (rword_inv (by assumption) _ _ hm (by omega)).mono ?_); rintro e w' ⟨rfl, hi⟩; rw [hi2.out]))
      | (go_at_call 23; ((with_reducible refine (rtext_inv (by assumption) _ _ (by omega) (by omega)).mono ?_); rintro e w' ⟨rfl, hi⟩; rw [hi3.out]))
      | (go_at_call 11; ((with_reducible refine (take_inv (by assumption) _ _ (by omega) _ _ _ hT.out).mono ?_); rintro e w' ⟨rfl, hi⟩))
      | (go_at_call 15; ((with_reducible refine (takeWord_inv (by assumption) _ _ (by omega) _ _ _ hW.out).mono ?_); rintro e w' ⟨rfl, hi⟩))
      | (go_at_call 13; ((with_reducible refine (takeText_inv (by assumption) _ _ (by omega) _ _ _ hX.out).mono ?_); rintro e w' ⟨rfl, hi⟩)))
    go_ret
    exact ⟨rfl, Inv.below ‹_›⟩
end Go.Proofs.YtgnljpcnkmogfaaDoor
