/-
  The walk of the law's small.
-/
import Derived.Test.YtidghjalfbklnaaThLvPPk
namespace Go.Proofs.Ytidghjalfbklnaa
open Go.RowKit

/-- Few and short lines. -/
def smL (X : List (List UInt8)) : Bool := decide (X.length ≤ 60) && X.all fun x => decide (x.length ≤ 200)
theorem smL_yes {X : List (List UInt8)} (h : smL X = true) : X.length ≤ 60 ∧ ∀ x ∈ X, x.length ≤ 200 := by
  unfold smL at h
  simpa using h
theorem all_drop {X : List (List UInt8)} {k : Nat} (h : k < X.length) : ((X.drop k).all fun x => decide (x.length ≤ 200)) = (decide (X[k].length ≤ 200) && (X.drop (k + 1)).all fun x => decide (x.length ≤ 200)) := by
  rw [List.drop_eq_getElem_cons h, List.all_cons]

set_option maxHeartbeats 2000000 in
theorem small_any (X : List (List UInt8)) (p : Option Addr) (c n : Nat) (B : Bool) (w : World) (hn : n = X.length) (hp : SRw w p X) (hl : ∀ x ∈ X, x.length ≤ 140737488355328) (hB : B = smL X) (hnb : n ≤ 140737488355328) :
    Calls Try.prog 16 #[.slice p n c] w fun e w' => e = .returned (.bool B) ∧ w = w' := by
  by_cases h60 : n ≤ 60
  · have HB : Hid (B = (X.drop 0).all fun x => decide (x.length ≤ 200)) := by show _ = _; rw [hB, smL, decide_eq_true (by omega), Bool.true_and]; rfl
    have HN := Lib.hid hn
    have HX := Lib.hid hl
    have HP := Lib.hid hp
    clear hn hp hl hB
    go_enter Try.func16, Try.ntmps16
    go_wp2
    go_loopw [3] (fun iv wr => ∃ k, k ≤ n ∧ iv = .int .i64 (k : Int) ∧ wr = w ∧ Hid (B = (X.drop k).all fun x => decide (x.length ≤ 200))) (fun iv _ => n - (intOf iv).toNat)
    case atStart => exact ⟨0, Nat.zero_le _, rfl, rfl, HB.out⟩
    case round =>
      clear HB
      obtain ⟨k, hk, rfl, rfl, HB⟩ := hrel
      by_cases hlt : k < n
      · have hkl : k < X.length := by rw [← HN.out]; exact hlt
        obtain ⟨g, o, rfl, hg, a0⟩ := HP.out k hkl
        have hdr := HB.out
        rw [all_drop hkl] at hdr
        obtain ⟨t, ht⟩ : ∃ t, t = str X[k] := ⟨_, rfl⟩
        have hts : X[k].length = t.size := by rw [ht, str_size]
        have hbig : t.size ≤ 140737488355328 := by rw [← hts]; exact HX.out _ (List.getElem_mem hkl)
        rw [← ht] at a0
        rw [hts] at hdr
        by_cases h2 : t.size ≤ 200
        · rw [decide_eq_true h2, Bool.true_and] at hdr
          have HB2 := Lib.hid hdr
          clear hdr ht hts hg HB
          go_wp2
          go_roundw
          case rel => exact ⟨k + 1, hlt, by go_num, trivial, HB2.out⟩
          case measure => simp [intOf]; omega
        · rw [decide_eq_false h2, Bool.false_and] at hdr
          have HB2 := Lib.hid hdr
          clear hdr ht hts hg HB
          go_wp2
          go_ret
          exact ⟨by rw [HB2.out]; rfl, rfl⟩
      · have HB2 : Hid (B = true) := by show _ = _; rw [HB.out, List.drop_of_length_le (by have := HN.out; omega)]; rfl
        clear HB
        go_wp2
        go_ret
        exact ⟨by rw [HB2.out]; rfl, rfl⟩
  · have HB : Hid (B = false) := by show _ = _; rw [hB, smL, decide_eq_false (by omega), Bool.false_and]
    clear hn hp hl hB
    go_enter Try.func16, Try.ntmps16
    go_wp2
    go_ret
    exact ⟨by rw [HB.out]; rfl, rfl⟩
end Go.Proofs.Ytidghjalfbklnaa
