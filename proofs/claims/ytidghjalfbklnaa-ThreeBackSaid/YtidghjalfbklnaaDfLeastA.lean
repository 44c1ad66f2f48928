/-
  The walk of Least.
-/
import Derived.Test.YtidghjalfbklnaaDfLeast
import Derived.Laws.Slices
namespace Go.Proofs.Ytidghjalfbklnaa
open Go.RowKit

/-- What Least answers. -/
def leastL (la lb : List (List UInt8)) : List Ed :=
  if la = lb then [] else if la.length ≤ 4096 ∧ lb.length ≤ 4096 then lst la lb 0 0 [] else [⟨0, la.length, 0, lb.length⟩]

theorem SRw.cut {w : World} {p : Option Addr} {ls : List (List UInt8)} {c : Nat} (h : SRw w p ls) (i : Nat) (hc : ls.length ≤ c) (hi : i ≤ ls.length) : SRw w (if c = i then p else p.map (·.add i)) (ls.drop i) := by
  split
  · rw [List.drop_of_length_le (by omega)]
    exact SRw.none _ _
  · exact h.left i
theorem leastL_go {la lb : List (List UInt8)} {k : Nat} (hk : k = cpre la lb) (h : ¬ la = lb) (hn : la.length ≤ 4096 ∧ lb.length ≤ 4096) (f : List UInt8 → Nat) (hf : ∀ x ∈ la.drop k, ∀ y ∈ lb.drop k, f x = f y → x = y) :
    leastL la lb = lst ((la.drop k).map f) ((lb.drop k).map f) (k : Int) (k : Int) [] := by
  unfold leastL
  rw [if_neg h, if_pos hn, lst_map f _ _ _ _ _ hf]
  have hl := cpre_le la lb
  rw [← hk] at hl
  have ht := cpre_take la lb
  rw [← hk] at ht
  rw [lst_skip k la lb 0 0 [] hl.1 hl.2 ht, Int.zero_add]

set_option maxHeartbeats 400000 in
set_option maxRecDepth 4000 in
theorem least_any (la lb : List (List UInt8)) (p q : Option Addr) (c d n m : Nat) (w : World) (hn : n = la.length) (hm : m = lb.length) (hp : SRw w p la) (hq : SRw w q lb) (hc : n ≤ c) (hd : m ≤ d) (hl : n ≤ 5000) (hl2 : m ≤ 5000)
    (hs : ∀ t ∈ la, t.length ≤ 140737488355328) (hs2 : ∀ t ∈ lb, t.length ≤ 140737488355328) :
    Calls Try.prog 15 #[.slice p n c, .slice q m d] w fun e w' => (∃ v, e = .returned v ∧ EOw w' w.heap.size v (leastL la lb)) ∧ Below w.heap.size w w' := by
  have HN := Lib.hid hn
  have HM := Lib.hid hm
  have HP := Lib.hid hp
  have HQ := Lib.hid hq
  have HC : Hid (∀ w, SRw w p la → SRw w q lb → Calls Try.prog 40 #[.slice p n c, .slice q m d] w fun e w' => e = .returned (.int .i64 (cpre la lb : Nat)) ∧ ∃ k, w' = w.drewN k) := fun w hp hq => cpre_any la lb p q c d n m w hn hm hp hq (by omega) (by omega)
  have hsame := cpre_same la lb
  have hpl := cpre_le la lb
  rw [← hn, ← hm] at hsame hpl
  obtain ⟨k, hk⟩ : ∃ k, k = cpre la lb := ⟨_, rfl⟩
  rw [← hk] at HC hsame hpl
  have HK := Lib.hid hk
  clear hn hm hp hq hk
  by_cases hkk : k = n ∧ k = m
  · have hlb : la = lb := hsame.mp ⟨by omega, hkk.1⟩
    have HR : Hid (leastL la lb = []) := if_pos hlb
    obtain ⟨h1, h2⟩ := hkk
    subst h1
    subst h2
    clear hsame hlb
    go_enter Try.func15, Try.ntmps15
    go_wp2_with (go_at_call 40; ((with_reducible refine (HC.out _ HP.out HQ.out).mono ?_); rintro e w' ⟨rfl, x, rfl⟩))
    go_ret
    exact ⟨⟨_, rfl, by rw [HR.out]; exact EOw.nil _ _⟩, below_drewN (Below.refl _ _) _⟩
  · have hlb : ¬ la = lb := fun e => hkk ⟨(hsame.mpr e).2, (hsame.mpr e).2.trans (hsame.mpr e).1⟩
    by_cases hbig : n ≤ 4096 ∧ m ≤ 4096
    · have HR : Hid (∀ f : List UInt8 → Nat, (∀ x ∈ la.drop k, ∀ y ∈ lb.drop k, f x = f y → x = y) → leastL la lb = lst ((la.drop k).map f) ((lb.drop k).map f) (k : Int) (k : Int) []) := fun f hf =>
        leastL_go HK.out hlb (by rw [← HN.out, ← HM.out]; exact hbig) f hf
      obtain ⟨hb1, hb2⟩ := hbig
      have HNUM : Hid (∀ (w' : World) (p' q' : Option Addr) (c' d' : Nat), SRw w' p' (la.drop k) → SRw w' q' (lb.drop k) → Calls Try.prog 42 #[.slice p' (n - k) c', .slice q' (m - k) d'] w' (NRes (la.drop k) (lb.drop k) (n - k) (m - k) w')) := fun w' p' q' c' d' h1 h2 =>
        numbered_any _ _ p' q' c' d' _ _ w' (by rw [List.length_drop, HN.out]) (by rw [List.length_drop, HM.out]) h1 h2 (by omega) (by omega) (fun t ht => hs t (List.mem_of_mem_drop ht)) (fun t ht => hs2 t (List.mem_of_mem_drop ht))
      have HPC : Hid (∀ x, SRw (w.drewN x) (if c = k then p else p.map (·.add k)) (la.drop k)) := fun x => (HP.out.below (below_drewN (Below.refl _ _) x)).cut k (by rw [← HN.out]; exact hc) (by rw [← HN.out]; exact hpl.1)
      have HQC : Hid (∀ x, SRw (w.drewN x) (if d = k then q else q.map (·.add k)) (lb.drop k)) := fun x => (HQ.out.below (below_drewN (Below.refl _ _) x)).cut k (by rw [← HM.out]; exact hd) (by rw [← HM.out]; exact hpl.2)
      obtain ⟨P, hP⟩ : ∃ P, (if c = k then p else p.map (·.add k)) = P := ⟨_, rfl⟩
      obtain ⟨Q, hQ⟩ : ∃ Q, (if d = k then q else q.map (·.add k)) = Q := ⟨_, rfl⟩
      rw [hP] at HPC
      rw [hQ] at HQC
      obtain ⟨hk1, hk2⟩ := hpl
      clear hsame hlb
      by_cases hkn : k = n
      · have hkm : ¬ k = m := fun e => hkk ⟨hkn, e⟩
        have e1 : ((k : Int) == (n : Int)) = true := by rw [beq_iff_eq]; omega
        have e2 : ((k : Int) == (m : Int)) = false := by rw [beq_eq_false_iff_ne]; omega
        clear hkk hkm hkn
        go_enter Try.func15, Try.ntmps15
        go_upto_region 6 with (go_at_call 40; ((with_reducible refine (HC.out _ HP.out HQ.out).mono ?_); rintro e w' ⟨rfl, x, rfl⟩))
        go_region_with (first
          | (go_at_call 42; ((with_reducible refine (HNUM.out _ _ _ _ _ (HPC.out _) (HQC.out _)).mono ?_); rintro e w1 ⟨g1, g2, f, rfl, hi1, hi2, hg1, hg2, hf, hb1⟩))
          | (go_at_call 41; (refine (follow_any _ _ g1 g2 _ _ _ _ k _ (by rw [List.length_map, List.length_drop, HN.out]) (by rw [List.length_map, List.length_drop, HM.out]) (hi1) (hi2) (by omega) (by omega) (by omega)).mono ?_; rintro e w2 ⟨⟨v2, rfl, ho2⟩, hb2⟩; obtain ⟨p2, n2, cap2, rfl⟩ := ho2.shape')))
        all_goals go_wp2
        all_goals go_ret
        all_goals exact ⟨⟨_, rfl, by rw [HR.out f hf]; exact ho2.lower hb1.size⟩, (Below.trans (show Below w.heap.size w _ from (below_drewN (Below.refl _ _) _)) hb1).trans (hb2.mono hb1.size)⟩
      · have e1 : ((k : Int) == (n : Int)) = false := by rw [beq_eq_false_iff_ne]; omega
        clear hkk hkn
        go_enter Try.func15, Try.ntmps15
        go_upto_region 6 with (go_at_call 40; ((with_reducible refine (HC.out _ HP.out HQ.out).mono ?_); rintro e w' ⟨rfl, x, rfl⟩))
        go_region_with (first
          | (go_at_call 42; ((with_reducible refine (HNUM.out _ _ _ _ _ (HPC.out _) (HQC.out _)).mono ?_); rintro e w1 ⟨g1, g2, f, rfl, hi1, hi2, hg1, hg2, hf, hb1⟩))
          | (go_at_call 41; (refine (follow_any _ _ g1 g2 _ _ _ _ k _ (by rw [List.length_map, List.length_drop, HN.out]) (by rw [List.length_map, List.length_drop, HM.out]) (hi1) (hi2) (by omega) (by omega) (by omega)).mono ?_; rintro e w2 ⟨⟨v2, rfl, ho2⟩, hb2⟩; obtain ⟨p2, n2, cap2, rfl⟩ := ho2.shape')))
        all_goals go_wp2
        all_goals go_ret
        all_goals exact ⟨⟨_, rfl, by rw [HR.out f hf]; exact ho2.lower hb1.size⟩, (Below.trans (show Below w.heap.size w _ from (below_drewN (Below.refl _ _) _)) hb1).trans (hb2.mono hb1.size)⟩
    · have HR : Hid (leastL la lb = [⟨0, (n : Int), 0, (m : Int)⟩]) := by
        show _ = _
        unfold leastL
        rw [if_neg hlb, if_neg (by rw [← HN.out, ← HM.out]; exact hbig), HN.out, HM.out]
      obtain ⟨hk1, hk2⟩ := hpl
      clear hsame hlb
      have hrow : ∀ w' : World, EOw (w'.alloc (.cells #[.int .i64 0, .int .i64 (n : Int), .int .i64 0, .int .i64 (m : Int)] 52)) w'.heap.size (.slice (some ⟨w'.heap.size, 0, none⟩) 1 1) [⟨0, (n : Int), 0, (m : Int)⟩] := fun w' =>
        ⟨rfl, .inr ⟨w'.heap.size, 1, _, rfl, Nat.le_refl _, heap_alloc_new w' _, Nat.le_refl _, by decide, rfl, rfl⟩⟩
      have hcases : (((k : Int) == (n : Int)) = false ∨ ((k : Int) == (n : Int)) = true ∧ ((k : Int) == (m : Int)) = false) := by
        rw [beq_eq_false_iff_ne, beq_iff_eq, beq_eq_false_iff_ne]
        omega
      have hbigs : (4096 : Int) < n ∨ ((n : Int) ≤ 4096 ∧ (4096 : Int) < m) := by omega
      clear hkk hbig
      rcases hcases with e1 | ⟨e1, e2⟩ <;> rcases hbigs with l1 | ⟨l1, l2⟩
      all_goals go_enter Try.func15, Try.ntmps15
      all_goals go_wp2_with (go_at_call 40; ((with_reducible refine (HC.out _ HP.out HQ.out).mono ?_); rintro e w' ⟨rfl, x, rfl⟩))
      all_goals go_ret
      all_goals exact ⟨⟨_, rfl, by rw [HR.out]; exact hrow _⟩, below_new (show Below w.heap.size w _ from (below_drewN (Below.refl _ _) _)) _⟩
end Go.Proofs.Ytidghjalfbklnaa
