/-
  The walk of the law's small.
-/
import Derived.Test.YtidghjalfbklnaaThLvPPk
import Derived.Test.YtidghjalfbklnaaThRMrg
import Derived.Test.YtidghjalfbklnaaThTurnTPk
import Derived.Test.YtidghjalfbklnaaDfRowsPk
namespace Go.Proofs.Ytidghjalfbklnaa
open Go.RowKit

/-- Few and short lines. -/
def smL (X : List (List UInt8)) : Bool := decide (X.length ≤ 60) && X.all fun x => decide (x.length ≤ 200)
theorem smL_yes {X : List (List UInt8)} (h : smL X = true) : X.length ≤ 60 ∧ ∀ x ∈ X, x.length ≤ 200 := by
  unfold smL at h
  simpa using h
theorem all_drop {X : List (List UInt8)} {k : Nat} (h : k < X.length) : ((X.drop k).all fun x => decide (x.length ≤ 200)) = (decide (X[k].length ≤ 200) && (X.drop (k + 1)).all fun x => decide (x.length ≤ 200)) := by
  rw [List.drop_eq_getElem_cons h, List.all_cons]

set_option maxHeartbeats 2000000 in
theorem small_any (X : List (List UInt8)) (p : Option Addr) (c n : Nat) (B : Bool) (w : World) (hn : n = X.length) (hp : SRw w p X) (hl : ∀ x ∈ X, x.length ≤ 140737488355328) (hB : B = smL X) (hnb : n ≤ 140737488355328) :
    Calls Try.prog 16 #[.slice p n c] w fun e w' => e = .returned (.bool B) ∧ w = w' := by
  by_cases h60 : n ≤ 60
  · have HB : Hid (B = (X.drop 0).all fun x => decide (x.length ≤ 200)) := by show _ = _; rw [hB, smL, decide_eq_true (by omega), Bool.true_and]; rfl
    have HN := Lib.hid hn
    have HX := Lib.hid hl
    have HP := Lib.hid hp
    clear hn hp hl hB
    go_enter Try.func16, Try.ntmps16
    go_wp2
    go_loopw [3] (fun iv wr => ∃ k, k ≤ n ∧ iv = .int .i64 (k : Int) ∧ wr = w ∧ Hid (B = (X.drop k).all fun x => decide (x.length ≤ 200))) (fun iv _ => n - (intOf iv).toNat)
    case atStart => exact ⟨0, Nat.zero_le _, rfl, rfl, HB.out⟩
    case round =>
      clear HB
      obtain ⟨k, hk, rfl, rfl, HB⟩ := hrel
      by_cases hlt : k < n
      · have hkl : k < X.length := by rw [← HN.out]; exact hlt
        obtain ⟨g, o, rfl, hg, a0⟩ := HP.out k hkl
        have hdr := HB.out
        rw [all_drop hkl] at hdr
        obtain ⟨t, ht⟩ : ∃ t, t = str X[k] := ⟨_, rfl⟩
        have hts : X[k].length = t.size := by rw [ht, str_size]
        have hbig : t.size ≤ 140737488355328 := by rw [← hts]; exact HX.out _ (List.getElem_mem hkl)
        rw [← ht] at a0
        rw [hts] at hdr
        by_cases h2 : t.size ≤ 200
        · rw [decide_eq_true h2, Bool.true_and] at hdr
          have HB2 := Lib.hid hdr
          clear hdr ht hts hg HB
          go_wp2
          go_roundw
          case rel => exact ⟨k + 1, hlt, by go_num, trivial, HB2.out⟩
          case measure => simp [intOf]; omega
        · rw [decide_eq_false h2, Bool.false_and] at hdr
          have HB2 := Lib.hid hdr
          clear hdr ht hts hg HB
          go_wp2
          go_ret
          exact ⟨by rw [HB2.out]; rfl, rfl⟩
      · have HB2 : Hid (B = true) := by show _ = _; rw [HB.out, List.drop_of_length_le (by have := HN.out; omega)]; rfl
        clear HB
        go_wp2
        go_ret
        exact ⟨by rw [HB2.out]; rfl, rfl⟩
  · have HB : Hid (B = false) := by show _ = _; rw [hB, smL, decide_eq_false (by omega), Bool.false_and]
    clear hn hp hl hB
    go_enter Try.func16, Try.ntmps16
    go_wp2
    go_ret
    exact ⟨by rw [HB.out]; rfl, rfl⟩
end Go.Proofs.Ytidghjalfbklnaa
/-
  The walk of the law ThreeMerges.
-/
namespace Go.Proofs.Ytidghjalfbklnaa
open Go.RowKit

section
variable {W : World} {X Y Z : List (List UInt8)} {p q r : Option Addr} {n m l c d e : Nat}
set_option maxHeartbeats 4000000 in
set_option maxRecDepth 10000 in
theorem thMerges_walk (A : SA W X p n c) (B : SA W Y q m d) (C : SA W Z r l e) : Calls Try.prog 5 #[.slice p n c, .slice q m d, .slice r l e] W fun e W' => e = .returned (.bool true) ∧ Below W.heap.size W W' := by
  obtain ⟨sa, hsa⟩ : ∃ sa, sa = smL X := ⟨_, rfl⟩
  obtain ⟨sb, hsb⟩ : ∃ sb, sb = smL Y := ⟨_, rfl⟩
  obtain ⟨sc, hsc⟩ : ∃ sc, sc = smL Z := ⟨_, rfl⟩
  have HS1 := Lib.hid (small_any X p c n sa W A.len A.row A.short hsa (by have := A.few; omega))
  have HS2 := Lib.hid (small_any Y q d m sb W B.len B.row B.short hsb (by have := B.few; omega))
  have HS3 := Lib.hid (small_any Z r e l sc W C.len C.row C.short hsc (by have := C.few; omega))
  have HLV : Hid (∀ w, Below W.heap.size W w → Calls Try.prog 17 #[] w fun e w' => e = .returned (.bool true) ∧ Below W.heap.size W w') := fun w h => lives_inv h
  have HLV2 : Hid (∀ w, Calls Try.prog 17 #[] w fun e w' => e = .returned (.bool true) ∧ Below w.heap.size w w') := fun w => lives_inv (Below.refl _ _)
  by_cases hs : sa = true ∧ sb = true ∧ sc = true
  · obtain ⟨rfl, rfl, rfl⟩ := hs
    obtain ⟨hX, _⟩ := smL_yes hsa.symm
    obtain ⟨hY, _⟩ := smL_yes hsb.symm
    obtain ⟨hZ, _⟩ := smL_yes hsc.symm
    obtain ⟨G, hG⟩ : ∃ G, G = mergeL X Y Z := ⟨_, rfl⟩
    obtain ⟨N, hN⟩ : ∃ N, N = G.length := ⟨_, rfl⟩
    obtain ⟨hsz, hlen⟩ := mergeL_tot hX hY hZ
    rw [← hG] at hsz hlen
    have hNb : N ≤ 1000 := by rw [hN]; exact hlen
    have HM1 : Hid (∀ w, Below W.heap.size W w → Calls Try.prog 18 #[.slice p n c, .slice q m d, .slice r l e] w fun e w' => (∃ P cap, e = .returned (.slice P N cap) ∧ Hid (GRw w' P G)) ∧ Below W.heap.size W w') := fun w hb =>
      (merge_any X Y Z n c m d l e p q r w A.len B.len C.len (A.row.below hb) (B.row.below hb) (C.row.below hb) A.cap B.cap C.cap (by rw [A.len]; omega) (by rw [B.len]; omega) (by rw [C.len]; omega) A.short B.short C.short).mono fun e w' ⟨⟨P, N', cap, he, hn, _, hg⟩, h2⟩ => ⟨⟨P, cap, by rw [he, hn, ← hG, ← hN], by rw [hG]; exact hg⟩, hb.trans (h2.mono hb.size)⟩
    have HM2 : Hid (∀ w, Below W.heap.size W w → Calls Try.prog 20 #[.slice p n c, .slice q m d, .slice r l e] w fun e w' => (∃ P cap, e = .returned (.slice P N cap) ∧ Hid (GRw w' P G)) ∧ Below w.heap.size w w') := fun w hb =>
      (rmerge_any X Y Z n c m d l e p q r w A.len B.len C.len (A.row.below hb) (B.row.below hb) (C.row.below hb) A.cap B.cap C.cap (by rw [A.len]; omega) (by rw [B.len]; omega) (by rw [C.len]; omega)).mono fun e w' ⟨⟨P, N', cap, he, h⟩, h2⟩ => ⟨⟨P, cap, by rw [he, h.out.1, ← hG, ← hN], by rw [hG]; exact h.out.2.2⟩, h2⟩
    have HSM : Hid (∀ w P c1 Q c2, GRw w P G → GRw w Q G → Calls Try.prog 19 #[.slice P N c1, .slice Q N c2] w fun e w' => e = .returned (.bool true) ∧ Below w.heap.size w w') := fun w P c1 Q c2 h1 h2 => rsameG_any G P Q c1 c2 N w hN h1 h2 (by omega) hsz
    obtain ⟨cb, hcb⟩ : ∃ cb, cb = cleanB G := ⟨_, rfl⟩
    have HC1 : Hid (∀ w P c1, GRw w P G → Calls Try.prog 21 #[.slice P N c1] w fun e w' => e = .returned (.bool cb) ∧ Below w.heap.size w w') := fun w P c1 h1 => by
      rw [hcb]
      exact clean_any G P c1 N w hN h1 (by omega)
    have HC2 : Hid (∀ w P c1, GRw w P G → Calls Try.prog 22 #[.slice P N c1] w fun e w' => e = .returned (.bool cb) ∧ w' = w) := fun w P c1 h1 => by
      rw [hcb]
      exact rclean_any G P c1 N w hN h1 (by omega)
    have h0 := Below.refl W.heap.size W
    have hcc : (cb == cb) = true := by simp
    clear hsa hsb hsc hX hY hZ hG hN hsz hlen hNb hcb A B C
    go_enter Try.func5, Try.ntmps5
    go_wp2_with (first
      | (go_at_call 16; first
        | ((with_reducible refine HS1.out.mono ?_); rintro e w' ⟨rfl, rfl⟩)
        | ((with_reducible refine HS2.out.mono ?_); rintro e w' ⟨rfl, rfl⟩)
        | ((with_reducible refine HS3.out.mono ?_); rintro e w' ⟨rfl, rfl⟩))
      | (go_at_call 18; ((with_reducible refine (HM1.out _ h0).mono ?_); rintro e w1 ⟨⟨P1, c1, rfl, g1⟩, b1⟩))
      | (go_at_call 17; ((with_reducible refine (HLV2.out _).mono ?_); rintro e w2 ⟨rfl, b2'⟩; have b2 := b1.trans (b2'.mono b1.size)))
      | (go_at_call 20; ((with_reducible refine (HM2.out _ b2).mono ?_); rintro e w3 ⟨⟨P3, c3, rfl, g3⟩, b3⟩))
      | (go_at_call 19; ((with_reducible refine (HSM.out _ _ _ _ _ ((g1.out.below b2').below b3) g3.out).mono ?_); rintro e w4 ⟨rfl, b4⟩))
      | (go_at_call 21; ((with_reducible refine (HC1.out _ _ _ (((g1.out.below b2').below b3).below b4)).mono ?_); rintro e w5 ⟨rfl, b5⟩))
      | (go_at_call 22; ((with_reducible refine (HC2.out _ _ _ ((((g1.out.below b2').below b3).below b4).below b5)).mono ?_); rintro e w6 ⟨rfl, rfl⟩)))
    go_ret
    have t3 := b2.trans (b3.mono b2.size)
    have t4 := t3.trans (b4.mono t3.size)
    exact ⟨by first | rfl | (rw [hcc]; rfl), t4.trans (b5.mono t4.size)⟩
  · clear hsa hsb hsc A B C
    rcases sa with _ | _ <;> rcases sb with _ | _ <;> rcases sc with _ | _
    all_goals try (exact absurd ⟨rfl, rfl, rfl⟩ hs)
    all_goals clear hs
    all_goals go_enter Try.func5, Try.ntmps5
    all_goals go_wp2_with (first
      | (go_at_call 16; first
        | ((with_reducible refine HS1.out.mono ?_); rintro e w' ⟨rfl, rfl⟩)
        | ((with_reducible refine HS2.out.mono ?_); rintro e w' ⟨rfl, rfl⟩)
        | ((with_reducible refine HS3.out.mono ?_); rintro e w' ⟨rfl, rfl⟩))
      | (go_at_call 17; ((with_reducible refine (HLV.out _ (Below.refl _ _)).mono ?_); rintro e w3 ⟨rfl, hb3⟩)))
    all_goals go_ret
    all_goals exact ⟨rfl, hb3⟩
end
end Go.Proofs.Ytidghjalfbklnaa
