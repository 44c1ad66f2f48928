/-
  The walk of the law package's own check.
-/
import Derived.Test.YthfnnbeaggkhkabLnClean
namespace Go.Proofs.Ythfnnbeaggkhkab
open Go.RowKit

theorem toLF_inv {W w : World} (h : Below W.heap.size W w) (s r : ByteArray) (hs : s.size ≤ 1048576) (hr : r.data.toList = lf s.data.toList) :
    Calls Try.prog 18 #[.string s] w fun e w' => e = .returned (.string r) ∧ Below W.heap.size W w' :=
  (toLF_any s r w hs hr).mono fun _ _ x => ⟨x.1, h.trans (x.2.mono h.size)⟩
theorem toCRLF_inv {W w : World} (h : Below W.heap.size W w) (s r : ByteArray) (hs : s.size ≤ 1048576) (hr : r.data.toList = crlf 0 s.data.toList) :
    Calls Try.prog 20 #[.string s] w fun e w' => e = .returned (.string r) ∧ Below W.heap.size W w' :=
  (toCRLF_any s r w hs hr).mono fun _ _ x => ⟨x.1, h.trans (x.2.mono h.size)⟩
theorem clean_inv {W w : World} (h : Below W.heap.size W w) (s r : ByteArray) (hs : s.size ≤ 1048576) (hr : r.data.toList = clean s.data.toList) :
    Calls Try.prog 26 #[.string s] w fun e w' => e = .returned (.string r) ∧ Below W.heap.size W w' :=
  (clean_any s r w hs hr).mono fun _ _ x => ⟨x.1, h.trans (x.2.mono h.size)⟩
theorem split_inv {W w : World} (h : Below W.heap.size W w) (s : ByteArray) (hs : s.size ≤ 1048576) (n : Nat) (hn : n = (split s.data.toList).length) :
    Calls Try.prog 12 #[.string s] w fun e w' => (∃ p cap, e = .returned (.slice p n cap) ∧ SRw w' p (split s.data.toList)) ∧ Below W.heap.size W w' :=
  (split_any s w hs n hn).mono fun _ _ x => ⟨x.1, h.trans (x.2.mono h.size)⟩
theorem first_inv {W w : World} (h : Below W.heap.size W w) (s r : ByteArray) (hs : s.size ≤ 1048576) (hr : r.data.toList = first (split s.data.toList)) :
    Calls Try.prog 16 #[.string s] w fun e w' => e = .returned (.string r) ∧ Below W.heap.size W w' :=
  (first_any s r w hs hr).mono fun _ _ x => ⟨x.1, h.trans (x.2.mono h.size)⟩
theorem lv_lf : ([97, 13, 10] : List UInt8) = lf [97, 13, 13, 10] := by decide
theorem lv_crlf : ([97, 13, 10, 98, 13, 10] : List UInt8) = crlf 0 [97, 13, 10, 98, 10] := by decide
theorem lv_clean : ([97, 10, 10, 32, 98, 10] : List UInt8) = clean [10, 35, 32, 120, 10, 97, 32, 10, 10, 10, 32, 98] := by decide +kernel
theorem lv_split : split [97, 10, 10, 98] = [[97, 10], [10], [98]] := by decide

set_option maxHeartbeats 1000000 in
set_option maxRecDepth 10000 in
theorem lives_inv {W w : World} (h : Below W.heap.size W w) : Calls Try.prog 10 #[] w fun e w' => e = .returned (.bool true) ∧ Below W.heap.size W w' := by
  have HS : Hid (∀ w, Below W.heap.size W w → Calls Try.prog 12 #[.string ⟨#[97, 10, 10, 98]⟩] w fun e w' => (∃ g o cap, e = .returned (.slice (some ⟨g, o, none⟩) 3 cap) ∧ w'.cell? ⟨g, o, none⟩ = some (.string ⟨#[97, 10]⟩) ∧ w'.cell? ⟨g, o + 1, none⟩ = some (.string ⟨#[10]⟩) ∧ w'.cell? ⟨g, o + 2, none⟩ = some (.string ⟨#[98]⟩)) ∧ Below W.heap.size W w') := fun w h =>
    (split_inv h ⟨#[97, 10, 10, 98]⟩ (by decide) 3 (by decide)).mono fun e w' ⟨⟨p, cap, he, hp⟩, hb⟩ => by
      rw [show (⟨#[97, 10, 10, 98]⟩ : ByteArray).data.toList = [97, 10, 10, 98] from rfl, lv_split] at hp
      obtain ⟨g, o, rfl, _, c0⟩ := hp 0 (by decide)
      obtain ⟨g1, o1, e1, _, c1⟩ := hp 1 (by decide)
      obtain ⟨g2, o2, e2, _, c2⟩ := hp 2 (by decide)
      simp only [Option.some.injEq, Addr.mk.injEq, and_true] at e1 e2
      obtain ⟨rfl, rfl⟩ := e1
      obtain ⟨rfl, rfl⟩ := e2
      exact ⟨⟨g, o, cap, he, c0, c1, c2⟩, hb⟩
  go_enter Try.func10, Try.ntmps10
  go_wp2_with (first
    | (go_at_call 12; ((with_reducible refine (HS.out _ h).mono ?_); rintro e w1 ⟨⟨g, o, cap, rfl, c0, c1, c2⟩, h1⟩))
    | (go_at_call 18; ((with_reducible refine (toLF_inv h1 _ ⟨#[97, 13, 10]⟩ (by decide) lv_lf).mono ?_); rintro e w2 ⟨rfl, h2⟩))
    | (go_at_call 20; ((with_reducible refine (toCRLF_inv h2 _ ⟨#[97, 13, 10, 98, 13, 10]⟩ (by decide) lv_crlf).mono ?_); rintro e w3 ⟨rfl, h3⟩))
    | (go_at_call 26; ((with_reducible refine (clean_inv h3 _ ⟨#[97, 10, 10, 32, 98, 10]⟩ (by decide) lv_clean).mono ?_); rintro e w4 ⟨rfl, h4⟩)))
  go_ret
  exact ⟨rfl, h4⟩
end Go.Proofs.Ythfnnbeaggkhkab
