/-
  Make at two constants.
-/
import Derived.Test.YtlgaindeheaodaaDlFind
namespace Go.Proofs.Ytlgaindeheaodaa
open Go.RowKit Go.Maps Go.WideMaps

theorem grown_self (w : World) (r : Option Nat) : w.grownBy w r := ⟨rfl, rfl, rfl, Nat.le_refl _, fun _ _ _ => rfl⟩
def lf0 (_ : Nat) : Nat × Nat := (0, 0)
def lf8 (a : Nat) : Nat × Nat := if a = 0 then (0, 8) else (0, 0)
theorem plain_0 : str (mkd ⟨#[97, 98]⟩ lf0 0 0 (digs 0 ++ digs 2)) = ⟨#[0, 2, 4, 97, 98]⟩ := by
  rw [mkd_on (by decide) (by decide) (by decide), mkd_on (by decide) (by decide) (by decide), mkd_end (by decide)]
  decide +kernel
theorem plain_8 : str (mkd ⟨#[97, 98, 99, 100, 101, 102, 103, 104]⟩ lf8 0 0 (digs 8 ++ digs 8)) = ⟨#[8, 8, 17, 0]⟩ := by
  rw [mkd_copy (by decide) (by decide), mkd_end (by decide)]
  decide +kernel

theorem make_0 (w : World) : Calls Try.prog 8 #[.string ⟨#[]⟩, .string ⟨#[97, 98]⟩] w fun e w' => e = .returned (.string ⟨#[0, 2, 4, 97, 98]⟩) ∧ Below w.heap.size w w' := by
  have h := make_any ⟨#[]⟩ ⟨#[97, 98]⟩ lf0 (fun _ B D => ∃ o, D = [(B, o)]) w (by decide) (by decide)
    (fun w => (newFinder_0 ⟨#[]⟩ w rfl).mono fun e w' ⟨B, o, he, hB, ho, hn, hb⟩ => ⟨B, [(B, o)], he, ⟨o, rfl⟩, fun p hp => by simp at hp; subst hp; exact ⟨ho, hn⟩, fun p hp => by simp at hp; subst hp; exact hB, hb⟩)
    (fun a B D w ha hg hx => (longest_short _ _ w (by rw [ByteArray.size_extract]; have : (⟨#[97, 98]⟩ : ByteArray).size = 2 := rfl; omega)).mono fun e w' ⟨he, hw⟩ => by
      subst hw
      exact ⟨D, he, hg, hx, grown_self _ _, fun p hp => .inl ⟨p, hp, rfl⟩⟩)
    (fun a b B D h _ => h) (fun a B D ⟨o, hD⟩ => ⟨o, by rw [hD]; simp⟩) (fun a _ => ⟨Nat.zero_le _, Nat.zero_le _⟩)
  rw [show (⟨#[]⟩ : ByteArray).size = 0 from rfl, show (⟨#[97, 98]⟩ : ByteArray).size = 2 from rfl, plain_0] at h
  exact h

theorem make_8 (w : World) : Calls Try.prog 8 #[.string ⟨#[97, 98, 99, 100, 101, 102, 103, 104]⟩, .string ⟨#[97, 98, 99, 100, 101, 102, 103, 104]⟩] w fun e w' => e = .returned (.string ⟨#[8, 8, 17, 0]⟩) ∧ Below w.heap.size w w' := by
  obtain ⟨X, hX⟩ : ∃ X, X = (⟨#[97, 98, 99, 100, 101, 102, 103, 104]⟩ : ByteArray) := ⟨_, rfl⟩
  have hXs : X.size = 8 := by rw [hX]; rfl
  have hXX : X.extract 0 X.size = X := ba_ext (by rw [ext_bytes, List.drop_zero, List.take_of_length_le (by rw [list_len]; omega)])
  have h := make_any X X lf8 (fun a B D => (∃ o, (B, o) ∈ D) ∧ (a = 0 → ∃ M N o, D = [(B, fnd X M N 1 512), (N, .cells #[.int .i64 (-1)] 3 (0, 0)), (M, o)] ∧ M ≠ B ∧ N ≠ B ∧ ∀ w : World, w.heap[M]? = some o → Mp w M 1 (C1 X))) w (by omega) (by omega)
    (fun w => (newFinder_8 X w hXs).mono fun e w' ⟨B, M, N, o, he, hB, hM, hN, hMB, hNB, b1, b2, b3, b4, b5, b6⟩ => by
      refine ⟨B, [(B, fnd X M N 1 512), (N, .cells #[.int .i64 (-1)] 3 (0, 0)), (M, o)], he, ⟨⟨fnd X M N 1 512, List.mem_cons_self⟩, fun _ => ⟨M, N, o, rfl, hMB, hNB, fun w2 hw2 => ?_⟩⟩, ?_, ?_, b6⟩
      · obtain ⟨es, clock, c1, c2⟩ := b5
        exact ⟨es, clock, hw2.trans (b3.symm.trans c1), c2⟩
      · intro p hp
        simp only [List.mem_cons, List.not_mem_nil, or_false] at hp
        rcases hp with rfl | rfl | rfl
        · exact ⟨b1, (by decide : 62 ≠ 5)⟩
        · exact ⟨b2, (by decide : 3 ≠ 5)⟩
        · exact ⟨b3, b4⟩
      · intro p hp
        simp only [List.mem_cons, List.not_mem_nil, or_false] at hp
        rcases hp with rfl | rfl | rfl
        · exact hB
        · exact hN
        · exact hM)
    (fun a B D w ha hg hx => by
      by_cases ha0 : a = 0
      · obtain ⟨M, N, o, rfl, hMB, hNB, hm⟩ := hg.2 ha0
        subst ha0
        have x1 := hx (B, fnd X M N 1 512) (by simp)
        have x2 := hx (N, .cells #[.int .i64 (-1)] 3 (0, 0)) (by simp)
        have x3 := hx (M, o) (by simp)
        rw [hXX]
        refine (longest_8 X B M N w hXs x1.1 x2.1 (hm w x3.1) hNB).mono fun e w' ⟨he, hgr, sp, hsp⟩ => ?_
        refine ⟨[(B, fnd X M N 1 sp), (N, .cells #[.int .i64 (-1)] 3 (0, 0)), (M, o)], he, ⟨⟨fnd X M N 1 sp, List.mem_cons_self⟩, fun h => absurd h (by omega)⟩, ?_, hgr, ?_⟩
        · intro p hp
          simp only [List.mem_cons, List.not_mem_nil, or_false] at hp
          rcases hp with rfl | rfl | rfl
          · exact ⟨hsp, (by decide : 62 ≠ 5)⟩
          · exact ⟨(hgr.block _ (row_lt x2.1) (by simpa using hNB)).trans x2.1, x2.2⟩
          · exact ⟨(hgr.block _ (row_lt x3.1) (by simpa using hMB)).trans x3.1, x3.2⟩
        · intro p hp
          simp only [List.mem_cons, List.not_mem_nil, or_false] at hp
          rcases hp with rfl | rfl | rfl
          · exact .inl ⟨(B, fnd X M N 1 512), by simp, rfl⟩
          · exact .inl ⟨(N, .cells #[.int .i64 (-1)] 3 (0, 0)), by simp, rfl⟩
          · exact .inl ⟨(M, o), by simp, rfl⟩
      · rw [show lf8 a = (0, 0) by unfold lf8; rw [if_neg ha0]]
        refine (longest_short _ _ w (by rw [ByteArray.size_extract]; omega)).mono fun e w' ⟨he, hw⟩ => ?_
        subst hw
        exact ⟨D, he, ⟨hg.1, fun h => absurd h (by omega)⟩, hx, grown_self _ _, fun p hp => .inl ⟨p, hp, rfl⟩⟩)
    (fun a b B D h hab => ⟨h.1, fun hb => h.2 (by omega)⟩) (fun a B D h => h.1) (fun a ha => by
      unfold lf8
      split
      · exact ⟨by simp only; omega, by decide⟩
      · exact ⟨Nat.zero_le _, by decide⟩)
  rw [hXs, hX, plain_8] at h
  exact h
end Go.Proofs.Ytlgaindeheaodaa
