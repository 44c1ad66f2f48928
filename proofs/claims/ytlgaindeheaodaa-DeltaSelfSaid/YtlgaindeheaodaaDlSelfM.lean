/-
  Make of a string against itself, and against nothing.
-/
import Derived.Test.YtlgaindeheaodaaDlSelfW
import Derived.Test.YtlgaindeheaodaaDlSelfP
import Derived.Test.YtlgaindeheaodaaDlMade
namespace Go.Proofs.Ytlgaindeheaodaa
open Go.RowKit Go.Maps Go.WideMaps

/-- What the finder's blocks are told as: all of them at the beginning; nothing is asked of it later. -/
def GoodS (X : ByteArray) (a B : Nat) (D : List (Nat × Obj)) : Prop := (∃ o, (B, o) ∈ D) ∧ (a = 0 ∨ X.size ≤ a) ∧ (a = 0 → ∃ (M N k : Nat) (D0 : DataW Unit) (f : Nat → Int) (o : Obj), D = [(B, fnd X M N (X.size - 7) (64 * (X.size : Int))), (N, .cells (nRow (X.size - 7) fun j => .int .i64 (f j)) 3 (0, 0)), (M, o)] ∧ M ≠ B ∧ N ≠ B ∧ Maps.has D0 (k8 X) = true ∧ D0.atKey (k8 X) (.lit (.int .i64 0)) = .lit (.int .i64 0) ∧ ∀ w2 : World, w2.heap[M]? = some o → Mp w2 M k D0)
theorem make_selfB (X : ByteArray) (w : World) (h8 : 8 ≤ X.size) (hX : X.size ≤ 1048576) : Calls Try.prog 8 #[.string X, .string X] w fun e w' => e = .returned (.string (str (mkd X (lfS X.size) 0 0 (digs X.size ++ digs X.size)))) ∧ Below w.heap.size w w' := by
  have hXX : X.extract 0 X.size = X := ba_ext (by rw [ext_bytes, List.drop_zero, List.take_of_length_le (by rw [list_len]; omega)])
  refine make_any2 X X (lfS X.size) (GoodS X) w hX hX
    (fun w => (newFinder_any X w h8 hX).mono fun e w' ⟨B, M, N, he, hB, hM, hN, hF, hb⟩ => ?_)
    (fun a B D w ha hg hx => ?_) (fun a B D h => h.1) (fun a ha => ?_)
  · obtain ⟨f, hf⟩ := hF.nx
    obtain ⟨k, D0, hm, -, -, h1, h2⟩ := hF.mp
    obtain ⟨es, clock, c1, c2⟩ := hm
    refine ⟨B, [(B, fnd X M N (X.size - 7) (64 * (X.size : Int))), (N, .cells (nRow (X.size - 7) fun j => .int .i64 (f j)) 3 (0, 0)), (M, _)], he, ⟨⟨_, List.mem_cons_self⟩, .inl rfl, fun _ => ⟨M, N, k, D0, f, _, rfl, hF.mb, hF.nb, h1, h2, fun w2 hw2 => ⟨es, clock, hw2, c2⟩⟩⟩, ?_, ?_, hb⟩
    · intro p hp
      simp only [List.mem_cons, List.not_mem_nil, or_false] at hp
      rcases hp with rfl | rfl | rfl
      · exact ⟨hF.fd, (by decide : 62 ≠ 5)⟩
      · exact ⟨hf, (by decide : 3 ≠ 5)⟩
      · exact ⟨c1, trivial⟩
    · intro p hp
      simp only [List.mem_cons, List.not_mem_nil, or_false] at hp
      rcases hp with rfl | rfl | rfl
      · exact hB
      · exact hN
      · exact hM
  · by_cases ha0 : a = 0
    · obtain ⟨M, N, k, D0, f, o, rfl, hMB, hNB, h1, h2, hm⟩ := hg.2.2 ha0
      subst ha0
      have x1 := hx (B, fnd X M N (X.size - 7) (64 * (X.size : Int))) (by simp)
      have x2 := hx (N, .cells (nRow (X.size - 7) fun j => .int .i64 (f j)) 3 (0, 0)) (by simp)
      have x3 := hx (M, o) (by simp)
      rw [hXX]
      refine (longest_self X B M N (X.size - 7) k D0 f w h8 hX (by omega) x1.1 x2.1 (hm w x3.1) h1 h2 hNB).mono fun e w' ⟨he, hgr, sp, hsp⟩ => ?_
      refine ⟨[(B, fnd X M N (X.size - 7) sp), (N, .cells (nRow (X.size - 7) fun j => .int .i64 (f j)) 3 (0, 0)), (M, o)], he, ⟨⟨_, List.mem_cons_self⟩, .inr (by have e : (lfS X.size 0).2 = X.size := rfl; rw [e, if_pos (by omega)]; omega), fun h => absurd h (by have e : (lfS X.size 0).2 = X.size := rfl; rw [e, if_pos (by omega)]; omega)⟩, ?_, hgr, ?_⟩
      · intro p hp
        simp only [List.mem_cons, List.not_mem_nil, or_false] at hp
        rcases hp with rfl | rfl | rfl
        · exact ⟨hsp, (by decide : 62 ≠ 5)⟩
        · exact ⟨(hgr.block _ (row_lt x2.1) (by simpa using hNB)).trans x2.1, x2.2⟩
        · exact ⟨(hgr.block _ (row_lt x3.1) (by simpa using hMB)).trans x3.1, x3.2⟩
      · intro p hp
        simp only [List.mem_cons, List.not_mem_nil, or_false] at hp
        rcases hp with rfl | rfl | rfl
        · exact .inl ⟨(B, fnd X M N (X.size - 7) (64 * (X.size : Int))), by simp, rfl⟩
        · exact .inl ⟨(N, .cells (nRow (X.size - 7) fun j => .int .i64 (f j)) 3 (0, 0)), by simp, rfl⟩
        · exact .inl ⟨(M, o), by simp, rfl⟩
    · have := hg.2.1
      omega
  · unfold lfS
    split
    · exact ⟨by simp only; omega, by simp⟩
    · exact ⟨Nat.zero_le _, by simp⟩
theorem make_selfS (X : ByteArray) (w : World) (h8 : X.size < 8) : Calls Try.prog 8 #[.string X, .string X] w fun e w' => e = .returned (.string (str (mkd X lf0 0 0 (digs X.size ++ digs X.size)))) ∧ Below w.heap.size w w' :=
  make_any X X lf0 (fun _ B D => ∃ o, D = [(B, o)]) w (by omega) (by omega)
    (fun w => (newFinder_small X w h8).mono fun e w' ⟨he, hB, hm, hb⟩ => ⟨w.heap.size + 1, [(w.heap.size + 1, _)], he, ⟨_, rfl⟩, fun p hp => by simp at hp; subst hp; exact ⟨hB, (by decide : 62 ≠ 5)⟩, fun p hp => by simp at hp; subst hp; exact Nat.le_succ _, hb⟩)
    (fun a B D w ha hg hx => (longest_short _ _ w (by rw [ByteArray.size_extract]; omega)).mono fun e w' ⟨he, hw⟩ => by
      subst hw
      exact ⟨D, he, hg, hx, grown_self _ _, fun p hp => .inl ⟨p, hp, rfl⟩⟩)
    (fun a b B D h _ => h) (fun a B D ⟨o, hD⟩ => ⟨o, by rw [hD]; simp⟩) (fun a _ => ⟨Nat.zero_le _, Nat.zero_le _⟩)
theorem make_none (s : ByteArray) (w : World) (hs : s.size ≤ 1048576) : Calls Try.prog 8 #[.string ⟨#[]⟩, .string s] w fun e w' => e = .returned (.string (str (mkd s lf0 0 0 (digs 0 ++ digs s.size)))) ∧ Below w.heap.size w w' := by
  refine make_any ⟨#[]⟩ s lf0 (fun a B D => ∃ M N o, D = [(B, fnd ⟨#[]⟩ M N 0 (64 * ((⟨#[]⟩ : ByteArray).size : Int))), (M, o)] ∧ ∀ w2 : World, w2.heap[M]? = some o → Mp w2 M 0 (.map [])) w (by decide) hs
    (fun w => (newFinder_small ⟨#[]⟩ w (by decide)).mono fun e w' ⟨he, hB, hm, hb⟩ => ?_)
    (fun a B D w ha hg hx => ?_) (fun a b B D h _ => h) (fun a B D h => by obtain ⟨M, N, o, rfl, _⟩ := h; exact ⟨_, List.mem_cons_self⟩) (fun a _ => ⟨Nat.zero_le _, Nat.zero_le _⟩)
  · obtain ⟨es, clock, c1, c2⟩ := hm
    refine ⟨w.heap.size + 1, [(w.heap.size + 1, _), (w.heap.size, _)], he, ⟨w.heap.size, w.heap.size + 1 + 1, _, rfl, fun w2 hw2 => ⟨es, clock, hw2, c2⟩⟩, ?_, ?_, hb⟩
    · intro p hp
      simp only [List.mem_cons, List.not_mem_nil, or_false] at hp
      rcases hp with rfl | rfl
      · exact ⟨hB, (by decide : 62 ≠ 5)⟩
      · exact ⟨c1, trivial⟩
    · intro p hp
      simp only [List.mem_cons, List.not_mem_nil, or_false] at hp
      rcases hp with rfl | rfl
      · exact Nat.le_succ _
      · exact Nat.le_refl _
  · by_cases hz : s.size - a < 8
    · refine (longest_short _ _ w (by rw [ByteArray.size_extract]; omega)).mono fun e w' ⟨he, hw⟩ => ?_
      subst hw
      exact ⟨D, he, hg, hx, grown_self _ _, fun p hp => .inl ⟨p, hp, rfl⟩⟩
    · obtain ⟨M, N, o, rfl, hm⟩ := hg
      have x1 := hx (B, fnd ⟨#[]⟩ M N 0 (64 * ((⟨#[]⟩ : ByteArray).size : Int))) (by simp)
      have x3 := hx (M, o) (by simp)
      refine (longest_none ⟨#[]⟩ _ B M N _ w (by rw [ByteArray.size_extract]; omega) (by rw [ByteArray.size_extract]; omega) x1.1 (hm w x3.1)).mono fun e w' ⟨he, n, hw⟩ => ?_
      subst hw
      exact ⟨_, he, ⟨M, N, o, rfl, hm⟩, fun p hp => hx p hp, grown_drewN (grown_self _ _) n, fun p hp => .inl ⟨p, hp, rfl⟩⟩
end Go.Proofs.Ytlgaindeheaodaa
