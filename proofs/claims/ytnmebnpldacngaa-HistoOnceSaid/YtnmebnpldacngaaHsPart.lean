/-
  The walks of part and middle.
-/
import Derived.Test.YtnmebnpldacngaaHsKLeast
namespace Go.Proofs.Ytnmebnpldacngaa
open Go.RowKit

theorem sub_list {α : Type} {X la : List α} {i n a l : Nat} (hX : X = (la.drop i).take n) (h : a + l ≤ n) : (X.drop a).take l = (la.drop (i + a)).take l := by
  rw [hX, List.drop_take, List.take_take, List.drop_drop, Nat.min_eq_left (by omega)]
theorem anc_facts {X Y : List (List UInt8)} {r : Ru} (h : anc X Y = some r) : 1 ≤ r.n ∧ r.a + r.n ≤ X.length ∧ r.b + r.n ≤ Y.length := by
  have h1 := anc_is X Y
  rw [h] at h1
  exact ⟨h1.1.pos, h1.1.la, h1.1.lb⟩
theorem mid_len (go : List (List UInt8) → List (List UInt8) → Int → Int → List Rn) (X Y : List (List UInt8)) (i j : Int) (hgo : ∀ X' Y' i j, X'.length + Y'.length + 2 ≤ X.length + Y.length → (go X' Y' i j).length ≤ 4 * (X'.length + Y'.length) + 4) (hxy : 1 ≤ X.length + Y.length) :
    (mid LSr go X Y i j).length ≤ 4 * (X.length + Y.length) + 2 := by
  unfold mid
  cases ha : anc X Y with
  | none =>
    simp only
    have h1 := flat_len (fun r : Rn => kp (i + r.a) (j + r.b) r.n) (fun r => kp_len _ _ _) (LSr X Y)
    have h2 := lsr_len X Y
    omega
  | some r =>
    obtain ⟨h1, h2, h3⟩ := anc_facts ha
    simp only [List.length_append]
    have g1 := hgo (X.take r.a) (Y.take r.b) i j (by simp only [List.length_take]; omega)
    have g2 := hgo (X.drop (r.a + r.n)) (Y.drop (r.b + r.n)) (i + (r.a + r.n : Nat)) (j + (r.b + r.n : Nat)) (by simp only [List.length_drop]; omega)
    have g3 := kp_len (i + r.a) (j + r.b) r.n
    simp only [List.length_take, List.length_drop] at g1 g2
    omega
theorem sp_len : ∀ (k : Nat) (X Y : List (List UInt8)) (i j : Int), (sp LSr k X Y i j).length ≤ 4 * (X.length + Y.length) + 4
  | 0, _, _, _, _ => by simp [sp]
  | k + 1, X, Y, i, j => by
    rw [sp, List.length_append, List.length_append]
    have h1 := kp_len i j (cpre X Y)
    have h2 := kp_len (i + cpre X Y + (inr X Y X).length) (j + cpre X Y + (inr X Y Y).length) (tl X Y)
    split
    · simp only [List.length_nil]; omega
    · rename_i hne
      have h3 := mid_len (sp LSr k) (inr X Y X) (inr X Y Y) (i + cpre X Y) (j + cpre X Y) (fun X' Y' i j _ => sp_len k X' Y' i j) (by omega)
      have h4 := inr_len X Y X
      have h5 := inr_len X Y Y
      omega
/-- What stands still while the histogram script is made. -/
structure Hw (W : World) (K : Nat) (pa pb : Option Addr) (n m ca cb : Nat) (la lb : List (List UInt8)) (f : List UInt8 → Nat) : Prop where
  kl : Kl W K pa pb n m ca cb la lb
  inj : Inj f la lb
  few : ∀ x ∈ la ++ lb, f x ≤ 1048576
section
variable {W : World} {K na nb ca cb : Nat} {pa pb : Option Addr} {la lb : List (List UInt8)} {f : List UInt8 → Nat}
/-- The numbers of a part, in every world of the keeper. -/
structure Pr (W : World) (K : Nat) (la : List (List UInt8)) (f : List UInt8 → Nat) (X : List (List UInt8)) (p : Option Addr) (n c i : Nat) : Prop where
  eq : X = (la.drop i).take n
  le : i + n ≤ la.length
  cap : n ≤ c
  row : ∀ w, W.grownBy w (some K) → NRw w p (X.map f)
theorem Pr.len {X : List (List UInt8)} {p : Option Addr} {n c i : Nat} (h : Pr W K la f X p n c i) : X.length = n := by
  rw [h.eq, List.length_take, List.length_drop]
  have := h.le
  omega
theorem Pr.mem {X : List (List UInt8)} {p : Option Addr} {n c i : Nat} (h : Pr W K la f X p n c i) : ∀ x ∈ X, x ∈ la := fun x hx => by
  rw [h.eq] at hx
  exact List.mem_of_mem_drop (List.mem_of_mem_take hx)
theorem Pr.drop {X : List (List UInt8)} {p : Option Addr} {n c i : Nat} (h : Pr W K la f X p n c i) (a : Nat) (ha : a ≤ n) : Pr W K la f (X.drop a) (if c = a then p else p.map (·.add a)) (n - a) (c - a) (i + a) := by
  have hl := h.len
  have := h.le
  have := h.cap
  refine ⟨?_, by omega, by omega, fun w hw => ?_⟩
  · have := sub_list (a := a) (l := n - a) h.eq (by omega)
    rw [List.take_of_length_le (by rw [List.length_drop]; omega)] at this
    exact this
  · rw [List.map_drop]
    exact (h.row w hw).cut (c := c) a (by rw [List.length_map]; omega) (by rw [List.length_map]; omega)
theorem Pr.take {X : List (List UInt8)} {p : Option Addr} {n c i : Nat} (h : Pr W K la f X p n c i) (l : Nat) (hl : l ≤ n) : Pr W K la f (X.take l) p l c i := by
  have := h.le
  have := h.cap
  refine ⟨?_, by omega, by omega, fun w hw => ?_⟩
  · have := sub_list (a := 0) (l := l) h.eq (by omega)
    simpa using this
  · rw [List.map_take]
    exact (h.row w hw).take l
/-- What part does, for a bound of the recursion. -/
def PartP (W : World) (K na nb ca cb : Nat) (pa pb : Option Addr) (la lb : List (List UInt8)) (f : List UInt8 → Nat) (k : Nat) : Prop :=
  ∀ (X Y : List (List UInt8)) (p q : Option Addr) (n m c d i j : Nat) (acc R : List Rn) (wx : World), Pr W K la f X p n c i → Pr W K lb f Y q m d j → Kp W K (.slice pa na ca) (.slice pb nb cb) acc wx → acc.length + 4 * (n + m) + 4 ≤ 500000 → n + m < k → R = acc ++ sp LSr k X Y i j →
    Calls Try.prog 23 #[.pointer (some ⟨K, 0, none⟩), .slice p n c, .slice q m d, .int .i64 (i : Int), .int .i64 (j : Int)] wx fun e w' => e = .returned (.tuple #[]) ∧ Kp W K (.slice pa na ca) (.slice pb nb cb) R w' ∧ Fz K (.slice pa na ca) (.slice pb nb cb) wx w'
def MidP (W : World) (K na nb ca cb : Nat) (pa pb : Option Addr) (la lb : List (List UInt8)) (f : List UInt8 → Nat) (k : Nat) : Prop :=
  ∀ (X Y : List (List UInt8)) (p q : Option Addr) (n m c d i j : Nat) (acc R : List Rn) (wx : World), Pr W K la f X p n c i → Pr W K lb f Y q m d j → Kp W K (.slice pa na ca) (.slice pb nb cb) acc wx → acc.length + 4 * (n + m) + 2 ≤ 500000 → n + m ≤ k → R = acc ++ mid LSr (sp LSr k) X Y i j →
    Calls Try.prog 41 #[.pointer (some ⟨K, 0, none⟩), .slice p n c, .slice q m d, .int .i64 (i : Int), .int .i64 (j : Int)] wx fun e w' => e = .returned (.tuple #[]) ∧ Kp W K (.slice pa na ca) (.slice pb nb cb) R w' ∧ Fz K (.slice pa na ca) (.slice pb nb cb) wx w'
theorem Hw.sub (h : Hw W K pa pb na nb ca cb la lb f) {X Y : List (List UInt8)} {p q : Option Addr} {n m c d i j : Nat} (hx : Pr W K la f X p n c i) (hy : Pr W K lb f Y q m d j) : Inj f X Y ∧ (∀ x ∈ X.map f, x ≤ 1048576) ∧ (∀ x ∈ Y.map f, x ≤ 1048576) := by
  refine ⟨inj_sub h.inj hx.mem hy.mem, fun u hu => ?_, fun u hu => ?_⟩
  · obtain ⟨x, h1, rfl⟩ := List.mem_map.mp hu
    exact h.few x (List.mem_append.mpr (.inl (hx.mem x h1)))
  · obtain ⟨x, h1, rfl⟩ := List.mem_map.mp hu
    exact h.few x (List.mem_append.mpr (.inr (hy.mem x h1)))
end
end Go.Proofs.Ytnmebnpldacngaa
