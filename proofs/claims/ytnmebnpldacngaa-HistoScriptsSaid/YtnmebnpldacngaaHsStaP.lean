/-
  Plain mathematics: the runs that are kept, moved; runs that touch, joined.
-/
import Derived.Test.YtnmebnpldacngaaHsVal2
namespace Go.Proofs.Ytnmebnpldacngaa

/-- A run, moved. -/
def sh (u v : Int) (r : Rn) : Rn := ⟨r.a + u, r.b + v, r.n⟩
theorem kp_sh (i j n u v : Int) : kp (i + u) (j + v) n = (kp i j n).map (sh u v) := by
  unfold kp
  split <;> rfl
theorem kp_at (i j n u v i' j' : Int) (h1 : i' = i + u) (h2 : j' = j + v) : kp i' j' n = (kp i j n).map (sh u v) := by rw [h1, h2, kp_sh]
theorem flatMap_sh (l : List Rn) (i j u v : Int) : (l.flatMap fun r => kp (i + u + r.a) (j + v + r.b) r.n) = (l.flatMap fun r => kp (i + r.a) (j + r.b) r.n).map (sh u v) := by
  induction l with
  | nil => rfl
  | cons r l ih =>
    rw [List.flatMap_cons, List.flatMap_cons, List.map_append, ih, kp_at (i + r.a) (j + r.b) r.n u v _ _ (by omega) (by omega)]
theorem sp_sh {α : Type} [DecidableEq α] (LS : List α → List α → List Rn) : ∀ (k : Nat) (X Y : List α) (i j u v : Int), sp LS k X Y (i + u) (j + v) = (sp LS k X Y i j).map (sh u v)
  | 0, _, _, _, _, _, _ => rfl
  | k + 1, X, Y, i, j, u, v => by
    have ih := sp_sh LS k
    rw [sp, sp, List.map_append, List.map_append, kp_sh]
    congr 1
    congr 1
    · split
      · rfl
      · unfold mid
        split
        · rw [show i + u + (cpre X Y : Int) = i + cpre X Y + u by omega, show j + v + (cpre X Y : Int) = j + cpre X Y + v by omega]
          exact flatMap_sh _ _ _ _ _
        · rename_i r _
          rw [List.map_append, List.map_append, show i + u + (cpre X Y : Int) = i + cpre X Y + u by omega, show j + v + (cpre X Y : Int) = j + cpre X Y + v by omega, ih _ _ (i + cpre X Y) (j + cpre X Y) u v,
            kp_at (i + cpre X Y + r.a) (j + cpre X Y + r.b) r.n u v _ _ (by omega) (by omega),
            show i + cpre X Y + u + ((r.a + r.n : Nat) : Int) = i + cpre X Y + ((r.a + r.n : Nat) : Int) + u by omega, show j + cpre X Y + v + ((r.b + r.n : Nat) : Int) = j + cpre X Y + ((r.b + r.n : Nat) : Int) + v by omega, ih _ _ (i + cpre X Y + ((r.a + r.n : Nat) : Int)) (j + cpre X Y + ((r.b + r.n : Nat) : Int)) u v]
    · exact kp_at _ _ _ u v _ _ (by omega) (by omega)
/-- The runs of the middle, from the place 0 on. -/
theorem mid_at {α : Type} [DecidableEq α] (LS : List α → List α → List Rn) (k : Nat) (X Y : List α) (u v : Int) : mid LS (sp LS k) X Y u v = (mid LS (sp LS k) X Y 0 0).map (sh u v) := by
  unfold mid
  split
  · rename_i h
    have := flatMap_sh (LS X Y) 0 0 u v
    rw [Int.zero_add, Int.zero_add] at this
    exact this
  · rename_i r h
    rw [List.map_append, List.map_append]
    have e := sp_sh LS k (X.take r.a) (Y.take r.b) 0 0 u v
    rw [Int.zero_add, Int.zero_add] at e
    rw [e, kp_at (0 + r.a) (0 + r.b) r.n u v _ _ (by omega) (by omega), show u + ((r.a + r.n : Nat) : Int) = 0 + ((r.a + r.n : Nat) : Int) + u by omega, show v + ((r.b + r.n : Nat) : Int) = 0 + ((r.b + r.n : Nat) : Int) + v by omega, sp_sh LS k]

/-- A run that lies within n lines, in plain numbers. -/
def Inn (N : Nat) (r : Rn) : Prop := ∃ a b n : Nat, r = ⟨a, b, n⟩ ∧ 1 ≤ n ∧ a + n ≤ N ∧ b + n ≤ N
/-- One run more: it is joined to the last one if they touch. -/
def js (acc : List Rn) (r : Rn) : List Rn :=
  match acc.getLast? with
  | none => [r]
  | some q => if q.a + q.n = r.a ∧ q.b + q.n = r.b then acc.dropLast ++ [⟨q.a, q.b, q.n + r.n⟩] else acc ++ [r]
def jn (acc : List Rn) : List Rn → List Rn
  | [] => acc
  | r :: l => jn (js acc r) l
theorem js_nil (r : Rn) : js [] r = [r] := rfl
theorem js_yes (p : List Rn) (q r : Rn) (h : q.a + q.n = r.a ∧ q.b + q.n = r.b) : js (p ++ [q]) r = p ++ [⟨q.a, q.b, q.n + r.n⟩] := by
  unfold js
  rw [List.getLast?_concat, List.dropLast_concat]
  simp [h]
theorem js_no (p : List Rn) (q r : Rn) (h : ¬ (q.a + q.n = r.a ∧ q.b + q.n = r.b)) : js (p ++ [q]) r = p ++ [q] ++ [r] := by
  unfold js
  rw [List.getLast?_concat]
  simp [h]
theorem js_cases (acc : List Rn) (r : Rn) : (acc = [] ∧ js acc r = [r]) ∨ ∃ p q, acc = p ++ [q] := by
  rcases List.eq_nil_or_concat acc with rfl | ⟨p, q, rfl⟩
  · exact .inl ⟨rfl, rfl⟩
  · exact .inr ⟨p, q, List.concat_eq_append⟩
theorem js_inn {N : Nat} {acc : List Rn} {r : Rn} (h : ∀ q ∈ acc, Inn N q) (hr : Inn N r) : ∀ q ∈ js acc r, Inn N q := by
  rcases js_cases acc r with ⟨rfl, e⟩ | ⟨p, q, rfl⟩
  · rw [e]
    intro q hq
    rw [List.mem_singleton] at hq
    subst hq
    exact hr
  · by_cases hc : q.a + q.n = r.a ∧ q.b + q.n = r.b
    · rw [js_yes p q r hc]
      intro z hz
      rcases List.mem_append.1 hz with hz | hz
      · exact h z (by simp [hz])
      · rw [List.mem_singleton] at hz
        subst hz
        obtain ⟨a, b, n, rfl, h1, h2, h3⟩ := h q (by simp)
        obtain ⟨a', b', n', rfl, g1, g2, g3⟩ := hr
        simp only at hc
        exact ⟨a, b, n + n', by simp, by omega, by omega, by omega⟩
    · rw [js_no p q r hc]
      intro z hz
      rcases List.mem_append.1 hz with hz | hz
      · exact h z hz
      · rw [List.mem_singleton] at hz
        subst hz
        exact hr
theorem js_len (acc : List Rn) (r : Rn) : (js acc r).length ≤ acc.length + 1 := by
  rcases js_cases acc r with ⟨rfl, e⟩ | ⟨p, q, rfl⟩
  · rw [e]; simp
  · by_cases hc : q.a + q.n = r.a ∧ q.b + q.n = r.b
    · rw [js_yes p q r hc]; simp
    · rw [js_no p q r hc]; simp
theorem ofL_join (N M : Int) (q r : Rn) (l : List Rn) (h : q.a + q.n = r.a ∧ q.b + q.n = r.b) (h1 : 1 ≤ q.n) (h2 : 1 ≤ r.n) : ∀ (p : List Rn) (i j : Int) (acc : List Ed), ofL N M (p ++ ⟨q.a, q.b, q.n + r.n⟩ :: l) i j acc = ofL N M (p ++ q :: r :: l) i j acc
  | [], i, j, acc => by
    obtain ⟨a, b, n⟩ := q
    obtain ⟨a', b', n'⟩ := r
    simp only at h h1 h2 ⊢
    obtain ⟨rfl, rfl⟩ := h
    simp only [List.nil_append]
    by_cases hq : okR ⟨a, b, n⟩ i j N M
    · rw [ofL_go hq]
      by_cases hr : okR ⟨a + n, b + n, n'⟩ (a + n) (b + n) N M
      · rw [ofL_go hr, ofL_go (r := ⟨a, b, n + n'⟩) (by unfold okR at hq hr ⊢; simp only at hq hr ⊢; omega)]
        simp only
        rw [chg_not, Int.add_assoc, Int.add_assoc]
      · rw [ofL_not hr, ofL_not (by unfold okR at hq hr ⊢; simp only at hq hr ⊢; omega)]
    · rw [ofL_not hq, ofL_not (by unfold okR at hq ⊢; simp only at hq ⊢; omega)]
  | z :: p, i, j, acc => by
    rw [List.cons_append, List.cons_append]
    by_cases hz : okR z i j N M
    · rw [ofL_go hz, ofL_go hz, ofL_join N M q r l h h1 h2 p]
    · rw [ofL_not hz, ofL_not hz]
theorem jn_of {N K : Nat} (n m : Int) : ∀ (l acc : List Rn), (∀ r ∈ acc, Inn N r) → (∀ r ∈ l, Inn N r) → ∀ (i j : Int) (e : List Ed), ofL n m (jn acc l) i j e = ofL n m (acc ++ l) i j e
  | [], acc, _, _, i, j, e => by rw [jn, List.append_nil]
  | r :: l, acc, ha, hl, i, j, e => by
    rw [jn, jn_of (K := K) n m l (js acc r) (js_inn ha (hl r (by simp))) (fun q hq => hl q (by simp [hq]))]
    rcases js_cases acc r with ⟨rfl, e2⟩ | ⟨p, q, rfl⟩
    · rw [e2]; rfl
    · by_cases hc : q.a + q.n = r.a ∧ q.b + q.n = r.b
      · rw [js_yes p q r hc, List.append_assoc, List.append_assoc]
        obtain ⟨a, b, x, hq, h1, _, _⟩ := ha q (by simp)
        obtain ⟨a', b', x', hr, g1, _, _⟩ := hl r (by simp)
        exact ofL_join n m q r l hc (by rw [hq]; simp only; omega) (by rw [hr]; simp only; omega) p i j e
      · rw [js_no p q r hc, List.append_assoc]
        rfl
theorem jn_inn {N : Nat} : ∀ {l acc : List Rn}, (∀ r ∈ acc, Inn N r) → (∀ r ∈ l, Inn N r) → ∀ r ∈ jn acc l, Inn N r
  | [], _, ha, _ => ha
  | r :: l, acc, ha, hl => by
    rw [jn]
    exact jn_inn (js_inn ha (hl r (by simp))) (fun q hq => hl q (by simp [hq]))
theorem jn_len : ∀ (l acc : List Rn), (jn acc l).length ≤ acc.length + l.length
  | [], acc => by simp [jn]
  | r :: l, acc => by
    have := jn_len l (js acc r)
    have := js_len acc r
    rw [jn, List.length_cons]
    omega
theorem jn_from {N : Nat} (n m : Nat) (l : List Rn) (h : ∀ r ∈ l, Inn N r) : fromL n m (jn [] l) = fromL n m l := by
  unfold fromL
  rw [if_neg (by omega), if_neg (by omega)]
  exact jn_of (N := N) (K := 0) n m l [] (by simp) h 0 0 []
theorem ch_inn {A B : List (List UInt8)} {N : Nat} {l : List Rn} {i j i' j' : Nat} (h : Ch A B l i j i' j') (hA : A.length ≤ N) (hB : B.length ≤ N) : ∀ r ∈ l, Inn N r := fun r hr => by
  obtain ⟨a, b, n, e, h1, h2, h3⟩ := h.all r hr
  exact ⟨a, b, n, e, h1, by omega, by omega⟩
/-- What the reference keeps of the middle where there is no anchor. -/
theorem mid_none {k : Nat} {X Y : List (List UInt8)} (hx : X.length ≤ 4096) (hy : Y.length ≤ 4096) (h : anc X Y = none) : mid LSr (sp LSr k) X Y 0 0 = LSr X Y := by
  have hc := (lsr_ch hx hy).all
  unfold mid
  rw [h]
  simp only
  generalize LSr X Y = l at hc
  induction l with
  | nil => rfl
  | cons r l ih =>
    rw [List.flatMap_cons, ih fun q hq => hc q (by simp [hq])]
    obtain ⟨a, b, n, rfl, h1, _, _⟩ := hc r (by simp)
    unfold kp
    rw [if_pos (by simp only; omega)]
    simp
theorem mid_some {k : Nat} {X Y : List (List UInt8)} {r : Ru} (h : anc X Y = some r) : mid LSr (sp LSr k) X Y 0 0 = sp LSr k (X.take r.a) (Y.take r.b) 0 0 ++ [⟨r.a, r.b, r.n⟩] ++ (sp LSr k (X.drop (r.a + r.n)) (Y.drop (r.b + r.n)) 0 0).map (sh (r.a + r.n : Nat) (r.b + r.n : Nat)) := by
  have h1 := (anc_facts h).1
  unfold mid
  rw [h]
  simp only
  have e := sp_sh LSr k (X.drop (r.a + r.n)) (Y.drop (r.b + r.n)) 0 0 (r.a + r.n : Nat) (r.b + r.n : Nat)
  rw [e]
  unfold kp
  rw [if_pos (by omega)]
  simp
end Go.Proofs.Ytnmebnpldacngaa
