/-
  Plain mathematics: the first two paths of a list that collide; what the two maps of firstToMeet hold.
-/
import Derived.Test.YtdgcmapmnkopaaaDoorPtBasic
import Derived.Maps.OwnSet
import Derived.Maps.Views
import Derived.StringKeys
namespace Go.Proofs.YtdgcmapmnkopaaaDoor
open Go.RowKit Go.Maps Go.WideMaps

theorem str_inj {a b : List UInt8} (h : str a = str b) : a = b := by
  have h2 := congrArg (fun x => x.data.toList) h
  simpa only [str_list] using h2
/-- Two paths collide. -/
def coll (a b : List UInt8) : Bool := decide (a = b) || (wthn (str a) (str b) || wthn (str b) (str a))
theorem coll_comm (a b : List UInt8) : coll a b = coll b a := by
  unfold coll
  rw [Bool.or_comm (wthn (str a) (str b)), show decide (a = b) = decide (b = a) from decide_eq_decide.mpr eq_comm]
def Cl (ls : List (List UInt8)) (i k : Nat) : Prop := coll (ls.getD i []) (ls.getD k []) = true
theorem Cl.comm {ls : List (List UInt8)} {i k : Nat} (h : Cl ls i k) : Cl ls k i := by
  unfold Cl at h ⊢
  rw [coll_comm]
  exact h
/-- What Meet answers. -/
def Met (ls : List (List UInt8)) (i k : Nat) : Bool → Prop
  | true => i < k ∧ k < ls.length ∧ Cl ls i k ∧ (∀ x y, x < i → x < y → y < ls.length → ¬ Cl ls x y) ∧ ∀ y, i < y → y < k → ¬ Cl ls i y
  | false => i = 0 ∧ k = 0 ∧ ∀ x y, x < y → y < ls.length → ¬ Cl ls x y
theorem Met.one {ls : List (List UInt8)} {i k i' k' : Nat} : ∀ {b b' : Bool}, Met ls i k b → Met ls i' k' b' → i = i' ∧ k = k' ∧ b = b'
  | true, true, ⟨a1, a2, a3, a4, a5⟩, ⟨b1, b2, b3, b4, b5⟩ => by
    have hi : i = i' := by
      rcases Nat.lt_trichotomy i i' with h | h | h
      · exact absurd a3 (b4 i k h a1 a2)
      · exact h
      · exact absurd b3 (a4 i' k' h b1 b2)
    subst hi
    refine ⟨rfl, ?_, rfl⟩
    rcases Nat.lt_trichotomy k k' with h | h | h
    · exact absurd a3 (b5 k a1 h)
    · exact h
    · exact absurd b3 (a5 k' b1 h)
  | true, false, ⟨a1, a2, a3, _, _⟩, ⟨_, _, b3⟩ => absurd a3 (b3 i k a1 a2)
  | false, true, ⟨_, _, a3⟩, ⟨b1, b2, b3, _, _⟩ => absurd b3 (a3 i' k' b1 b2)
  | false, false, ⟨a1, a2, _⟩, ⟨b1, b2, _⟩ => ⟨a1.trans b1.symm, a2.trans b2.symm, rfl⟩

/-- An index that collides with another, or the length. -/
def Fp (ls : List (List UInt8)) (f : Nat) : Prop := f = ls.length ∨ (f < ls.length ∧ ∃ k, k ≠ f ∧ k < ls.length ∧ Cl ls f k)
theorem Fp.le {ls : List (List UInt8)} {f : Nat} (h : Fp ls f) : f ≤ ls.length := by rcases h with h | h <;> omega
theorem Fp.min {ls : List (List UInt8)} {f g : Nat} (hf : Fp ls f) (hg : Fp ls g) : Fp ls (min f g) := by
  rcases Nat.le_total f g with h | h
  · rw [Nat.min_eq_left h]; exact hf
  · rw [Nat.min_eq_right h]; exact hg
/-- The first index that collides. -/
def Fm (ls : List (List UInt8)) (f : Nat) : Prop := Fp ls f ∧ ∀ i k, i < ls.length → k < ls.length → i ≠ k → Cl ls i k → f ≤ i
theorem Fm.none {ls : List (List UInt8)} {f : Nat} (h : Fm ls f) (hf : ls.length ≤ f + 1) : Met ls 0 0 false := by
  refine ⟨rfl, rfl, fun x y hx hy hc => ?_⟩
  have h1 := h.2 x y (by omega) hy (by omega) hc
  have h2 := h.1.le
  rcases h.1 with h3 | ⟨h3, k, hk, hkl, hck⟩
  · omega
  · have := h.2 k f hkl h3 hk hck.comm
    omega
theorem Fm.at {ls : List (List UInt8)} {f k : Nat} (h : Fm ls f) (hk : f < k) (hkl : k < ls.length) (hc : Cl ls f k) (hno : ∀ y, f < y → y < k → ¬ Cl ls f y) : Met ls f k true :=
  ⟨hk, hkl, hc, fun x y hx hy hyl hxy => by have := h.2 x y (by omega) hyl (by omega) hxy; omega, hno⟩
theorem Fm.out {ls : List (List UInt8)} {f k : Nat} (h : Fm ls f) (hk : ls.length ≤ k) (hno : ∀ y, f < y → y < k → ¬ Cl ls f y) : Met ls 0 0 false := by
  refine ⟨rfl, rfl, fun x y hx hy hc => ?_⟩
  have h1 := h.2 x y (by omega) hy (by omega) hc
  rcases h.1 with h3 | ⟨h3, j, hj, hjl, hcj⟩
  · omega
  · have h4 := h.2 j f hjl h3 hj hcj.comm
    exact hno j (by omega) (by omega) hcj

/-- What the rounds of the two loops give. -/
def D1 (ls : List (List UInt8)) (f k : Nat) : Prop := ∀ i j, i < j → j < k → ls.getD i [] = ls.getD j [] → f ≤ i
def W2 (ls : List (List UInt8)) (i j : Nat) : Prop := wthn (str (ls.getD i [])) (str (ls.getD j [])) = true
def D2 (ls : List (List UInt8)) (f k : Nat) : Prop := ∀ i j, i < ls.length → j < k → W2 ls i j → f ≤ i ∧ f ≤ j
def D3 (ls : List (List UInt8)) (f k m : Nat) : Prop := ∀ i, i < ls.length → (ls.getD i []).length < m → W2 ls i k → f ≤ i ∧ f ≤ k
theorem D1.mono {ls : List (List UInt8)} {f g k : Nat} (h : D1 ls f k) (hg : g ≤ f) : D1 ls g k := fun i j a b c => Nat.le_trans hg (h i j a b c)
theorem D2.mono {ls : List (List UInt8)} {f g k : Nat} (h : D2 ls f k) (hg : g ≤ f) : D2 ls g k := fun i j a b c => ⟨Nat.le_trans hg (h i j a b c).1, Nat.le_trans hg (h i j a b c).2⟩
theorem D3.mono {ls : List (List UInt8)} {f g k m : Nat} (h : D3 ls f k m) (hg : g ≤ f) : D3 ls g k m := fun i a b c => ⟨Nat.le_trans hg (h i a b c).1, Nat.le_trans hg (h i a b c).2⟩
theorem wthn_size {d p : ByteArray} (h : wthn d p = true) : d.size < p.size := by
  unfold wthn at h
  split at h
  · rename_i h0
    rw [bne_iff_ne] at h
    omega
  · simp only [Bool.and_eq_true, decide_eq_true_eq] at h
    omega
theorem wthn_pre {d p : ByteArray} (h : wthn d p = true) : d = p.extract 0 d.size := by
  unfold wthn at h
  refine ba_ext ?_
  rw [ext_bytes, List.drop_zero, Nat.sub_zero]
  split at h
  · rename_i h0
    rw [List.eq_nil_of_length_eq_zero (l := d.data.toList) (by rw [list_len]; exact h0), h0]
    rfl
  · simp only [Bool.and_eq_true, decide_eq_true_eq, beq_iff_eq] at h
    have h1 := h.1.2
    rw [ByteArray.toList_eq, ByteArray.toList_eq, ext_bytes, List.drop_zero, Nat.sub_zero] at h1
    exact h1.symm
theorem getD_len {ls : List (List UInt8)} {i : Nat} (h : ls.getD i [] ≠ []) : i < ls.length := by
  rcases Nat.lt_or_ge i ls.length with h1 | h1
  · exact h1
  · exact absurd (by rw [List.getD_eq_getElem?_getD, List.getElem?_eq_none h1]; rfl) h
theorem W2.len {ls : List (List UInt8)} {i j : Nat} (h : W2 ls i j) : (ls.getD i []).length < (ls.getD j []).length := by
  have := wthn_size h
  rwa [str_size, str_size] at this
theorem W2.ne {ls : List (List UInt8)} {i j : Nat} (h : W2 ls i j) : i ≠ j := fun e => by
  have := h.len
  rw [e] at this
  omega
theorem W2.cl {ls : List (List UInt8)} {i j : Nat} (h : W2 ls i j) : Cl ls i j := by
  unfold Cl coll
  rw [show wthn (str (ls.getD i [])) (str (ls.getD j [])) = true from h]
  simp
theorem fm_of {ls : List (List UInt8)} {f : Nat} (hp : Fp ls f) (h1 : D1 ls f ls.length) (h2 : D2 ls f ls.length) : Fm ls f := by
  refine ⟨hp, fun i k hi hk hik hc => ?_⟩
  unfold Cl coll at hc
  rcases Bool.or_eq_true _ _ |>.mp hc with h | h
  · have he := of_decide_eq_true h
    rcases Nat.lt_or_ge i k with hl | hl
    · exact h1 i k hl hk he
    · have := h1 k i (by omega) hi he.symm
      omega
  · rcases Bool.or_eq_true _ _ |>.mp h with h | h
    · exact (h2 i k hi hk h).1
    · exact (h2 k i hk hi h).2
theorem fp_same {ls : List (List UInt8)} {i j : Nat} (hi : i < ls.length) (hj : j < ls.length) (hij : j ≠ i) (h : ls.getD i [] = ls.getD j []) : Fp ls i :=
  .inr ⟨hi, j, hij, hj, by unfold Cl coll; rw [h]; simp⟩
theorem fp_in {ls : List (List UInt8)} {i j : Nat} (hi : i < ls.length) (hj : j < ls.length) (h : W2 ls i j) : Fp ls i ∧ Fp ls j :=
  ⟨.inr ⟨hi, j, h.ne.symm, hj, h.cl⟩, .inr ⟨hj, i, h.ne, hi, h.cl.comm⟩⟩
theorem D3.start (ls : List (List UInt8)) (f k : Nat) : D3 ls f k 0 := fun _ _ h => absurd h (Nat.not_lt_zero _)
theorem D3.skip {ls : List (List UInt8)} {f k m : Nat} (h : D3 ls f k m) (hn : ∀ i, i < ls.length → (ls.getD i []).length = m → ¬ W2 ls i k) : D3 ls f k (m + 1) := fun i a b c => by
  rcases Nat.lt_or_ge (ls.getD i []).length m with hl | hl
  · exact h i a hl c
  · exact absurd c (hn i a (by omega))
/-- A directory that stands in the list. -/
theorem D3.hit {ls : List (List UInt8)} {f g k m d : Nat} (h : D3 ls f k m) (hgf : g ≤ f) (hgd : g ≤ d) (hgk : g ≤ k) (hfirst : ∀ i, i < d → ls.getD i [] ≠ (ls.getD k []).take m) : D3 ls g k (m + 1) := fun i a b c => by
  rcases Nat.lt_or_ge (ls.getD i []).length m with hl | hl
  · exact ⟨Nat.le_trans hgf (h i a hl c).1, hgk⟩
  · refine ⟨?_, hgk⟩
    have hp := wthn_pre c
    have he : ls.getD i [] = (ls.getD k []).take m := by
      have h2 := congrArg (fun x => x.data.toList) hp
      simp only [ext_bytes, str_list, str_size, List.drop_zero, Nat.sub_zero] at h2
      rw [show (ls.getD i []).length = m by omega] at h2
      exact h2
    rcases Nat.lt_or_ge i d with hx | hx
    · exact absurd he (hfirst i hx)
    · omega
theorem D2.next {ls : List (List UInt8)} {f k m : Nat} (h : D2 ls f k) (h3 : D3 ls f k m) (hm : (ls.getD k []).length ≤ m) : D2 ls f (k + 1) := fun i j a b c => by
  rcases Nat.lt_or_ge j k with hl | hl
  · exact h i j a hl c
  · obtain rfl : j = k := by omega
    exact h3 i a (Nat.lt_of_lt_of_le c.len hm) c

/-- What the map of the paths holds behind k of them. -/
def pk (l : List UInt8) : Lit := .string l
def Ci (ls : List (List UInt8)) : Nat → DataW Unit
  | 0 => .map []
  | k + 1 => if Maps.has (Ci ls k) (pk (ls.getD k [])) then Ci ls k else (Ci ls k).put (pk (ls.getD k [])) (.lit (.int .i64 (k : Int)))
/-- The map of the sizes. -/
def Zi (ls : List (List UInt8)) : Nat → DataW Unit
  | 0 => .map []
  | k + 1 => if Maps.has (Ci ls k) (pk (ls.getD k [])) then Zi ls k else (Zi ls k).put (.int .i64 ((ls.getD k []).length : Int)) (.lit (.bool true))
theorem Ci_isMap (ls : List (List UInt8)) : ∀ k, IsMap (Ci ls k)
  | 0 => isMap_empty
  | k + 1 => by
    rw [Ci]
    split
    · exact Ci_isMap ls k
    · exact (Ci_isMap ls k).put _ _
theorem Zi_isMap (ls : List (List UInt8)) : ∀ k, IsMap (Zi ls k)
  | 0 => isMap_empty
  | k + 1 => by
    rw [Zi]
    split
    · exact Zi_isMap ls k
    · exact (Zi_isMap ls k).put _ _
theorem pk_key (l : List UInt8) : WideAt.IsKeyLit (pk l) := trivial
theorem szk_key (m : Nat) : WideAt.IsKeyLit (Lit.int .i64 (m : Int)) := trivial
theorem pk_ne {a b : List UInt8} (h : a ≠ b) : pk a ≠ pk b := fun e => h (Lit.string.inj e)
theorem Ci_look (ls : List (List UInt8)) (q : List UInt8) : ∀ k, ((∀ j, j < k → ls.getD j [] ≠ q) ∧ Maps.has (Ci ls k) (pk q) = false) ∨
    ∃ f, f < k ∧ ls.getD f [] = q ∧ (∀ j, j < f → ls.getD j [] ≠ q) ∧ Maps.has (Ci ls k) (pk q) = true ∧ ∀ z, (Ci ls k).atKey (pk q) z = .lit (.int .i64 (f : Int))
  | 0 => .inl ⟨fun _ h => absurd h (Nat.not_lt_zero _), rfl⟩
  | k + 1 => by
    rw [Ci]
    rcases Ci_look ls q k with ⟨h1, h2⟩ | ⟨f, h1, h2, h3, h4, h5⟩
    · by_cases he : ls.getD k [] = q
      · rw [he, h2, if_neg (by decide)]
        exact .inr ⟨k, Nat.lt_succ_self _, he, h1, has_put_same (Ci_isMap ls k) (pk_key q) _, fun z => atKey_put_same (Ci_isMap ls k) (pk_key q) _ z⟩
      · refine .inl ⟨fun j hj => ?_, ?_⟩
        · rcases Nat.lt_or_ge j k with hl | hl
          · exact h1 j hl
          · obtain rfl : j = k := by omega
            exact he
        · split
          · exact h2
          · rw [has_put_other (pk_ne (Ne.symm he))]
            exact h2
    · refine .inr ⟨f, by omega, h2, h3, ?_, fun z => ?_⟩
      · split
        · exact h4
        · rename_i hn
          rw [has_put_other (pk_ne (fun e => hn (by rw [← e]; exact h4)))]
          exact h4
      · split
        · exact h5 z
        · rename_i hn
          rw [atKey_put_other (pk_ne (fun e => hn (by rw [← e]; exact h4)))]
          exact h5 z
theorem szk_ne {a b : Nat} (h : a ≠ b) : (Lit.int .i64 (a : Int)) ≠ Lit.int .i64 (b : Int) := fun e => by
  have h2 := (Lit.int.inj e).2
  omega
theorem Zi_look (ls : List (List UInt8)) (m : Nat) : ∀ k, ∃ B : Bool, (B = false → ∀ j, j < k → (ls.getD j []).length ≠ m) ∧ (B = true → ∃ j, j < k ∧ (ls.getD j []).length = m) ∧ (Zi ls k).atKey (.int .i64 (m : Int)) (.lit (.bool false)) = .lit (.bool B)
  | 0 => ⟨false, fun _ _ h => absurd h (Nat.not_lt_zero _), fun h => (by cases h), rfl⟩
  | k + 1 => by
    rw [Zi]
    obtain ⟨B, h1, h2, h3⟩ := Zi_look ls m k
    rcases Ci_look ls (ls.getD k []) k with ⟨c1, c2⟩ | ⟨f, c1, c2, _, c4, _⟩
    · rw [c2, if_neg (by decide)]
      by_cases he : (ls.getD k []).length = m
      · exact ⟨true, fun h => (by cases h), fun _ => ⟨k, Nat.lt_succ_self _, he⟩, by rw [he]; exact atKey_put_same (Zi_isMap ls k) (szk_key m) _ _⟩
      · refine ⟨B, fun hb j hj => ?_, fun hb => ?_, by rw [atKey_put_other (szk_ne (Ne.symm he))]; exact h3⟩
        · rcases Nat.lt_or_ge j k with hl | hl
          · exact h1 hb j hl
          · obtain rfl : j = k := by omega
            exact he
        · obtain ⟨j, hj, hjm⟩ := h2 hb
          exact ⟨j, by omega, hjm⟩
    · rw [c4, if_pos rfl]
      refine ⟨B, fun hb j hj => ?_, fun hb => ?_, h3⟩
      · rcases Nat.lt_or_ge j k with hl | hl
        · exact h1 hb j hl
        · obtain rfl : j = k := by omega
          rw [← c2]
          exact h1 hb f c1
      · obtain ⟨j, hj, hjm⟩ := h2 hb
        exact ⟨j, by omega, hjm⟩
end Go.Proofs.YtdgcmapmnkopaaaDoor
