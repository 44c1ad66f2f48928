/-
  Plain mathematics: what Decompress answers for the compressed form cut short.
-/
import Derived.Test.YtgdeefcgjaklhaaSqBackPlain
namespace Go.Proofs.Ytgdeefcgjaklhaa

/-- A varint cut short. -/
theorem tk_cut (m : Nat) : ∀ (k a j : Nat), m * 128 ^ k < 18446744073709551616 → (k = 0 ∨ 0 < m) → j < (digs m).length → tk ((digs m).take j) k a = (0, 0, 3) := by
  induction m using Nat.strongRecOn with
  | ind m ih =>
    intro k a j hm hk hj
    cases j with
    | zero => rw [List.take_zero, tk_nil]
    | succ j =>
      by_cases h : m < 128
      · rw [digs_le1 h] at hj; omega
      · have hb := digs_big (n := m) (by omega)
        rw [hb] at hj ⊢
        rw [List.take_succ_cons]
        rw [List.length_cons] at hj
        have h128 : (128 : Nat) ^ 9 = 9223372036854775808 := by decide
        have hk9 : k < 9 := by
          rcases Nat.lt_or_ge k 9 with h9 | h9
          · exact h9
          · have h2 : 128 ^ 9 ≤ 128 ^ k := Nat.pow_le_pow_right (by decide) h9
            have h3 : 128 * 128 ^ k ≤ m * 128 ^ k := Nat.mul_le_mul_right _ (by omega)
            omega
        have hc : (UInt8.ofNat (m % 128 + 128)).toNat = m % 128 + 128 := by simp; omega
        rw [tk_on (by rw [hc]; omega) (by rw [hc]; omega)]
        refine ih (m / 128) (by omega) (k + 1) _ j ?_ (.inr (by omega)) (by omega)
        have h4 : m / 128 * 128 ^ (k + 1) ≤ m * 128 ^ k := by
          rw [Nat.pow_succ, Nat.mul_comm (128 ^ k) 128, ← Nat.mul_assoc]
          exact Nat.mul_le_mul_right _ (by omega)
        omega
theorem takeAt_cut (A : List UInt8) (n j : Nat) (hn : n < 18446744073709551616) (hj : j < (digs n).length) : takeAt (A ++ (digs n).take j) (A.length : Nat) = (0, 0, 3) := by
  have h := takeAt_of (l := A ++ (digs n).take j) (p := A.length) (v := (0, 0, 3)) (by simp) (by rw [List.drop_left, tk_cut n 0 0 j (by omega) (.inl rfl) hj])
  rw [h]
  simp

/-- A literal piece cut short. -/
theorem lit_cut (S : ByteArray) (A t L : List UInt8) (N c : Nat) (hS : S.data.toList = A ++ (lit t).take c) (hc : c < (lit t).length) (ht : t.length ≤ 1024) (hN : L.length + t.length ≤ N) :
    fin L (tps S N (A.length : Nat) L.length) = ([], 3) := by
  cases he : t.isEmpty with
  | true =>
    rw [lit, he] at hc
    simp at hc
  | false =>
    have htp : 0 < t.length := by
      cases t with
      | nil => simp at he
      | cons a t => simp
    rw [lit_cons he] at hS hc
    rw [List.length_append] at hc
    by_cases hd : c < (digs (2 * t.length)).length
    · rw [List.take_append_of_le_length (by omega)] at hS
      have h := takeAt_cut A (2 * t.length) c (by omega) hd
      rw [← hS] at h
      exact sp_err (by omega) h (by decide)
    · rw [List.take_append, List.take_of_length_le (by omega)] at hS
      have h := takeAt_put A (t.take (c - (digs (2 * t.length)).length)) (2 * t.length) (by omega)
      rw [← hS] at h
      have hsz : S.size = A.length + ((digs (2 * t.length)).length + (c - (digs (2 * t.length)).length)) := by
        rw [← list_len, hS]; simp; omega
      exact sp_short (n := t.length) (z := 0) (by omega) h (by omega) (by omega) (by omega) rfl (by omega)

theorem press_cut (S : ByteArray) (l : List UInt8) (c : Nat) : ∀ (m st a d : Nat) (A : List UInt8), l.length - a ≤ m → st ≤ a → a ≤ l.length → a - st < 1024 → d < (press l st a).length → S.data.toList = A ++ (press l st a).take d →
    fin (l.take st) (tps S l.length (A.length : Nat) st) = ([], 3) := by
  have hlast : ∀ (st a d : Nat) (A Y : List UInt8), st ≤ a → a ≤ l.length → a - st ≤ 1024 → S.data.toList = A ++ (lit ((l.drop st).take (a - st)) ++ Y).take d →
      (d < (lit ((l.drop st).take (a - st))).length ∧ fin (l.take st) (tps S l.length (A.length : Nat) st) = ([], 3)) ∨
      ((lit ((l.drop st).take (a - st))).length ≤ d ∧ S.data.toList = (A ++ lit ((l.drop st).take (a - st))) ++ Y.take (d - (lit ((l.drop st).take (a - st))).length) ∧
        fin (l.take st) (tps S l.length (A.length : Nat) st) = fin (l.take a) (tps S l.length (((A ++ lit ((l.drop st).take (a - st))).length : Nat) : Int) a)) := by
    intro st a d A Y h1 h2 h3 hS
    have hl : ((l.drop st).take (a - st)).length = a - st := by simp; omega
    have hst : (l.take st).length = st := by rw [List.length_take]; omega
    by_cases hd : d < (lit ((l.drop st).take (a - st))).length
    · rw [List.take_append_of_le_length (by omega)] at hS
      have h := lit_cut S A ((l.drop st).take (a - st)) (l.take st) l.length d hS hd (by omega) (by rw [hst, hl]; omega)
      rw [hst] at h
      exact .inl ⟨hd, h⟩
    · rw [List.take_append, List.take_of_length_le (by omega)] at hS
      have h := lit_read S A ((l.drop st).take (a - st)) _ (l.take st) l.length hS (by omega) (by rw [hst, hl]; omega)
      have he : l.take st ++ (l.drop st).take (a - st) = l.take a := by rw [← List.take_add, show st + (a - st) = a by omega]
      rw [he, hst, hl, show st + (a - st) = a by omega] at h
      refine .inr ⟨by omega, by rw [hS, List.append_assoc], ?_⟩
      rw [h, List.length_append]
  intro m
  induction m with
  | zero =>
    intro st a d A hm h1 h2 h3 hd hS
    obtain rfl : a = l.length := by omega
    rw [press_end (Nat.le_refl _)] at hS hd
    rcases hlast st l.length d A [] h1 h2 (by omega) (by rw [List.append_nil]; exact hS) with ⟨_, h⟩ | ⟨h, _⟩
    · exact h
    · omega
  | succ m ih =>
    intro st a d A hm h1 h2 h3 hd hS
    by_cases hlt : a < l.length
    · by_cases h0 : (again l a).1 = 0
      · by_cases hf : a + 1 - st = 1024
        · rw [press_full hlt h0 hf] at hS hd
          rw [List.length_append] at hd
          rcases hlast st (a + 1) d A _ (by omega) (by omega) (by omega) hS with ⟨_, h⟩ | ⟨hge, hS2, h⟩
          · exact h
          · rw [h]
            exact ih (a + 1) (a + 1) _ _ (by omega) (by omega) (by omega) (by omega) (by omega) hS2
        · rw [press_on hlt h0 hf] at hS hd
          exact ih st (a + 1) d A (by omega) (by omega) (by omega) (by omega) hd hS
      · obtain ⟨n, hn⟩ : ∃ n, n = (again l a).1 := ⟨_, rfl⟩
        obtain ⟨b, hb⟩ : ∃ b, b = (again l a).2 := ⟨_, rfl⟩
        have hA : again l a = (n, b) := by rw [hn, hb]
        have h4 := again_four h0
        have hle := again_le l a
        rw [← hn] at h4 hle
        rw [← hb] at hle
        obtain ⟨k1, k2, k3, k4⟩ := again_copy hA (by omega)
        rw [press_copy hlt h0, ← hn, ← hb, List.append_assoc, List.append_assoc] at hS
        rw [press_copy hlt h0, ← hn, ← hb, List.append_assoc, List.append_assoc, List.length_append, List.length_append, List.length_append] at hd
        rcases hlast st a d A _ h1 h2 (by omega) hS with ⟨_, h⟩ | ⟨hge, hS2, h⟩
        · exact h
        · rw [h]
          generalize (l.drop st).take (a - st) = T at *
          have hla : (l.take a).length = a := by rw [List.length_take]; omega
          generalize hB : A ++ lit T = B at *
          generalize hd' : d - (lit T).length = d2 at *
          have hlt2 : (l.take a).length < l.length := by rw [hla]; exact hlt
          have hok : ¬ (n = 0 ∨ (1 = 1 ∧ n < 4) ∨ l.length - (l.take a).length < n) := by rw [hla]; omega
          by_cases hc1 : d2 < (digs (2 * n + 1)).length
          · rw [List.take_append_of_le_length (by omega)] at hS2
            have t1 := takeAt_cut B (2 * n + 1) d2 (by omega) hc1
            rw [← hS2] at t1
            have hx := sp_err hlt2 t1 (by decide)
            rw [hla] at hx
            exact hx
          · rw [List.take_append, List.take_of_length_le (by omega)] at hS2
            have t1 := takeAt_put B ((digs b ++ press l (a + n) (a + n)).take (d2 - (digs (2 * n + 1)).length)) (2 * n + 1) (by omega)
            rw [← hS2] at t1
            rw [← List.append_assoc] at hS2
            have eB : (B ++ digs (2 * n + 1)).length = B.length + (digs (2 * n + 1)).length := by simp only [List.length_append]
            generalize hd3 : d2 - (digs (2 * n + 1)).length = d3 at *
            by_cases hc2 : d3 < (digs b).length
            · rw [List.take_append_of_le_length (by omega)] at hS2
              have t2 := takeAt_cut (B ++ digs (2 * n + 1)) b d3 (by omega) hc2
              rw [← hS2, eB] at t2
              have hx := sp_cerr hlt2 t1 (n := n) (z := 1) (by omega) (by omega) hok rfl t2 (by decide)
              rw [hla] at hx
              exact hx
            · rw [List.take_append, List.take_of_length_le (by omega)] at hS2
              have t2 := takeAt_put (B ++ digs (2 * n + 1)) ((press l (a + n) (a + n)).take (d3 - (digs b).length)) b (by omega)
              rw [← hS2, eB] at t2
              have hx := sp_copy hlt2 t1 (n := n) (z := 1) (by omega) (by omega) hok rfl t2 (by rw [hla]; omega)
              rw [hla, k4] at hx
              rw [hx]
              rw [← List.append_assoc] at hS2
              have h5 := ih (a + n) (a + n) (d3 - (digs b).length) _ (by omega) (Nat.le_refl _) k3 (by omega) (by omega) hS2
              rw [show (B ++ digs (2 * n + 1) ++ digs b).length = B.length + (digs (2 * n + 1)).length + (digs b).length by simp only [List.length_append]] at h5
              exact h5
    · obtain rfl : a = l.length := by omega
      rw [press_end (Nat.le_refl _)] at hS hd
      rcases hlast st l.length d A [] h1 h2 (by omega) (by rw [List.append_nil]; exact hS) with ⟨_, h⟩ | ⟨h, _⟩
      · exact h
      · omega

/-- What Decompress answers for the compressed form cut short. -/
theorem dec_cut (S : ByteArray) (l : List UInt8) (c : Nat) (hS : S.data.toList = (pressed l).take c) (hc : c < (pressed l).length) (hl : l.length < 18446744073709551616) : dec S l.length = ([], 3) := by
  rw [pressed] at hS hc
  rw [List.length_append] at hc
  by_cases hd : c < (digs l.length).length
  · rw [List.take_append_of_le_length (by omega)] at hS
    have h := takeAt_cut [] l.length c hl hd
    rw [List.nil_append, ← hS] at h
    exact dec_err h (by decide)
  · rw [List.take_append, List.take_of_length_le (by omega)] at hS
    have h := takeAt_put [] ((press l 0 0).take (c - (digs l.length).length)) l.length hl
    rw [List.nil_append, ← hS] at h
    have h' : takeAt S.data.toList 0 = (l.length, (((digs l.length).length : Nat) : Int), 0) := by simpa using h
    rw [dec_fin h' (by omega)]
    have hx := press_cut S l c l.length 0 0 (c - (digs l.length).length) (digs l.length) (by omega) (by omega) (by omega) (by omega) (by omega) hS
    rw [List.take_zero] at hx
    exact hx
end Go.Proofs.Ytgdeefcgjaklhaa
