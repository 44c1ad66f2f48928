/-
  The walk of Decompress.
-/
import Derived.Test.YthfnnbeaggkhkaaSqLay
namespace Go.Proofs.Ythfnnbeaggkhkaa
open Go.RowKit

/-- A piece that takePiece gives may be laid out. -/
theorem tp_lay {s : ByteArray} {q : Int} {done size : Nat} (h : (tp s q done size).2.2 = 0) : (tp s q done size).1.b ≤ done ∧ ((tp s q done size).1.b = 0 → (tp s q done size).1.t.size = (tp s q done size).1.n) := by
  rcases takeAt_cases s.data.toList q with ⟨e, he1, he3, ht⟩ | ⟨v, q2, a, -, -, hq2, hv, ht, -⟩
  · rw [tp_err ht (by omega)] at h; simp only at h; omega
  · rw [list_len] at hq2
    by_cases hb : v / 2 = 0 ∨ (v % 2 = 1 ∧ v / 2 < 4) ∨ size - done < v / 2
    · rw [tp_bad ht hb] at h; simp at h
    · by_cases h1 : v % 2 = 1
      · rw [tp_copy ht hb h1] at h ⊢
        rcases takeAt_cases s.data.toList q2 with ⟨e, he1, he3, ht2⟩ | ⟨v2, q3, a2, -, -, hq3, hv2, ht2, -⟩
        · rw [tb_err ht2 (by omega)] at h; simp only at h; omega
        · by_cases hb2 : v2 = 0 ∨ done < v2
          · rw [tb_bad ht2 hb2] at h; simp at h
          · rw [tb_ok ht2 hb2]; simp only; omega
      · by_cases h2 : s.size - q2 < v / 2
        · rw [tp_short ht hb (by omega) h2] at h; simp at h
        · rw [tp_lit ht hb (by omega) h2]; refine ⟨Nat.zero_le _, fun _ => ?_⟩; show (s.extract q2 (q2 + v / 2)).size = v / 2; rw [ByteArray.size_extract]; omega

theorem tps_lay (s : ByteArray) (size : Nat) : ∀ (m done : Nat) (q : Int), size - done ≤ m → done ≤ size → (tps s size q done).2 = 0 → okPs size done (tps s size q done).1 ∧ (tps s size q done).1.length ≤ size - done := by
  intro m
  induction m with
  | zero =>
    intro done q hm hd h
    have hlt : ¬ done < size := by omega
    by_cases hq : q < s.size
    · rw [tps_left hlt hq] at h; simp at h
    · rw [tps_end hlt hq]; exact ⟨trivial, by simp⟩
  | succ m ih =>
    intro done q hm hd h
    by_cases hlt : done < size
    · by_cases he : (tp s q done size).2.2 = 0
      · have hn := tp_n he
        have hl := tp_lay he
        obtain ⟨p, q2, e⟩ : ∃ p, p = (tp s q done size).1 := ⟨_, rfl⟩
        have ht := tps_on (s := s) (q := q) (q' := (tp s q done size).2.1) (p := (tp s q done size).1) hlt (by rw [← he])
        rw [ht] at h ⊢
        unfold ahead at h ⊢
        by_cases h0 : (tps s size (tp s q done size).2.1 (done + (tp s q done size).1.n)).2 ≠ 0
        · rw [if_pos h0] at h; exact absurd h h0
        · rw [if_neg h0]
          have h1 := ih (done + (tp s q done size).1.n) (tp s q done size).2.1 (by omega) (by omega) (by simpa using h0)
          exact ⟨⟨hl.1, hl.2, by omega, h1.1⟩, by simp; omega⟩
      · rw [tps_err hlt rfl he] at h; exact absurd h he
    · by_cases hq : q < s.size
      · rw [tps_left hlt hq] at h; simp at h
      · rw [tps_end hlt hq]; exact ⟨trivial, by simp⟩

set_option maxHeartbeats 2000000 in
set_option maxRecDepth 4000 in
theorem layOut_nil (size : Nat) (w : World) (hsz : size ≤ 1099511627776) :
    Calls Try.prog 42 #[.slice none 0 0, .int .i64 size] w fun e w' => e = .returned (.string (str [])) ∧ Below w.heap.size w w' := by
  obtain ⟨i0, hi, hz0, hz1, hz2⟩ := info_parts Try.info5
  go_enter Try.func42, Try.ntmps42
  go_wp2_with (at_make; refine wpList_make_own _ rfl _ _ 30 rfl w.heap.size 5 i0 (.int .u8 0) 1 Try.underlying30 hi hz0 hz1 _ _ _ size rfl rfl (by omega) (by rw [hz2]; omega) (by unfold maxLen; omega) (Nat.le_refl _) ?_)
  intro w1 hown1 hgrow1
  have hb1 : Below w.heap.size w w1 := (Below.refl _ _).grown hgrow1 (Nat.le_refl _) (by simp)
  have ho1 : Ow w1 w.heap.size (.slice (some ⟨w.heap.size, 0, none⟩) 0 size) [] := hown1
  clear hown1 hgrow1
  go_wp2
  go_loopw [5, 12] (fun v i wr => i = .int .i64 0 ∧ Ow wr w.heap.size v [] ∧ Below w.heap.size w wr) (fun _ _ _ => 0)
  case atStart => exact ⟨rfl, ho1, hb1⟩
  case round =>
    clear ho1 hb1
    obtain ⟨rfl, ho, hb⟩ := hrel
    have hcv : (convert 30 9 u5).run Try.prog wr = .ok (.string (str [])) wr :=
      conv_owned (P := Try.prog) 30 9 5 Try.underlying30 Try.underlying5 Try.underlying9 ho
    go_wp2
    go_ret
    exact ⟨rfl, hb⟩

theorem layOut_any (v : Value) (size : Nat) (ps : List Pc) (w : World) (base : Nat) (h : w.ownsRow base 82 3 v ps.length (pcells ps)) (hok : okPs size 0 ps) (hsz : size ≤ 1099511627776) (hpl : ps.length ≤ 1099511627776) :
    Calls Try.prog 42 #[v, .int .i64 size] w fun e w' => e = .returned (.string (str (lay [] ps))) ∧ Below w.heap.size w w' := by
  rcases h.2 with ⟨rfl, hx⟩ | ⟨g, cap, cur, rfl, _, hg, _⟩
  · obtain rfl : ps = [] := by
      cases ps with
      | nil => rfl
      | cons p ps => simp at hx
    exact layOut_nil size w hsz
  · exact layOut_some g cap size ps w (prow_of h) (by
      have := Array.getElem?_eq_some_iff.mp hg
      exact this.1) hok hsz hpl

/-- What Decompress answers. -/
def dec (s : ByteArray) (m : Int) : List UInt8 × Nat :=
  if (takeAt s.data.toList 0).2.2 ≠ 0 then ([], (takeAt s.data.toList 0).2.2) else
  if m < 0 ∨ m < ((takeAt s.data.toList 0).1 : Int) then ([], 4) else
  if (tps s (takeAt s.data.toList 0).1 (takeAt s.data.toList 0).2.1 0).2 ≠ 0 then ([], (tps s (takeAt s.data.toList 0).1 (takeAt s.data.toList 0).2.1 0).2) else
  (lay [] (tps s (takeAt s.data.toList 0).1 (takeAt s.data.toList 0).2.1 0).1, 0)
theorem dec_err {s : ByteArray} {m : Int} {e : Nat} (h : takeAt s.data.toList 0 = (0, 0, e)) (he : e ≠ 0) : dec s m = ([], e) := by rw [dec, h, if_pos he]
theorem dec_large {s : ByteArray} {m q : Int} {v : Nat} (h : takeAt s.data.toList 0 = (v, q, 0)) (hm : m < 0 ∨ m < (v : Int)) : dec s m = ([], 4) := by rw [dec, h, if_neg (by simp), if_pos hm]
theorem dec_bad {s : ByteArray} {m q : Int} {v : Nat} (h : takeAt s.data.toList 0 = (v, q, 0)) (hm : ¬ (m < 0 ∨ m < (v : Int))) (h0 : (tps s v q 0).2 ≠ 0) : dec s m = ([], (tps s v q 0).2) := by rw [dec, h, if_neg (by simp), if_neg hm, if_pos h0]
theorem dec_ok {s : ByteArray} {m q : Int} {v : Nat} (h : takeAt s.data.toList 0 = (v, q, 0)) (hm : ¬ (m < 0 ∨ m < (v : Int))) (h0 : (tps s v q 0).2 = 0) : dec s m = (lay [] (tps s v q 0).1, 0) := by rw [dec, h, if_neg (by simp), if_neg hm, if_neg (by simpa using h0)]
/-- An answer: a string and an error. -/
def DecRes (r : List UInt8 × Nat) (w : World) (e : Ending) (w' : World) : Prop := e = .returned (.tuple #[.string (str r.1), .int .i64 r.2]) ∧ Below w.heap.size w w'
theorem decRes_mk {r : List UInt8 × Nat} {l : List UInt8} {k : Nat} {w w' : World} {b : ByteArray} (h : r = (l, k)) (hb' : str l = b) (hb : Below w.heap.size w w') : DecRes r w (.returned (.tuple #[.string b, .int .i64 k])) w' := by
  subst h; subst hb'
  exact ⟨rfl, hb⟩

set_option maxHeartbeats 2000000 in
set_option maxRecDepth 4000 in
theorem decompress_any (s : ByteArray) (m : Int) (w : World) (hs : s.size ≤ 1048576) (hm : m ≤ 1048576) (hm2 : -9223372036854775808 ≤ m) :
    Calls Try.prog 18 #[.string s, .int .i64 m] w (DecRes (dec s m) w) := by
  rcases takeAt_cases s.data.toList 0 with ⟨e, he1, he3, ht⟩ | ⟨v, q2, a, -, -, hq2, hv, ht, -⟩
  · have HT : Hid (takeAt s.data.toList 0 = (0, 0, e)) := ht
    have HR : Hid (dec s m = ([], e)) := dec_err ht (by omega)
    have hne : ((e : Int) != 0) = true := by simp; omega
    have hne2 : ((e : Int) == 0) = false := by simp; omega
    clear ht
    go_enter Try.func18, Try.ntmps18
    go_wp2_with (go_at_call 40; ((with_reducible refine (take_at s 0 _ (by omega) _ _ _ HT.out).mono ?_); rintro e1 w1 ⟨rfl, rfl⟩))
    go_ret2
    exact decRes_mk HR.out rfl (Below.refl _ _)
  · rw [list_len] at hq2
    have HT : Hid (takeAt s.data.toList 0 = (v, (q2 : Int), 0)) := ht
    by_cases h1 : m < 0
    · have HR : Hid (dec s m = ([], 4)) := dec_large ht (.inl h1)
      clear ht
      go_enter Try.func18, Try.ntmps18
      go_wp2_with (go_at_call 40; ((with_reducible refine (take_at s 0 _ (by omega) _ _ _ HT.out).mono ?_); rintro e1 w1 ⟨rfl, rfl⟩))
      go_ret2
      exact decRes_mk HR.out rfl (Below.refl _ _)
    · obtain ⟨M, rfl⟩ : ∃ M : Nat, m = (M : Int) := ⟨m.toNat, by omega⟩
      have i1 : IntKind.u64.wrap (M : Int) = (M : Int) := IntWalk.u64_in _ (by omega)
      by_cases h2 : M < v
      · have HR : Hid (dec s M = ([], 4)) := dec_large ht (.inr (by omega))
        clear ht h1
        go_enter Try.func18, Try.ntmps18
        go_wp2_with (go_at_call 40; ((with_reducible refine (take_at s 0 _ (by omega) _ _ _ HT.out).mono ?_); rintro e1 w1 ⟨rfl, rfl⟩))
        go_ret2
        exact decRes_mk HR.out rfl (Below.refl _ _)
      · have i2 : IntKind.i64.wrap (v : Int) = (v : Int) := IntWalk.i64_in _ (by omega)
        obtain ⟨R, hR⟩ : ∃ R, tps s v q2 0 = R := ⟨_, rfl⟩
        have hl := tps_lay s v v 0 q2 (by omega) (by omega)
        rw [hR] at hl
        have htp := fun W => takePieces_any s q2 v W (by omega) (by omega) (by omega)
        rw [hR] at htp
        obtain ⟨ps, e⟩ := R
        have HTP : Hid (∀ W, Calls Try.prog 41 #[.string s, .int .i64 q2, .int .i64 v] W (PsRes (ps, e) W)) := htp
        by_cases h0 : e = 0
        · have HR : Hid (dec s M = (lay [] ps, 0)) := by
            show _ = _
            rw [dec_ok ht (by omega) (by rw [hR]; exact h0), hR]
          obtain ⟨k1, k2⟩ := hl h0
          have HK : Hid (okPs v 0 ps) := k1
          have hne : ((e : Int) != 0) = false := by simp; omega
          have hne2 : ((e : Int) == 0) = true := by simp; omega
          have HE : Hid (e = 0) := h0
          simp only at k2
          clear ht h1 hl hR htp k1 h0
          go_enter Try.func18, Try.ntmps18
          go_wp2_with (first
            | (go_at_call 40; ((with_reducible refine (take_at s 0 _ (by omega) _ _ _ HT.out).mono ?_); rintro e1 w1 ⟨rfl, rfl⟩))
            | (go_at_call 41; ((with_reducible refine (HTP.out _).mono ?_); rintro e1 w1 ⟨⟨v1, rfl, ho1⟩, hb1⟩; have ho2 := ho1 HE.out))
            | (go_at_call 42; ((with_reducible refine (layOut_any _ v ps _ _ ho2 HK.out (by omega) (by omega)).mono ?_); rintro e1 w2 ⟨rfl, hb2⟩)))
          go_ret2
          exact decRes_mk HR.out rfl (hb1.trans (hb2.mono hb1.size))
        · have HR : Hid (dec s M = ([], e)) := by
            show _ = _
            rw [dec_bad ht (by omega) (by rw [hR]; exact h0), hR]
          have hne : ((e : Int) != 0) = true := by simp; omega
          have hne2 : ((e : Int) == 0) = false := by simp; omega
          clear ht h1 hl hR htp h0
          go_enter Try.func18, Try.ntmps18
          go_wp2_with (first
            | (go_at_call 40; ((with_reducible refine (take_at s 0 _ (by omega) _ _ _ HT.out).mono ?_); rintro e1 w1 ⟨rfl, rfl⟩))
            | (go_at_call 41; ((with_reducible refine (HTP.out _).mono ?_); rintro e1 w1 ⟨⟨v1, rfl, ho1⟩, hb1⟩)))
          go_ret2
          exact decRes_mk HR.out rfl hb1
end Go.Proofs.Ythfnnbeaggkhkaa
