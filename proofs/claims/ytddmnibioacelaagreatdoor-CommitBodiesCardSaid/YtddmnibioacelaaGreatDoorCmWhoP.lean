/-
  Persons, plain: what is written is read back, and what is read is written so.
-/
import Derived.Test.YtddmnibioacelaaGreatDoorCmKindPk
namespace Go.Proofs.YtddmnibioacelaaGreatDoor
open Go Go.RowKit

theorem nameB_parts {l : List UInt8} (h : nameB l = true) : l ≠ [] ∧ l.length ≤ 64 ∧ (l.any fun b => ([60, 62] : List UInt8).contains b) = false ∧ ∀ b ∈ l, 32 ≤ b.toNat := by
  simp only [nameB, Bool.and_eq_true, decide_eq_true_eq, Bool.not_eq_true', List.all_eq_true] at h
  obtain ⟨⟨⟨⟨⟨h1, h2⟩, h3⟩, h4⟩, _⟩, _⟩ := h
  exact ⟨h1, h2, h3, h4⟩
theorem angle_not {l : List UInt8} (h : (l.any fun b => ([60, 62] : List UInt8).contains b) = false) : (60 : UInt8) ∉ l ∧ (62 : UInt8) ∉ l := by
  rw [List.any_eq_false] at h
  exact ⟨fun hm => absurd (h _ hm) (by decide), fun hm => absurd (h _ hm) (by decide)⟩
theorem okPn_parts {p : Pn} (h : okPn p = true) : nameB p.n.data.toList = true ∧ nameB p.m.data.toList = true ∧ 0 ≤ p.t ∧ p.t ≤ 1099511627776 ∧ -840 ≤ p.z ∧ p.z ≤ 840 := by
  simp only [okPn, Bool.and_eq_true, decide_eq_true_eq] at h
  exact h
theorem num_time {t : Int} (h0 : 0 ≤ t) (h1 : t ≤ 1099511627776) : numR 18 (Lib.itoa t) = some t.toNat := by
  refine atoiK_back h0 rfl ?_
  rw [Lib.itoa, if_neg (by omega), Lib.decDigits_length]
  exact nDig_le 17 _ (by omega)
theorem num_digits {k : Nat} {l : List UInt8} {m : Nat} (h : numR k l = some m) : ∀ c ∈ l, ∃ d, Lib.digitVal c = some d := fun c hc => by
  unfold numR at h
  split at h
  · cases h
  · obtain ⟨i, hi, he⟩ := List.mem_iff_getElem.mp hc
    exact Lib.digit_of_decFrom _ _ _ h i c (by rw [List.getElem?_eq_getElem hi, he])
theorem whoL_list (p : Pn) : (whoL p).data.toList = p.n.data.toList ++ 32 :: 60 :: (p.m.data.toList ++ 62 :: 32 :: (Lib.itoa p.t ++ 32 :: zonL p.z)) := by
  unfold whoL
  simp [str_list, ByteArray.data_append]
theorem dig_ten {c : UInt8} {d : Nat} (h : Lib.digitVal c = some d) : c ≠ 10 ∧ c ≠ 32 := by
  refine ⟨fun e => ?_, fun e => ?_⟩
  · rw [e, show Lib.digitVal 10 = none by decide] at h
    cases h
  · rw [e, show Lib.digitVal 32 = none by decide] at h
    cases h
theorem zonL_digits {z : Int} (h : z.natAbs < 6000) : ∀ c ∈ zonL z, c ≠ 10 := by
  intro c hc
  unfold zonL at hc
  simp only [List.mem_cons, List.not_mem_nil, or_false] at hc
  have hd : ∀ k, k < 10 → UInt8.ofNat (48 + k) ≠ 10 := fun k hk => (dig_ten (digitVal_of hk)).1
  rcases hc with rfl | rfl | rfl | rfl | rfl
  · split <;> decide
  · exact hd _ (by omega)
  · exact hd _ (by omega)
  · exact hd _ (by omega)
  · exact hd _ (by omega)
/-- A person's text holds no line feed. -/
theorem whoL_line {p : Pn} (h : okPn p = true) : (10 : UInt8) ∉ (whoL p).data.toList := by
  obtain ⟨h1, h2, h3, h4, h5, h6⟩ := okPn_parts h
  have n1 := (nameB_parts h1).2.2.2
  have n2 := (nameB_parts h2).2.2.2
  have n3 := num_digits (num_time h3 h4)
  have n4 := zonL_digits (z := p.z) (by omega)
  rw [whoL_list]
  intro hm
  simp only [List.mem_append, List.mem_cons] at hm
  rcases hm with hm | hm | hm | hm | hm | hm | hm | hm | hm
  · exact absurd (n1 _ hm) (by decide)
  · exact absurd hm (by decide)
  · exact absurd hm (by decide)
  · exact absurd (n2 _ hm) (by decide)
  · exact absurd hm (by decide)
  · exact absurd hm (by decide)
  · obtain ⟨d, hd⟩ := n3 _ hm
    exact (dig_ten hd).1 rfl
  · exact absurd hm (by decide)
  · exact n4 _ hm rfl
theorem who_pieces {n m d z : List UInt8} (h1 : (60 : UInt8) ∉ n) (h2 : (62 : UInt8) ∉ m) (h3 : (32 : UInt8) ∉ d) :
    whoN (n ++ 32 :: 60 :: (m ++ 62 :: 32 :: (d ++ 32 :: z))) = n ∧ whoM (n ++ 32 :: 60 :: (m ++ 62 :: 32 :: (d ++ 32 :: z))) = m ∧ whoT (n ++ 32 :: 60 :: (m ++ 62 :: 32 :: (d ++ 32 :: z))) = d ∧ whoZ (n ++ 32 :: 60 :: (m ++ 62 :: 32 :: (d ++ 32 :: z))) = z := by
  have c1 : Lib.cut (n ++ 32 :: 60 :: (m ++ 62 :: 32 :: (d ++ 32 :: z))) [32, 60] = (n, m ++ 62 :: 32 :: (d ++ 32 :: z), true) := ccut_snd h1 (by decide)
  have c2 : Lib.cut (m ++ 62 :: 32 :: (d ++ 32 :: z)) [62, 32] = (m, d ++ 32 :: z, true) := ccut_fst h2
  have c3 : Lib.cut (d ++ 32 :: z) [32] = (d, z, true) := ccut_one h3
  refine ⟨?_, ?_, ?_, ?_⟩
  · rw [whoN, c1]
  · rw [whoM, c1, c2]
  · rw [whoT, c1, c2, c3]
  · rw [whoZ, c1, c2, c3]
theorem angle_app (a b : List UInt8) : angle (a ++ b) = (angle a || angle b) := by
  unfold angle
  rw [List.any_append]
theorem whoR_whoL {p : Pn} (h : okPn p = true) : whoR (whoL p).data.toList = (0, p) := by
  obtain ⟨h1, h2, h3, h4, h5, h6⟩ := okPn_parts h
  have a1 := (nameB_parts h1).2.2.1
  have a2 := (nameB_parts h2).2.2.1
  have hn := num_time h3 h4
  have hz := zon_back (z := p.z) (by omega)
  have h32 : (32 : UInt8) ∉ Lib.itoa p.t := fun hm => by
    obtain ⟨d, hd⟩ := num_digits hn _ hm
    exact (dig_ten hd).2 rfl
  rw [whoL_list]
  obtain ⟨e1, e2, e3, e4⟩ := who_pieces (d := Lib.itoa p.t) (z := zonL p.z) (angle_not a1).1 (angle_not a2).2 h32
  have et : timeI (Lib.itoa p.t) = p.t := by
    rw [timeI, hn]
    exact Int.toNat_of_nonneg h3
  have ez : zoneI (zonL p.z) = p.z := by rw [zoneI, hz]
  have ep : whoP (p.n.data.toList ++ 32 :: 60 :: (p.m.data.toList ++ 62 :: 32 :: (Lib.itoa p.t ++ 32 :: zonL p.z))) = p := by
    rw [whoP, e1, e2, e3, e4, et, ez]
    rfl
  rw [whoR, ep, e1, e2, e3, e4, codeW, if_neg, if_neg]
  · rw [h]
    decide
  · rw [timeB, hn, zoneB, hz, angle_app, angle, angle, a1, a2]
    simp
theorem ccut_nil2 : Lib.cut [] [32] = ([], [], false) := by decide
theorem ccut_nil1 : Lib.cut [] [62, 32] = ([], [], false) := by decide
theorem codeW_ok {T Z A O : Bool} {p : Pn} (h : (codeW T Z A O p).1 = 0) : T = true ∧ Z = true ∧ A = false ∧ O = true ∧ codeW T Z A O p = (0, p) := by
  unfold codeW at *
  split at h
  · cases h
  · rename_i hc
    split at h
    · cases h
    · rename_i ho
      refine ⟨?_, ?_, ?_, ?_, ?_⟩
      · cases T
        · exact absurd (.inl rfl) hc
        · rfl
      · cases Z
        · exact absurd (.inr (.inl rfl)) hc
        · rfl
      · cases A
        · rfl
        · exact absurd (.inr (.inr rfl)) hc
      · cases O
        · exact absurd rfl ho
        · rfl
      · rw [if_neg hc, if_neg ho]
/-- All three separators are there, if the zone is. -/
theorem who_found {l : List UInt8} (h : whoZ l ≠ []) : (Lib.cut l [32, 60]).2.2 = true ∧ (Lib.cut (Lib.cut l [32, 60]).2.1 [62, 32]).2.2 = true ∧ (Lib.cut (Lib.cut (Lib.cut l [32, 60]).2.1 [62, 32]).2.1 [32]).2.2 = true := by
  unfold whoZ at h
  refine ⟨?_, ?_, ?_⟩
  · rw [← Bool.not_eq_false]
    intro hc
    rw [(ccut_no hc).1, ccut_nil1, ccut_nil2] at h
    exact h rfl
  · rw [← Bool.not_eq_false]
    intro hc
    rw [(ccut_no hc).1, ccut_nil2] at h
    exact h rfl
  · rw [← Bool.not_eq_false]
    intro hc
    rw [(ccut_no hc).1] at h
    exact h rfl
theorem who_whole {l : List UInt8} (h : whoZ l ≠ []) : l = whoN l ++ 32 :: 60 :: (whoM l ++ 62 :: 32 :: (whoT l ++ 32 :: whoZ l)) := by
  obtain ⟨f1, f2, f3⟩ := who_found h
  have h1 := (ccut_yes f1).1
  have h2 := (ccut_yes f2).1
  have h3 := (ccut_yes f3).1
  have e : l = whoN l ++ ([32, 60] ++ (whoM l ++ ([62, 32] ++ (whoT l ++ ([32] ++ whoZ l))))) := by
    show l = (Lib.cut l [32, 60]).1 ++ ([32, 60] ++ ((Lib.cut (Lib.cut l [32, 60]).2.1 [62, 32]).1 ++ ([62, 32] ++ ((Lib.cut (Lib.cut (Lib.cut l [32, 60]).2.1 [62, 32]).2.1 [32]).1 ++ ([32] ++ (Lib.cut (Lib.cut (Lib.cut l [32, 60]).2.1 [62, 32]).2.1 [32]).2.1)))))
    rw [← h3, ← h2, ← h1]
  exact e
theorem whoR_back {l : List UInt8} (h : (whoR l).1 = 0) : okPn (whoR l).2 = true ∧ (whoL (whoR l).2).data.toList = l := by
  rw [whoR] at h ⊢
  obtain ⟨hT, hZ, hA, hO, he⟩ := codeW_ok h
  rw [he]
  refine ⟨hO, ?_⟩
  obtain ⟨z, hz⟩ := Option.isSome_iff_exists.mp hZ
  obtain ⟨t, ht⟩ := Option.isSome_iff_exists.mp hT
  have hne : whoZ l ≠ [] := fun e => by
    rw [e] at hz
    cases hz
  have hw := who_whole hne
  have ez : zonL (whoP l).z = whoZ l := by
    show zonL (zoneI (whoZ l)) = _
    rw [zoneI, hz]
    exact (zon_text hz).1
  have et : Lib.itoa (whoP l).t = whoT l := by
    show Lib.itoa (timeI (whoT l)) = _
    rw [timeI, ht]
    exact (atoiK_of_num ht).2
  rw [whoL_list, ez, et]
  exact hw.symm
theorem whoL_inj {p q : Pn} (hp : okPn p = true) (hq : okPn q = true) (h : whoL p = whoL q) : p = q := by
  have h1 := whoR_whoL hp
  rw [h, whoR_whoL hq] at h1
  exact (Prod.mk.inj h1).2.symm
end Go.Proofs.YtddmnibioacelaaGreatDoor
