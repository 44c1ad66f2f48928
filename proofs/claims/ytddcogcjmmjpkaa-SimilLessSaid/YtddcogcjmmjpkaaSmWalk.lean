/-
  The walks of simil's against and of the function that it makes.
-/
import Derived.Test.YtddcogcjmmjpkaaSmMap
import Derived.Test.YtddcogcjmmjpkaaSmPlain
import Derived.Test.YtddcogcjmmjpkaaSpRef
namespace Go.Proofs.Ytddcogcjmmjpkaa
open Go.RowKit Go.Maps Go.WideMaps

/-- A function that counts against the lines of a. -/
def Ag (w : World) (la : List (List UInt8)) (B : Nat) : Prop := ∃ M n D, w.heap[B]? = some (.cells #[.map (some M)] 94 (0, 0)) ∧ Mi w M n D ∧ IsCt D la
theorem Ag.below {w w' : World} {la : List (List UInt8)} {B : Nat} (h : Ag w la B) (hb : Below w.heap.size w w') : Ag w' la B := by
  obtain ⟨M, n, D, h1, h2, h3⟩ := h
  exact ⟨M, n, D, (hb.block B (row_lt h1)).trans h1, h2.below hb, h3⟩
theorem count_le_len (ls : List (List UInt8)) (k : Nat) (x : List UInt8) : (ls.take k).count x ≤ ls.length := by
  have h1 : (ls.take k).count x ≤ (ls.take k).length := List.count_le_length
  rw [List.length_take] at h1
  omega
theorem join_len_le (ls : List (List UInt8)) (h : ∀ l ∈ ls, 0 < l.length) : ls.length ≤ (join ls).length := by
  induction ls with
  | nil => simp
  | cons a r ih =>
    have h1 := ih fun l hl => h l (by simp [hl])
    have h2 := h a (by simp)
    simp only [join, List.flatten_cons, List.length_append, List.length_cons] at h1 ⊢
    omega
theorem ok_pos : ∀ {ls : List (List UInt8)}, okLines ls = true → ∀ l ∈ ls, 0 < l.length
  | [], _, l, hl => by cases hl
  | [x], h, l, hl => by
    rw [okLines] at h
    rw [List.mem_singleton] at hl
    subst hl
    cases l with
    | nil => simp [isLine] at h
    | cons _ _ => simp
  | x :: y :: r, h, l, hl => by
    rw [okLines, Bool.and_eq_true, Bool.and_eq_true] at h
    rcases List.mem_cons.1 hl with rfl | hl
    · cases l with
      | nil => simp [isLine] at h
      | cons _ _ => simp
    · exact ok_pos h.2 l hl
theorem split_pos (l : List UInt8) : ∀ x ∈ split l, 0 < x.length := ok_pos (split_ok l)
theorem split_lines (s : ByteArray) : (split s.data.toList).length ≤ s.size := by
  have h := join_len_le _ (split_pos s.data.toList)
  rw [split_join, list_len] at h
  exact h
theorem split_line_le (s : ByteArray) {x : List UInt8} (h : x ∈ split s.data.toList) : x.length ≤ s.size := by
  have h2 : x.length ≤ (join (split s.data.toList)).length := by
    exact (List.sublist_flatten_of_mem h).length_le
  rw [split_join, list_len] at h2
  exact h2

set_option maxHeartbeats 2000000 in
set_option maxRecDepth 4000 in
theorem against_any (s : ByteArray) (w : World) (hs : s.size ≤ 1048576) :
    Calls Try.prog 61 #[.string s] w fun e w' => ∃ B, e = .returned (.func (.func 94) #[] #[.pointer (some ⟨B, 0, none⟩)]) ∧ Ag w' (split s.data.toList) B ∧ Below w.heap.size w w' := by
  obtain ⟨la, hla⟩ : ∃ la, la = split s.data.toList := ⟨_, rfl⟩
  obtain ⟨n, hn⟩ : ∃ n, n = la.length := ⟨_, rfl⟩
  have hn1 : n ≤ 1048576 := by rw [hn, hla]; have := split_lines s; omega
  have hxs : ∀ x ∈ la, x.length ≤ 1048576 := fun x hx => by rw [hla] at hx; have := split_line_le s hx; omega
  have hmm := make_map0 (w := w)
  have hmf := make_fun Try.prog
  have HSP : Hid (∀ W, Calls Try.prog 72 #[.string s] W fun e w' => (∃ p cap, e = .returned (.slice p n cap) ∧ SRw w' p la) ∧ Below W.heap.size W w') := fun W => by
    have h := split_any s W hs n (by rw [hn, hla])
    rw [← hla] at h
    exact h
  rw [← hla]
  have HN := Lib.hid hn
  have HX := Lib.hid hxs
  clear hla hn hxs
  go_enter Try.func61, Try.ntmps61
  go_upto_region 2 with fail
  obtain ⟨W1, hW1⟩ : ∃ W1, W1 = (w.alloc (.map #[] 0)).alloc (.cells #[.map (some w.heap.size)] 94) := ⟨_, rfl⟩
  rw [← hW1]
  obtain ⟨M, hM⟩ : ∃ M, M = w.heap.size := ⟨_, rfl⟩
  obtain ⟨B, hB⟩ : ∃ B, B = w.heap.size + 1 := ⟨_, rfl⟩
  have hbx : W1.heap[B]? = some (.cells #[.map (some M)] 94 (0, 0)) := by
    rw [hW1, hB, hM]
    have h := heap_alloc_new (w.alloc (.map #[] 0)) (.cells #[.map (some w.heap.size)] 94)
    rw [show (w.alloc (.map #[] 0)).heap.size = w.heap.size + 1 by simp] at h
    exact h
  have hM1 : Mi W1 M 0 (.map []) := by rw [hW1, hM]; exact map_new.alloc _
  have hb1 : Below w.heap.size w W1 := by rw [hW1]; exact below_new (below_new (Below.refl _ _) _) _
  rw [← hB]
  have HB : Hid (M = w.heap.size ∧ B = w.heap.size + 1) := ⟨hM, hB⟩
  clear hW1 hM hB
  go_wp2_with (go_at_call 72; ((with_reducible refine (HSP.out _).mono ?_); rintro e w2 ⟨⟨p, cap, rfl, hsr⟩, hb2⟩))
  have hbx2 := (hb2.block B (row_lt hbx)).trans hbx
  have hM2 := hM1.below hb2
  have hb3 := hb1.trans (hb2.mono hb1.size)
  clear hbx hM1 hb2 hb1
  have HBX := Lib.hid hbx2
  have HSR := Lib.hid hsr
  have HB3 := Lib.hid hb3
  have hne : M ≠ B := map_ne_row hM2 hbx2
  have hBl := row_lt hbx2
  have HM2 := Lib.hid hM2
  clear hbx2 hsr hb3
  go_loopw [10] (fun iv wr => ∃ (k : Nat) (D : DataW Unit), k ≤ n ∧ iv = .int .i64 k ∧ Mi wr M k D ∧ Hid (IsCt D (la.take k)) ∧ Hid (w2.grownBy wr (some M))) (fun iv _ => n - (intOf iv).toNat)
  case atStart => exact ⟨0, _, by omega, rfl, hM2, isCt_nil, ⟨rfl, rfl, rfl, Nat.le_refl _, fun _ _ _ => rfl⟩⟩
  case round =>
    clear hM2
    obtain ⟨k, D, hk, rfl, hM, HI, HG⟩ := hrel
    have hbx : wr.heap[B]? = some (.cells #[.map (some M)] 94 (0, 0)) := (HG.out.block B hBl (by simp; omega)).trans HBX.out
    have cb := cell_of_row wr B 0 _ _ _ hbx
    by_cases hlt : k < n
    · have hkl : k < la.length := by rw [← HN.out]; exact hlt
      obtain ⟨g, o, rfl, hgg, hc⟩ := (HSR.out.grown HM2.out HG.out) k hkl
      obtain ⟨t, ht⟩ : ∃ t, t = str la[k] := ⟨_, rfl⟩
      rw [← ht] at hc
      have hts : t.size ≤ 1048576 := by rw [ht, str_size]; exact HX.out _ (List.getElem_mem hkl)
      have hkey := skey ht (by omega)
      have hcl := count_le_len la k la[k]
      obtain ⟨C, hC⟩ : ∃ C, C = (la.take k).count la[k] := ⟨_, rfl⟩
      have hlook := HI.out.look la[k]
      rw [← hC] at hlook hcl
      have hput := HI.out.put la[k]
      rw [← hC, ← take_next la k hkl] at hput
      obtain ⟨K, hK⟩ : ∃ K, K = Lit.string la[k] := ⟨_, rfl⟩
      rw [← hK] at hkey hlook hput
      have HL := Lib.hid hlook
      have HP := Lib.hid hput
      have hcn : C ≤ 1048576 := by rw [← HN.out] at hcl; omega
      clear ht hC hK hlook hput hbx hgg hcl HI
      go_wp2_with (first
        | (at_lookup; refine wpList_lookup_own_int _ rfl _ _ 94 rfl 9 3 .i64 str_keyed Try.underlying94 Try.underlying3 (zero_int _) M k D rfl hM _ _ rfl hkey ?_; intro c0 hat hwc; obtain rfl : c0 = (C : Int) := (by have e := HL.out.symm.trans hat; simp only [DataW.lit.injEq, Lit.int.injEq, true_and] at e; exact e.symm); clear hat hwc)
        | (at_mapUpdate; refine wpList_mapUpdate_own _ rfl _ _ _ 94 rfl 9 3 str_keyed Try.underlying94 _ M k D rfl hM (by unfold maxLen; omega) _ _ _ rfl rfl hkey _ [] (plainElem_int Try.underlying3 (WalkArith.wf_i64 (by omega))) ?_; intro w3 hM3 hg3))
      go_roundw
      case rel => exact ⟨k + 1, _, by omega, by go_num, hM3, HP.out, num_grown HG.out hg3⟩
      case measure => simp [intOf]; omega
    · obtain rfl : k = n := by omega
      have HI2 : Hid (IsCt D la) := by have h := HI.out; rw [List.take_of_length_le (by have := HN.out; omega)] at h; exact h
      clear HI cb
      go_wp2
      go_ret
      exact ⟨B, rfl, ⟨M, k, D, hbx, hM, HI2.out⟩, HB3.out.grown HG.out (by have := HB.out; omega) (fun j hj => by have := HB.out; cases hj; omega)⟩
end Go.Proofs.Ytddcogcjmmjpkaa
