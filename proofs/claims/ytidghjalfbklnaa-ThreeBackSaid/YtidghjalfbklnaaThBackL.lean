/-
  The walk of the law ThreeBack.
-/
import Derived.Test.YtidghjalfbklnaaThBackW
import Derived.Test.YtidghjalfbklnaaThLvPPk
import Derived.Test.YtidghjalfbklnaaThSmall
import Derived.Test.YtidghjalfbklnaaDfRowsPk
namespace Go.Proofs.Ytidghjalfbklnaa
open Go.RowKit

/-- What a merge of whole lines is printed as, and what is read of it. -/
theorem mark_facts {X Y Z : List (List UInt8)} {oN tN : ByteArray} (two : Bool) (N : Nat) (hX : X.length ≤ 60) (hY : Y.length ≤ 60) (hZ : Z.length ≤ 60) (kX : ∀ l ∈ X, l.length ≤ 200) (kY : ∀ l ∈ Y, l.length ≤ 200) (kZ : ∀ l ∈ Z, l.length ≤ 200)
    (wX : X.all whB = true) (wY : Y.all whB = true) (wZ : Z.all whB = true) (mX : X.any mkB = false) (mY : Y.any mkB = false) (mZ : Z.any mkB = false) (hl : oN.size + tN.size ≤ 400) (ho : ∀ c ∈ oN.data.toList, c ≠ 10) (ht : ∀ c ∈ tN.data.toList, c ≠ 10) :
    (markAcc oN.data.toList tN.data.toList two N (mergeL X Y Z) 0).length ≤ 66680 ∧ (∀ x ∈ markAcc oN.data.toList tN.data.toList two N (mergeL X Y Z) 0, x.length ≤ 66680) ∧ (join (markAcc oN.data.toList tN.data.toList two N (mergeL X Y Z) 0)).length ≤ 66680 ∧
    parL (split (join (markAcc oN.data.toList tN.data.toList two N (mergeL X Y Z) 0))) = some ((mergeL X Y Z).map (stR two)) ∧ mkdL (split (join (markAcc oN.data.toList tN.data.toList two N (mergeL X Y Z) 0))) = !cleanB (mergeL X Y Z) := by
  have wh : ∀ {U : List (List UInt8)}, U.all whB = true → ∀ x ∈ U, Wh x := fun h x hx => whB_iff.1 (List.all_eq_true.mp h x hx)
  have mk : ∀ {U : List (List UInt8)}, U.all whB = true → U.any mkB = false → ∀ x ∈ U, mkL x = 0 := fun h1 h2 x hx => by
    have h3 := wh h1 x hx
    have h4 : mkB x = false := by
      cases hb : mkB x with
      | false => rfl
      | true => rw [List.any_eq_true.mpr ⟨x, hx, hb⟩] at h2; cases h2
    rw [mkB, last_split h3.1] at h4
    simpa [mkdL] using h4
  have hW : AllR Wh (mergeL X Y Z) := all_merge (wh wX) (wh wY) (wh wZ)
  have hM : AllR (fun x => mkL x = 0) (mergeL X Y Z) := all_merge (mk wX mX) (mk wY mY) (mk wZ mZ)
  obtain ⟨p1, p2⟩ := par_back ho ht two N (wf_merge X Y Z) hW hM
  have e := markAcc_eq oN.data.toList tN.data.toList two N (mergeL X Y Z) 0 fun r hr x hx => (hW r hr x hx).2
  have s1 := sz_flat (oN := oN.data.toList) (tN := tN.data.toList) (by rw [list_len, list_len]; exact hl) two (mergeL X Y Z)
  have s2 := sz_merge hX hY hZ kX kY kZ
  rw [p1, p2]
  rw [e]
  refine ⟨Nat.le_trans (szL_len _) (by omega), fun x hx => ?_, Nat.le_trans (szL_join _) (by omega), rfl, mkd_flat _ _ _ hM⟩
  have := szL_mem hx
  omega
theorem getElem_app_l {o t : ByteArray} {c : UInt8} (h : c ∈ o.data.toList) : ∃ k, ∃ h : k < (o ++ t).size, (o ++ t)[k] = c := by
  obtain ⟨k, hk, rfl⟩ := List.mem_iff_getElem.mp h
  rw [list_len] at hk
  have h2 : (o ++ t).data.toList = o.data.toList ++ t.data.toList := app_list o t
  refine ⟨k, by rw [ByteArray.size_append]; omega, ?_⟩
  show (o ++ t).data.toList[k]'(by rw [list_len, ByteArray.size_append]; omega) = _
  simp only [h2]
  rw [List.getElem_append_left (by rw [list_len]; exact hk)]
theorem getElem_app_r {o t : ByteArray} {c : UInt8} (h : c ∈ t.data.toList) : ∃ k, ∃ h : k < (o ++ t).size, (o ++ t)[k] = c := by
  obtain ⟨k, hk, rfl⟩ := List.mem_iff_getElem.mp h
  rw [list_len] at hk
  have h2 : (o ++ t).data.toList = o.data.toList ++ t.data.toList := app_list o t
  refine ⟨o.size + k, by rw [ByteArray.size_append]; omega, ?_⟩
  show (o ++ t).data.toList[o.size + k]'(by rw [list_len, ByteArray.size_append]; omega) = _
  simp only [h2]
  rw [List.getElem_append_right (by rw [list_len]; omega)]
  simp only [list_len, Nat.add_sub_cancel_left]
theorem tot_merge {X Y Z : List (List UInt8)} (hx : X.length ≤ 60) (hy : Y.length ≤ 60) (hz : Z.length ≤ 60) : tot (mergeL X Y Z) ≤ 20000 := by
  obtain ⟨h1, _⟩ := mrg_tot X Y Z (kpL X Y) (kpL X Z) 301 (by omega) X.length 0 [] 0 0 0
  have h3 : (X.length + 1) * 301 ≤ 61 * 301 := Nat.mul_le_mul_right _ (by omega)
  have h4 : tot ([] : List Rg) = 0 := rfl
  unfold mergeL
  omega
theorem side_tot (gs : List Rg) : (linesL 1 gs).length ≤ tot gs := by
  induction gs with
  | nil => exact Nat.le_refl _
  | cons r gs ih =>
    have e : tot (r :: gs) = totR r + tot gs := by simp [tot]
    have e2 : linesL 1 (r :: gs) = sideL 1 r ++ linesL 1 gs := by simp [linesL]
    rw [e, e2, List.length_append]
    have : (sideL 1 r).length ≤ totR r := by
      unfold sideL totR
      split
      · simp; omega
      · omega
    omega
theorem grw_len {w : World} {p : Option Addr} {gs gs' : List Rg} (h : GRw w p gs) (e : gs = gs') : GRw w p gs' := e ▸ h

section
variable {W : World} {X Y Z : List (List UInt8)} {p q r : Option Addr} {n m l c d e : Nat}
set_option maxHeartbeats 16000000 in
set_option maxRecDepth 20000 in
theorem thBack_walk (o t : ByteArray) (A : SA W X p n c) (B : SA W Y q m d) (C : SA W Z r l e) (hoz : o.size ≤ 140737488355328) (htz : t.size ≤ 140737488355328) : Calls Try.prog 8 #[.slice p n c, .slice q m d, .slice r l e, .string o, .string t] W fun e W' => e = .returned (.bool true) ∧ Below W.heap.size W W' := by
  obtain ⟨sa, hsa⟩ : ∃ s, s = smL X := ⟨_, rfl⟩
  have HSa := Lib.hid (small_any X p c n sa W A.len A.row A.short hsa (by have := A.few; omega))
  obtain ⟨wa, hwa⟩ : ∃ s, s = X.all whB := ⟨_, rfl⟩
  have HWa := Lib.hid (whole_any X p c n wa W A.len A.row A.short hwa (by have := A.few; omega))
  obtain ⟨ma, hma⟩ : ∃ s, s = X.any mkB := ⟨_, rfl⟩
  have HKa : sa = true → Hid (∀ w, Below W.heap.size W w → Calls Try.prog 30 #[.slice p n c] w fun e w' => e = .returned (.bool ma) ∧ Below W.heap.size W w') := fun h w hb =>
    (marks_any X p c n ma w A.len (A.row.below hb) (smL_yes (by rw [← hsa]; exact h)).2 hma (by have := A.few; omega)).mono fun e w' ⟨h1, h2⟩ => ⟨h1, hb.trans (h2.mono hb.size)⟩
  obtain ⟨sb, hsb⟩ : ∃ s, s = smL Y := ⟨_, rfl⟩
  have HSb := Lib.hid (small_any Y q d m sb W B.len B.row B.short hsb (by have := B.few; omega))
  obtain ⟨wb, hwb⟩ : ∃ s, s = Y.all whB := ⟨_, rfl⟩
  have HWb := Lib.hid (whole_any Y q d m wb W B.len B.row B.short hwb (by have := B.few; omega))
  obtain ⟨mb, hmb⟩ : ∃ s, s = Y.any mkB := ⟨_, rfl⟩
  have HKb : sb = true → Hid (∀ w, Below W.heap.size W w → Calls Try.prog 30 #[.slice q m d] w fun e w' => e = .returned (.bool mb) ∧ Below W.heap.size W w') := fun h w hb =>
    (marks_any Y q d m mb w B.len (B.row.below hb) (smL_yes (by rw [← hsb]; exact h)).2 hmb (by have := B.few; omega)).mono fun e w' ⟨h1, h2⟩ => ⟨h1, hb.trans (h2.mono hb.size)⟩
  obtain ⟨sc, hsc⟩ : ∃ s, s = smL Z := ⟨_, rfl⟩
  have HSc := Lib.hid (small_any Z r e l sc W C.len C.row C.short hsc (by have := C.few; omega))
  obtain ⟨wc, hwc⟩ : ∃ s, s = Z.all whB := ⟨_, rfl⟩
  have HWc := Lib.hid (whole_any Z r e l wc W C.len C.row C.short hwc (by have := C.few; omega))
  obtain ⟨mc, hmc⟩ : ∃ s, s = Z.any mkB := ⟨_, rfl⟩
  have HKc : sc = true → Hid (∀ w, Below W.heap.size W w → Calls Try.prog 30 #[.slice r l e] w fun e w' => e = .returned (.bool mc) ∧ Below W.heap.size W w') := fun h w hb =>
    (marks_any Z r e l mc w C.len (C.row.below hb) (smL_yes (by rw [← hsc]; exact h)).2 hmc (by have := C.few; omega)).mono fun e w' ⟨h1, h2⟩ => ⟨h1, hb.trans (h2.mono hb.size)⟩
  have HLV : Hid (∀ w, Below W.heap.size W w → Calls Try.prog 17 #[] w fun e w' => e = .returned (.bool true) ∧ Below W.heap.size W w') := fun w h => lives_inv h
  have h0 := Below.refl W.heap.size W
  obtain ⟨z, hz⟩ : ∃ z, z = o.size + t.size := ⟨_, rfl⟩
  have e1 : IntKind.i64.wrap ((o.size : Int) + (t.size : Int)) = (z : Int) := by rw [IntWalk.i64_in _ (by omega)]; omega
  have e1' : (o.size : Int) + (t.size : Int) = (z : Int) := by omega
  have e2w : IntKind.i64.wrap (z : Int) = (z : Int) := IntWalk.i64_in _ (by omega)
  have HZ := Lib.hid hz
  have HOT : Hid (o.size ≤ 140737488355328 ∧ t.size ≤ 140737488355328) := ⟨hoz, htz⟩
  rcases sa with _ | _
  ·
    clear hsa hsb hsc hwa hwb hwc hma hmb hmc A B C hz hoz htz
    go_enter Try.func8, Try.ntmps8
    go_wp2_with (first
      | (go_at_call 16; first
        | ((with_reducible refine HSa.out.mono ?_); rintro e w' ⟨rfl, rfl⟩)
        | ((with_reducible refine HSb.out.mono ?_); rintro e w' ⟨rfl, rfl⟩)
        | ((with_reducible refine HSc.out.mono ?_); rintro e w' ⟨rfl, rfl⟩))
      | (go_at_call 29; first
        | ((with_reducible refine HWa.out.mono ?_); rintro e w' ⟨rfl, rfl⟩)
        | ((with_reducible refine HWb.out.mono ?_); rintro e w' ⟨rfl, rfl⟩)
        | ((with_reducible refine HWc.out.mono ?_); rintro e w' ⟨rfl, rfl⟩))
      | (go_at_call 30; first
        | ((with_reducible refine (HKa.out _ h0).mono ?_); rintro e w1 ⟨rfl, hb1⟩)
        | ((with_reducible refine (HKb.out _ hb1).mono ?_); rintro e w2 ⟨rfl, hb2⟩)
        | ((with_reducible refine (HKc.out _ hb2).mono ?_); rintro e w3 ⟨rfl, hb3⟩))
      | (go_at_call 17; first
        | ((with_reducible refine (HLV.out _ hb3).mono ?_); rintro e w9 ⟨rfl, hb9⟩)
        | ((with_reducible refine (HLV.out _ hb2).mono ?_); rintro e w9 ⟨rfl, hb9⟩)
        | ((with_reducible refine (HLV.out _ hb1).mono ?_); rintro e w9 ⟨rfl, hb9⟩)
        | ((with_reducible refine (HLV.out _ h0).mono ?_); rintro e w9 ⟨rfl, hb9⟩)))
    go_ret
    exact ⟨rfl, hb9⟩
  rcases sb with _ | _
  ·
    clear hsa hsb hsc hwa hwb hwc hma hmb hmc A B C hz hoz htz
    go_enter Try.func8, Try.ntmps8
    go_wp2_with (first
      | (go_at_call 16; first
        | ((with_reducible refine HSa.out.mono ?_); rintro e w' ⟨rfl, rfl⟩)
        | ((with_reducible refine HSb.out.mono ?_); rintro e w' ⟨rfl, rfl⟩)
        | ((with_reducible refine HSc.out.mono ?_); rintro e w' ⟨rfl, rfl⟩))
      | (go_at_call 29; first
        | ((with_reducible refine HWa.out.mono ?_); rintro e w' ⟨rfl, rfl⟩)
        | ((with_reducible refine HWb.out.mono ?_); rintro e w' ⟨rfl, rfl⟩)
        | ((with_reducible refine HWc.out.mono ?_); rintro e w' ⟨rfl, rfl⟩))
      | (go_at_call 30; first
        | ((with_reducible refine (HKa.out _ h0).mono ?_); rintro e w1 ⟨rfl, hb1⟩)
        | ((with_reducible refine (HKb.out _ hb1).mono ?_); rintro e w2 ⟨rfl, hb2⟩)
        | ((with_reducible refine (HKc.out _ hb2).mono ?_); rintro e w3 ⟨rfl, hb3⟩))
      | (go_at_call 17; first
        | ((with_reducible refine (HLV.out _ hb3).mono ?_); rintro e w9 ⟨rfl, hb9⟩)
        | ((with_reducible refine (HLV.out _ hb2).mono ?_); rintro e w9 ⟨rfl, hb9⟩)
        | ((with_reducible refine (HLV.out _ hb1).mono ?_); rintro e w9 ⟨rfl, hb9⟩)
        | ((with_reducible refine (HLV.out _ h0).mono ?_); rintro e w9 ⟨rfl, hb9⟩)))
    go_ret
    exact ⟨rfl, hb9⟩
  rcases sc with _ | _
  ·
    clear hsa hsb hsc hwa hwb hwc hma hmb hmc A B C hz hoz htz
    go_enter Try.func8, Try.ntmps8
    go_wp2_with (first
      | (go_at_call 16; first
        | ((with_reducible refine HSa.out.mono ?_); rintro e w' ⟨rfl, rfl⟩)
        | ((with_reducible refine HSb.out.mono ?_); rintro e w' ⟨rfl, rfl⟩)
        | ((with_reducible refine HSc.out.mono ?_); rintro e w' ⟨rfl, rfl⟩))
      | (go_at_call 29; first
        | ((with_reducible refine HWa.out.mono ?_); rintro e w' ⟨rfl, rfl⟩)
        | ((with_reducible refine HWb.out.mono ?_); rintro e w' ⟨rfl, rfl⟩)
        | ((with_reducible refine HWc.out.mono ?_); rintro e w' ⟨rfl, rfl⟩))
      | (go_at_call 30; first
        | ((with_reducible refine (HKa.out _ h0).mono ?_); rintro e w1 ⟨rfl, hb1⟩)
        | ((with_reducible refine (HKb.out _ hb1).mono ?_); rintro e w2 ⟨rfl, hb2⟩)
        | ((with_reducible refine (HKc.out _ hb2).mono ?_); rintro e w3 ⟨rfl, hb3⟩))
      | (go_at_call 17; first
        | ((with_reducible refine (HLV.out _ hb3).mono ?_); rintro e w9 ⟨rfl, hb9⟩)
        | ((with_reducible refine (HLV.out _ hb2).mono ?_); rintro e w9 ⟨rfl, hb9⟩)
        | ((with_reducible refine (HLV.out _ hb1).mono ?_); rintro e w9 ⟨rfl, hb9⟩)
        | ((with_reducible refine (HLV.out _ h0).mono ?_); rintro e w9 ⟨rfl, hb9⟩)))
    go_ret
    exact ⟨rfl, hb9⟩
  replace HKa := HKa rfl
  replace HKb := HKb rfl
  replace HKc := HKc rfl
  rcases wa with _ | _
  ·
    clear hsa hsb hsc hwa hwb hwc hma hmb hmc A B C hz hoz htz
    go_enter Try.func8, Try.ntmps8
    go_wp2_with (first
      | (go_at_call 16; first
        | ((with_reducible refine HSa.out.mono ?_); rintro e w' ⟨rfl, rfl⟩)
        | ((with_reducible refine HSb.out.mono ?_); rintro e w' ⟨rfl, rfl⟩)
        | ((with_reducible refine HSc.out.mono ?_); rintro e w' ⟨rfl, rfl⟩))
      | (go_at_call 29; first
        | ((with_reducible refine HWa.out.mono ?_); rintro e w' ⟨rfl, rfl⟩)
        | ((with_reducible refine HWb.out.mono ?_); rintro e w' ⟨rfl, rfl⟩)
        | ((with_reducible refine HWc.out.mono ?_); rintro e w' ⟨rfl, rfl⟩))
      | (go_at_call 30; first
        | ((with_reducible refine (HKa.out _ h0).mono ?_); rintro e w1 ⟨rfl, hb1⟩)
        | ((with_reducible refine (HKb.out _ hb1).mono ?_); rintro e w2 ⟨rfl, hb2⟩)
        | ((with_reducible refine (HKc.out _ hb2).mono ?_); rintro e w3 ⟨rfl, hb3⟩))
      | (go_at_call 17; first
        | ((with_reducible refine (HLV.out _ hb3).mono ?_); rintro e w9 ⟨rfl, hb9⟩)
        | ((with_reducible refine (HLV.out _ hb2).mono ?_); rintro e w9 ⟨rfl, hb9⟩)
        | ((with_reducible refine (HLV.out _ hb1).mono ?_); rintro e w9 ⟨rfl, hb9⟩)
        | ((with_reducible refine (HLV.out _ h0).mono ?_); rintro e w9 ⟨rfl, hb9⟩)))
    go_ret
    exact ⟨rfl, hb9⟩
  rcases wb with _ | _
  ·
    clear hsa hsb hsc hwa hwb hwc hma hmb hmc A B C hz hoz htz
    go_enter Try.func8, Try.ntmps8
    go_wp2_with (first
      | (go_at_call 16; first
        | ((with_reducible refine HSa.out.mono ?_); rintro e w' ⟨rfl, rfl⟩)
        | ((with_reducible refine HSb.out.mono ?_); rintro e w' ⟨rfl, rfl⟩)
        | ((with_reducible refine HSc.out.mono ?_); rintro e w' ⟨rfl, rfl⟩))
      | (go_at_call 29; first
        | ((with_reducible refine HWa.out.mono ?_); rintro e w' ⟨rfl, rfl⟩)
        | ((with_reducible refine HWb.out.mono ?_); rintro e w' ⟨rfl, rfl⟩)
        | ((with_reducible refine HWc.out.mono ?_); rintro e w' ⟨rfl, rfl⟩))
      | (go_at_call 30; first
        | ((with_reducible refine (HKa.out _ h0).mono ?_); rintro e w1 ⟨rfl, hb1⟩)
        | ((with_reducible refine (HKb.out _ hb1).mono ?_); rintro e w2 ⟨rfl, hb2⟩)
        | ((with_reducible refine (HKc.out _ hb2).mono ?_); rintro e w3 ⟨rfl, hb3⟩))
      | (go_at_call 17; first
        | ((with_reducible refine (HLV.out _ hb3).mono ?_); rintro e w9 ⟨rfl, hb9⟩)
        | ((with_reducible refine (HLV.out _ hb2).mono ?_); rintro e w9 ⟨rfl, hb9⟩)
        | ((with_reducible refine (HLV.out _ hb1).mono ?_); rintro e w9 ⟨rfl, hb9⟩)
        | ((with_reducible refine (HLV.out _ h0).mono ?_); rintro e w9 ⟨rfl, hb9⟩)))
    go_ret
    exact ⟨rfl, hb9⟩
  rcases wc with _ | _
  ·
    clear hsa hsb hsc hwa hwb hwc hma hmb hmc A B C hz hoz htz
    go_enter Try.func8, Try.ntmps8
    go_wp2_with (first
      | (go_at_call 16; first
        | ((with_reducible refine HSa.out.mono ?_); rintro e w' ⟨rfl, rfl⟩)
        | ((with_reducible refine HSb.out.mono ?_); rintro e w' ⟨rfl, rfl⟩)
        | ((with_reducible refine HSc.out.mono ?_); rintro e w' ⟨rfl, rfl⟩))
      | (go_at_call 29; first
        | ((with_reducible refine HWa.out.mono ?_); rintro e w' ⟨rfl, rfl⟩)
        | ((with_reducible refine HWb.out.mono ?_); rintro e w' ⟨rfl, rfl⟩)
        | ((with_reducible refine HWc.out.mono ?_); rintro e w' ⟨rfl, rfl⟩))
      | (go_at_call 30; first
        | ((with_reducible refine (HKa.out _ h0).mono ?_); rintro e w1 ⟨rfl, hb1⟩)
        | ((with_reducible refine (HKb.out _ hb1).mono ?_); rintro e w2 ⟨rfl, hb2⟩)
        | ((with_reducible refine (HKc.out _ hb2).mono ?_); rintro e w3 ⟨rfl, hb3⟩))
      | (go_at_call 17; first
        | ((with_reducible refine (HLV.out _ hb3).mono ?_); rintro e w9 ⟨rfl, hb9⟩)
        | ((with_reducible refine (HLV.out _ hb2).mono ?_); rintro e w9 ⟨rfl, hb9⟩)
        | ((with_reducible refine (HLV.out _ hb1).mono ?_); rintro e w9 ⟨rfl, hb9⟩)
        | ((with_reducible refine (HLV.out _ h0).mono ?_); rintro e w9 ⟨rfl, hb9⟩)))
    go_ret
    exact ⟨rfl, hb9⟩
  rcases ma with _ | _
  rotate_left
  ·
    clear hsa hsb hsc hwa hwb hwc hma hmb hmc A B C hz hoz htz
    go_enter Try.func8, Try.ntmps8
    go_wp2_with (first
      | (go_at_call 16; first
        | ((with_reducible refine HSa.out.mono ?_); rintro e w' ⟨rfl, rfl⟩)
        | ((with_reducible refine HSb.out.mono ?_); rintro e w' ⟨rfl, rfl⟩)
        | ((with_reducible refine HSc.out.mono ?_); rintro e w' ⟨rfl, rfl⟩))
      | (go_at_call 29; first
        | ((with_reducible refine HWa.out.mono ?_); rintro e w' ⟨rfl, rfl⟩)
        | ((with_reducible refine HWb.out.mono ?_); rintro e w' ⟨rfl, rfl⟩)
        | ((with_reducible refine HWc.out.mono ?_); rintro e w' ⟨rfl, rfl⟩))
      | (go_at_call 30; first
        | ((with_reducible refine (HKa.out _ h0).mono ?_); rintro e w1 ⟨rfl, hb1⟩)
        | ((with_reducible refine (HKb.out _ hb1).mono ?_); rintro e w2 ⟨rfl, hb2⟩)
        | ((with_reducible refine (HKc.out _ hb2).mono ?_); rintro e w3 ⟨rfl, hb3⟩))
      | (go_at_call 17; first
        | ((with_reducible refine (HLV.out _ hb3).mono ?_); rintro e w9 ⟨rfl, hb9⟩)
        | ((with_reducible refine (HLV.out _ hb2).mono ?_); rintro e w9 ⟨rfl, hb9⟩)
        | ((with_reducible refine (HLV.out _ hb1).mono ?_); rintro e w9 ⟨rfl, hb9⟩)
        | ((with_reducible refine (HLV.out _ h0).mono ?_); rintro e w9 ⟨rfl, hb9⟩)))
    go_ret
    exact ⟨rfl, hb9⟩
  rcases mb with _ | _
  rotate_left
  ·
    clear hsa hsb hsc hwa hwb hwc hma hmb hmc A B C hz hoz htz
    go_enter Try.func8, Try.ntmps8
    go_wp2_with (first
      | (go_at_call 16; first
        | ((with_reducible refine HSa.out.mono ?_); rintro e w' ⟨rfl, rfl⟩)
        | ((with_reducible refine HSb.out.mono ?_); rintro e w' ⟨rfl, rfl⟩)
        | ((with_reducible refine HSc.out.mono ?_); rintro e w' ⟨rfl, rfl⟩))
      | (go_at_call 29; first
        | ((with_reducible refine HWa.out.mono ?_); rintro e w' ⟨rfl, rfl⟩)
        | ((with_reducible refine HWb.out.mono ?_); rintro e w' ⟨rfl, rfl⟩)
        | ((with_reducible refine HWc.out.mono ?_); rintro e w' ⟨rfl, rfl⟩))
      | (go_at_call 30; first
        | ((with_reducible refine (HKa.out _ h0).mono ?_); rintro e w1 ⟨rfl, hb1⟩)
        | ((with_reducible refine (HKb.out _ hb1).mono ?_); rintro e w2 ⟨rfl, hb2⟩)
        | ((with_reducible refine (HKc.out _ hb2).mono ?_); rintro e w3 ⟨rfl, hb3⟩))
      | (go_at_call 17; first
        | ((with_reducible refine (HLV.out _ hb3).mono ?_); rintro e w9 ⟨rfl, hb9⟩)
        | ((with_reducible refine (HLV.out _ hb2).mono ?_); rintro e w9 ⟨rfl, hb9⟩)
        | ((with_reducible refine (HLV.out _ hb1).mono ?_); rintro e w9 ⟨rfl, hb9⟩)
        | ((with_reducible refine (HLV.out _ h0).mono ?_); rintro e w9 ⟨rfl, hb9⟩)))
    go_ret
    exact ⟨rfl, hb9⟩
  rcases mc with _ | _
  rotate_left
  ·
    clear hsa hsb hsc hwa hwb hwc hma hmb hmc A B C hz hoz htz
    go_enter Try.func8, Try.ntmps8
    go_wp2_with (first
      | (go_at_call 16; first
        | ((with_reducible refine HSa.out.mono ?_); rintro e w' ⟨rfl, rfl⟩)
        | ((with_reducible refine HSb.out.mono ?_); rintro e w' ⟨rfl, rfl⟩)
        | ((with_reducible refine HSc.out.mono ?_); rintro e w' ⟨rfl, rfl⟩))
      | (go_at_call 29; first
        | ((with_reducible refine HWa.out.mono ?_); rintro e w' ⟨rfl, rfl⟩)
        | ((with_reducible refine HWb.out.mono ?_); rintro e w' ⟨rfl, rfl⟩)
        | ((with_reducible refine HWc.out.mono ?_); rintro e w' ⟨rfl, rfl⟩))
      | (go_at_call 30; first
        | ((with_reducible refine (HKa.out _ h0).mono ?_); rintro e w1 ⟨rfl, hb1⟩)
        | ((with_reducible refine (HKb.out _ hb1).mono ?_); rintro e w2 ⟨rfl, hb2⟩)
        | ((with_reducible refine (HKc.out _ hb2).mono ?_); rintro e w3 ⟨rfl, hb3⟩))
      | (go_at_call 17; first
        | ((with_reducible refine (HLV.out _ hb3).mono ?_); rintro e w9 ⟨rfl, hb9⟩)
        | ((with_reducible refine (HLV.out _ hb2).mono ?_); rintro e w9 ⟨rfl, hb9⟩)
        | ((with_reducible refine (HLV.out _ hb1).mono ?_); rintro e w9 ⟨rfl, hb9⟩)
        | ((with_reducible refine (HLV.out _ h0).mono ?_); rintro e w9 ⟨rfl, hb9⟩)))
    go_ret
    exact ⟨rfl, hb9⟩
  by_cases hbig : 400 < z
  · have x1 : decide ((400 : Int) < (z : Int)) = true := decide_eq_true (by omega)
    have x2 : (400 : Int) < (z : Int) := by omega
    clear hsa hsb hsc hwa hwb hwc hma hmb hmc A B C hz hoz htz hbig
    go_enter Try.func8, Try.ntmps8
    go_wp2_with (first
      | (go_at_call 16; first
        | ((with_reducible refine HSa.out.mono ?_); rintro e w' ⟨rfl, rfl⟩)
        | ((with_reducible refine HSb.out.mono ?_); rintro e w' ⟨rfl, rfl⟩)
        | ((with_reducible refine HSc.out.mono ?_); rintro e w' ⟨rfl, rfl⟩))
      | (go_at_call 29; first
        | ((with_reducible refine HWa.out.mono ?_); rintro e w' ⟨rfl, rfl⟩)
        | ((with_reducible refine HWb.out.mono ?_); rintro e w' ⟨rfl, rfl⟩)
        | ((with_reducible refine HWc.out.mono ?_); rintro e w' ⟨rfl, rfl⟩))
      | (go_at_call 30; first
        | ((with_reducible refine (HKa.out _ h0).mono ?_); rintro e w1 ⟨rfl, hb1⟩)
        | ((with_reducible refine (HKb.out _ hb1).mono ?_); rintro e w2 ⟨rfl, hb2⟩)
        | ((with_reducible refine (HKc.out _ hb2).mono ?_); rintro e w3 ⟨rfl, hb3⟩))
      | (go_at_call 17; first
        | ((with_reducible refine (HLV.out _ hb3).mono ?_); rintro e w9 ⟨rfl, hb9⟩)
        | ((with_reducible refine (HLV.out _ hb2).mono ?_); rintro e w9 ⟨rfl, hb9⟩)
        | ((with_reducible refine (HLV.out _ hb1).mono ?_); rintro e w9 ⟨rfl, hb9⟩)
        | ((with_reducible refine (HLV.out _ h0).mono ?_); rintro e w9 ⟨rfl, hb9⟩)))
    go_ret
    exact ⟨rfl, hb9⟩
  have x1 : decide ((400 : Int) < (z : Int)) = false := decide_eq_false (by omega)
  have x2 : ¬ (400 : Int) < (z : Int) := by omega
  obtain ⟨hX, kX⟩ := smL_yes hsa.symm
  obtain ⟨hY, kY⟩ := smL_yes hsb.symm
  obtain ⟨hZ, kZ⟩ := smL_yes hsc.symm
  have HF : Hid ((∀ c ∈ o.data.toList, c ≠ 10) → (∀ c ∈ t.data.toList, c ≠ 10) → ∀ (two : Bool) (N : Nat),
      (markAcc o.data.toList t.data.toList two N (mergeL X Y Z) 0).length ≤ 66680 ∧ (∀ x ∈ markAcc o.data.toList t.data.toList two N (mergeL X Y Z) 0, x.length ≤ 66680) ∧ (join (markAcc o.data.toList t.data.toList two N (mergeL X Y Z) 0)).length ≤ 66680 ∧
    parL (split (join (markAcc o.data.toList t.data.toList two N (mergeL X Y Z) 0))) = some ((mergeL X Y Z).map (stR two)) ∧ mkdL (split (join (markAcc o.data.toList t.data.toList two N (mergeL X Y Z) 0))) = !cleanB (mergeL X Y Z)) := fun h1 h2 two N =>
    mark_facts two N hX hY hZ kX kY kZ hwa.symm hwb.symm hwc.symm hma.symm hmb.symm hmc.symm (by omega) h1 h2
  obtain ⟨G, hG⟩ : ∃ G, G = mergeL X Y Z := ⟨_, rfl⟩
  obtain ⟨N, hN⟩ : ∃ N, N = G.length := ⟨_, rfl⟩
  obtain ⟨hsz, hlen⟩ := mergeL_tot hX hY hZ
  rw [← hG] at hsz hlen HF
  have hNb : N ≤ 1000 := by rw [hN]; exact hlen
  have HTT : Hid (tot G ≤ 20000) := by show _ ≤ _; rw [hG]; exact tot_merge hX hY hZ
  have HM1 : Hid (∀ w, Below W.heap.size W w → Calls Try.prog 18 #[.slice p n c, .slice q m d, .slice r l e] w fun e w' => (∃ P cap, e = .returned (.slice P N cap) ∧ Hid (GRw w' P G)) ∧ Below w.heap.size w w') := fun w hb =>
    (merge_any X Y Z n c m d l e p q r w A.len B.len C.len (A.row.below hb) (B.row.below hb) (C.row.below hb) A.cap B.cap C.cap (by rw [A.len]; omega) (by rw [B.len]; omega) (by rw [C.len]; omega) A.short B.short C.short).mono fun e w' ⟨⟨P, N', cap, he, hn, _, hg⟩, h2⟩ => ⟨⟨P, cap, by rw [he, hn, ← hG, ← hN], by rw [hG]; exact hg⟩, h2⟩
  have HSZ := Lib.hid hsz
  have HN := Lib.hid hN
  obtain ⟨u, hu⟩ : ∃ u, o ++ t = u := ⟨_, rfl⟩
  have hus : u.size = z := by rw [← hu, ByteArray.size_append, hz]
  have HU : Hid (o ++ t = u ∧ u.size = z) := ⟨hu, hus⟩
  have hzb : z ≤ 400 := by omega
  clear hsa hsb hsc hwa hwb hwc hma hmb hmc A B C hz hoz htz hX hY hZ kX kY kZ hsz hlen hG hN hus hbig
  go_enter Try.func8, Try.ntmps8
  go_upto_region 3 with (first
      | (go_at_call 16; first
        | ((with_reducible refine HSa.out.mono ?_); rintro e w' ⟨rfl, rfl⟩)
        | ((with_reducible refine HSb.out.mono ?_); rintro e w' ⟨rfl, rfl⟩)
        | ((with_reducible refine HSc.out.mono ?_); rintro e w' ⟨rfl, rfl⟩))
      | (go_at_call 29; first
        | ((with_reducible refine HWa.out.mono ?_); rintro e w' ⟨rfl, rfl⟩)
        | ((with_reducible refine HWb.out.mono ?_); rintro e w' ⟨rfl, rfl⟩)
        | ((with_reducible refine HWc.out.mono ?_); rintro e w' ⟨rfl, rfl⟩))
      | (go_at_call 30; first
        | ((with_reducible refine (HKa.out _ h0).mono ?_); rintro e w1 ⟨rfl, hb1⟩)
        | ((with_reducible refine (HKb.out _ hb1).mono ?_); rintro e w2 ⟨rfl, hb2⟩)
        | ((with_reducible refine (HKc.out _ hb2).mono ?_); rintro e w3 ⟨rfl, hb3⟩)))
  clear HSa HSb HSc HWa HWb HWc HKa HKb HKc hb1 hb2 x1 x2
  have hus : (u.size : Int) = (z : Int) := by rw [HU.out.2]
  have HB3 := Lib.hid hb3
  clear hb3
  go_wp2_with fail
  go_loopw [11] (fun iv wr => ∃ k : Nat, k ≤ z ∧ iv = .int .i64 (k : Int) ∧ w3 = wr ∧ Hid (∀ (i : Nat) (hi : i < k) (hi2 : i < u.size), u[i] ≠ 10)) (fun iv _ => z - (intOf iv).toNat)
  case atStart => exact ⟨0, Nat.zero_le _, rfl, rfl, fun i hi _ => absurd hi (Nat.not_lt_zero _)⟩
  case round =>
    obtain ⟨k, hk, rfl, rfl, HI⟩ := hrel
    by_cases hlt : k < z
    · have hku : k < u.size := by rw [HU.out.2]; exact hlt
      by_cases hten : u[k] = 10
      · have b1 : ((u[k].toNat : Int) == 10) = true := by rw [hten]; rfl
        clear hten HI
        go_wp2_with (go_at_call 17; ((with_reducible refine (HLV.out _ HB3.out).mono ?_); rintro e w9 ⟨rfl, hb9⟩))
        go_ret
        exact ⟨rfl, hb9⟩
      · have HI2 : Hid (∀ (i : Nat) (hi : i < k + 1) (hi2 : i < u.size), u[i] ≠ 10) := fun i hi hi2 => by
          by_cases hik : i = k
          · subst hik; exact hten
          · exact HI.out i (by omega) hi2
        have b1 : ((u[k].toNat : Int) == 10) = false := by
          rw [beq_eq_false_iff_ne]
          intro e
          exact hten (UInt8.toNat_inj.mp (by have : (10 : UInt8).toNat = 10 := rfl; omega))
        clear hten HI
        go_wp2
        go_roundw
        case rel => exact ⟨k + 1, hlt, by go_num, by first | trivial | rfl, HI2.out⟩
        case measure => simp [intOf]; omega
    · obtain rfl : k = z := by omega
      have hall : ∀ c, (∃ k, ∃ h : k < (o ++ t).size, (o ++ t)[k] = c) → c ≠ 10 := fun c ⟨i, hi, hc⟩ => by
        have e2 := HU.out.1
        subst e2
        rw [← hc]
        exact HI.out i (by rw [← HU.out.2]; exact hi) hi
      have hoc : ∀ c ∈ o.data.toList, c ≠ 10 := fun c hc => hall c (getElem_app_l hc)
      have htc : ∀ c ∈ t.data.toList, c ≠ 10 := fun c hc => hall c (getElem_app_r hc)
      obtain ⟨f1, f2, f3, f4, f5⟩ := HF.out hoc htc true N
      obtain ⟨g1, g2, g3, g4, g5⟩ := HF.out hoc htc false N
      rw [st_true] at f4
      obtain ⟨r2, hr2⟩ : ∃ r2, r2 = str (join (markAcc o.data.toList t.data.toList true N G 0)) := ⟨_, rfl⟩
      obtain ⟨r1, hr1⟩ : ∃ r1, r1 = str (join (markAcc o.data.toList t.data.toList false N G 0)) := ⟨_, rfl⟩
      have l2 : r2.data.toList = join (markAcc o.data.toList t.data.toList true N G 0) := by rw [hr2]; rfl
      have l1 : r1.data.toList = join (markAcc o.data.toList t.data.toList false N G 0) := by rw [hr1]; rfl
      rw [← l2] at f4 f5
      rw [← l1] at g4 g5
      have s2 : r2.size ≤ 66680 := by rw [← list_len, l2]; exact f3
      have s1 : r1.size ≤ 66680 := by rw [← list_len, l1]; exact g3
      obtain ⟨cb, hcb⟩ : ∃ cb, cb = cleanB G := ⟨_, rfl⟩
      have hob := HOT.out
      have HK2 : Hid (∀ w P cap, GRw w P G → Calls Try.prog 31 #[.slice P N cap, .string o, .string t, .int .i64 2] w fun e w' => e = .returned (.string r2) ∧ Below w.heap.size w w') := fun w P cap h => mark_any G P cap N 2 true o t r2 w HN.out h (by omega) rfl (by omega) (fun x hx => by have := f2 x hx; omega) (by omega) hr2 (by have := HZ.out; omega) (by have := HZ.out; omega)
      have HK1 : Hid (∀ w P cap, GRw w P G → Calls Try.prog 31 #[.slice P N cap, .string o, .string t, .int .i64 1] w fun e w' => e = .returned (.string r1) ∧ Below w.heap.size w w') := fun w P cap h => mark_any G P cap N 1 false o t r1 w HN.out h (by omega) rfl (by omega) (fun x hx => by have := g2 x hx; omega) (by omega) hr1 (by have := HZ.out; omega) (by have := HZ.out; omega)
      have HP2 : Hid (∀ w, Calls Try.prog 23 #[.string r2] w fun e w' => (∃ P cap, e = .returned (.tuple #[.slice P N cap, .int .i64 0]) ∧ Hid (GRw w' P G)) ∧ Below w.heap.size w w') := fun w =>
        (parse_any r2 w (by omega)).mono fun e w' ⟨h1, h2⟩ => by
          rw [f4] at h2
          obtain ⟨P, n', cap, he, hn', _, hg⟩ := h2
          exact ⟨⟨P, cap, by rw [he, hn', ← HN.out], hg⟩, h1⟩
      have HP1 : Hid (∀ w, Calls Try.prog 23 #[.string r1] w fun e w' => (∃ P cap, e = .returned (.tuple #[.slice P N cap, .int .i64 0]) ∧ Hid (GRw w' P (G.map (stR false)))) ∧ Below w.heap.size w w') := fun w =>
        (parse_any r1 w (by omega)).mono fun e w' ⟨h1, h2⟩ => by
          rw [g4] at h2
          obtain ⟨P, n', cap, he, hn', _, hg⟩ := h2
          exact ⟨⟨P, cap, by rw [he, hn', List.length_map, ← HN.out], hg⟩, h1⟩
      have HSG : Hid (∀ w P c1 Q c2, GRw w P G → GRw w Q G → Calls Try.prog 19 #[.slice P N c1, .slice Q N c2] w fun e w' => e = .returned (.bool true) ∧ Below w.heap.size w w') := fun w P c1 Q c2 h1 h2 => rsameG_any G P Q c1 c2 N w HN.out h1 h2 (by omega) HSZ.out
      have HMD : Hid (∀ w, Calls Try.prog 25 #[.string r1] w fun e w' => e = .returned (.bool (!cb)) ∧ Below w.heap.size w w') := fun w => marked_any r1 (!cb) w (by omega) (by rw [hcb, g5])
      have HCL : Hid (∀ w P c1, GRw w P G → Calls Try.prog 21 #[.slice P N c1] w fun e w' => e = .returned (.bool cb) ∧ Below w.heap.size w w') := fun w P c1 h1 => by
        rw [hcb]
        exact clean_any G P c1 N w HN.out h1 (by omega)
      have HLL : cb = true → Hid (∃ (L : List (List UInt8)) (nL : Nat), (∀ w P c1, GRw w P G → (Calls Try.prog 28 #[.slice P N c1, .int .i64 1] w fun e w' => (∃ p cap, e = .returned (.slice p nL cap) ∧ Hid (SRw w' p L)) ∧ Below w.heap.size w w') ∧ (Calls Try.prog 28 #[.slice P N c1, .int .i64 2] w fun e w' => (∃ p cap, e = .returned (.slice p nL cap) ∧ Hid (SRw w' p L)) ∧ Below w.heap.size w w')) ∧
          ∀ (w : World) (p1 p2 : Option Addr) (c1 c2 : Nat), SRw w p1 L → SRw w p2 L → Calls Try.prog 27 #[.slice p1 nL c1, .slice p2 nL c2] w fun e w' => e = .returned (.bool true) ∧ Below w.heap.size w w') := fun hc => by
        have he := clean_sides (hcb.symm.trans hc)
        have hb1 : (linesL 1 G).length ≤ 1000000 := by have h1 := side_tot G; have h2 := HTT.out; omega
        refine ⟨linesL 1 G, (linesL 1 G).length, fun w P c1 hg => ⟨?_, ?_⟩, fun w p1 p2 c1 c2 h1 h2 => ?_⟩
        · exact (lines_any G P c1 N 1 w HN.out hg (by omega) (.inl rfl) hb1).mono fun e w' ⟨⟨v, h1, h2⟩, h3⟩ => by
            obtain ⟨p, cap, rfl, hs⟩ := h2.shapeN rfl
            exact ⟨⟨p, cap, h1, hs⟩, h3⟩
        · rw [he] at hb1
          exact (lines_any G P c1 N 2 w HN.out hg (by omega) (.inr (.inl rfl)) hb1).mono fun e w' ⟨⟨v, h1, h2⟩, h3⟩ => by
            rw [← he] at h2
            obtain ⟨p, cap, rfl, hs⟩ := h2.shapeN rfl
            exact ⟨⟨p, cap, h1, hs⟩, h3⟩
        · exact (rsame6_any _ _ p1 p2 c1 c2 _ _ w rfl rfl h1 h2 (by omega)).mono fun e w' ⟨h1, k, h2⟩ => ⟨by rw [h1, decide_eq_true rfl], by rw [h2]; exact below_drewN (Below.refl _ _) k⟩
      clear hall hoc htc f1 f2 f3 f4 f5 g1 g2 g3 g4 g5 hr1 hr2 l1 l2 s1 s2 hcb HF HI hob
      go_upto_region 9 with (go_at_call 18; ((with_reducible refine (HM1.out _ HB3.out).mono ?_); rintro e w4 ⟨⟨P4, c4, rfl, G4⟩, b4⟩))
      go_upto_region 10 with (first
        | (go_at_call 31; ((with_reducible refine (HK2.out _ _ _ G4.out).mono ?_); rintro e w5 ⟨rfl, b5⟩))
        | (go_at_call 23; ((with_reducible refine (HP2.out _).mono ?_); rintro e w6 ⟨⟨P6, c6, rfl, G6⟩, b6⟩)))
      have b46 : Below w4.heap.size w4 w6 := b5.trans (b6.mono b5.size)
      have G46 := Lib.hid (G4.out.below b46)
      go_upto_region 11 with (first
        | (go_at_call 31; ((with_reducible refine (HK1.out _ _ _ G46.out).mono ?_); rintro e w7 ⟨rfl, b7⟩))
        | (go_at_call 23; ((with_reducible refine (HP1.out _).mono ?_); rintro e w8 ⟨⟨P8, c8, rfl, G8⟩, b8⟩)))
      have b68 : Below w6.heap.size w6 w8 := b7.trans (b8.mono b7.size)
      have G48 := Lib.hid (G46.out.below b68)
      have G68 := Lib.hid (G6.out.below b68)
      have HB8 : Hid (Below W.heap.size W w8) := by
        have t4 := HB3.out.trans (b4.mono HB3.out.size)
        have t6 := t4.trans (b46.mono t4.size)
        exact t6.trans (b68.mono t6.size)
      clear b4 b5 b6 b7 b8 b46 b68 G4 G46 G6
      go_upto_region 13 with (go_at_call 19; ((with_reducible refine (HSG.out _ _ _ _ _ G68.out G48.out).mono ?_); rintro e wa ⟨rfl, ba⟩))
      have GA := Lib.hid (G48.out.below ba)
      have GB := Lib.hid (G8.out.below ba)
      have HBA := Lib.hid (HB8.out.trans (ba.mono HB8.out.size))
      clear ba G48 G68 G8 HB8 HP1 HP2 HK2
      go_wp2
      go_loopw [17] (fun iv wr => ∃ k : Nat, k ≤ N ∧ iv = .int .i64 (k : Int) ∧ Hid (Below wa.heap.size wa wr)) (fun iv _ => N - (intOf iv).toNat)
      case atStart => exact ⟨0, Nat.zero_le _, rfl, Below.refl _ _⟩
      case round =>
        obtain ⟨k2, hk2, rfl, HW2⟩ := hrel
        have hws := HW2.out.size
        by_cases hlt2 : k2 < N
        · have hkl : k2 < G.length := by rw [← HN.out]; exact hlt2
          obtain ⟨g, o1, v0, v1, v2, v3, v4, rfl, hg, a0, a1, a2, a3, a4, hr⟩ := GB.out k2 (by rw [List.length_map]; exact hkl)
          obtain ⟨h, o2, u0, u1, u2, u3, u4, rfl, hh, b0, b1, b2, b3, b4, hr2⟩ := GA.out k2 hkl
          rw [List.getElem_map] at hr
          have tr : ∀ i v, wa.cell? ⟨g, i, none⟩ = some v → wr.cell? ⟨g, i, none⟩ = some v := fun i v h => (HW2.out.cell (p := ⟨g, i, none⟩) hg).trans h
          have tr2 : ∀ i v, wa.cell? ⟨h, i, none⟩ = some v → wr.cell? ⟨h, i, none⟩ = some v := fun i v h' => (HW2.out.cell (p := ⟨h, i, none⟩) hh).trans h'
          replace a0 := tr _ _ a0
          replace a1 := tr _ _ a1
          replace a2 := tr _ _ a2
          replace a3 := tr _ _ a3
          replace a4 := tr _ _ a4
          replace b0 := tr2 _ _ b0
          replace b1 := tr2 _ _ b1
          replace b2 := tr2 _ _ b2
          replace b3 := tr2 _ _ b3
          replace b4 := tr2 _ _ b4
          clear tr tr2
          obtain ⟨rg, hr0⟩ : ∃ r, r = G[k2] := ⟨_, rfl⟩
          have hsr := HSZ.out _ (List.getElem_mem hkl)
          rw [← hr0] at hr hr2 hsr
          obtain ⟨zz, ll, ol, bl, tl⟩ := rg
          obtain ⟨rfl, ⟨p1, d1, rfl, x1, s1⟩, ⟨p2, d2, rfl, x2, s2⟩, ⟨p3, d3, rfl, x3, s3⟩, ⟨p4, d4, rfl, x4, s4⟩⟩ := hr
          obtain ⟨rfl, ⟨q1, f1, rfl, y1, t1⟩, ⟨q2, f2, rfl, y2, t2⟩, ⟨q3, f3, rfl, y3, t3⟩, ⟨q4, f4, rfl, y4, t4⟩⟩ := hr2
          simp only [stR, Bool.false_eq_true, if_false, List.length_nil] at *
          have HSM : ∀ (v u : Value) (ls : List (List UInt8)), SlW wa v ls → SlW wa u ls → ls.length ≤ 1000000 → Hid (∀ x, Calls Try.prog 27 #[v, u] (wr.drewN x) fun e w'' => e = .returned (.bool true) ∧ ∃ k, w'' = (wr.drewN x).drewN k) := fun v u ls hv hu hl x => by
            obtain ⟨p1, c1, rfl, _, s1⟩ := hv
            obtain ⟨p2, c2, rfl, _, s2⟩ := hu
            have hb := below_drewN HW2.out x
            refine (rsame6_any ls ls p1 p2 c1 c2 _ _ (wr.drewN x) rfl rfl (s1.below hb) (s2.below hb) (by omega)).mono fun e w'' ⟨he, hk⟩ => ⟨he.trans (by simp), hk⟩
          have C1 := HSM (.slice p1 ll.length d1) (.slice q1 ll.length f1) ll ⟨p1, d1, rfl, x1, s1⟩ ⟨q1, f1, rfl, y1, t1⟩ hsr.1
          have C2 := HSM (.slice p2 ol.length d2) (.slice q2 ol.length f2) ol ⟨p2, d2, rfl, x2, s2⟩ ⟨q2, f2, rfl, y2, t2⟩ hsr.2.1
          have C4 := HSM (.slice p4 tl.length d4) (.slice q4 tl.length f4) tl ⟨p4, d4, rfl, x4, s4⟩ ⟨q4, f4, rfl, y4, t4⟩ hsr.2.2.2
          obtain ⟨m1, hm1⟩ : ∃ m, m = ll.length := ⟨_, rfl⟩
          rw [← hm1] at a1 b1 C1
          obtain ⟨m2, hm2⟩ : ∃ m, m = ol.length := ⟨_, rfl⟩
          rw [← hm2] at a2 b2 C2
          obtain ⟨m4, hm4⟩ : ∃ m, m = tl.length := ⟨_, rfl⟩
          rw [← hm4] at a4 b4 C4
          clear HSM hsr hr0 hm1 hm2 hm4 x1 x2 x3 x4 y1 y2 y3 y4 s1 s2 s3 s4 t1 t2 t3 t4
          have hgr : g < wr.heap.size := by omega
          have hhr : h < wr.heap.size := by omega
          have hzz : ((zz : Int) != zz) = false := by simp
          have hkn : (k2 : Int) < (N : Int) := by omega
          go_upto_region 16 with fail
          refine wp_region_quiet_lit (by kernel_rfl) (by kernel_rfl) ?_
          try simp only [List.append_eq, List.cons_append, List.nil_append]
          repeat (go_big_quiet_step ((go_at_call 27; first
            | with_reducible exact Calls.quiet_of (C1.out _)
            | with_reducible exact Calls.quiet_of (C2.out _)
            | with_reducible exact Calls.quiet_of (C4.out _))))
          refine wpQuiet_nil ?_
          intro _ hw'
          obtain ⟨nq, hw''⟩ := hw'
          subst hw''
          go_wp2
          go_roundw
          case rel => exact ⟨k2 + 1, hlt2, by go_num, by first | exact below_drewN HW2.out _ | exact HW2.out⟩
          case measure => simp [intOf]; omega
        · obtain rfl : k2 = N := by omega
          have GW := Lib.hid (GA.out.below HW2.out)
          have HBW := Lib.hid (HBA.out.trans (HW2.out.mono HBA.out.size))
          have HLV2 : Hid (∀ w, Calls Try.prog 17 #[] w fun e w' => e = .returned (.bool true) ∧ Below w.heap.size w w') := fun w => lives_inv (Below.refl _ _)
          clear GA GB HBA HW2 hws HLV HM1 HSG HSZ
          rcases cb with _ | _
          · clear HLL
            go_wp2_with (first
              | (go_at_call 17; ((with_reducible refine (HLV2.out _).mono ?_); rintro e v1 ⟨rfl, b1⟩; have G1 := Lib.hid (GW.out.below b1)))
              | (go_at_call 31; ((with_reducible refine (HK1.out _ _ _ G1.out).mono ?_); rintro e v2 ⟨rfl, b2⟩; have G2 := Lib.hid (G1.out.below b2)))
              | (go_at_call 25; ((with_reducible refine (HMD.out _).mono ?_); rintro e v3 ⟨rfl, b3⟩; have G3 := Lib.hid (G2.out.below b3)))
              | (go_at_call 21; first
                | ((with_reducible refine (HCL.out _ _ _ G3.out).mono ?_); rintro e v4 ⟨rfl, b4⟩; have G4 := Lib.hid (G3.out.below b4))
                | ((with_reducible refine (HCL.out _ _ _ G4.out).mono ?_); rintro e v5 ⟨rfl, b5⟩)))
            go_ret
            have t1 := HBW.out.trans (b1.mono HBW.out.size)
            have t2 := t1.trans (b2.mono t1.size)
            have t3 := t2.trans (b3.mono t2.size)
            have t4 := t3.trans (b4.mono t3.size)
            exact ⟨rfl, t4.trans (b5.mono t4.size)⟩
          · obtain ⟨LL, nL, hli, hsi⟩ := (HLL rfl).out
            have HLI := Lib.hid hli
            have HSI := Lib.hid hsi
            clear HLL hli hsi
            go_wp2_with (first
              | (go_at_call 17; ((with_reducible refine (HLV2.out _).mono ?_); rintro e v1 ⟨rfl, b1⟩; have G1 := Lib.hid (GW.out.below b1)))
              | (go_at_call 31; ((with_reducible refine (HK1.out _ _ _ G1.out).mono ?_); rintro e v2 ⟨rfl, b2⟩; have G2 := Lib.hid (G1.out.below b2)))
              | (go_at_call 25; ((with_reducible refine (HMD.out _).mono ?_); rintro e v3 ⟨rfl, b3⟩; have G3 := Lib.hid (G2.out.below b3)))
              | (go_at_call 21; first
                | ((with_reducible refine (HCL.out _ _ _ G3.out).mono ?_); rintro e v4 ⟨rfl, b4⟩; have G4 := Lib.hid (G3.out.below b4))
                | ((with_reducible refine (HCL.out _ _ _ G4.out).mono ?_); rintro e v5 ⟨rfl, b5⟩; have G5 := Lib.hid (G4.out.below b5)))
              | (go_at_call 28; first
                | ((with_reducible refine (HLI.out _ _ _ G5.out).1.mono ?_); rintro e v6 ⟨⟨i6, j6, rfl, S6⟩, b6⟩; have G6 := Lib.hid (G5.out.below b6))
                | ((with_reducible refine (HLI.out _ _ _ G6.out).2.mono ?_); rintro e v7 ⟨⟨i7, j7, rfl, S7⟩, b7⟩; have S67 := Lib.hid (S6.out.below b7)))
              | (go_at_call 27; ((with_reducible refine (HSI.out _ _ _ _ _ S67.out S7.out).mono ?_); rintro e v8 ⟨rfl, b8⟩)))
            go_ret
            have t1 := HBW.out.trans (b1.mono HBW.out.size)
            have t2 := t1.trans (b2.mono t1.size)
            have t3 := t2.trans (b3.mono t2.size)
            have t4 := t3.trans (b4.mono t3.size)
            have t5 := t4.trans (b5.mono t4.size)
            have t6 := t5.trans (b6.mono t5.size)
            have t7 := t6.trans (b7.mono t6.size)
            exact ⟨rfl, t7.trans (b8.mono t7.size)⟩
end
end Go.Proofs.Ytidghjalfbklnaa
