/-
  Bytes as they are read; the walk of takeMode.
-/
import Derived.Test.YtddmnibioacelaaGreatDoorTrBodyPk
import Derived.Test.YtddmnibioacelaaGreatDoorMarkRow
namespace Go.Proofs.YtddmnibioacelaaGreatDoor
open Go.RowKit

/-- A slice of bytes. -/
def BSl (w : World) (b : Nat) (v : Value) (l : List UInt8) : Prop := ∃ o c, v = .slice (some ⟨b, o, none⟩) l.length c ∧ l.length ≤ c ∧ b < w.heap.size ∧ ∀ k (h : k < l.length), w.cell? ⟨b, o + k, none⟩ = some (.int .u8 (l[k].toNat : Int))
theorem BSl.below {w w' : World} {b : Nat} {v : Value} {l : List UInt8} (h : BSl w b v l) (hb : Below w.heap.size w w') : BSl w' b v l := by
  obtain ⟨o, c, hv, hc, hl, hx⟩ := h
  exact ⟨o, c, hv, hc, Nat.lt_of_lt_of_le hl hb.size, fun k hk => (hb.cell (p := ⟨b, o + k, none⟩) hl).trans (hx k hk)⟩
/-- The numbers of bytes. -/
def nums (l : List UInt8) : List Int := l.map fun b => (b.toNat : Int)
theorem nums_len (l : List UInt8) : (nums l).length = l.length := by simp [nums]
theorem nums_bytes (l : List UInt8) : Lib.bytesOf (nums l) = l := by
  unfold Lib.bytesOf nums
  rw [List.map_map]
  conv => rhs; rw [← List.map_id l]
  refine List.map_congr_left fun b _ => ?_
  show UInt8.ofNat ((b.toNat : Int).toNat) = b
  simp
theorem nums_getD {l : List UInt8} {k : Nat} (h : k < l.length) : (nums l).getD k 0 = (l[k].toNat : Int) := by
  rw [List.getD_eq_getElem?_getD, List.getElem?_eq_getElem (by rw [nums_len]; exact h)]
  simp [nums]
/-- '[]byte(s)'. -/
theorem to_bytes (s : ByteArray) (w : World) (hs : s.size ≤ 140737488355328) : ∃ cap w', (convert 9 78 (.string s)).run Tryz.prog w = .ok (.slice (some ⟨w.heap.size, 0, none⟩) s.size cap) w' ∧ s.size ≤ cap ∧ Below w.heap.size w w' ∧ w.heap.size < w'.heap.size ∧
    ∀ k (h : k < s.data.toList.length), w'.cell? ⟨w.heap.size, k, none⟩ = some (.int .u8 (s.data.toList[k].toNat : Int)) := by
  have hm := grownCap_le_maxLen w s.size 0 5 (by unfold maxLen; omega)
  have ho := OwnM.start w s 5 hm
  refine ⟨_, _, run_bytes_of_string w 9 78 5 s Tryz.underlying9 Tryz.underlying78 Tryz.underlying5, grownCap_ge w s.size 0 5, ?_, ?_, fun k hk => ?_⟩
  · exact ((Below.refl _ _).drew).alloc (Nat.le_refl _) _
  · rw [World.size_alloc]
    exact Nat.lt_succ_self _
  · have h1 := ho.cells k (.int .u8 (s.data.toList[k].toNat : Int)) (by simp [bcells, List.getElem?_map, List.getElem?_eq_getElem hk])
    rwa [Addr.add_lit, Nat.zero_add] at h1
theorem from_bytes {w : World} {b o n c k : Nat} {l : List UInt8} (hn : n = l.length) (hc : n ≤ c) (hl : b < w.heap.size) (hx : ∀ k (h : k < l.length), w.cell? ⟨b, o + k, none⟩ = some (.int .u8 (l[k].toNat : Int))) (hk : k ≤ n) : BSl w b (Lib.sliceFrom b o n c k) (l.drop k) := by
  subst hn
  unfold Lib.sliceFrom
  by_cases h : c = k
  · have hd : l.drop k = [] := List.drop_eq_nil_of_le (by omega)
    rw [if_pos h, hd]
    exact ⟨o, c - k, by simp; omega, by simp, hl, fun j hj => absurd hj (Nat.not_lt_zero _)⟩
  · rw [if_neg h]
    refine ⟨o + k, c - k, by rw [List.length_drop], by rw [List.length_drop]; omega, hl, fun j hj => ?_⟩
    rw [List.length_drop] at hj
    rw [Nat.add_assoc, hx (k + j) (by omega), List.getElem_drop]
/-- What takeMode answers. -/
def ModeR (l : List UInt8) (b : Nat) (w : World) (e : Ending) (w' : World) : Prop := (∃ v, e = .returned (.tuple #[.int .i64 ((modeT l).1 : Int), v, .int .i64 ((modeT l).2 : Int)]) ∧ ((modeT l).1 ≠ 0 → BSl w' b v (l.drop (wordM (modeT l).1).length))) ∧ Below w.heap.size w w'
theorem modeR_hit {l : List UInt8} {b : Nat} {w w' : World} {q : Nat} {v : Value} (h : modeT l = (q, 0)) (hv : BSl w' b v (l.drop (wordM q).length)) (hb : Below w.heap.size w w') : ModeR l b w (.returned (.tuple #[.int .i64 (q : Int), v, .int .i64 0])) w' := by
  refine ⟨⟨v, by rw [h]; rfl, fun _ => by rw [h]; exact hv⟩, hb⟩
theorem modeR_miss {l : List UInt8} {b : Nat} {w w' : World} {c : Nat} {v : Value} (h : modeT l = (0, c)) (hb : Below w.heap.size w w') : ModeR l b w (.returned (.tuple #[.int .i64 0, v, .int .i64 (c : Int)])) w' := by
  refine ⟨⟨v, by rw [h]; rfl, fun h0 => by rw [h] at h0; exact absurd rfl h0⟩, hb⟩

set_option maxHeartbeats 4000000 in
set_option maxRecDepth 4000 in
theorem takeMode_any (l : List UInt8) (b : Nat) (v : Value) (w : World) (hv : BSl w b v l) (hT : TrTab w) (hl : l.length ≤ 1048576) :
    Calls Tryz.prog 129 #[v] w (ModeR l b w) := by
  obtain ⟨o, c, rfl, hc, hbl, hx⟩ := hv
  obtain ⟨n, hn⟩ : ∃ n, n = l.length := ⟨_, rfl⟩
  rw [← hn] at hc hl ⊢
  have HN := Lib.hid hn
  have HX := Lib.hid hx
  have HT := Lib.hid hT
  clear hn hx hT
  go_enter Tryz.func129, Tryz.ntmps129
  go_wp2_with fail
  go_loopw [6, 5] (fun iv ev wr => ∃ q d : Nat, 1 ≤ q ∧ q ≤ 5 ∧ iv = .int .i64 (q : Int) ∧ ev = .int .i64 (d : Int) ∧ Hid (d = errTo l q) ∧ Hid (∀ j : Nat, 1 ≤ j → j < q → Lib.hasPrefix l (wordM j) = false) ∧ Hid (Below w.heap.size w wr)) (fun iv _ _ => 5 - (intOf iv).toNat)
  case atStart => exact ⟨1, 2, by omega, by omega, rfl, rfl, rfl, fun j h1 h2 => by omega, Below.refl _ _⟩
  case round =>
    obtain ⟨q, d, hq1, hq5, rfl, rfl, HD, HNO, HB⟩ := hrel
    by_cases hlt : q < 5
    · obtain ⟨W, hW⟩ : ∃ W, W = str (wordM q) := ⟨_, rfl⟩
      have dw := (HT.out.below HB.out).word hq1 (by omega)
      rw [← hW] at dw
      have hWl : W.data.toList = wordM q := by rw [hW, str_list]
      have hWs : W.size ≤ 7 := by rw [hW, str_size]; exact wordM_le _
      obtain ⟨cap, w2, hcv, hcap, hb2, hbs2, hcx⟩ := to_bytes W wr (by omega)
      have q0 : (0 : Int) ≤ (q : Int) := by omega
      have q6 : (q : Int) < 5 := by omega
      have q7 : (q : Int) ≤ 4 := by omega
      have HB2 := Lib.hid (HB.out.trans (hb2.mono HB.out.size))
      have HXW : Hid (∀ i, i < n → w2.cell? ⟨b, o + i, none⟩ = some (.int .u8 ((nums l).getD i 0))) := fun i hi => by
        have hi2 : i < l.length := by rw [← HN.out]; exact hi
        rw [nums_getD hi2]
        exact (HB2.out.cell (p := ⟨b, o + i, none⟩) hbl).trans (HX.out i hi2)
      have HYW : Hid (∀ i, i < W.size → w2.cell? ⟨wr.heap.size, 0 + i, none⟩ = some (.int .u8 ((nums (wordM q)).getD i 0))) := fun i hi => by
        have hi2 : i < W.data.toList.length := by rw [list_len]; exact hi
        rw [nums_getD (by rw [← hWl]; exact hi2), Nat.zero_add, hcx i hi2]
        simp only [hWl]
      have hxl : (nums l).length = n := by rw [nums_len, HN.out]
      have hyl : (nums (wordM q)).length = W.size := by rw [nums_len, ← hWl, list_len]
      have HC1 := Lib.hid (Tryz.bytes_CutPrefix b o n c wr.heap.size 0 W.size cap (nums l) (nums (wordM q)) w2 hxl hyl hc HXW.out HYW.out)
      have HC2 := Lib.hid (Tryz.bytes_HasPrefix wr.heap.size 0 W.size cap b o n c (nums (wordM q)) (nums l) w2 hyl hxl hcap HYW.out HXW.out)
      rw [nums_bytes, nums_bytes] at HC1 HC2
      obtain ⟨V, hV⟩ : ∃ V, V = Lib.bytesTrimPrefix b o n c (nums l) (nums (wordM q)) := ⟨_, rfl⟩
      rw [← hV] at HC1
      obtain ⟨P, hP⟩ : ∃ P, P = Lib.hasPrefix l (wordM q) := ⟨_, rfl⟩
      obtain ⟨P2, hP2⟩ : ∃ P, P = Lib.hasPrefix (wordM q) l := ⟨_, rfl⟩
      rw [← hP] at HC1
      rw [← hP2] at HC2
      have HBL : Hid (BSl w2 b (Lib.sliceFrom b o n c (wordM q).length) (l.drop (wordM q).length) ∨ P = false) := by
        show _ ∨ _
        cases hP3 : P with
        | false => exact .inr rfl
        | true =>
          left
          have hle : (wordM q).length ≤ l.length := (List.isPrefixOf_iff_prefix.1 (show (wordM q).isPrefixOf l = true by rw [← hP3, hP]; rfl)).length_le
          exact from_bytes HN.out hc (Nat.lt_of_lt_of_le hbl HB2.out.size) (fun k hk => (HB2.out.cell (p := ⟨b, o + k, none⟩) hbl).trans (HX.out k hk)) (by rw [HN.out]; exact hle)
      have HVV : Hid (P = true → V = Lib.sliceFrom b o n c (wordM q).length) := fun h => by
        rw [hV, Lib.bytesTrimPrefix, nums_bytes, nums_bytes, ← hP, if_pos h, nums_len]
      have HP := Lib.hid hP
      have HP2 := Lib.hid hP2
      have hWB : wr.heap.size = wr.heap.size := rfl
      clear hW hWl hcx hxl hyl hV hP hP2 hWB hb2 hWs
      rcases P with _ | _
      · have HNX : Hid (∀ j : Nat, 1 ≤ j → j < q + 1 → Lib.hasPrefix l (wordM j) = false) := fun j h1 h2 => by
          rcases Nat.lt_or_ge j q with h3 | h3
          · exact HNO.out j h1 h3
          · obtain rfl : j = q := by omega
            exact HP.out.symm
        rcases P2 with _ | _
        · have HDX : Hid (d = errTo l (q + 1)) := by show _ = _; rw [errTo, if_neg (by rw [← HP2.out]; intro h; cases h.2)]; exact HD.out
          clear HD HNO HBL HVV HXW HYW
          go_wp2_with (first
            | (go_at_call 147; ((with_reducible refine HC1.out.mono ?_); rintro x w3 ⟨rfl, rfl⟩))
            | (go_at_call 148; ((with_reducible refine HC2.out.mono ?_); rintro x w4 ⟨rfl, rfl⟩)))
          go_roundw
          case rel => exact ⟨q + 1, d, by omega, by omega, by go_num, rfl, HDX.out, HNX.out, HB2.out⟩
          case measure => simp [intOf]; omega
        · have HDX : Hid (3 = errTo l (q + 1)) := by show _ = _; rw [errTo, if_pos ⟨hq1, HP2.out.symm⟩]
          clear HD HNO HBL HVV HXW HYW
          go_wp2_with (first
            | (go_at_call 147; ((with_reducible refine HC1.out.mono ?_); rintro x w3 ⟨rfl, rfl⟩))
            | (go_at_call 148; ((with_reducible refine HC2.out.mono ?_); rintro x w4 ⟨rfl, rfl⟩)))
          go_roundw
          case rel => exact ⟨q + 1, 3, by omega, by omega, by go_num, rfl, HDX.out, HNX.out, HB2.out⟩
          case measure => simp [intOf]; omega
      · have HM : Hid (modeT l = (q, 0)) := modeT_hit hq1 (by omega) HP.out.symm HNO.out
        have HBV : Hid (BSl w2 b V (l.drop (wordM q).length)) := by
          show BSl _ _ _ _
          rw [HVV.out rfl]
          rcases HBL.out with h | h
          · exact h
          · cases h
        clear HD HNO HBL HVV HXW HYW HC2 HP HP2
        go_wp2_with (go_at_call 147; ((with_reducible refine HC1.out.mono ?_); rintro x w3 ⟨rfl, rfl⟩))
        go_ret3
        exact modeR_hit HM.out HBV.out HB2.out
    · obtain rfl : q = 5 := by omega
      have HM : Hid (modeT l = (0, d)) := by show _ = _; rw [HD.out]; exact modeT_miss HNO.out
      clear HNO HD
      go_wp2_with fail
      go_ret3
      exact modeR_miss HM.out HB.out
end Go.Proofs.YtddmnibioacelaaGreatDoor
