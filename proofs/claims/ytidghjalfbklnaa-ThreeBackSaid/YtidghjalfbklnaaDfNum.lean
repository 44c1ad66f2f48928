/-
  The walks of numbered and of the function that it makes.
-/
import Derived.Test.YtidghjalfbklnaaDfExt
import Derived.Maps.OwnSet
import Derived.Maps.Views
import Derived.StringKeys
import Derived.Lib.Hide
namespace Go.Proofs.Ytidghjalfbklnaa
open Go.RowKit Go.Maps Go.WideMaps

theorem Try.infoInt : (Try.prog.info? 3).map (fun i => (i.zero, i.size, i.bytes)) = some (some (.int .i64 0), 1, 8) := by kernel_rfl
theorem str_keyed : Keyed Try.prog 9 := string_keyed Try.underlying9
theorem zero_int (w : World) : (zeroValue 3).run Try.prog w = .ok (.int .i64 0) w := by kernel_rfl
theorem make_map (n : Int) (w : World) : (Instr.makeMap 87 (some (.int .i64 n))).run Try.prog w = .ok (.map (some w.heap.size)) (w.alloc (.map #[] 0)) := by kernel_rfl

/-- The lines that are known, in the order in which they came. -/
def kn (known : List (List UInt8)) (x : List UInt8) : List (List UInt8) := if x ∈ known then known else known ++ [x]
def knL (known l : List (List UInt8)) : List (List UInt8) := l.foldl kn known
theorem knL_snoc (known l : List (List UInt8)) (x : List UInt8) : knL known (l ++ [x]) = kn (knL known l) x := by simp [knL]
theorem kn_mem {known : List (List UInt8)} {x y : List UInt8} (h : y ∈ known) : y ∈ kn known x := by
  unfold kn
  split
  · exact h
  · simp [h]
theorem kn_self (known : List (List UInt8)) (x : List UInt8) : x ∈ kn known x := by
  unfold kn
  split
  · assumption
  · simp
theorem kn_idx {known : List (List UInt8)} {x y : List UInt8} (h : y ∈ known) : (kn known x).idxOf y = known.idxOf y := by
  unfold kn
  split
  · rfl
  · rw [List.idxOf_append, if_pos h]
theorem knL_mem : ∀ (l known : List (List UInt8)) {y : List UInt8}, y ∈ known → y ∈ knL known l
  | [], _, _, h => h
  | x :: l, known, y, h => knL_mem l (kn known x) (kn_mem h)
theorem knL_idx : ∀ (l known : List (List UInt8)) {y : List UInt8}, y ∈ known → (knL known l).idxOf y = known.idxOf y
  | [], _, _, _ => rfl
  | x :: l, known, y, h => (knL_idx l (kn known x) (kn_mem h)).trans (kn_idx h)
theorem knL_in : ∀ (l known : List (List UInt8)) {y : List UInt8}, y ∈ l → y ∈ knL known l
  | [], _, _, h => absurd h (by simp)
  | x :: l, known, y, h => by
    rcases List.mem_cons.mp h with rfl | h
    · exact knL_mem l _ (kn_self _ _)
    · exact knL_in l _ h
theorem kn_len (known : List (List UInt8)) (x : List UInt8) : (kn known x).length ≤ known.length + 1 := by
  unfold kn
  split <;> simp
theorem knL_len : ∀ (l known : List (List UInt8)), (knL known l).length ≤ known.length + l.length
  | [], known => by simp [knL]
  | x :: l, known => by
    have h1 := knL_len l (kn known x)
    have h2 := kn_len known x
    show (knL (kn known x) l).length ≤ _
    rw [List.length_cons]
    omega
theorem idx_inj {K : List (List UInt8)} {x y : List UInt8} (hx : x ∈ K) (h : K.idxOf x = K.idxOf y) : x = y := by
  have h1 := List.idxOf_lt_length_of_mem hx
  have h2 := List.getElem_idxOf h1
  rw [← h2]
  have h3 : K.idxOf y < K.length := by rw [← h]; exact h1
  have h4 := List.getElem_idxOf h3
  rw [← h4]
  simp only [h]
/-- A map that holds the number of each known line. -/
structure IsKn (D : DataW Unit) (known : List (List UInt8)) : Prop where
  tidy : Tidy D
  size : Maps.size D = known.length
  yes : ∀ q ∈ known, Maps.has D (.string q) = true ∧ ∀ z, D.atKey (.string q) z = .lit (.int .i64 (known.idxOf q : Nat))
  no : ∀ q, q ∉ known → Maps.has D (.string q) = false
theorem isKn_nil : IsKn (.map []) [] := ⟨tidy_empty, rfl, fun _ h => absurd h (by simp), fun _ _ => rfl⟩
theorem IsKn.put {D : DataW Unit} {known : List (List UInt8)} (h : IsKn D known) {x : List UInt8} (hx : x ∉ known) : IsKn (D.put (.string x) (.lit (.int .i64 (known.length : Nat)))) (kn known x) := by
  have hkey : WideAt.IsKeyLit (Lit.string x) := trivial
  have hne : ∀ q, q ≠ x → Lit.string q ≠ Lit.string x := fun q hq e => hq (Lit.string.inj e)
  have hk : kn known x = known ++ [x] := if_neg hx
  rw [hk]
  refine ⟨h.tidy.put hkey _, ?_, fun q hq => ?_, fun q hq => ?_⟩
  · rw [size_put h.tidy, h.no x hx, if_neg (by decide), h.size, List.length_append]
    rfl
  · by_cases e : q = x
    · subst e
      refine ⟨has_put_same h.tidy.isMap hkey _, fun z => ?_⟩
      rw [atKey_put_same h.tidy.isMap hkey, List.idxOf_append, if_neg hx]
      simp
    · have hq' : q ∈ known := by
        rcases List.mem_append.mp hq with hq | hq
        · exact hq
        · exact absurd (List.mem_singleton.mp hq) e
      refine ⟨by rw [has_put_other (hne q e)]; exact (h.yes q hq').1, fun z => ?_⟩
      rw [atKey_put_other (hne q e), (h.yes q hq').2 z, List.idxOf_append, if_pos hq']
  · have e : q ≠ x := fun e => hq (by rw [e]; simp)
    rw [has_put_other (hne q e)]
    exact h.no q (fun hm => hq (by simp [hm]))

/-- A row of ints, as it is read. -/
def IRw (w : World) (g : Nat) (ns : List Nat) : Prop := ∀ k (h : k < ns.length), w.cell? ⟨g, k, none⟩ = some (.int .i64 (ns[k] : Nat))
abbrev Mi (w : World) (b n : Nat) (D : DataW Unit) : Prop := w.ownsMap Try.prog 9 (plainElem (H := Unit) Try.prog 3) b n D
theorem map_ne {w : World} {M n g j : Nat} {D : DataW Unit} {v : Value} (hM : Mi w M n D) (hc : w.cell? ⟨g, j, none⟩ = some v) : g ≠ M := by
  rintro rfl
  obtain ⟨es, clock, hb, _⟩ := hM
  simp [World.cell?, hb] at hc
theorem num_grown {w w' w'' : World} {M : Nat} (h : w.grownBy w' (some M)) (h' : w'.grownBy w'' (some M)) : w.grownBy w'' (some M) :=
  ⟨h'.os.trans h.os, h'.tape.trans h.tape, h'.output.trans h.output, Nat.le_trans h.size h'.size, fun j hj hjM => (h'.block j (Nat.lt_of_lt_of_le hj h.size) hjM).trans (h.block j hj hjM)⟩
theorem SRw.grown {w w' : World} {p : Option Addr} {ls : List (List UInt8)} {M n : Nat} {D : DataW Unit} (h : SRw w p ls) (hM : Mi w M n D) (hg : w.grownBy w' (some M)) : SRw w' p ls := fun k hk => by
  obtain ⟨g, o, rfl, hgs, h0⟩ := h k hk
  have hne := map_ne hM h0
  exact ⟨g, o, rfl, Nat.lt_of_lt_of_le hgs hg.size, (World.cell?_of_block (hg.block g hgs (by simpa using hne))).trans h0⟩
theorem IRw.grown {w w' : World} {g : Nat} {ns : List Nat} {M n : Nat} {D : DataW Unit} (h : IRw w g ns) (hM : Mi w M n D) (hg : w.grownBy w' (some M)) : IRw w' g ns := fun k hk => by
  have h0 := h k hk
  have hne := map_ne hM h0
  exact (World.cell?_of_block (hg.block g (World.block_lt_of_cell? w _ h0) (by simpa using hne))).trans h0

set_option maxHeartbeats 4000000 in
set_option maxRecDepth 4000 in
theorem number1_any (la known : List (List UInt8)) (p : Option Addr) (c n B M : Nat) (D0 : DataW Unit) (w : World) (hn : n = la.length) (hp : SRw w p la) (hbx : w.heap[B]? = some (.cells #[.map (some M)] 87 (0, 0)))
    (hM : Mi w M known.length D0) (hD : IsKn D0 known) (hl : n ≤ 65536) (hl2 : known.length ≤ 65536) (hs : ∀ t ∈ la, t.length ≤ 140737488355328) :
    Calls Try.prog 73 #[.slice p n c, .pointer (some ⟨B, 0, none⟩)] w fun e w' => ∃ g, e = .returned (.slice (some ⟨g, 0, none⟩) n n) ∧ w.heap.size ≤ g ∧ g < w'.heap.size ∧ IRw w' g (la.map fun x => (knL known la).idxOf x) ∧ (∃ D', Mi w' M (knL known la).length D' ∧ IsKn D' (knL known la)) ∧ w.grownBy w' (some M) := by
  obtain ⟨i0, hi, hz0, hz1, hz2⟩ := info_parts Try.infoInt
  have HN := Lib.hid hn
  have HS := Lib.hid hs
  have HBX := Lib.hid hbx
  have HD := Lib.hid hD
  have hMB : M ≠ B := fun e => by
    obtain ⟨es, clock, hb, _⟩ := hM
    rw [e, hbx] at hb
    cases hb
  have hBl : B < w.heap.size := row_lt hbx
  have hMl : M < w.heap.size := hM.lt
  have HP := Lib.hid hp
  clear hn hs hbx hD hp
  go_enter Try.func73, Try.ntmps73
  go_wp2_with (at_make; refine wpList_make_full _ rfl _ _ 57 rfl w.heap.size 3 i0 (.int .i64 0) 1 Try.underlying57 hi hz0 hz1 _ _ _ _ n rfl rfl rfl rfl (by rw [hz2]; omega) (by unfold maxLen; omega) (Nat.le_refl _) ?_)
  intro w1 ho1 hg1
  have hg1' : w.grownBy w1 (some M) := ⟨hg1.os, hg1.tape, hg1.output, hg1.size, fun k hk _ => hg1.block k hk (by simp)⟩
  have hM1 := hM.kept hg1 (by simp)
  have HG : Hid (w.heap.size = w.heap.size) := rfl
  obtain ⟨G, hG⟩ : ∃ G, G = w.heap.size := ⟨_, rfl⟩
  rw [← hG] at ho1 ⊢
  have hGB : B < G := by omega
  have hGM : M < G := by omega
  have HGG := Lib.hid hG
  have HM0 := Lib.hid hM
  clear hG hM hg1 HG
  go_wp2
  go_loopw [14] (fun iv wr => ∃ (k : Nat) (xs : List Value) (D : DataW Unit), k ≤ n ∧ iv = .int .i64 k ∧ wr.ownsRow G 3 1 (.slice (some ⟨G, 0, none⟩) n n) n xs ∧ Hid (∀ j (h : j < la.length), j < k → xs[j]? = some (.int .i64 ((knL known (la.take k)).idxOf la[j] : Nat))) ∧ Mi wr M (knL known (la.take k)).length D ∧ Hid (IsKn D (knL known (la.take k))) ∧ w.grownBy wr (some M)) (fun iv _ => n - (intOf iv).toNat)
  case atStart => exact ⟨0, _, D0, by omega, rfl, ho1, fun j _ h => absurd h (Nat.not_lt_zero _), hM1, HD, hg1'⟩
  case round =>
    clear ho1 hM1 hg1' HD
    obtain ⟨k, xs, D, hk, rfl, ho, HX, hM, HK, hg⟩ := hrel
    have hbx : wr.heap[B]? = some (.cells #[.map (some M)] 87 (0, 0)) := (hg.block B hBl (by simp; omega)).trans HBX.out
    have cb := cell_of_row wr B 0 _ _ _ hbx
    have hsz := hg.size
    have hGw : G < wr.heap.size := (ho.lt G rfl).2
    by_cases hlt : k < n
    · have hkl : k < la.length := by rw [← HN.out]; exact hlt
      obtain ⟨g, o, rfl, hgg, hc⟩ := (HP.out.grown HM0.out hg) k hkl
      have hmem := List.getElem_mem hkl
      have hKn0 : knL known (la.take (k + 1)) = kn (knL known (la.take k)) la[k] := by rw [List.take_succ_eq_append_getElem hkl, knL_snoc]
      have hat0 : ∀ j (h : j < la.length), j = k → la[j] = la[k] := fun j h e => by subst e; rfl
      obtain ⟨x, hx⟩ : ∃ x, x = la[k] := ⟨_, rfl⟩
      rw [← hx] at hc hmem hKn0
      obtain ⟨t, ht⟩ : ∃ t, t = str x := ⟨_, rfl⟩
      rw [← ht] at hc
      have hts : t.size ≤ 140737488355328 := by rw [ht, str_size]; exact HS.out _ hmem
      obtain ⟨Kk, hKk⟩ : ∃ Kk, Kk = knL known (la.take k) := ⟨_, rfl⟩
      have hKlen : Kk.length ≤ 131072 := by
        have := knL_len (la.take k) known
        rw [← hKk, List.length_take] at this
        omega
      rw [← hKk] at hM HK HX hKn0
      obtain ⟨K, hK⟩ : ∃ K, K = Lit.string x := ⟨_, rfl⟩
      have hkey : keyOf Try.prog 9 (.string t) = some K := by
        rw [keyOf_string_mk Try.underlying9 (by unfold maxLen; omega), ht, str_list, hK]
      have hxl : xs.length = n := by simpa using ho.1
      obtain ⟨x0, cx⟩ : ∃ x0, wr.cell? ⟨G, k, none⟩ = some x0 := ⟨_, (World.ownsRow.cellAt ho k (by omega)).trans (List.getElem?_eq_getElem (by omega))⟩
      have fz := World.ownsRow.frozenAt ho k
      have hHX : Hid (∀ C : Nat, C = (kn Kk x).idxOf x → ∀ j (h : j < la.length), j < k + 1 → (xs.set k (.int .i64 (C : Int)))[j]? = some (.int .i64 ((kn Kk x).idxOf la[j] : Nat))) := fun C hC j h hj => by
        rcases Nat.lt_or_ge j k with hl | hl
        · rw [List.getElem?_set_ne (by omega), HX.out j h hl, kn_idx]
          rw [hKk]
          exact knL_in _ _ (List.mem_take_iff_getElem.mpr ⟨j, by omega, rfl⟩)
        · rw [hat0 j h (by omega), ← hx, show j = k by omega, List.getElem?_set_self (by omega), hC]
      have hsto : ∀ (w2 : World) (C : Nat), w2.ownsRow G 3 1 (.slice (some ⟨G, 0, none⟩) n n) n xs → (w2.setCell ⟨G, k, none⟩ (.int .i64 (C : Int))).ownsRow G 3 1 (.slice (some ⟨G, 0, none⟩) n n) n (xs.set k (.int .i64 (C : Int))) := fun w2 C h => (World.ownsRow.stored h k _).1
      have hgrow : ∀ (w2 : World) (C : Nat), w.grownBy w2 (some M) → w.grownBy (w2.setCell ⟨G, k, none⟩ (.int .i64 (C : Int))) (some M) := fun w2 C h => ⟨h.os, h.tape, h.output, by simpa using h.size, fun j hj hjM => (Below.heap_setCell w2 ⟨G, k, none⟩ _ j (by simp; have := HGG.out; omega)).trans (h.block j hj hjM)⟩
      have hmset : ∀ (w2 : World) (C m : Nat) (D2 : DataW Unit), Mi w2 M m D2 → Mi (w2.setCell ⟨G, k, none⟩ (.int .i64 (C : Int))) M m D2 := fun w2 C m D2 h => h.setCell (a := ⟨G, k, none⟩) (by simp; omega) _
      clear hat0
      by_cases hin : x ∈ Kk
      · have hk2 : kn Kk x = Kk := if_pos hin
        obtain ⟨y1, y2⟩ := HK.out.yes _ hin
        rw [← hK] at y1 y2
        obtain ⟨C, hC⟩ : ∃ C, C = Kk.idxOf x := ⟨_, rfl⟩
        have HKn : Hid (knL known (la.take (k + 1)) = Kk) := hKn0.trans hk2
        have HXn := hHX.out C (by rw [hk2, hC])
        rw [hk2] at HXn
        have HXX := Lib.hid HXn
        have Y2 : Hid (∀ z, D.atKey K z = .lit (.int .i64 (C : Int))) := fun z => by rw [hC]; exact y2 z
        clear hC y2 hk2 hin hKk hKn0 ht hK hx hkl hmem HX hHX HXn hgg hxl
        go_wp2_with (at_lookup; refine wpList_lookup_own_ok_int _ rfl _ _ 87 rfl 9 3 .i64 str_keyed Try.underlying87 Try.underlying3 (zero_int _) M Kk.length D rfl hM _ _ rfl hkey ?_; intro c0 hat hwc; obtain rfl : c0 = (C : Int) := (by have e := (Y2.out _).symm.trans hat; simp only [DataW.lit.injEq, Lit.int.injEq, true_and] at e; exact e.symm); clear hat hwc)
        go_roundw
        case rel => exact ⟨k + 1, _, D, by omega, by go_num, hsto wr C ho, by rw [HKn.out]; exact HXX, by rw [HKn.out]; exact hmset _ _ _ _ hM, by rw [HKn.out]; exact HK, hgrow _ _ hg⟩
        case measure => simp [intOf]; omega
      · have hk2 : kn Kk x = Kk ++ [x] := if_neg hin
        have y1 := HK.out.no _ hin
        rw [← hK] at y1
        have HKn := Lib.hid hKn0
        have HXX := Lib.hid (hHX.out Kk.length (by rw [hk2, List.idxOf_append, if_neg hin]; simp))
        have HKP := HK.out.put hin
        rw [← hK] at HKP
        have HPP := Lib.hid HKP
        have HLN : Hid ((kn Kk x).length = Kk.length + 1) := by show _ = _; rw [hk2]; simp
        have hsz2 := HK.out.size
        have HSZ : Hid ((Maps.size D : Int) = (Kk.length : Int)) := by show _ = _; rw [hsz2]
        clear hsz2 HKP hk2 hin hKk hKn0 ht hK hx hkl hmem HX hHX hgg hxl
        go_wp2_with (first
          | (at_lookup; refine wpList_lookup_own_ok_int _ rfl _ _ 87 rfl 9 3 .i64 str_keyed Try.underlying87 Try.underlying3 (zero_int _) M Kk.length D rfl hM _ _ rfl hkey ?_; intro c0 hat hwc)
          | (at_len; refine wpList_len_own _ rfl _ 87 rfl 9 3 Try.underlying87 _ M Kk.length D rfl hM ?_; rw [HSZ.out])
          | (at_mapUpdate; refine wpList_mapUpdate_own _ rfl _ _ _ 87 rfl 9 3 str_keyed Try.underlying87 _ M Kk.length D rfl hM (by unfold maxLen; omega) _ _ _ rfl rfl hkey _ [] (plainElem_int Try.underlying3 (WalkArith.wf_i64 (by omega))) ?_; intro w3 hM3 hg3; have ho3 := ho.kept hg3 (.inr (by simp [Value.ownBlock]; omega)); have hgw3 : w.grownBy w3 (some M) := (num_grown hg hg3); have fz3 := World.ownsRow.frozenAt ho3 k; have cx3 := (World.cell?_of_block (a := ⟨G, k, none⟩) (hg3.block G hGw (by simp; omega))).trans cx))
        go_roundw
        case rel => exact ⟨k + 1, _, _, by omega, by go_num, hsto w3 Kk.length ho3, by rw [HKn.out]; exact HXX, by rw [HKn.out, HLN.out]; exact hmset _ _ _ _ hM3, by rw [HKn.out]; exact HPP, hgrow _ _ hgw3⟩
        case measure => simp [intOf]; omega
    · obtain rfl : k = n := by omega
      have HKE : Hid (knL known (la.take k) = knL known la) := by show _ = _; rw [List.take_of_length_le (by have := HN.out; omega)]
      have HIR : Hid (IRw wr G (la.map fun x => (knL known la).idxOf x)) := fun j hj => by
        have hj' : j < la.length := by simpa using hj
        rw [World.ownsRow.cellAt ho j (by have := HN.out; omega), HX.out j hj' (by have := HN.out; omega), HKE.out]
        simp
      rw [HKE.out] at hM HK
      clear HX
      go_wp2
      go_ret
      exact ⟨G, rfl, by rw [HGG.out]; exact Nat.le_refl _, hGw, HIR.out, ⟨D, hM, HK.out⟩, hg⟩
end Go.Proofs.Ytidghjalfbklnaa
