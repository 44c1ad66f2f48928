/-
  The walks of the reference's Find, of slices.IndexFunc over entries, and of Find.
-/
import Derived.Test.YtjholoajgnpodaaDoorTrTake
import Derived.Test.YtjholoajgnpodaaDoorTrOw
import Derived.Shelf.Abstract
namespace Go.Proofs.YtjholoajgnpodaaDoor
open Go.RowKit Go.Shelf

theorem findE_hit {l : List En} {n : ByteArray} {k : Nat} (hk : k < l.length) (hno : ∀ e ∈ l.take k, e.n ≠ n) (h : l[k].n = n) : findE l n = some l[k] := by
  unfold findE
  conv => lhs; rw [← List.take_append_drop k l]
  rw [List.find?_append, List.find?_eq_none.2 (fun e he => by simpa using hno e he), Option.none_or, List.drop_eq_getElem_cons hk, List.find?_cons_of_pos (by simpa using h)]
theorem findE_miss {l : List En} {n : ByteArray} (hno : ∀ e ∈ l, e.n ≠ n) : findE l n = none := List.find?_eq_none.2 (fun e he => by simpa using hno e he)
/-- What Find answers. -/
def FindR (o : Option En) (w : World) (e : Ending) (w' : World) : Prop := e = .returned (.tuple #[.agg #[.int .i64 (o.getD En.zero).m, .string (o.getD En.zero).n, .string (o.getD En.zero).i], .bool o.isSome]) ∧ Below w.heap.size w w'
theorem findR_some {o : Option En} {e : En} {w w' : World} (h : o = some e) (hb : Below w.heap.size w w') : FindR o w (.returned (.tuple #[.agg #[.int .i64 e.m, .string e.n, .string e.i], .bool true])) w' := by
  subst h
  exact ⟨rfl, hb⟩
theorem findR_none {o : Option En} {w w' : World} (h : o = none) (hb : Below w.heap.size w w') : FindR o w (.returned (.tuple #[.agg #[.int .i64 0, .string ⟨#[]⟩, .string ⟨#[]⟩], .bool false])) w' := by
  subst h
  exact ⟨rfl, hb⟩

set_option maxHeartbeats 2000000 in
set_option maxRecDepth 4000 in
theorem trfind_any (es : List En) (nm : ByteArray) (p : Option Addr) (c n : Nat) (w : World) (hn : n = es.length) (hp : NRw w p es) (hn2 : n ≤ 140737488355328) :
    Calls Tryd.prog 19 #[.slice p n c, .string nm] w (FindR (findE es nm) w) := by
  obtain ⟨R, hR⟩ : ∃ R, R = findE es nm := ⟨_, rfl⟩
  rw [← hR]
  have HR := Lib.hid hR
  have HN := Lib.hid hn
  have hb1 : Below w.heap.size w (w.alloc (.cells #[.int .i64 0, .string ⟨#[]⟩, .string ⟨#[]⟩] 34)) := below_new (Below.refl _ _) _
  have hr1 := heap_alloc_new w (.cells #[.int .i64 0, .string ⟨#[]⟩, .string ⟨#[]⟩] 34)
  obtain ⟨w1, hw1⟩ : ∃ w1, w1 = w.alloc (.cells #[.int .i64 0, .string ⟨#[]⟩, .string ⟨#[]⟩] 34) := ⟨_, rfl⟩
  rw [← hw1] at hb1 hr1
  have HW1 := Lib.hid hw1
  have HB1 := Lib.hid hb1
  have HR1 := Lib.hid hr1
  have HP1 := Lib.hid (hp.below hb1)
  have f0 := frozen_of_row w1 w.heap.size 0 _ _ hr1
  have f1 := frozen_of_row w1 w.heap.size 1 _ _ hr1
  have f2 := frozen_of_row w1 w.heap.size 2 _ _ hr1
  have y0 : w1.cell? ⟨w.heap.size, 0, none⟩ = some (.int .i64 0) := cell_of_row w1 w.heap.size 0 _ _ _ hr1
  have y1 : w1.cell? ⟨w.heap.size, 1, none⟩ = some (.string ⟨#[]⟩) := cell_of_row w1 w.heap.size 1 _ _ _ hr1
  have y2 : w1.cell? ⟨w.heap.size, 2, none⟩ = some (.string ⟨#[]⟩) := cell_of_row w1 w.heap.size 2 _ _ _ hr1
  clear hR hn hw1 hb1 hr1 hp
  go_enter Tryd.func19, Tryd.ntmps19
  go_upto_region 1 with fail
  rw [← HW1.out]
  go_wp2_with fail
  go_loop [9] (fun iv => ∃ k : Nat, k ≤ n ∧ iv = .int .i64 (k : Int) ∧ Hid (∀ e ∈ es.take k, e.n ≠ nm)) (fun iv => n - (intOf iv).toNat)
  case atStart => exact ⟨0, by omega, rfl, fun e he => by simp at he⟩
  case round =>
    obtain ⟨k, hk, rfl, HNO⟩ := hrel
    by_cases hlt : k < n
    · have hkl : k < es.length := by rw [← HN.out]; exact hlt
      obtain ⟨g, o, rfl, hg, a0, a1, a2⟩ := HP1.out k hkl
      obtain ⟨e, he⟩ : ∃ e, e = es[k] := ⟨_, rfl⟩
      rw [← he] at a0 a1 a2
      have HE := Lib.hid he
      have q0 : (0 : Int) ≤ (k : Int) := by omega
      have q1 : (k : Int) < (n : Int) := by omega
      clear he
      by_cases hnm : e.n = nm
      · have HX : Hid (R = some e) := by show _ = _; rw [HR.out, findE_hit hkl HNO.out (by rw [← HE.out]; exact hnm), ← HE.out]
        obtain ⟨m, t, i⟩ := e
        simp only at a0 a1 a2 hnm
        subst hnm
        clear HR HNO HE
        go_wp2_with fail
        obtain ⟨d0, d1, d2⟩ := ent_end (v0 := .int .i64 m) (v1 := .string t) (v2 := .string i) HR1.out
        refine bodyPost_ret (v := .tuple #[.agg #[.int .i64 m, .string t, .string i], .bool true]) (by simp [results, Tryd.results19, go_sem, d0, d1, d2]) rfl (findR_some HX.out (set3_below HB1.out (Nat.le_refl _)))
      · have hb := ba_ne hnm
        have HNX : Hid (∀ e ∈ es.take (k + 1), e.n ≠ nm) := fun x hx => by
          rw [List.take_succ_eq_append_getElem hkl, List.mem_append, List.mem_singleton] at hx
          rcases hx with hx | rfl
          · exact HNO.out x hx
          · rw [← HE.out]; exact hnm
        clear HNO HE hnm
        go_wp2_with fail
        go_round
        case rel => exact ⟨k + 1, by omega, by go_num, HNX.out⟩
        case measure => simp [intOf]; omega
    · have HX : Hid (R = none) := by
        show _ = _
        rw [HR.out]
        have h := HNO.out
        rw [List.take_of_length_le (by rw [← HN.out]; omega)] at h
        exact findE_miss h
      clear HR HNO
      go_wp2_with fail
      obtain ⟨d0, d1, d2⟩ := ent_end (v0 := .int .i64 0) (v1 := .string ⟨#[]⟩) (v2 := .string ⟨#[]⟩) HR1.out
      refine bodyPost_ret (v := .tuple #[.agg #[.int .i64 0, .string ⟨#[]⟩, .string ⟨#[]⟩], .bool false]) (by simp [results, Tryd.results19, go_sem, d0, d1, d2]) rfl (findR_none HX.out (set3_below HB1.out (Nat.le_refl _)))

/-- Where a predicate first holds. -/
def idxE (P : En → Bool) (l : List En) : Int := match l.findIdx? P with
  | some k => (k : Int)
  | none => -1
theorem idxE_hit {P : En → Bool} {l : List En} {k : Nat} (hk : k < l.length) (hno : ∀ e ∈ l.take k, P e = false) (h : P l[k] = true) : idxE P l = k := by
  unfold idxE
  have : l.findIdx? P = some k := by
    rw [List.findIdx?_eq_some_iff_getElem]
    refine ⟨hk, h, fun j hj => ?_⟩
    have := hno (l[j]'(by omega)) (by rw [List.mem_take_iff_getElem]; exact ⟨j, by omega, rfl⟩)
    simp [this]
  rw [this]
theorem idxE_miss {P : En → Bool} {l : List En} (hno : ∀ e ∈ l, P e = false) : idxE P l = -1 := by
  unfold idxE
  rw [List.findIdx?_eq_none_iff.2 hno]
set_option maxHeartbeats 2000000 in
set_option maxRecDepth 4000 in
theorem indexFunc_any (P : En → Bool) (g B : Nat) (eg : ∀ args w, (callFunc g args).run Tryd.prog w = .ok (.enter g args) w) (es : List En) (p : Option Addr) (c n : Nat) (w : World) (hn : n = es.length) (hp : NRw w p es) (hn2 : n ≤ 140737488355328)
    (HF : Hid (∀ e ∈ es, ∀ w', Below w.heap.size w w' → Calls Tryd.prog g #[.agg #[.int .i64 e.m, .string e.n, .string e.i], .pointer (some ⟨B, 0, none⟩)] w' fun x w'' => x = .returned (.bool (P e)) ∧ Below w'.heap.size w' w'')) :
    Calls Tryd.prog 34 #[.slice p n c, .func (.func g) #[] #[.pointer (some ⟨B, 0, none⟩)]] w fun e w' => e = .returned (.int .i64 (idxE P es)) ∧ Below w.heap.size w w' := by
  obtain ⟨R, hR⟩ : ∃ R, R = idxE P es := ⟨_, rfl⟩
  rw [← hR]
  have HR := Lib.hid hR
  have HN := Lib.hid hn
  have HP := Lib.hid hp
  clear hR hn hp
  go_enter Tryd.func34, Tryd.ntmps34
  go_wp2_with fail
  go_loopw [8] (fun iv wr => ∃ k : Nat, k ≤ n ∧ iv = .int .i64 (k : Int) ∧ Hid (∀ e ∈ es.take k, P e = false) ∧ Hid (Below w.heap.size w wr)) (fun iv _ => n - (intOf iv).toNat)
  case atStart => exact ⟨0, by omega, rfl, fun e he => by simp at he, Below.refl _ _⟩
  case round =>
    obtain ⟨k, hk, rfl, HNO, HB⟩ := hrel
    by_cases hlt : k < n
    · have hkl : k < es.length := by rw [← HN.out]; exact hlt
      obtain ⟨g', o, rfl, hg, a0, a1, a2⟩ := HP.out.below HB.out k hkl
      obtain ⟨e, he⟩ : ∃ e, e = es[k] := ⟨_, rfl⟩
      rw [← he] at a0 a1 a2
      have HE := Lib.hid he
      have HC := Lib.hid (HF.out e (by rw [he]; exact List.getElem_mem hkl) wr HB.out)
      obtain ⟨b, hb⟩ : ∃ b, b = P e := ⟨_, rfl⟩
      rw [← hb] at HC
      have HPB := Lib.hid hb
      have q0 : (0 : Int) ≤ (k : Int) := by omega
      have q1 : (k : Int) < (n : Int) := by omega
      obtain ⟨m, t, i⟩ := e
      simp only at a0 a1 a2 HC
      clear he hb
      rcases b with _ | _
      · have HNX : Hid (∀ e ∈ es.take (k + 1), P e = false) := fun x hx => by
          rw [List.take_succ_eq_append_getElem hkl, List.mem_append, List.mem_singleton] at hx
          rcases hx with hx | rfl
          · exact HNO.out x hx
          · rw [← HE.out]; exact HPB.out.symm
        clear HNO
        go_wp2_with (go_at_fn g; (with_reducible refine HC.out.mono ?_); rintro x w3 ⟨rfl, hb3⟩; have HB3 := Lib.hid (HB.out.trans (hb3.mono HB.out.size)))
        go_roundw
        case rel => exact ⟨k + 1, by omega, by go_num, HNX.out, HB3.out⟩
        case measure => simp [intOf]; omega
      · have HX : Hid (R = k) := by show _ = _; rw [HR.out, idxE_hit hkl HNO.out (by rw [← HE.out]; exact HPB.out.symm)]
        clear HR HNO
        go_wp2_with (go_at_fn g; (with_reducible refine HC.out.mono ?_); rintro x w3 ⟨rfl, hb3⟩; have HB3 := Lib.hid (HB.out.trans (hb3.mono HB.out.size)))
        go_ret
        exact ⟨ret_int HX.out.symm, HB3.out⟩
    · have HX : Hid (R = -1) := by
        show _ = _
        rw [HR.out]
        have h := HNO.out
        rw [List.take_of_length_le (by rw [← HN.out]; omega)] at h
        exact idxE_miss h
      clear HR HNO
      go_wp2_with fail
      go_ret
      exact ⟨ret_int HX.out.symm, HB.out⟩

set_option maxHeartbeats 1000000 in
/-- The closures of Find and of Drop: is this its name? -/
theorem findIs_any (m : Int) (n i nm : ByteArray) (B : Nat) (w : World) (hc : w.cell? ⟨B, 0, none⟩ = some (.string nm)) :
    Calls Tryd.prog 35 #[.agg #[.int .i64 m, .string n, .string i], .pointer (some ⟨B, 0, none⟩)] w fun e w' => e = .returned (.bool (decide (n = nm))) ∧ Below w.heap.size w w' := by
  obtain ⟨R, hR⟩ : ∃ R, R = decide (n = nm) := ⟨_, rfl⟩
  rw [← hR]
  have HR : Hid (R = (n.toList == nm.toList)) := by
    show _ = _
    rw [hR]
    by_cases h : n = nm
    · rw [decide_eq_true h, h]; simp
    · rw [decide_eq_false h, ba_ne h]
  have hB := World.block_lt_of_cell? w _ hc
  have hne : B ≠ w.heap.size := by have : B < w.heap.size := hB; omega
  have hb : Below w.heap.size w (w.alloc (.cells #[.int .i64 m, .string n, .string i] 34)) := below_new (Below.refl _ _) _
  clear hR
  go_enter Tryd.func35, Tryd.ntmps35
  go_wp2
  go_ret
  exact ⟨by rw [HR.out]; rfl, hb⟩
set_option maxHeartbeats 1000000 in
theorem dropIs_any (m : Int) (n i nm : ByteArray) (B : Nat) (w : World) (hc : w.cell? ⟨B, 0, none⟩ = some (.string nm)) :
    Calls Tryd.prog 42 #[.agg #[.int .i64 m, .string n, .string i], .pointer (some ⟨B, 0, none⟩)] w fun e w' => e = .returned (.bool (decide (n = nm))) ∧ Below w.heap.size w w' := by
  obtain ⟨R, hR⟩ : ∃ R, R = decide (n = nm) := ⟨_, rfl⟩
  rw [← hR]
  have HR : Hid (R = (n.toList == nm.toList)) := by
    show _ = _
    rw [hR]
    by_cases h : n = nm
    · rw [decide_eq_true h, h]; simp
    · rw [decide_eq_false h, ba_ne h]
  have hB := World.block_lt_of_cell? w _ hc
  have hne : B ≠ w.heap.size := by have : B < w.heap.size := hB; omega
  have hb : Below w.heap.size w (w.alloc (.cells #[.int .i64 m, .string n, .string i] 34)) := below_new (Below.refl _ _) _
  clear hR
  go_enter Tryd.func42, Tryd.ntmps42
  go_wp2
  go_ret
  exact ⟨by rw [HR.out]; rfl, hb⟩

theorem Tryd.eg_find : ∀ args w, (callFunc 35 args).run Tryd.prog w = .ok (.enter 35 args) w := enters_of Tryd.func35 (by kernel_rfl) rfl
theorem Tryd.eg_drop : ∀ args w, (callFunc 42 args).run Tryd.prog w = .ok (.enter 42 args) w := enters_of Tryd.func42 (by kernel_rfl) rfl
theorem idxE_find (l : List En) (nm : ByteArray) : (idxE (fun e => decide (e.n = nm)) l = -1 ∧ findE l nm = none) ∨ ∃ (k : Nat) (h : k < l.length), idxE (fun e => decide (e.n = nm)) l = (k : Int) ∧ findE l nm = some l[k] := by
  unfold idxE findE
  cases h : l.findIdx? (fun e => decide (e.n = nm)) with
  | none =>
    rw [List.findIdx?_eq_none_iff] at h
    exact .inl ⟨rfl, List.find?_eq_none.2 fun e he => by simp [h e he]⟩
  | some k =>
    rw [List.findIdx?_eq_some_iff_getElem] at h
    obtain ⟨hk, h1, h2⟩ := h
    refine .inr ⟨k, hk, rfl, ?_⟩
    refine findE_hit hk (fun e he => ?_) (by simpa using h1)
    rw [List.mem_take_iff_getElem] at he
    obtain ⟨j, hj, rfl⟩ := he
    simpa using h2 j (by omega)
set_option maxHeartbeats 2000000 in
set_option maxRecDepth 4000 in
theorem find_any (es : List En) (nm : ByteArray) (p : Option Addr) (c n : Nat) (w : World) (hn : n = es.length) (hp : NRw w p es) (hn2 : n ≤ 140737488355328) :
    Calls Tryd.prog 18 #[.slice p n c, .string nm] w (FindR (findE es nm) w) := by
  obtain ⟨w1, hw1⟩ : ∃ w1, w1 = w.alloc (.cells #[.string nm] 9) := ⟨_, rfl⟩
  obtain ⟨w2, hw2⟩ : ∃ w2, w2 = w1.alloc (.cells #[.int .i64 0, .string ⟨#[]⟩, .string ⟨#[]⟩] 34) := ⟨_, rfl⟩
  have hb1 : Below w.heap.size w w1 := by rw [hw1]; exact below_new (Below.refl _ _) _
  have hb2 : Below w1.heap.size w1 w2 := by rw [hw2]; exact below_new (Below.refl _ _) _
  have hs1 : w1.heap.size = w.heap.size + 1 := by rw [hw1]; simp
  have hr1 : w2.heap[w.heap.size + 1]? = some (.cells #[.int .i64 0, .string ⟨#[]⟩, .string ⟨#[]⟩] 34 (0, 0)) := by rw [hw2, ← hs1]; exact heap_alloc_new w1 _
  have hc1 : w1.cell? ⟨w.heap.size, 0, none⟩ = some (.string nm) := by rw [hw1]; simp
  have hb12 : Below w.heap.size w w2 := hb1.trans (hb2.mono (by omega))
  have HB2 := Lib.hid hb12
  have hs2 : w2.heap.size = w.heap.size + 2 := by rw [hw2]; simp; omega
  have hc2 : w2.cell? ⟨w.heap.size, 0, none⟩ = some (.string nm) := cell_bel hc1 hb2
  obtain ⟨I, hI⟩ : ∃ I, I = idxE (fun e => decide (e.n = nm)) es := ⟨_, rfl⟩
  have hf := indexFunc_any (fun e => decide (e.n = nm)) 35 w.heap.size Tryd.eg_find es p c n w2 hn (hp.below hb12) hn2 (fun e _ w' hb' => findIs_any e.m e.n e.i nm w.heap.size w' (cell_bel hc2 hb'))
  rw [← hI] at hf
  have HF := Lib.hid hf
  obtain ⟨A, hA⟩ : ∃ A, A = w.heap.size + 1 := ⟨_, rfl⟩
  rw [← hA] at hr1
  have HA : Hid (A = w.heap.size + 1) := hA
  have HAS : Hid (A < w2.heap.size ∧ w.heap.size < w2.heap.size ∧ w1.heap.size = A) := ⟨by omega, by omega, by omega⟩
  have HR1 := Lib.hid hr1
  have HW1 := Lib.hid hw1
  have HW2 := Lib.hid hw2
  have HN := Lib.hid hn
  have HP := Lib.hid (hp.below hb12)
  rcases idxE_find es nm with ⟨h1, h2⟩ | ⟨k, hk, h1, h2⟩
  · have HI : I = -1 := by rw [hI, h1]
    have HX := Lib.hid h2
    subst HI
    clear hI hf hA hr1 hw1 hw2 hn hp hb1 hb2 hb12 hs1 hs2 hc1 hc2 h1 h2
    go_enter Tryd.func18, Tryd.ntmps18
    go_upto_region 1 with fail
    rw [← HW1.out, ← HW2.out, ← HA.out]
    go_upto_region 2 with (go_at_call 34; (with_reducible refine HF.out.mono ?_); rintro e w3 ⟨rfl, hb3⟩; have HB3 := Lib.hid hb3)
    have hr3 := (HB3.out.block _ (row_lt HR1.out)).trans HR1.out
    have f0 := frozen_of_row w3 A 0 _ _ hr3
    have f1 := frozen_of_row w3 A 1 _ _ hr3
    have f2 := frozen_of_row w3 A 2 _ _ hr3
    have y0 : w3.cell? ⟨A, 0, none⟩ = some (.int .i64 0) := cell_of_row w3 A 0 _ _ _ hr3
    have y1 : w3.cell? ⟨A, 1, none⟩ = some (.string ⟨#[]⟩) := cell_of_row w3 A 1 _ _ _ hr3
    have y2 : w3.cell? ⟨A, 2, none⟩ = some (.string ⟨#[]⟩) := cell_of_row w3 A 2 _ _ _ hr3
    have HR3 := Lib.hid hr3
    clear hr3
    go_wp2_with fail
    obtain ⟨d0, d1, d2⟩ := ent_end (v0 := .int .i64 0) (v1 := .string ⟨#[]⟩) (v2 := .string ⟨#[]⟩) HR3.out
    refine bodyPost_ret (v := .tuple #[.agg #[.int .i64 0, .string ⟨#[]⟩, .string ⟨#[]⟩], .bool false]) (by simp [results, Tryd.results18, go_sem, d0, d1, d2]) rfl (findR_none HX.out (set3_below (HB2.out.trans (HB3.out.mono (by have := HAS.out; omega))) (by have := HA.out; omega)))
  · obtain ⟨g', o, rfl, hg, a0, a1, a2⟩ := (hp.below hb12) k hk
    have HI : I = (k : Int) := by rw [hI, h1]
    have HX := Lib.hid h2
    subst HI
    have q0 : (0 : Int) ≤ (k : Int) := by omega
    have q1 : (k : Int) < (n : Int) := by omega
    have qq : decide ((k : Int) < 0) = false := decide_eq_false (by omega)
    have HC : Hid (w2.cell? ⟨g', o + k * 3, none⟩ = some (.int .i64 es[k].m) ∧ w2.cell? ⟨g', o + k * 3 + 1, none⟩ = some (.string es[k].n) ∧ w2.cell? ⟨g', o + k * 3 + 2, none⟩ = some (.string es[k].i)) := ⟨a0, a1, a2⟩
    clear hI hf hA hr1 hw1 hw2 hn hp hb1 hb2 hb12 hs1 hs2 hc1 hc2 h1 h2 a0 a1 a2
    go_enter Tryd.func18, Tryd.ntmps18
    go_upto_region 1 with fail
    rw [← HW1.out, ← HW2.out, ← HA.out]
    go_upto_region 2 with (go_at_call 34; (with_reducible refine HF.out.mono ?_); rintro e w3 ⟨rfl, hb3⟩; have HB3 := Lib.hid hb3)
    have hr3 := (HB3.out.block _ (row_lt HR1.out)).trans HR1.out
    have f0 := frozen_of_row w3 A 0 _ _ hr3
    have f1 := frozen_of_row w3 A 1 _ _ hr3
    have f2 := frozen_of_row w3 A 2 _ _ hr3
    have y0 : w3.cell? ⟨A, 0, none⟩ = some (.int .i64 0) := cell_of_row w3 A 0 _ _ _ hr3
    have y1 : w3.cell? ⟨A, 1, none⟩ = some (.string ⟨#[]⟩) := cell_of_row w3 A 1 _ _ _ hr3
    have y2 : w3.cell? ⟨A, 2, none⟩ = some (.string ⟨#[]⟩) := cell_of_row w3 A 2 _ _ _ hr3
    have c0 := cell_bel HC.out.1 HB3.out
    have c1 := cell_bel HC.out.2.1 HB3.out
    have c2 := cell_bel HC.out.2.2 HB3.out
    obtain ⟨e, he⟩ : ∃ e, e = es[k] := ⟨_, rfl⟩
    rw [← he] at c0 c1 c2 HX
    clear he
    obtain ⟨m, t, i⟩ := e
    simp only at c0 c1 c2
    have HR3 := Lib.hid hr3
    clear hr3
    go_wp2_with fail
    obtain ⟨d0, d1, d2⟩ := ent_end (v0 := .int .i64 m) (v1 := .string t) (v2 := .string i) HR3.out
    refine bodyPost_ret (v := .tuple #[.agg #[.int .i64 m, .string t, .string i], .bool true]) (by simp [results, Tryd.results18, go_sem, d0, d1, d2]) rfl (findR_some HX.out (set3_below (HB2.out.trans (HB3.out.mono (by have := HAS.out; omega))) (by have := HA.out; omega)))
end Go.Proofs.YtjholoajgnpodaaDoor
