/-
  The walks of the reference's Drop, of slices.Clone and slices.DeleteFunc over entries, and of Drop.
-/
import Derived.Test.YtjholoajgnpodaaDoorTrFind
import Derived.Test.YtjholoajgnpodaaDoorTrOps
import Derived.Lib.SliceRun
namespace Go.Proofs.YtjholoajgnpodaaDoor
open Go.RowKit Go.Shelf

theorem dropE_take {l : List En} {n : ByteArray} {k : Nat} (hk : k < l.length) : dropE (l.take (k + 1)) n = dropE (l.take k) n ++ (if l[k].n = n then [] else [l[k]]) := by
  unfold dropE
  rw [List.take_succ_eq_append_getElem hk, List.filter_append]
  congr 1
  by_cases h : l[k].n = n <;> simp [h]
theorem dropE_le (l : List En) (n : ByteArray) : (dropE l n).length ≤ l.length := List.length_filter_le _ _
set_option maxHeartbeats 2000000 in
set_option maxRecDepth 4000 in
theorem rdrop_any (es : List En) (nm : ByteArray) (p : Option Addr) (c n : Nat) (w : World) (hn : n = es.length) (hp : NRw w p es) (hn2 : n ≤ 65536) :
    Calls Tryd.prog 25 #[.slice p n c, .string nm] w fun e w' => ∃ v, e = .returned v ∧ NOw w' w.heap.size v (dropE es nm) ∧ Below w.heap.size w w' := by
  have HN := Lib.hid hn
  have HP := Lib.hid hp
  clear hn hp
  go_enter Tryd.func25, Tryd.ntmps25
  go_wp2_with fail
  go_loopw [5, 9] (fun lv iv wr => ∃ k : Nat, k ≤ n ∧ iv = .int .i64 (k : Int) ∧ Hid (NOw wr w.heap.size lv (dropE (es.take k) nm)) ∧ Hid (Below w.heap.size w wr)) (fun _ iv _ => n - (intOf iv).toNat)
  case atStart => exact ⟨0, by omega, rfl, NOw.nil _ _, Below.refl _ _⟩
  case round =>
    obtain ⟨k, hk, rfl, HO, HB⟩ := hrel
    by_cases hlt : k < n
    · have hkl : k < es.length := by rw [← HN.out]; exact hlt
      obtain ⟨g', o, rfl, hg, a0, a1, a2⟩ := HP.out.below HB.out k hkl
      obtain ⟨e, he⟩ : ∃ e, e = es[k] := ⟨_, rfl⟩
      rw [← he] at a0 a1 a2
      have HE := Lib.hid he
      have hlen : (dropE (es.take k) nm).length + 1 ≤ 1048576 := by have := dropE_le (es.take k) nm; rw [List.length_take] at this; omega
      have HLN := Lib.hid hlen
      have q0 : (0 : Int) ≤ (k : Int) := by omega
      have q1 : (k : Int) < (n : Int) := by omega
      have HSZ := Lib.hid HB.out.size
      clear he hlen
      by_cases hnm : e.n = nm
      · have HX : Hid (dropE (es.take (k + 1)) nm = dropE (es.take k) nm) := by show _ = _; rw [dropE_take hkl, if_pos (by rw [← HE.out]; exact hnm), List.append_nil]
        obtain ⟨m, t, i⟩ := e
        simp only at a0 a1 a2 hnm
        subst hnm
        clear HE
        go_wp2_with fail
        go_roundw
        case rel => exact ⟨k + 1, by omega, by go_num, by rw [HX.out]; exact HO, HB⟩
        case measure => simp [intOf]; omega
      · have hb := ba_ne hnm
        obtain ⟨l, hl⟩ : ∃ l, l = dropE (es.take k) nm := ⟨_, rfl⟩
        have HX : Hid (dropE (es.take (k + 1)) nm = l ++ [e]) := by show _ = _; rw [dropE_take hkl, if_neg (by rw [← HE.out]; exact hnm), ← HE.out, hl]
        rw [← hl] at HO HLN
        obtain ⟨m, t, i⟩ := e
        simp only at a0 a1 a2 hnm hb
        clear HE hl
        go_wp2_with (at_builtin; refine wp_no_one rfl _ _ rfl rfl HO.out _ m t i rfl rfl HLN.out HSZ.out ?_; intro v' w2 h1 h2; have HO2 := Lib.hid h1; have HB2 := Lib.hid (HO.out.bel1 HB.out (Nat.le_refl _) HSZ.out h2); clear h1 h2)
        go_roundw
        case rel => exact ⟨k + 1, by omega, by go_num, by rw [HX.out]; exact HO2, HB2⟩
        case measure => simp [intOf]; omega
    · have HX : Hid (dropE (es.take k) nm = dropE es nm) := by
        show _ = _
        rw [List.take_of_length_le (by rw [← HN.out]; omega)]
      go_wp2_with fail
      go_ret
      exact ⟨_, rfl, by rw [← HX.out]; exact HO.out, HB.out⟩

theorem nrw_none {w : World} {es : List En} (h : NRw w none es) : es = [] := by
  cases es with
  | nil => rfl
  | cons a l =>
    obtain ⟨g, o, h1, _⟩ := h 0 (by simp)
    cases h1
theorem NRw.src {w : World} {b : Addr} {es : List En} (h : NRw w (some b) es) : ∀ j u, (ncells es)[j]? = some u → w.cell? (b.add j) = some u := fun j u hu => by
  have hj : j < es.length * 3 := by have := (List.getElem?_eq_some_iff.1 hu).1; rwa [ncells_len] at this
  have hk : j / 3 < es.length := by omega
  obtain ⟨g, o, h1, _, a0, a1, a2⟩ := h (j / 3) hk
  injection h1 with h1
  subst h1
  rw [Addr.add_mid]
  have hq : j = j / 3 * 3 + j % 3 := by omega
  rw [hq, ncells_at _ _ _ hk (by omega)] at hu
  have h3 : j % 3 = 0 ∨ j % 3 = 1 ∨ j % 3 = 2 := by omega
  rcases h3 with h3 | h3 | h3 <;> rw [h3] at hu <;> simp [En.cells] at hu <;> subst hu
  · rw [← a0]; congr 2; omega
  · rw [← a1]; congr 2; omega
  · rw [← a2]; congr 2; omega
set_option maxHeartbeats 2000000 in
set_option maxRecDepth 4000 in
theorem cloneT_any (es : List En) (p : Option Addr) (c n : Nat) (w : World) (hn : n = es.length) (hp : NRw w p es) (hn2 : n ≤ 65536) :
    Calls Tryd.prog 41 #[.slice p n c] w fun e w' => ∃ v, e = .returned v ∧ NOw w' w.heap.size v es ∧ Below w.heap.size w w' := by
  have q22 : ∀ (w : World) (a : Option Addr) (n c n' c' : Nat), (binOp .eql 22 (.slice a n c) (.slice none n' c')).run Tryd.prog w = .ok (.bool a.isNone) w := fun w a n c n' c' => Lib.run_eql_slice_nil w _ _ a n c n' c' Tryd.underlying22
  rcases p with _ | b
  · obtain rfl := nrw_none hp
    clear hp
    go_enter Tryd.func41, Tryd.ntmps41
    go_wp2_with fail
    go_ret
    exact ⟨_, rfl, NOw.nil _ _, Below.refl _ _⟩
  · have HS := Lib.hid hp.src
    have HN := Lib.hid hn
    have HL : Hid (([] : List En).length + n ≤ 1048576) := by show _ ≤ _; simp; omega
    have HO : Hid (NOw (w.alloc (.cells #[] 34)) w.heap.size (.slice (some ⟨w.heap.size, 0, none⟩) 0 0) []) := World.ownsRow_made w #[] 0 (Nat.le_refl _) (Nat.zero_le _) (by simp)
    have HB : Hid (Below w.heap.size w (w.alloc (.cells #[] 34))) := below_new (Below.refl _ _) _
    clear hp hn
    go_enter Tryd.func41, Tryd.ntmps41
    go_wp2_with (at_builtin; refine wp_no_many rfl _ _ rfl rfl HO.out b n c es HN.out rfl (fun j u hu => Lib.cell?_alloc_some _ (HS.out j u hu)) HL.out (by simp) ?_; intro v' w2 h1 h2 _; have HO2 := Lib.hid h1; have HB2 := Lib.hid (app_step0 HB.out HO.out h2 (Nat.le_refl _) (by simp)); clear h1 h2)
    go_ret
    exact ⟨_, rfl, HO2.out, HB2.out⟩

theorem app_stepG {B g : Nat} {w0 w w' : World} (h : Below B w0 w) (hg : w.grownBy w' (some g)) (hB : B ≤ g) (hs : B ≤ w.heap.size) : Below B w0 w' :=
  ⟨hg.os.trans h.os, hg.tape.trans h.tape, hg.output.trans h.output, Nat.le_trans h.size hg.size, fun k hk => (hg.block k (by omega) (by simp; omega)).trans (h.block k hk)⟩
theorem wr_take {l mid : List En} {k : Nat} (hk : k ≤ l.length) : (wrE l mid k).take (k + mid.length) = l.take k ++ mid := by
  unfold wrE
  rw [← List.append_assoc]
  exact List.take_left' (by simp; omega)
theorem wr_take0 {l mid : List En} {k : Nat} (hk : k ≤ l.length) : (wrE l mid k).take k = l.take k := by
  unfold wrE
  exact List.take_left' (by simp; omega)
theorem wr_drop {l mid : List En} {k j : Nat} (hk : k ≤ l.length) (hj : k + mid.length ≤ j) : (wrE l mid k).drop j = l.drop j := by
  unfold wrE
  have hl : (l.take k ++ mid).length = k + mid.length := by simp; omega
  rw [← List.append_assoc, List.drop_append, List.drop_of_length_le (by omega), List.nil_append, List.drop_drop, hl]
  congr 1
  omega
/-- DeleteFunc's state at a place: the row holds what is kept, then what it held. -/
structure DelI (P : En → Bool) (es cur : List En) (i j : Nat) : Prop where
  len : cur.length = es.length
  lt : i < j
  at' : i = ((es.take j).filter fun e => !P e).length
  low : cur.take i = (es.take j).filter fun e => !P e
  high : cur.drop j = es.drop j
theorem DelI.start {P : En → Bool} {es : List En} {k : Nat} (hk : k < es.length) (hno : ∀ e ∈ es.take k, P e = false) (h : P es[k] = true) : DelI P es es k (k + 1) := by
  have h1 : (es.take (k + 1)).filter (fun e => !P e) = es.take k := by
    rw [List.take_succ_eq_append_getElem hk, List.filter_append, List.filter_eq_self.2 (fun e he => by simp [hno e he])]
    simp [h]
  exact ⟨rfl, by omega, by rw [h1, List.length_take]; omega, by rw [h1], rfl⟩
theorem DelI.read {P : En → Bool} {es cur : List En} {i j : Nat} (h : DelI P es cur i j) (hj : j < es.length) : cur[j]'(by have := h.len; omega) = es[j] := by
  have h1 : (cur.drop j)[0]? = (es.drop j)[0]? := by rw [h.high]
  simp only [List.getElem?_drop, Nat.add_zero] at h1
  rw [List.getElem?_eq_getElem (by have := h.len; omega), List.getElem?_eq_getElem hj] at h1
  injection h1
theorem filter_next {P : En → Bool} {es : List En} {j : Nat} (hj : j < es.length) : (es.take (j + 1)).filter (fun e => !P e) = (es.take j).filter (fun e => !P e) ++ (if P es[j] = true then [] else [es[j]]) := by
  rw [List.take_succ_eq_append_getElem hj, List.filter_append]
  congr 1
  by_cases h : P es[j] = true <;> simp [h]
theorem DelI.skip {P : En → Bool} {es cur : List En} {i j : Nat} (h : DelI P es cur i j) (hj : j < es.length) (hp : P es[j] = true) : DelI P es cur i (j + 1) := by
  have h1 := filter_next (P := P) hj
  rw [if_pos hp, List.append_nil] at h1
  refine ⟨h.len, Nat.lt_succ_of_lt h.lt, by rw [h1]; exact h.at', by rw [h1]; exact h.low, ?_⟩
  have := congrArg (List.drop 1) h.high
  simpa [List.drop_drop, Nat.add_comm] using this
theorem DelI.keep {P : En → Bool} {es cur : List En} {i j : Nat} (h : DelI P es cur i j) (hj : j < es.length) (hp : P es[j] = false) : DelI P es (wrE cur [es[j]] i) (i + 1) (j + 1) := by
  have h1 := filter_next (P := P) hj
  rw [if_neg (by rw [hp]; decide)] at h1
  have hl := h.len
  have hlt := h.lt
  refine ⟨by rw [wrE_len (by omega)]; simp; omega, by omega, by rw [h1, List.length_append]; have := h.at'; simp; exact this, ?_, ?_⟩
  · rw [h1, ← h.low]
    exact wr_take (mid := [es[j]]) (by omega)
  · rw [wr_drop (by omega) (by simp; omega)]
    have := congrArg (List.drop 1) h.high
    simpa [List.drop_drop, Nat.add_comm] using this
theorem DelI.done {P : En → Bool} {es cur : List En} {i j : Nat} (h : DelI P es cur i j) (hj : j = es.length) (mid : List En) : (wrE cur mid i).take i = es.filter fun e => !P e := by
  rw [wr_take0 (by have := h.len; have := h.lt; omega), h.low, hj, List.take_length]

set_option maxHeartbeats 4000000 in
set_option maxRecDepth 4000 in
theorem deleteFunc_any (P : En → Bool) (g B : Nat) (eg : ∀ args w, (callFunc g args).run Tryd.prog w = .ok (.enter g args) w) (es : List En) (G n cap base : Nat) (w : World) (hown : NOw w base (.slice (some ⟨G, 0, none⟩) n cap) es) (hbase : base ≤ w.heap.size) (hn2 : n ≤ 65536)
    (HF : Hid (∀ e ∈ es, ∀ w', Below base w w' → Calls Tryd.prog g #[.agg #[.int .i64 e.m, .string e.n, .string e.i], .pointer (some ⟨B, 0, none⟩)] w' fun x w'' => x = .returned (.bool (P e)) ∧ Below w'.heap.size w' w'')) :
    Calls Tryd.prog 40 #[.slice (some ⟨G, 0, none⟩) n cap, .func (.func g) #[] #[.pointer (some ⟨B, 0, none⟩)]] w fun e w' => ∃ m, e = .returned (.slice (some ⟨G, 0, none⟩) m cap) ∧ NOw w' base (.slice (some ⟨G, 0, none⟩) m cap) (es.filter fun e => !P e) ∧ Below base w w' := by
  obtain ⟨hn, hc, hbG, hG⟩ := hown.len
  obtain ⟨p', cap', hv', _, hp⟩ := hown.rw
  injection hv' with h1 h2 h3
  subst h1 h3
  obtain ⟨I, hI⟩ : ∃ I, I = idxE P es := ⟨_, rfl⟩
  have hf := indexFunc_any P g B eg es (some ⟨G, 0, none⟩) cap n w hn hp (by omega) (fun e he w' hb' => HF.out e he w' (hb'.mono hbase))
  rw [← hI] at hf
  have HIF := Lib.hid hf
  have HO := Lib.hid hown
  have HN := Lib.hid hn
  have HBS : Hid (base ≤ w.heap.size ∧ base ≤ G ∧ G < w.heap.size ∧ n ≤ cap) := ⟨hbase, hbG, hG, hc⟩
  have hspec : (I = -1 ∧ ∀ e ∈ es, P e = false) ∨ ∃ (k : Nat) (h : k < es.length), I = (k : Int) ∧ (∀ e ∈ es.take k, P e = false) ∧ P es[k] = true := by
    rw [hI]
    unfold idxE
    cases h : es.findIdx? P with
    | none =>
      rw [List.findIdx?_eq_none_iff] at h
      exact .inl ⟨rfl, h⟩
    | some k =>
      rw [List.findIdx?_eq_some_iff_getElem] at h
      obtain ⟨hk, h1, h2⟩ := h
      refine .inr ⟨k, hk, rfl, fun e he => ?_, h1⟩
      rw [List.mem_take_iff_getElem] at he
      obtain ⟨j, hj, rfl⟩ := he
      simpa using h2 j (by omega)
  clear hI hf hown hn hbase hbG hG hc hp h2
  rcases hspec with ⟨rfl, hall⟩ | ⟨k0, hk0, rfl, hno, hyes⟩
  · have HX : Hid ((es.filter fun e => !P e) = es) := List.filter_eq_self.2 (fun e he => by simp [hall e he])
    clear hall
    go_enter Tryd.func40, Tryd.ntmps40
    go_wp2_with (go_at_call 34; (with_reducible refine HIF.out.mono ?_); rintro e w3 ⟨rfl, hb3⟩; have HB3 := Lib.hid hb3; clear hb3)
    go_ret
    exact ⟨n, rfl, by rw [HX.out]; exact HO.out.below HB3.out, HB3.out.mono HBS.out.1⟩
  · have HD : Hid (DelI P es es k0 (k0 + 1)) := DelI.start hk0 hno hyes
    have HK : Hid (k0 < n) := by show _ < _; rw [HN.out]; exact hk0
    have hne : ((k0 : Int) == -1) = false := beq_eq_false_iff_ne.2 (by omega)
    have hk1 : k0 < 65536 := by have := HK.out; omega
    clear hno hyes hk0
    go_enter Tryd.func40, Tryd.ntmps40
    go_wp2_with (go_at_call 34; (with_reducible refine HIF.out.mono ?_); rintro e w3 ⟨rfl, hb3⟩; have HB3 := Lib.hid hb3; clear hb3)
    go_loopw [5, 6] (fun iv jv wr => ∃ (i j : Nat) (cur : List En), j ≤ n ∧ iv = .int .i64 (i : Int) ∧ jv = .int .i64 (j : Int) ∧ Hid (DelI P es cur i j) ∧ Hid (NOw wr base (.slice (some ⟨G, 0, none⟩) n cap) cur) ∧ Hid (Below base w wr)) (fun _ jv _ => n - (intOf jv).toNat)
    case atStart => exact ⟨k0, k0 + 1, es, by have := HK.out; omega, rfl, by go_num, HD, HO.out.below HB3.out, HB3.out.mono HBS.out.1⟩
    case round =>
      clear HB3 HIF HO HD HK hk1 hne
      obtain ⟨i, j, cur, hjn, rfl, rfl, HD, HO, HB⟩ := hrel
      have hij := HD.out.lt
      by_cases hlt : j < n
      · have hjl : j < es.length := by rw [← HN.out]; exact hlt
        have hcl : j < cur.length := by rw [HD.out.len]; exact hjl
        obtain ⟨a0, a1, a2⟩ := HO.out.at j hcl
        have hrd := HD.out.read hjl
        rw [hrd] at a0 a1 a2
        have HF2 := HF.out es[j] (List.getElem_mem hjl)
        obtain ⟨e, he⟩ : ∃ e, e = es[j] := ⟨_, rfl⟩
        rw [← he] at a0 a1 a2 HF2
        have HE := Lib.hid he
        obtain ⟨m, t, id⟩ := e
        simp only at a0 a1 a2 HF2
        have HC : Hid (∀ w', Below base w w' → Calls Tryd.prog g #[.agg #[.int .i64 m, .string t, .string id], .pointer (some ⟨B, 0, none⟩)] w' fun x w'' => x = .returned (.bool (P ⟨m, t, id⟩)) ∧ Below w'.heap.size w' w'') := HF2
        obtain ⟨b, hb⟩ : ∃ b, b = P ⟨m, t, id⟩ := ⟨_, rfl⟩
        rw [← hb] at HC
        have HPB := Lib.hid hb
        have q0 : (0 : Int) ≤ (j : Int) := by omega
        have q1 : (j : Int) < (n : Int) := by omega
        clear hrd HF2 he hb
        have HSZ : Hid (base ≤ wr.heap.size) := Nat.le_trans HBS.out.1 HB.out.size
        have HW2 : Hid (Below wr.heap.size wr (wr.alloc (.cells #[.int .i64 m, .string t, .string id] 34))) := below_new (Below.refl _ _) _
        have HR2 : Hid ((wr.alloc (.cells #[.int .i64 m, .string t, .string id] 34)).heap[wr.heap.size]? = some (.cells #[.int .i64 m, .string t, .string id] 34 (0, 0))) := heap_alloc_new wr _
        rcases b with _ | _
        · have HDX : Hid (DelI P es (wrE cur [⟨m, t, id⟩] i) (i + 1) (j + 1)) := by
            have := HD.out.keep hjl (by rw [← HE.out]; exact HPB.out.symm)
            rwa [← HE.out] at this
          have hil : i < cur.length := by omega
          have q2 : (0 : Int) ≤ (i : Int) := by omega
          have q3 : (i : Int) < (n : Int) := by omega
          go_upto_region 8 with fail
          obtain ⟨w2, hw2⟩ : ∃ w2, w2 = wr.alloc (.cells #[.int .i64 m, .string t, .string id] 34) := ⟨_, rfl⟩
          rw [← hw2] at HW2 HR2 ⊢
          have HO2 : Hid (NOw w2 base (.slice (some ⟨G, 0, none⟩) n cap) cur) := HO.out.below HW2.out
          have HB2 : Hid (Below base w w2) := HB.out.trans (HW2.out.mono HSZ.out)
          obtain ⟨V, hV⟩ : ∃ V, V = wr.heap.size := ⟨_, rfl⟩
          rw [← hV] at HR2 HSZ ⊢
          have c0 : w2.cell? ⟨V, 0, none⟩ = some (.int .i64 m) := cell_of_row w2 V 0 _ _ _ HR2.out
          have c1 : w2.cell? ⟨V, 1, none⟩ = some (.string t) := cell_of_row w2 V 1 _ _ _ HR2.out
          have c2 : w2.cell? ⟨V, 2, none⟩ = some (.string id) := cell_of_row w2 V 2 _ _ _ HR2.out
          clear hw2 hV a0 a1 a2 HE HPB hcl hjl
          go_upto_region 9 with (go_at_fn g; (with_reducible refine (HC.out _ HB2.out).mono ?_); rintro x w3 ⟨rfl, hb3⟩; have HB3 := Lib.hid hb3; clear hb3)
          have HR3 : Hid (w3.heap[V]? = some (.cells #[.int .i64 m, .string t, .string id] 34 (0, 0))) := (HB3.out.block _ (row_lt HR2.out)).trans HR2.out
          have HO3 : Hid (NOw w3 base (.slice (some ⟨G, 0, none⟩) n cap) cur) := HO2.out.below HB3.out
          have HB4 : Hid (Below base w w3) := HB2.out.trans (HB3.out.mono (Nat.le_trans HSZ.out (Nat.le_of_lt (row_lt HR2.out))))
          clear c0 c1 c2
          have c0 : w3.cell? ⟨V, 0, none⟩ = some (.int .i64 m) := cell_of_row w3 V 0 _ _ _ HR3.out
          have c1 : w3.cell? ⟨V, 1, none⟩ = some (.string t) := cell_of_row w3 V 1 _ _ _ HR3.out
          have c2 : w3.cell? ⟨V, 2, none⟩ = some (.string id) := cell_of_row w3 V 2 _ _ _ HR3.out
          have HIL : Hid (i < cur.length) := hil
          clear hil
          go_wp2_with (with_reducible refine wp_no_store rfl _ _ rfl HO3.out i _ HIL.out rfl rfl m t id rfl ?_; intro w4 h1 h2; have HO4 := Lib.hid h1; have HB5 := Lib.hid (app_stepG HB4.out h2 HBS.out.2.1 (Nat.le_trans HBS.out.1 HB4.out.size)); clear h1 h2)
          go_roundw
          case rel => exact ⟨i + 1, j + 1, _, by omega, by go_num, by go_num, HDX, HO4, HB5⟩
          case measure => simp [intOf]; omega
        · have HDX : Hid (DelI P es cur i (j + 1)) := HD.out.skip hjl (by rw [← HE.out]; exact HPB.out.symm)
          go_upto_region 8 with fail
          obtain ⟨w2, hw2⟩ : ∃ w2, w2 = wr.alloc (.cells #[.int .i64 m, .string t, .string id] 34) := ⟨_, rfl⟩
          rw [← hw2] at HW2 HR2 ⊢
          have HO2 : Hid (NOw w2 base (.slice (some ⟨G, 0, none⟩) n cap) cur) := HO.out.below HW2.out
          have HB2 : Hid (Below base w w2) := HB.out.trans (HW2.out.mono HSZ.out)
          obtain ⟨V, hV⟩ : ∃ V, V = wr.heap.size := ⟨_, rfl⟩
          rw [← hV] at HR2 HSZ ⊢
          have c0 : w2.cell? ⟨V, 0, none⟩ = some (.int .i64 m) := cell_of_row w2 V 0 _ _ _ HR2.out
          have c1 : w2.cell? ⟨V, 1, none⟩ = some (.string t) := cell_of_row w2 V 1 _ _ _ HR2.out
          have c2 : w2.cell? ⟨V, 2, none⟩ = some (.string id) := cell_of_row w2 V 2 _ _ _ HR2.out
          clear hw2 hV a0 a1 a2 HE HPB hcl hjl
          go_wp2_with (go_at_fn g; (with_reducible refine (HC.out _ HB2.out).mono ?_); rintro x w3 ⟨rfl, hb3⟩; have HB3 := Lib.hid hb3; clear hb3)
          go_roundw
          case rel => exact ⟨i, j + 1, cur, by omega, rfl, by go_num, HDX, HO2.out.below HB3.out, HB2.out.trans (HB3.out.mono (Nat.le_trans HSZ.out (Nat.le_of_lt (row_lt HR2.out))))⟩
          case measure => simp [intOf]; omega
      · have hje : j = n := by omega
        have HJ : Hid (j = n) := hje
        have HI : Hid (i < n) := by show _ < _; omega
        have HX : Hid (i + (n - i) = cur.length ∧ 0 < n - i) := ⟨by rw [HD.out.len, ← HN.out]; omega, by omega⟩
        have q2 : (0 : Int) ≤ (i : Int) := by omega
        have q3 : (i : Int) ≤ (n : Int) := by omega
        have q4 : (i : Int) ≤ (cap : Int) := by have := HBS.out; omega
        have q5 : ¬ cap = i := by have := HBS.out; omega
        clear hij hje
        obtain ⟨w4, hcl, h1, h2⟩ := run_no_clear HO.out i (i * 3) (n - i) (cap - i) HX.out.1 HX.out.2 rfl
        have HO4 := Lib.hid h1
        have HB5 := Lib.hid (app_stepG HB.out h2 HBS.out.2.1 (Nat.le_trans HBS.out.1 HB.out.size))
        clear h1 h2
        go_wp2_with fail
        go_ret
        have hcut := HO4.out.cut i (by rw [wrE_len (by have := HX.out; omega)]; have := HX.out; omega)
        rw [HD.out.done (by rw [HJ.out]; exact HN.out)] at hcut
        exact ⟨i, rfl, hcut, HB5.out⟩

theorem now_below {w : World} {base b2 : Nat} {v : Value} {l : List En} (h : NOw w base v l) (hb : b2 ≤ base) : NOw w b2 v l := by
  have h' : w.ownsRow base 34 3 v l.length (ncells l) := h
  refine ⟨h'.1, ?_⟩
  rcases h'.2 with hx | ⟨g', cap', cur, hv, hbg, rest⟩
  · exact .inl hx
  · exact .inr ⟨g', cap', cur, hv, Nat.le_trans hb hbg, rest⟩
theorem now_form {w : World} {base : Nat} {v : Value} {l : List En} (h : NOw w base v l) : (v = .slice none 0 0 ∧ l = []) ∨ ∃ g cap, v = .slice (some ⟨g, 0, none⟩) l.length cap := by
  have h' : w.ownsRow base 34 3 v l.length (ncells l) := h
  rcases h'.2 with ⟨hx, h0⟩ | ⟨g', cap', cur, hv, hbg, rest⟩
  · exact .inl ⟨hx, List.eq_nil_of_length_eq_zero h0⟩
  · exact .inr ⟨g', cap', hv⟩
set_option maxHeartbeats 1000000 in
theorem deleteFunc_nil (f : Value) (w : World) :
    Calls Tryd.prog 40 #[.slice none 0 0, f] w fun e w' => e = .returned (.slice none 0 0) ∧ w' = w := by
  have hf : Calls Tryd.prog 34 #[.slice none 0 0, f] w fun e w' => e = .returned (.int .i64 (-1)) ∧ w' = w := by
    go_enter Tryd.func34, Tryd.ntmps34
    go_wp2_with fail
    go_loopw [8] (fun iv wr => iv = .int .i64 0 ∧ wr = w) (fun iv _ => 0)
    case atStart => exact ⟨rfl, rfl⟩
    case round =>
      obtain ⟨rfl, rfl⟩ := hrel
      go_wp2_with fail
      go_ret
      exact ⟨rfl, rfl⟩
  have HF := Lib.hid hf
  clear hf
  go_enter Tryd.func40, Tryd.ntmps40
  go_wp2_with (go_at_call 34; (with_reducible refine HF.out.mono ?_); rintro e w3 ⟨rfl, rfl⟩)
  go_ret
  exact ⟨rfl, rfl⟩
theorem deleteFunc_v (P : En → Bool) (g B : Nat) (eg : ∀ args w, (callFunc g args).run Tryd.prog w = .ok (.enter g args) w) (es : List En) (v : Value) (base : Nat) (w : World) (hown : NOw w base v es) (hbase : base ≤ w.heap.size) (hn2 : es.length ≤ 65536)
    (HF : Hid (∀ e ∈ es, ∀ w', Below base w w' → Calls Tryd.prog g #[.agg #[.int .i64 e.m, .string e.n, .string e.i], .pointer (some ⟨B, 0, none⟩)] w' fun x w'' => x = .returned (.bool (P e)) ∧ Below w'.heap.size w' w'')) :
    Calls Tryd.prog 40 #[v, .func (.func g) #[] #[.pointer (some ⟨B, 0, none⟩)]] w fun e w' => ∃ v', e = .returned v' ∧ NOw w' base v' (es.filter fun e => !P e) ∧ Below base w w' := by
  rcases now_form hown with ⟨rfl, rfl⟩ | ⟨G, cap, rfl⟩
  · exact (deleteFunc_nil _ w).mono fun e w' ⟨h1, h2⟩ => ⟨_, h1, by subst h2; exact NOw.nil _ _, by subst h2; exact Below.refl _ _⟩
  · exact (deleteFunc_any P g B eg es G es.length cap base w hown hbase hn2 HF).mono fun e w' ⟨m, h1, h2, h3⟩ => ⟨_, h1, h2, h3⟩
set_option maxHeartbeats 2000000 in
set_option maxRecDepth 4000 in
theorem drop_any (es : List En) (nm : ByteArray) (p : Option Addr) (c n : Nat) (w : World) (hn : n = es.length) (hp : NRw w p es) (hn2 : n ≤ 65536) :
    Calls Tryd.prog 24 #[.slice p n c, .string nm] w fun e w' => ∃ v, e = .returned v ∧ NOw w' w.heap.size v (dropE es nm) ∧ Below w.heap.size w w' := by
  obtain ⟨w1, hw1⟩ : ∃ w1, w1 = w.alloc (.cells #[.string nm] 9) := ⟨_, rfl⟩
  have hb1 : Below w.heap.size w w1 := by rw [hw1]; exact below_new (Below.refl _ _) _
  have hs1 : w1.heap.size = w.heap.size + 1 := by rw [hw1]; simp
  have hc1 : w1.cell? ⟨w.heap.size, 0, none⟩ = some (.string nm) := by rw [hw1]; simp
  have HCL := Lib.hid (cloneT_any es p c n w1 hn (hp.below hb1) hn2)
  have HW1 := Lib.hid hw1
  have HB1 := Lib.hid hb1
  have HC1 := Lib.hid hc1
  have HS1 := Lib.hid hs1
  have HN := Lib.hid hn
  obtain ⟨D, hD⟩ : ∃ D, D = dropE es nm := ⟨_, rfl⟩
  rw [← hD]
  have HD : Hid (D = es.filter fun e => !decide (e.n = nm)) := hD
  clear hw1 hb1 hc1 hs1 hn hp hD
  go_enter Tryd.func24, Tryd.ntmps24
  go_upto_region 1 with fail
  rw [← HW1.out]
  go_wp2_with (first
    | (go_at_call 41; (with_reducible refine HCL.out.mono ?_); rintro e w2 ⟨v, rfl, ho2, hb2⟩; have HO2 := Lib.hid ho2; have HB2 := Lib.hid hb2
       have HDF := Lib.hid (deleteFunc_v (fun e => decide (e.n = nm)) 42 w.heap.size Tryd.eg_drop es v w1.heap.size w2 HO2.out HB2.out.size (by rw [← HN.out]; exact hn2) (fun e _ w' hb' => dropIs_any e.m e.n e.i nm w.heap.size w' ((hb'.cell (p := ⟨w.heap.size, 0, none⟩) (by have := HS1.out; show _ < _; simp; omega)).trans (cell_bel HC1.out HB2.out))))
       clear ho2 hb2)
    | (go_at_call 40; (with_reducible refine HDF.out.mono ?_); rintro e w3 ⟨v3, rfl, ho3, hb3⟩; have HO3 := Lib.hid ho3; have HB3 := Lib.hid hb3; clear ho3 hb3))
  go_ret
  refine ⟨_, rfl, by rw [HD.out]; exact now_below HO3.out (by have := HS1.out; omega), HB1.out.trans ((HB2.out.mono (by have := HS1.out; omega)).trans (HB3.out.mono (by have := HS1.out; omega)))⟩
end Go.Proofs.YtjholoajgnpodaaDoor
