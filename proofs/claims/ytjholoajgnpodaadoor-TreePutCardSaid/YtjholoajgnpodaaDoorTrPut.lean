/-
  The walks of slices.Insert over entries, of Put and of the reference's.
-/
import Derived.Test.YtjholoajgnpodaaDoorTrDrop
import Derived.Test.YtjholoajgnpodaaDoorQTail
import Derived.Lib.Overlaps
import Derived.Laws.Externs
namespace Go.Proofs.YtjholoajgnpodaaDoor
open Go.RowKit Go.Shelf

theorem Tryd.sizeEn (w : World) : (Go.sizeOf 34).run Tryd.prog w = .ok 3 w := by
  obtain ⟨i0, hi, hz0, hz1, hz2⟩ := info_parts Tryd.infoEn
  simp [sizeOf, typeInfo, hi, hz1]
set_option maxRecDepth 10000 in
theorem overlaps_no {w : World} {base g n cap E : Nat} {l : List En} {c : Array Value} (h : NOw w base (.slice (some ⟨g, 0, none⟩) n cap) l) (hE : w.heap[E]? = some (.cells c 34 (0, 0))) (hne : E ≠ g) (hcap : 0 < cap) (la ca off lb cb : Nat) :
    (callFunc 56 #[.slice (some ⟨E, 0, none⟩) la ca, .slice (some ⟨g, off, none⟩) lb cb]).run Tryd.prog w = .ok (.value (.bool false)) w := by
  have h' : w.ownsRow base 34 3 (.slice (some ⟨g, 0, none⟩) n cap) l.length (ncells l) := h
  rcases h'.2 with ⟨hx, _⟩ | ⟨g', cap', cur, hv, hbg, hg, hc, hm, hs, ht⟩
  · cases hx
  · injection hv with h1 h2 h3
    injection h1 with h1
    injection h1 with h1
    subst h1 h3
    rw [run_callFunc_extern Tryd.func56 (by kernel_rfl) (by kernel_rfl) (by kernel_rfl) (e := Extern.SlicesOverlaps.overlaps #[22, 22] #[4]) (by kernel_rfl),
      Lib.run_overlaps_apart w 22 4 34 Tryd.underlying22 3 Tryd.sizeEn ⟨E, 0, none⟩ ⟨g, off, none⟩ la ca lb cb hne 34 34 c.size cur.size (by simp [World.shape?, hE]) (by simp [World.shape?, hg]) (by omega) (frozen_of_row _ _ _ _ _ hE) (frozen_of_row _ _ _ _ _ hE)]
    rfl
/-- An entry at a place of a list. -/
def insE (l : List En) (i : Nat) (e : En) : List En := l.take i ++ e :: l.drop i
set_option maxHeartbeats 2000000 in
set_option maxRecDepth 4000 in
/-- Insert at the end. -/
theorem insert_end (es : List En) (v : Value) (base E n : Nat) (w : World) (m : Int) (t id : ByteArray) (hown : NOw w base v es) (hbase : base ≤ w.heap.size) (hn : n = es.length) (hn2 : n ≤ 65536)
    (hE : w.heap[E]? = some (.cells #[.int .i64 m, .string t, .string id] 34 (0, 0))) :
    Calls Tryd.prog 39 #[v, .int .i64 (n : Int), .slice (some ⟨E, 0, none⟩) 1 1] w fun e w' => ∃ v', e = .returned v' ∧ NOw w' base v' (insE es n ⟨m, t, id⟩) ∧ Below base w w' := by
  have HX : Hid (insE es n ⟨m, t, id⟩ = es ++ [⟨m, t, id⟩]) := by
    show _ = _
    unfold insE
    rw [List.take_of_length_le (by omega), List.drop_of_length_le (by omega)]
  have HSRC : Hid (∀ j u, (ncells [⟨m, t, id⟩])[j]? = some u → w.cell? ((⟨E, 0, none⟩ : Addr).add j) = some u) := fun j u hu => by
    rw [Addr.add_mid, Nat.zero_add, cell_of_row _ _ j _ _ _ hE, ← hu]
    simp [ncells, En.cells]
  have HO := Lib.hid hown
  have HL : Hid (es.length + 1 ≤ 1048576) := by show _ ≤ _; omega
  have HBS := Lib.hid hbase
  rcases now_form hown with ⟨rfl, rfl⟩ | ⟨G, cap, rfl⟩
  · obtain rfl : n = 0 := hn
    clear hown hbase hE
    go_enter Tryd.func39, Tryd.ntmps39
    go_wp2_with (at_builtin; refine wp_no_many rfl _ _ rfl rfl HO.out ⟨E, 0, none⟩ 1 1 [⟨m, t, id⟩] rfl rfl HSRC.out HL.out HBS.out ?_; intro v' w2 h1 h2 _; have HO2 := Lib.hid h1; have HB2 := Lib.hid (app_step0 (Below.refl base w) HO.out h2 (Nat.le_refl _) HBS.out); clear h1 h2)
    go_ret
    exact ⟨_, rfl, by rw [HX.out]; exact HO2.out, HB2.out⟩
  · obtain ⟨_, hcap, _, _⟩ := hown.len
    obtain rfl := hn
    have q1 : (es.length : Int) ≤ (cap : Int) := by omega
    clear hown hbase hE
    go_enter Tryd.func39, Tryd.ntmps39
    go_wp2_with (at_builtin; refine wp_no_many rfl _ _ rfl rfl HO.out ⟨E, 0, none⟩ 1 1 [⟨m, t, id⟩] rfl rfl HSRC.out HL.out HBS.out ?_; intro v' w2 h1 h2 _; have HO2 := Lib.hid h1; have HB2 := Lib.hid (app_step0 (Below.refl base w) HO.out h2 (Nat.le_refl _) HBS.out); clear h1 h2)
    all_goals go_ret
    all_goals exact ⟨_, rfl, by rw [HX.out]; exact HO2.out, HB2.out⟩

theorem wrE_one {l : List En} {i : Nat} {z y : Nat} {e : En} (hi : i < l.length) (hz : z = l.length + 1) (hy : y = z - i) :
    wrE (wrE (l.take i ++ List.replicate y En.zero) [e] i) (l.drop i) (i + 1) = insE l i e := by
  have h0 : (l.take i).length = i := by simp; omega
  have e1 : wrE (l.take i ++ List.replicate y En.zero) [e] i = (l.take i ++ [e]) ++ List.replicate (y - 1) En.zero := by
    unfold wrE
    rw [List.take_left' h0, List.drop_append, List.drop_of_length_le (by simp; omega), List.nil_append, h0, List.append_assoc]
    congr 2
    rw [List.drop_replicate]
    congr 1
    simp
  have h1 : (l.take i ++ [e]).length = i + 1 := by simp; omega
  rw [e1]
  unfold wrE insE
  rw [List.take_left' h1, List.drop_append, List.drop_of_length_le (l := l.take i ++ [e]) (by rw [h1]; omega), List.nil_append, List.drop_replicate, h1, List.append_assoc]
  have h2 : y - 1 - (i + 1 + (l.drop i).length - (i + 1)) = 0 := by simp; omega
  rw [h2]
  simp
theorem wrE_two {l : List En} {i : Nat} {e : En} (hi : i < l.length) : wrE (wrE l (l.drop i) (i + 1)) [e] i = insE l i e := by
  have h1 : wrE l (l.drop i) (i + 1) = l.take (i + 1) ++ l.drop i := by
    unfold wrE
    rw [List.drop_of_length_le (l := l) (i := i + 1 + (l.drop i).length) (by simp; omega), List.append_nil]
  rw [h1]
  unfold wrE insE
  rw [List.take_append_of_le_length (by simp; omega), List.take_take, Nat.min_eq_left (by omega)]
  congr 1
  simp only [List.length_singleton, List.singleton_append]
  congr 1
  exact List.drop_left' (by simp; omega)
set_option maxHeartbeats 4000000 in
set_option maxRecDepth 4000 in
/-- Insert ahead of the end, without room. -/
theorem insert_grow (es : List En) (G cap base E n i : Nat) (w : World) (m : Int) (t id : ByteArray) (hown : NOw w base (.slice (some ⟨G, 0, none⟩) n cap) es) (hbase : base ≤ w.heap.size) (hn2 : n ≤ 65536) (hi : i < n) (hcap : cap < n + 1)
    (hE : w.heap[E]? = some (.cells #[.int .i64 m, .string t, .string id] 34 (0, 0))) :
    Calls Tryd.prog 39 #[.slice (some ⟨G, 0, none⟩) n cap, .int .i64 (i : Int), .slice (some ⟨E, 0, none⟩) 1 1] w fun e w' => ∃ v', e = .returned v' ∧ NOw w' base v' (insE es i ⟨m, t, id⟩) ∧ Below base w w' := by
  obtain ⟨hn, hc, hbG, hG⟩ := hown.len
  obtain ⟨z, hz⟩ : ∃ z, z = n + 1 := ⟨_, rfl⟩
  obtain ⟨y, hy⟩ : ∃ y, y = z - i := ⟨_, rfl⟩
  have e1 : IntKind.i64.wrap ((n : Int) + 1) = (z : Int) := by rw [IntWalk.i64_in _ (by omega)]; omega
  have e1' : (n : Int) + 1 = (z : Int) := by omega
  have e2 : IntKind.i64.wrap ((z : Int) - (i : Int)) = (y : Int) := by rw [IntWalk.i64_in _ (by omega)]; omega
  have e2' : (z : Int) - (i : Int) = (y : Int) := by omega
  have q1 : decide ((cap : Int) < (z : Int)) = true := decide_eq_true (by omega)
  have q1n : cap < z := by omega
  have q1i : (cap : Int) < (z : Int) := by omega
  have q2 : ((i : Int) == (n : Int)) = false := beq_eq_false_iff_ne.2 (by omega)
  have q3 : (0 : Int) ≤ (i : Int) := by omega
  have q4 : (i : Int) ≤ (n : Int) := by omega
  have q5 : (i : Int) ≤ (cap : Int) := by omega
  have q6 : ¬ cap = i := by omega
  have HSRC : Hid (∀ w', Below w.heap.size w w' → ∀ j u, (ncells [⟨m, t, id⟩])[j]? = some u → w'.cell? ((⟨E, 0, none⟩ : Addr).add j) = some u) := fun w' hb j u hu => by
    have hE' := (hb.block _ (row_lt hE)).trans hE
    rw [Addr.add_mid, Nat.zero_add, cell_of_row _ _ j _ _ _ hE', ← hu]
    simp [ncells, En.cells]
  have HO := Lib.hid hown
  have HCUT := Lib.hid (hown.cut i (by omega))
  have HY : Hid (0 < y ∧ cap < i + y ∧ i + y ≤ 1048576 ∧ z = i + y ∧ i < y + i ∧ i + 1 ≤ z) := ⟨by omega, by omega, by omega, by omega, by omega, by omega⟩
  have HN : Hid (n = es.length ∧ i < es.length ∧ z = es.length + 1 ∧ y = z - i) := ⟨hn, by omega, by omega, hy⟩
  have HBS := Lib.hid hbase
  clear hown hn hc hbG hG hz hy hcap hbase hE
  go_enter Tryd.func39, Tryd.ntmps39
  go_upto_region 10 with (at_builtin; refine wp_no_zeros rfl _ _ rfl HCUT.out rfl y z HY.out.2.2.2.1 HY.out.1 rfl HY.out.2.1 HY.out.2.2.1 w.heap.size (Nat.le_refl _) ?_; intro w2 cap' h1 h2; have HO2 := Lib.hid h1; have HG2 := Lib.hid h2; clear h1 h2)
  obtain ⟨G2, hG2⟩ : ∃ G2, G2 = w.heap.size := ⟨_, rfl⟩
  rw [← hG2] at HO2 ⊢
  have HB2 : Hid (Below w.heap.size w w2) := ⟨HG2.out.os, HG2.out.tape, HG2.out.output, HG2.out.size, fun k hk => HG2.out.block k hk (by simp)⟩
  obtain ⟨hl2, hc2, hb2, _⟩ := HO2.out.len
  have HGE : Hid (w.heap.size ≤ G2 ∧ z ≤ cap') := ⟨by omega, hc2⟩
  have q7 : (i : Int) ≤ (z : Int) := by omega
  have q8 : (i : Int) ≤ (cap' : Int) := by omega
  have q9 : ¬ cap' = i := by omega
  have HM1 : Hid (Nat.min 1 (z - i) = ([⟨m, t, id⟩] : List En).length) := by show min 1 (z - i) = 1; omega
  have HK1 : Hid (i ≤ (es.take i ++ List.replicate y En.zero).length ∧ i + ([⟨m, t, id⟩] : List En).length ≤ cap') := ⟨by have := HN.out; simp; omega, by have := HN.out; simp; omega⟩
  clear hl2 hc2 hb2 hG2
  go_upto_region 11 with (with_reducible refine wp_no_copy rfl _ _ rfl HO2.out i _ _ _ ⟨E, 0, none⟩ 1 1 [⟨m, t, id⟩] HK1.out.1 HK1.out.2 rfl rfl rfl HM1.out (HSRC.out _ HB2.out) ?_; intro w3 h1 h2; have HO3 := Lib.hid h1; have HG3 := Lib.hid h2; clear h1 h2)
  have HB3 : Hid (Below w.heap.size w w3) := app_stepG HB2.out HG3.out HGE.out.1 HB2.out.size
  obtain ⟨L3, hL3⟩ : ∃ L3, L3 = wrE (es.take i ++ List.replicate y En.zero) [⟨m, t, id⟩] i := ⟨_, rfl⟩
  rw [← hL3] at HO3
  have hl3 : L3.length = z := by rw [hL3, wrE_len HK1.out.1]; have := HN.out; simp; omega
  rw [hl3] at HO3
  obtain ⟨x1, hx1⟩ : ∃ x1, x1 = i + 1 := ⟨_, rfl⟩
  have e3 : IntKind.i64.wrap ((i : Int) + 1) = (x1 : Int) := by rw [IntWalk.i64_in _ (by omega)]; omega
  have e3' : (i : Int) + 1 = (x1 : Int) := by omega
  have p0 : (0 : Int) ≤ (x1 : Int) := by omega
  have p1 : (x1 : Int) ≤ (z : Int) := by omega
  have p2 : (x1 : Int) ≤ (cap' : Int) := by omega
  have p3 : ¬ cap' = x1 := by have := HN.out; have := HGE.out; omega
  have HM2 : Hid (Nat.min (n - i) (z - x1) = (es.drop i).length) := by show min (n - i) (z - x1) = _; have := HN.out; rw [List.length_drop]; omega
  have HK2 : Hid (x1 ≤ L3.length ∧ x1 + (es.drop i).length ≤ cap') := ⟨by omega, by have := HN.out; have := HGE.out; rw [List.length_drop]; omega⟩
  have HF : Hid (wrE L3 (es.drop i) x1 = insE es i ⟨m, t, id⟩) := by
    show _ = _
    rw [hL3, hx1]
    exact wrE_one HN.out.2.1 HN.out.2.2.1 HN.out.2.2.2
  have HLF : Hid ((wrE L3 (es.drop i) x1).length = z) := by show _ = _; rw [wrE_len HK2.out.1, hl3, List.length_drop]; have := HN.out; omega
  have hq : Nonempty (BelW w3) := ⟨⟨w3, Below.refl _ _⟩⟩
  clear hl3 hL3 hx1 HM1 HK1 HO2 HG2 HG3 HCUT HSRC
  go_simp
  refine wp_region_bel_tail (w0 := w3) 8 (Below.refl _ _) (by kernel_rfl) (by kernel_rfl) ?_
  simp only [List.take_succ_cons, List.take_zero, List.drop_succ_cons, List.drop_zero]
  repeat (go_big_quiet_step (fail))
  refine wpQuiet_nil ?_
  rintro _ ⟨x, rfl⟩
  have HX := Lib.hid x.h
  have HO4 : Hid (NOw x.w G2 (.slice (some ⟨G2, 0, none⟩) z cap') L3) := HO3.out.below HX.out
  have HB4 : Hid (Below w.heap.size w x.w) := HB3.out.trans (HX.out.mono HB3.out.size)
  go_wp2_with (with_reducible refine wp_no_copy rfl _ _ rfl HO4.out x1 _ _ _ ⟨G, i * 3, none⟩ _ _ (es.drop i) HK2.out.1 HK2.out.2 rfl rfl rfl HM2.out ((HO.out.below HB4.out).src i _ rfl) ?_; intro w5 h1 h2; have HO5 := Lib.hid h1; have HB5 := Lib.hid (app_stepG HB4.out h2 HGE.out.1 HB4.out.size); clear h1 h2)
  go_ret
  refine ⟨_, rfl, ?_, HB5.out.mono HBS.out⟩
  have := HO5.out
  rw [HLF.out, HF.out] at this
  exact now_below this (Nat.le_trans HBS.out HGE.out.1)

set_option maxHeartbeats 4000000 in
set_option maxRecDepth 4000 in
/-- Insert ahead of the end, where there is room. -/
theorem insert_room (es : List En) (G cap base E n i : Nat) (w : World) (m : Int) (t id : ByteArray) (hown : NOw w base (.slice (some ⟨G, 0, none⟩) n cap) es) (hbase : base ≤ w.heap.size) (hn2 : n ≤ 65536) (hi : i < n) (hcap : n + 1 ≤ cap) (hEG : E ≠ G)
    (hE : w.heap[E]? = some (.cells #[.int .i64 m, .string t, .string id] 34 (0, 0))) :
    Calls Tryd.prog 39 #[.slice (some ⟨G, 0, none⟩) n cap, .int .i64 (i : Int), .slice (some ⟨E, 0, none⟩) 1 1] w fun e w' => ∃ v', e = .returned v' ∧ NOw w' base v' (insE es i ⟨m, t, id⟩) ∧ Below base w w' := by
  obtain ⟨hn, hc, hbG, hG⟩ := hown.len
  obtain ⟨z, hz⟩ : ∃ z, z = n + 1 := ⟨_, rfl⟩
  obtain ⟨x1, hx1⟩ : ∃ x1, x1 = i + 1 := ⟨_, rfl⟩
  have e1 : IntKind.i64.wrap ((n : Int) + 1) = (z : Int) := by rw [IntWalk.i64_in _ (by omega)]; omega
  have e1' : (n : Int) + 1 = (z : Int) := by omega
  have e3 : IntKind.i64.wrap ((i : Int) + 1) = (x1 : Int) := by rw [IntWalk.i64_in _ (by omega)]; omega
  have e3' : (i : Int) + 1 = (x1 : Int) := by omega
  have q1 : decide ((cap : Int) < (z : Int)) = false := decide_eq_false (by omega)
  have q1n : ¬ cap < z := by omega
  have q1i : ¬ (cap : Int) < (z : Int) := by omega
  have q2 : ((i : Int) == (n : Int)) = false := beq_eq_false_iff_ne.2 (by omega)
  have q3 : (0 : Int) ≤ (i : Int) := by omega
  have q4 : (i : Int) ≤ (n : Int) := by omega
  have q5 : (i : Int) ≤ (cap : Int) := by omega
  have q6 : ¬ cap = i := by omega
  have q7 : (0 : Int) ≤ (z : Int) := by omega
  have q8 : (z : Int) ≤ (cap : Int) := by omega
  have q9 : (i : Int) ≤ (z : Int) := by omega
  have p0 : (0 : Int) ≤ (x1 : Int) := by omega
  have p1 : (x1 : Int) ≤ (z : Int) := by omega
  have p2 : (x1 : Int) ≤ (cap : Int) := by omega
  have p3 : ¬ cap = x1 := by omega
  have HSRC : Hid (∀ w' : World, w'.heap[E]? = some (Obj.cells #[.int .i64 m, .string t, .string id] 34 (0, 0)) → ∀ j u, (ncells [⟨m, t, id⟩])[j]? = some u → w'.cell? ((⟨E, 0, none⟩ : Addr).add j) = some u) := fun w' hE' j u hu => by
    rw [Addr.add_mid, Nat.zero_add, cell_of_row _ _ j _ _ _ hE', ← hu]
    simp [ncells, En.cells]
  have hov := overlaps_no hown hE hEG (by omega)
  have HO := Lib.hid hown
  have HE := Lib.hid hE
  have HEG := Lib.hid hEG
  have HN : Hid (n = es.length ∧ i < es.length) := ⟨hn, by omega⟩
  have HBS : Hid (base ≤ w.heap.size ∧ base ≤ G) := ⟨hbase, hbG⟩
  have HM2 : Hid (Nat.min (z - i) (z - x1) = (es.drop i).length) := by show min (z - i) (z - x1) = _; have := HN.out; rw [List.length_drop]; omega
  have HK2 : Hid (x1 ≤ es.length ∧ x1 + (es.drop i).length ≤ cap) := ⟨by omega, by rw [List.length_drop]; omega⟩
  have HM1 : Hid (Nat.min 1 (z - i) = ([⟨m, t, id⟩] : List En).length) := by show min 1 (z - i) = 1; omega
  have HL2 : Hid ((wrE es (es.drop i) x1).length = z) := by show _ = _; rw [wrE_len HK2.out.1, List.length_drop]; omega
  have HK1 : Hid (i ≤ (wrE es (es.drop i) x1).length ∧ i + ([⟨m, t, id⟩] : List En).length ≤ cap) := ⟨by rw [HL2.out]; omega, by simp; omega⟩
  have HF : Hid (wrE (wrE es (es.drop i) x1) [⟨m, t, id⟩] i = insE es i ⟨m, t, id⟩) := by
    show _ = _
    rw [hx1]
    exact wrE_two HN.out.2
  have HLF : Hid ((wrE (wrE es (es.drop i) x1) [⟨m, t, id⟩] i).length = z) := by show _ = _; rw [wrE_len HK1.out.1, HL2.out]; simp; omega
  have hq : Nonempty (BelW w) := ⟨⟨w, Below.refl _ _⟩⟩
  clear hown hn hc hbG hG hz hx1 hcap hbase hE hEG
  go_enter Tryd.func39, Tryd.ntmps39
  go_upto_region 15 with (simp only [hov])
  refine wp_region_bel_tail (w0 := w) 8 (Below.refl _ _) (by kernel_rfl) (by kernel_rfl) ?_
  simp only [List.take_succ_cons, List.take_zero, List.drop_succ_cons, List.drop_zero]
  repeat (go_big_quiet_step (fail))
  refine wpQuiet_nil ?_
  rintro _ ⟨x, rfl⟩
  have HX := Lib.hid x.h
  have HO4 : Hid (NOw x.w base (.slice (some ⟨G, 0, none⟩) n cap) es) := HO.out.below HX.out
  have HB4 : Hid (Below base w x.w) := HX.out.mono HBS.out.1
  have HE4 : Hid (x.w.heap[E]? = some (.cells #[.int .i64 m, .string t, .string id] 34 (0, 0))) := (HX.out.block _ (row_lt HE.out)).trans HE.out
  go_upto_region 16 with (with_reducible refine wp_no_copy rfl _ _ rfl HO4.out x1 _ _ _ ⟨G, i * 3, none⟩ _ _ (es.drop i) HK2.out.1 HK2.out.2 rfl rfl rfl HM2.out (HO4.out.src i _ rfl) ?_; intro w5 h1 h2; have HO5 := Lib.hid h1; have HB5 := Lib.hid (app_stepG HB4.out h2 HBS.out.2 (Nat.le_trans HBS.out.1 HX.out.size)); have HG5 := Lib.hid h2; clear h1 h2)
  have HE5 := Lib.hid ((HG5.out.block _ (row_lt HE4.out) (by intro h; injection h with h; exact HEG.out h)).trans HE4.out)
  go_wp2_with (with_reducible refine wp_no_copy rfl _ _ rfl HO5.out i _ _ _ ⟨E, 0, none⟩ 1 1 [⟨m, t, id⟩] HK1.out.1 HK1.out.2 rfl rfl rfl HM1.out (HSRC.out _ HE5.out) ?_; intro w6 h1 h2; have HO6 := Lib.hid h1; have HB6 := Lib.hid (app_stepG HB5.out h2 HBS.out.2 (Nat.le_trans HBS.out.1 HB5.out.size)); clear h1 h2)
  go_ret
  refine ⟨_, rfl, ?_, HB6.out⟩
  have := HO6.out
  rw [HLF.out, HF.out] at this
  exact this

theorem insert_any (es : List En) (v : Value) (base E i : Nat) (w : World) (m : Int) (t id : ByteArray) (hown : NOw w base v es) (hbase : base ≤ w.heap.size) (hn2 : es.length ≤ 65536) (hi : i ≤ es.length) (hEG : ∀ k, v.ownBlock = some k → E ≠ k)
    (hE : w.heap[E]? = some (.cells #[.int .i64 m, .string t, .string id] 34 (0, 0))) :
    Calls Tryd.prog 39 #[v, .int .i64 (i : Int), .slice (some ⟨E, 0, none⟩) 1 1] w fun e w' => ∃ v', e = .returned v' ∧ NOw w' base v' (insE es i ⟨m, t, id⟩) ∧ Below base w w' := by
  by_cases hlt : i < es.length
  · rcases now_form hown with ⟨_, rfl⟩ | ⟨G, cap, rfl⟩
    · simp at hlt
    · by_cases hc : cap < es.length + 1
      · exact insert_grow es G cap base E es.length i w m t id hown hbase hn2 hlt hc hE
      · exact insert_room es G cap base E es.length i w m t id hown hbase hn2 hlt (by omega) (hEG G rfl) hE
  · obtain rfl : i = es.length := by omega
    exact insert_end es v base E es.length w m t id hown hbase rfl hn2 hE
theorem idxE_less (l : List En) (e : En) : (idxE (fun x => lessE e x) l = -1 ∧ atE l e = l.length) ∨ ∃ k : Nat, k < l.length ∧ idxE (fun x => lessE e x) l = (k : Int) ∧ atE l e = k := by
  unfold idxE atE
  cases h : l.findIdx? (fun x => lessE e x) with
  | none =>
    rw [List.findIdx?_eq_none_iff] at h
    refine .inl ⟨rfl, ?_⟩
    congr 1
    induction l with
    | nil => rfl
    | cons a r ih => rw [List.takeWhile_cons_of_pos (by simp [h a (by simp)]), ih (fun x hx => h x (by simp [hx]))]
  | some k =>
    rw [List.findIdx?_eq_some_iff_getElem] at h
    obtain ⟨hk, h1, h2⟩ := h
    refine .inr ⟨k, hk, rfl, ?_⟩
    have e1 : l = l.take k ++ l[k] :: l.drop (k + 1) := by rw [← List.drop_eq_getElem_cons hk, List.take_append_drop]
    have e2 : (l.takeWhile fun x => !lessE e x) = l.take k := by
      conv => lhs; rw [e1]
      rw [List.takeWhile_append_of_pos (fun x hx => by
        rw [List.mem_take_iff_getElem] at hx
        obtain ⟨j, hj, rfl⟩ := hx
        simpa using h2 j (by omega)), List.takeWhile_cons_of_neg (by simp [h1]), List.append_nil]
    rw [e2, List.length_take]
    omega
theorem putE_ins (l : List En) (e : En) : putE l e = insE (dropE l e.n) (atE (dropE l e.n) e) e := rfl
set_option maxHeartbeats 2000000 in
set_option maxRecDepth 4000 in
/-- The closure of Put: does the entry sort ahead of the other? -/
theorem putIs_any (e x : En) (B : Nat) (w : World) (c0 : w.cell? ⟨B, 0, none⟩ = some (.int .i64 e.m)) (c1 : w.cell? ⟨B, 1, none⟩ = some (.string e.n)) (c2 : w.cell? ⟨B, 2, none⟩ = some (.string e.i)) (he : e.n.size ≤ 140737488355328) (hx : x.n.size ≤ 140737488355328) :
    Calls Tryd.prog 38 #[.agg #[.int .i64 x.m, .string x.n, .string x.i], .pointer (some ⟨B, 0, none⟩)] w fun r w' => r = .returned (.bool (lessE e x)) ∧ Below w.heap.size w w' := by
  obtain ⟨R, hR⟩ : ∃ R, R = lessE e x := ⟨_, rfl⟩
  obtain ⟨w1, hw1⟩ : ∃ w1, w1 = w.alloc (.cells #[.int .i64 x.m, .string x.n, .string x.i] 34) := ⟨_, rfl⟩
  have hb1 : Below w.heap.size w w1 := by rw [hw1]; exact below_new (Below.refl _ _) _
  have HL := Lib.hid (tless_any e x w1 he hx)
  rw [← hR] at HL ⊢
  have hr : w1.heap[w.heap.size]? = some (.cells #[.int .i64 x.m, .string x.n, .string x.i] 34 (0, 0)) := by rw [hw1]; exact heap_alloc_new w _
  have HW1 := Lib.hid hw1
  have HB1 := Lib.hid hb1
  have d0 := cell_bel c0 hb1
  have d1 := cell_bel c1 hb1
  have d2 := cell_bel c2 hb1
  have f0 : w1.cell? ⟨w.heap.size, 0, none⟩ = some (.int .i64 x.m) := cell_of_row w1 _ 0 _ _ _ hr
  have f1 : w1.cell? ⟨w.heap.size, 1, none⟩ = some (.string x.n) := cell_of_row w1 _ 1 _ _ _ hr
  have f2 : w1.cell? ⟨w.heap.size, 2, none⟩ = some (.string x.i) := cell_of_row w1 _ 2 _ _ _ hr
  have HSZ : Hid (w.heap.size ≤ w1.heap.size) := hb1.size
  obtain ⟨m, t, i⟩ := e
  obtain ⟨m', t', i'⟩ := x
  simp only at HL c0 c1 c2 d0 d1 d2 f0 f1 f2 HW1
  clear hR hw1 hb1 hr c0 c1 c2 he hx
  go_enter Tryd.func38, Tryd.ntmps38
  go_upto_region 1 with fail
  rw [← HW1.out]
  go_wp2_with (go_at_call 20; (with_reducible refine HL.out.mono ?_); rintro r w2 ⟨rfl, hb2⟩; have HB2 := Lib.hid hb2; clear hb2)
  go_ret
  exact ⟨rfl, HB1.out.trans (HB2.out.mono HSZ.out)⟩
theorem Tryd.eg_put : ∀ args w, (callFunc 38 args).run Tryd.prog w = .ok (.enter 38 args) w := enters_of Tryd.func38 (by kernel_rfl) rfl
set_option maxHeartbeats 4000000 in
set_option maxRecDepth 4000 in
theorem put_any (es : List En) (e : En) (p : Option Addr) (c n : Nat) (w : World) (hn : n = es.length) (hp : NRw w p es) (hn2 : n ≤ 65536) (he : e.n.size ≤ 140737488355328) (hs : ∀ x ∈ es, x.n.size ≤ 140737488355328) :
    Calls Tryd.prog 22 #[.slice p n c, .agg #[.int .i64 e.m, .string e.n, .string e.i]] w fun r w' => ∃ v, r = .returned v ∧ NOw w' w.heap.size v (putE es e) ∧ Below w.heap.size w w' := by
  obtain ⟨w1, hw1⟩ : ∃ w1, w1 = w.alloc (.cells #[.int .i64 e.m, .string e.n, .string e.i] 34) := ⟨_, rfl⟩
  have hb1 : Below w.heap.size w w1 := by rw [hw1]; exact below_new (Below.refl _ _) _
  have hs1 : w1.heap.size = w.heap.size + 1 := by rw [hw1]; simp
  have hr : w1.heap[w.heap.size]? = some (.cells #[.int .i64 e.m, .string e.n, .string e.i] 34 (0, 0)) := by rw [hw1]; exact heap_alloc_new w _
  have HDR := Lib.hid (drop_any es e.n p c n w1 hn (hp.below hb1) hn2)
  obtain ⟨D, hD⟩ : ∃ D, D = dropE es e.n := ⟨_, rfl⟩
  rw [← hD] at HDR
  rw [putE_ins, ← hD]
  have hdl : D.length ≤ n := by rw [hD, hn]; exact dropE_le _ _
  have hds : ∀ x ∈ D, x.n.size ≤ 140737488355328 := fun x hx => hs x (by rw [hD] at hx; exact (List.mem_filter.1 hx).1)
  obtain ⟨B, hB⟩ : ∃ B, B = w.heap.size := ⟨_, rfl⟩
  obtain ⟨I, hI⟩ : ∃ I, I = idxE (fun x => lessE e x) D := ⟨_, rfl⟩
  obtain ⟨T, hT⟩ : ∃ T, T = atE D e := ⟨_, rfl⟩
  have HXF : Hid (∀ w2 v, NOw w2 w1.heap.size v D → Below w1.heap.size w1 w2 → ∃ p c, v = .slice p D.length c ∧ Calls Tryd.prog 34 #[.slice p D.length c, .func (.func 38) #[] #[.pointer (some ⟨B, 0, none⟩)]] w2 fun e w' => e = .returned (.int .i64 I) ∧ Below w2.heap.size w2 w') := fun w2 v ho hb => by
    obtain ⟨p, cap, rfl, _, hp⟩ := ho.rw
    rw [hI]
    have hr2 : w2.heap[w.heap.size]? = _ := (hb.block _ (row_lt hr)).trans hr
    exact ⟨p, cap, rfl, indexFunc_any (fun x => lessE e x) 38 B Tryd.eg_put D p cap D.length w2 rfl hp (by omega) (fun x hx w' hb' => by
      have hr3 : w'.heap[w.heap.size]? = _ := (hb'.block _ (row_lt hr2)).trans hr2
      rw [hB]
      exact putIs_any e x w.heap.size w' (cell_of_row _ _ 0 _ _ _ hr3) (cell_of_row _ _ 1 _ _ _ hr3) (cell_of_row _ _ 2 _ _ _ hr3) he (hds x hx))⟩
  rw [← hT]
  have hidx := idxE_less D e
  rw [← hI, ← hT] at hidx
  rw [← hB] at hr
  have HB := Lib.hid hB
  have HR := Lib.hid hr
  have HW1 := Lib.hid hw1
  have HB1 := Lib.hid hb1
  have HS1 := Lib.hid hs1
  have HDL : Hid (D.length ≤ 65536) := by show _ ≤ _; omega
  obtain ⟨m, t, i⟩ := e
  simp only at HDR HR HW1 hidx
  have c0 : w1.cell? ⟨B, 0, none⟩ = some (.int .i64 m) := cell_of_row w1 _ 0 _ _ _ HR.out
  have c1 : w1.cell? ⟨B, 1, none⟩ = some (.string t) := cell_of_row w1 _ 1 _ _ _ HR.out
  have c2 : w1.cell? ⟨B, 2, none⟩ = some (.string i) := cell_of_row w1 _ 2 _ _ _ HR.out
  clear hn hp hn2 he hs hw1 hb1 hs1 hr hD hdl hds hB hI hT
  go_enter Tryd.func22, Tryd.ntmps22
  go_upto_region 1 with fail
  rw [← HB.out, ← HW1.out]
  go_upto_region 2 with (go_at_call 24; (with_reducible refine HDR.out.mono ?_); rintro r w2 ⟨v, rfl, ho2, hb2⟩; have HO2 := Lib.hid ho2; have HB2 := Lib.hid hb2; clear ho2 hb2)
  obtain ⟨p2, cap2, rfl, hix⟩ := HXF.out w2 _ HO2.out HB2.out
  have HIX := Lib.hid hix
  clear hix HXF HDR c0 c1 c2
  go_upto_region 3 with (go_at_call 34; (with_reducible refine HIX.out.mono ?_); rintro r w3 ⟨rfl, hb3⟩; have HB3 := Lib.hid hb3; clear hb3)
  have HB13 : Hid (Below w1.heap.size w1 w3) := HB2.out.trans (HB3.out.mono HB2.out.size)
  have hr3 : w3.heap[B]? = some (.cells #[.int .i64 m, .string t, .string i] 34 (0, 0)) := (HB13.out.block _ (row_lt HR.out)).trans HR.out
  have c0 : w3.cell? ⟨B, 0, none⟩ = some (.int .i64 m) := cell_of_row w3 _ 0 _ _ _ hr3
  have c1 : w3.cell? ⟨B, 1, none⟩ = some (.string t) := cell_of_row w3 _ 1 _ _ _ hr3
  have c2 : w3.cell? ⟨B, 2, none⟩ = some (.string i) := cell_of_row w3 _ 2 _ _ _ hr3
  have HO3 : Hid (NOw w3 w1.heap.size (.slice p2 D.length cap2) D) := HO2.out.below HB3.out
  have HIN : Hid (∀ k, k ≤ D.length → Calls Tryd.prog 39 #[.slice p2 D.length cap2, .int .i64 (k : Int), .slice (some ⟨w3.heap.size, 0, none⟩) 1 1] (w3.alloc (.cells #[.int .i64 m, .string t, .string i] 34)) fun e w' => ∃ v', e = .returned v' ∧ NOw w' w1.heap.size v' (insE D k ⟨m, t, i⟩) ∧ Below w1.heap.size (w3.alloc (.cells #[.int .i64 m, .string t, .string i] 34)) w') := fun k hk => by
    have hbn : Below w3.heap.size w3 (w3.alloc (.cells #[.int .i64 m, .string t, .string i] 34)) := below_new (Below.refl _ _) _
    refine insert_any D _ w1.heap.size w3.heap.size k _ m t i (HO3.out.below hbn) (Nat.le_trans HB13.out.size hbn.size) HDL.out hk (fun k' hk' => ?_) (heap_alloc_new w3 _)
    have := (World.ownsRow.lt HO3.out k' hk').2
    omega
  have HBN : Hid (Below w3.heap.size w3 (w3.alloc (.cells #[.int .i64 m, .string t, .string i] 34))) := below_new (Below.refl _ _) _
  clear hr3
  rcases hidx with ⟨rfl, hT⟩ | ⟨k, hk, rfl, hT⟩
  · have HC := Lib.hid (HIN.out D.length (Nat.le_refl _))
    have HT := Lib.hid hT
    clear hT
    go_wp2_with (go_at_call 39; (with_reducible refine HC.out.mono ?_); rintro r w4 ⟨v4, rfl, ho4, hb4⟩; have HO4 := Lib.hid ho4; have HB4 := Lib.hid hb4; clear ho4 hb4)
    go_ret
    refine ⟨_, rfl, by rw [HT.out]; exact now_below HO4.out (by have := HS1.out; omega), ?_⟩
    exact HB1.out.trans ((HB13.out.mono (by have := HS1.out; omega)).trans ((HBN.out.mono (by have := HS1.out; have := HB13.out.size; omega)).trans (HB4.out.mono (by have := HS1.out; omega))))
  · have HC := Lib.hid (HIN.out k (by omega))
    have HT := Lib.hid hT
    have qq : decide ((k : Int) < 0) = false := decide_eq_false (by omega)
    clear hT
    go_wp2_with (go_at_call 39; (with_reducible refine HC.out.mono ?_); rintro r w4 ⟨v4, rfl, ho4, hb4⟩; have HO4 := Lib.hid ho4; have HB4 := Lib.hid hb4; clear ho4 hb4)
    go_ret
    refine ⟨_, rfl, by rw [HT.out]; exact now_below HO4.out (by have := HS1.out; omega), ?_⟩
    exact HB1.out.trans ((HB13.out.mono (by have := HS1.out; omega)).trans ((HBN.out.mono (by have := HS1.out; have := HB13.out.size; omega)).trans (HB4.out.mono (by have := HS1.out; omega))))
end Go.Proofs.YtjholoajgnpodaaDoor
