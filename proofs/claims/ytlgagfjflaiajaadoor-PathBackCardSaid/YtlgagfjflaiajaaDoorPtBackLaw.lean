/-
  Plain mathematics of a valid path, its directory and its name; the walk of the law PathBack.
-/
import Derived.Test.YtlgagfjflaiajaaDoorPtLaws
import Derived.BigQuiet
import Derived.Deep.QuietTactic
namespace Go.Proofs.YtlgagfjflaiajaaDoor
open Go.RowKit

theorem cut_snoc : ∀ (a b cur : List UInt8), (∀ c ∈ b, c ≠ 47) → cut cur (a ++ 47 :: b) = cut cur a ++ [b]
  | [], b, cur, h => by
    rw [List.nil_append, show cut cur (47 :: b) = cur :: cut [] b from if_pos rfl, cut_none b [] h]
    rfl
  | c :: a, b, cur, h => by
    rw [List.cons_append, cut, cut]
    split
    · rw [cut_snoc a b [] h]; rfl
    · exact cut_snoc a b _ h
theorem data_at (s : ByteArray) (j : Nat) (h : j < s.size) : ((s.data[j]!).toNat : Int) = (s[j].toNat : Int) := by rw [idx_data s j h]
/-- Where the last slash stands. -/
theorem last_cases (s : ByteArray) : (lastP s = 0 ∧ ∀ c ∈ s.data.toList, c ≠ 47) ∨ ∃ i, lastP s = i + 1 ∧ i < s.size ∧ s.data.toList = s.data.toList.take i ++ 47 :: s.data.toList.drop (i + 1) ∧ ∀ c ∈ s.data.toList.drop (i + 1), c ≠ 47 := by
  have ne47 (c : UInt8) (h : ((c.toNat : Nat) : Int) ≠ 47) : c ≠ 47 := fun e => h (by rw [e]; rfl)
  have hlp := (lastP_at s).1
  rcases Lib.lastIndexByte_spec s 47 with ⟨h, hno⟩ | ⟨i, hi, h, h47, hno⟩
  · refine .inl ⟨by rw [h] at hlp; omega, fun c hc => ?_⟩
    obtain ⟨j, hj, rfl⟩ := List.mem_iff_getElem.mp hc
    rw [list_len] at hj
    have := hno j hj
    rw [data_at s j hj] at this
    exact ne47 _ this
  · refine .inr ⟨i, by rw [h] at hlp; omega, hi, ?_, fun c hc => ?_⟩
    · rw [data_at s i hi] at h47
      have e : s[i] = 47 := UInt8.toNat_inj.mp (by have : s[i].toNat = 47 := by omega
                                                   rw [this]; rfl)
      have hd := pt_drop s i hi
      rw [e] at hd
      rw [← hd, List.take_append_drop]
    · obtain ⟨j, hj, rfl⟩ := List.mem_iff_getElem.mp hc
      rw [List.length_drop, list_len] at hj
      rw [List.getElem_drop]
      have := hno (i + 1 + j) (by omega) (by omega)
      rw [data_at s _ (by omega)] at this
      exact ne47 _ this
theorem okc_nil : okc (str []) = false := by decide +kernel
theorem comps_mem {ls : List (List UInt8)} (h : comps ls = true) {t : List UInt8} (ht : t ∈ ls) : okc (str t) = true := List.all_eq_true.mp h t ht
theorem okc_ne {t : List UInt8} (h : okc (str t) = true) : t ≠ [] := fun e => by rw [e, okc_nil] at h; cases h
theorem okc_size {s : ByteArray} (h : okc s = true) : s.size ≤ 64 := by
  unfold okc at h
  simp only [Bool.and_eq_true, decide_eq_true_eq] at h
  exact h.2
theorem isP_parts {p : ByteArray} (h : isP p = true) : p.size ≤ 255 ∧ comps (prts p) = true ∧ 1 ≤ (prts p).length ∧ (prts p).length ≤ 16 ∧ 0 < p.size := by
  unfold isP at h
  simp only [Bool.and_eq_true, decide_eq_true_eq] at h
  refine ⟨h.1, h.2.1, h.2.2.1, h.2.2.2, ?_⟩
  rcases Nat.eq_zero_or_pos p.size with h0 | h0
  · have h1 := h.2.2.1
    rw [show prts p = [] from if_pos h0] at h1
    simp at h1
  · exact h0
/-- A component is a path, and has no directory. -/
theorem comp_path {p : ByteArray} (h : isP p = true) {t : List UInt8} (ht : t ∈ prts p) : isP (str t) = true ∧ dirOf (str t) = ⟨#[]⟩ := by
  obtain ⟨h1, h2, h3, h4, h5⟩ := isP_parts h
  have hok := comps_mem h2 ht
  have hsz := okc_size hok
  have hne : 0 < (str t).size := by rw [str_size]; exact List.length_pos_iff.mpr (okc_ne hok)
  have hfree : ∀ c ∈ t, c ≠ 47 := by
    unfold prts at ht
    rw [if_neg (by omega)] at ht
    exact cut_free _ [] (by simp) t ht
  constructor
  · have hp : prts (str t) = [t] := by
      unfold prts
      rw [if_neg (by omega), str_list, cut_none t [] hfree]
      rfl
    unfold isP
    rw [hp]
    unfold comps
    simp only [List.all_cons, List.all_nil, hok, List.length_cons, List.length_nil]
    rw [decide_eq_true (by omega)]
    rfl
  · rcases last_cases (str t) with ⟨hl, -⟩ | ⟨i, -, hi, he, -⟩
    · unfold dirOf
      rw [hl]
      refine ba_ext ?_
      rw [ext_bytes]
      rfl
    · rw [str_list] at he
      exact absurd rfl (hfree 47 (by rw [he]; simp))
/-- A valid path, its directory, its name. -/
structure PBk (p d m : ByteArray) (ls : List (List UInt8)) (z : Nat) : Prop where
  len : ls.length = z + 1
  last : ∃ h : z < ls.length, str ls[z] = m
  und : undr d m = p
  win : wthn d p = true
  self : wthn p p = false
  dir : d.size = 0 ∨ (0 < d.size ∧ isP d = true)
  ds : d.size ≤ 255
  ps : p.size ≤ 255
  far : ∀ q, wthn p q = true → p.size < q.size ∧ wthn d q = true
theorem wthn_some {d p : ByteArray} (h : 0 < d.size) : wthn d p = true ↔ d.size + 1 < p.size ∧ p.data.toList.take d.size = d.data.toList ∧ p.data.toList.getD d.size 0 = 47 := by
  unfold wthn
  rw [if_neg (by omega), ByteArray.toList_eq, ByteArray.toList_eq, ext_bytes, List.drop_zero, Nat.sub_zero]
  simp only [Bool.and_eq_true, decide_eq_true_eq, beq_iff_eq, and_assoc]
theorem pbk {p : ByteArray} (h : isP p = true) : ∃ z, PBk p (dirOf p) (nameOf p) (prts p) z := by
  obtain ⟨h1, h2, h3, h4, h5⟩ := isP_parts h
  have hprt : prts p = cut [] p.data.toList := if_neg (by omega)
  have hself : wthn p p = false := by
    cases hx : wthn p p with
    | false => rfl
    | true => have := wthn_size hx; omega
  rcases last_cases p with ⟨hl, hno⟩ | ⟨i, hl, hi, he, hno⟩
  · have hd : dirOf p = ⟨#[]⟩ := by
      unfold dirOf
      rw [hl]
      refine ba_ext ?_
      rw [ext_bytes]
      rfl
    have hm : nameOf p = p := by
      unfold nameOf
      rw [hl]
      refine ba_ext ?_
      rw [ext_bytes, List.drop_zero, Nat.sub_zero, take_all]
    have hc : prts p = [p.data.toList] := by rw [hprt, cut_none _ _ hno]; rfl
    have hd0 : (⟨#[]⟩ : ByteArray).size = 0 := rfl
    refine ⟨0, ?_⟩
    rw [hd, hm, hc]
    refine ⟨rfl, ⟨by simp, pt_self p⟩, undr_none hd0, ?_, hself, .inl hd0, by omega, h1, fun q hq => ⟨wthn_size hq, ?_⟩⟩
    · unfold wthn
      rw [if_pos hd0, bne_iff_ne]
      omega
    · have := wthn_size hq
      unfold wthn
      rw [if_pos hd0, bne_iff_ne]
      omega
  · obtain ⟨a, ha⟩ : ∃ a, a = p.data.toList.take i := ⟨_, rfl⟩
    obtain ⟨b, hb⟩ : ∃ b, b = p.data.toList.drop (i + 1) := ⟨_, rfl⟩
    have hal : a.length = i := by rw [ha, List.length_take, list_len]; omega
    have hbl : b.length + i + 1 = p.size := by rw [hb, List.length_drop, list_len]; omega
    have hd : (dirOf p).data.toList = a := by
      unfold dirOf
      rw [hl, ext_bytes, List.drop_zero, ha]
      rfl
    have hm : (nameOf p).data.toList = b := by
      unfold nameOf
      rw [hl, ext_bytes, List.take_of_length_le (by rw [List.length_drop, list_len]; omega), hb]
    rw [← ha, ← hb] at he
    rw [← hb] at hno
    have hc : prts p = cut [] a ++ [b] := by rw [hprt, he, cut_snoc a b [] hno]
    have hb0 : b ≠ [] := okc_ne (comps_mem h2 (t := b) (by rw [hc]; simp))
    have ha0 : a ≠ [] := fun e => by
      have hx := comps_mem h2 (t := []) (by rw [hc, e, cut]; simp)
      rw [okc_nil] at hx
      cases hx
    have hds : (dirOf p).size = i := by rw [← list_len, hd, hal]
    have hi0 : 0 < i := by rw [← hal]; exact List.length_pos_iff.mpr ha0
    have hb1 : 0 < b.length := List.length_pos_iff.mpr hb0
    have hcl : (cut [] a).length + 1 = (prts p).length := by rw [hc]; simp
    have hwin : wthn (dirOf p) p = true := (wthn_some (by omega)).mpr ⟨by omega, by rw [hds, ← ha, hd], by rw [hds, he, ← hal, getD_app]⟩
    refine ⟨(cut [] a).length, ?_⟩
    refine ⟨by omega, ⟨by omega, ?_⟩, ?_, hwin, hself, .inr ⟨by omega, ?_⟩, by omega, h1, fun q hq => ⟨wthn_size hq, ?_⟩⟩
    · refine ba_ext ?_
      rw [str_list, hm]
      simp only [hc]
      rw [List.getElem_append_right (Nat.le_refl _)]
      simp
    · refine ba_ext ?_
      rw [undr_list (by omega), hd, hm, he]
    · have hpd : prts (dirOf p) = cut [] a := by
        unfold prts
        rw [if_neg (by omega), hd]
      obtain ⟨x, xs, hx⟩ := cut_some a []
      unfold isP
      rw [hpd, decide_eq_true (by omega), decide_eq_true (show 1 ≤ (cut [] a).length by rw [hx]; simp), decide_eq_true (by omega)]
      rw [hc] at h2
      unfold comps at h2 ⊢
      rw [List.all_append, Bool.and_eq_true] at h2
      rw [h2.1]
      rfl
    · obtain ⟨q1, q2, q3⟩ := (wthn_some h5).mp hq
      have hq2 : q.data.toList.take i = a := by
        rw [ha, ← q2, List.take_take, Nat.min_eq_left (by omega)]
      refine (wthn_some (by omega)).mpr ⟨by omega, by rw [hds, hq2, hd], ?_⟩
      rw [hds]
      have e1 : q.data.toList.getD i 0 = p.data.toList.getD i 0 := by
        rw [List.getD_eq_getElem?_getD, List.getD_eq_getElem?_getD, ← q2, List.getElem?_take_of_lt hi]
      rw [e1, he, ← hal, getD_app]

/-- A world of the class. -/
structure PIW (w0 : World) where
  w : World
  h : PI w0 w
theorem wp_region_pi {P : Program} {id : Nat} {Q : Exit → Act → World → Prop} {a : Act} {w w0 : World} {l : List Oper} (hi : PI w0 w) (hm : P.follows .mixedOrders = true) (hB : Region.lexB .any l.toArray = true)
    (h : wpQuiet P l.toArray (fun w' => ∃ x : PIW w0, w' = x.w) (fun a' => ∀ w', (∃ x : PIW w0, w' = x.w) → Q .normal a' w') l a) : (Code.region id l.toArray true).wp P Q a w :=
  wp_region_quiet (C := fun w' => ∃ x : PIW w0, w' = x.w) hm hB ⟨⟨w.drew, hi.drewN 1⟩, rfl⟩ (by simpa using h)
theorem Calls.pi_class {P : Program} {f : FuncId} {args : Array Value} {w0 : World} {x : PIW w0} {v : Value} (h : Calls P f args x.w fun e w' => e = .returned v ∧ PI w0 w') :
    Calls P f args x.w fun e w'' => e = .returned v ∧ ∃ y : PIW w0, w'' = y.w :=
  h.mono fun _ w' ⟨he, hw⟩ => ⟨he, ⟨w', hw⟩, rfl⟩
theorem dir_class {w0 : World} (x : PIW w0) (s d : ByteArray) (hs : s.size ≤ 1048576) (hd : d = dirOf s) : Calls Tryd.prog 21 #[.string s] x.w fun e w'' => e = .returned (.string d) ∧ ∃ y : PIW w0, w'' = y.w :=
  (dir_any s x.w hs).mono fun _ _ h => ⟨by rw [h.1, hd], x, h.2.symm⟩
theorem name_class {w0 : World} (x : PIW w0) (s d : ByteArray) (hs : s.size ≤ 1048576) (hd : d = nameOf s) : Calls Tryd.prog 23 #[.string s] x.w fun e w'' => e = .returned (.string d) ∧ ∃ y : PIW w0, w'' = y.w :=
  (name_any s x.w hs).mono fun _ _ h => ⟨by rw [h.1, hd], x, h.2.symm⟩
theorem under_class {w0 : World} (x : PIW w0) (d m p : ByteArray) (hd : d.size ≤ 1048576) (hm : m.size ≤ 1048576) (hp : undr d m = p) : Calls Tryd.prog 27 #[.string d, .string m] x.w fun e w'' => e = .returned (.string p) ∧ ∃ y : PIW w0, w'' = y.w :=
  (under_any d m x.w hd hm).mono fun _ _ h => ⟨by rw [h.1, hp], x, h.2.symm⟩
theorem join_class {w0 : World} (x : PIW w0) (ls : List (List UInt8)) (p : Option Addr) (cap n : Nat) (r : ByteArray) (hn : n = ls.length) (hp : SRw w0 p ls) (hc : n ≤ cap) (hl : (jn ls).length ≤ 1048576) (hn2 : n ≤ 1048576) (hr : r = str (jn ls)) :
    Calls Tryd.prog 25 #[.slice p n cap] x.w fun e w'' => e = .returned (.string r) ∧ ∃ y : PIW w0, w'' = y.w :=
  Calls.pi_class ((pjoin_any ls p cap n r x.w hn (hp.below x.h.1) hc hl hn2 hr).mono fun _ _ h => ⟨h.1, x.h.step h.2⟩)

set_option maxHeartbeats 4000000 in
set_option maxRecDepth 4000 in
theorem ptBack_walk (p q : ByteArray) (W : World) (hp0 : p.size ≤ 140737488355328) (hq0 : q.size ≤ 140737488355328) (h0 : PI W W) :
    Calls Tryd.prog 5 #[.string p, .string q] W fun e W' => e = .returned (.bool true) ∧ Below W.heap.size W W' := by
  by_cases hs : p.size + q.size ≤ 2000
  · cases hB : isP p with
    | false =>
      have HB := Lib.hid hB
      clear hB
      go_enter Tryd.func5, Tryd.ntmps5
      go_wp2_with (first
        | (go_at_call 16; ((with_reducible refine (is_inv h0 p false (by omega) HB.out).mono ?_); rintro e w' ⟨rfl, hi⟩))
        | (go_at_call 15; ((with_reducible refine (lives_inv hi).mono ?_); rintro e w' ⟨rfl, hi⟩)))
      go_ret
      exact ⟨rfl, hi.1⟩
    | true =>
      have HB := Lib.hid hB
      obtain ⟨ls, hls⟩ : ∃ ls, ls = prts p := ⟨_, rfl⟩
      obtain ⟨n, hn⟩ : ∃ n, n = ls.length := ⟨_, rfl⟩
      obtain ⟨d, hd⟩ : ∃ d, d = dirOf p := ⟨_, rfl⟩
      obtain ⟨m, hm⟩ : ∃ m, m = nameOf p := ⟨_, rfl⟩
      have hms : m.size ≤ 2000 := by rw [hm, nameOf, ByteArray.size_extract]; omega
      obtain ⟨z, hz⟩ := pbk hB
      rw [← hd, ← hm, ← hls] at hz
      have hzn : n = z + 1 := by rw [hn, hz.len]
      have hn17 : n ≤ 300 := by rw [hn, hls]; have := prts_count p; have := hz.ps; omega
      have HCO : Hid (∀ k (h : k < ls.length), isP (str ls[k]) = true ∧ dirOf (str ls[k]) = ⟨#[]⟩ ∧ (str ls[k]).size ≤ 1048576) := fun k h => by
        have hmem : ls[k] ∈ prts p := by rw [← hls]; exact List.getElem_mem h
        obtain ⟨a, b⟩ := comp_path hB hmem
        exact ⟨a, b, by rw [str_size]; have := prts_len hmem; omega⟩
      have HJ : Hid ((jn ls).length ≤ 1048576) := by show _ ≤ _; rw [hls, jn_prts, list_len]; omega
      have HR : Hid (p = str (jn ls)) := by show _ = _; rw [hls, jn_prts]; exact (pt_self p).symm
      have hds := hz.ds
      have HL := Lib.hid hls
      have HN := Lib.hid hn
      have HD := Lib.hid hd
      have HM := Lib.hid hm
      have HZ := Lib.hid hz
      have HZN := Lib.hid hzn
      clear hls hn hd hm hz hB hzn
      go_enter Tryd.func5, Tryd.ntmps5
      go_wp2_with (first
        | (go_at_call 16; ((with_reducible refine (is_inv h0 p true (by omega) HB.out).mono ?_); rintro e w1 ⟨rfl, hi⟩))
        | (go_at_call 19; ((with_reducible refine (parts_inv hi p ls n (by omega) HL.out HN.out).mono ?_); rintro e w2 ⟨⟨p1, c1, rfl, hc1, r1⟩, hb⟩; have hi2 := hi.step hb; clear hb)))
      obtain ⟨hzl, hlast⟩ := HZ.out.last
      obtain ⟨g, o, rfl, hg, hc⟩ := r1 z hzl
      rw [hlast] at hc
      have hw2 : PI w2 w2 := ⟨Below.refl _ _, hi2.2⟩
      have hcell : ∀ x : PIW w2, x.w.cell? ⟨g, o + z, none⟩ = some (.string m) := fun x => (x.h.1.cell (p := ⟨g, o + z, none⟩) hg).trans hc
      have i1 : IntKind.i64.wrap ((n : Int) - 1) = (z : Int) := by rw [IntWalk.i64_in _ (by omega)]; have := HZN.out; omega
      have hzn := HZN.out
      have hzn2 : z < n := by omega
      have d1 : decide ((n : Int) < 1) = false := by simp; omega
      have d2 : ¬ ((n : Int) < 1) := by omega
      clear hlast hc hzl hzn hg
      have hq : Nonempty (PIW w2) := ⟨⟨w2, hw2⟩⟩
      refine wp_region_pi (w0 := w2) hw2 (by kernel_rfl) (by kernel_rfl) ?_
      repeat (go_big_quiet_step (first | (go_at_call 25; exact join_class _ ls _ c1 n p HN.out r1 hc1 HJ.out (by omega) HR.out) | (go_at_call 21; exact dir_class _ p d (by omega) HD.out) | (go_at_call 23; exact name_class _ p m (by omega) HM.out) | (go_at_call 27; exact under_class _ d m p (by omega) (by omega) HZ.out.und)))
      refine wpQuiet_nil ?_
      rintro _ ⟨x, rfl⟩
      have hx := x.h
      obtain ⟨w3, hw3⟩ : ∃ w3, w3 = x.w := ⟨_, rfl⟩
      rw [← hw3] at hx ⊢
      clear hw3 hcell hq i1 d1 d2
      have hx0 : PI W w3 := hi2.step hx.1
      have r3 := r1.below hx.1
      go_wp2
      go_loopw [6] (fun iv wr => ∃ k : Nat, iv = .int .i64 k ∧ k ≤ n ∧ PI W wr ∧ SRw wr (some ⟨g, o, none⟩) ls) (fun iv _ => n - (intOf iv).toNat)
      case atStart => exact ⟨0, rfl, by omega, hx0, r3⟩
      case round =>
        clear hx0 r3 hx r1 hw2 hi2 hi
        obtain ⟨k, rfl, hk, hpi, hr⟩ := hrel
        by_cases hlt : k < n
        · have hkl : k < ls.length := by rw [← HN.out]; exact hlt
          obtain ⟨g', o', he, hg, hc⟩ := hr k hkl
          simp only [Option.some.injEq, Addr.mk.injEq, and_true] at he
          obtain ⟨rfl, rfl⟩ := he
          obtain ⟨t, ht⟩ : ∃ t, t = str ls[k] := ⟨_, rfl⟩
          obtain ⟨c1', c2', c3'⟩ := HCO.out k hkl
          rw [← ht] at hc c1' c2' c3'
          have H1 : Hid (isP t = true) := c1'
          have H2 : Hid ((⟨#[]⟩ : ByteArray) = dirOf t) := c2'.symm
          have hpp : PI wr wr := ⟨Below.refl _ _, hpi.2⟩
          clear ht hkl c1' c2'
          go_wp2_with (first
            | (go_at_call 16; ((with_reducible refine (is_inv hpp t true c3' H1.out).mono ?_); rintro e w4 ⟨rfl, hi4⟩; have hc4 := (hi4.1.cell (p := ⟨g, o + k, none⟩) hg).trans hc))
            | (go_at_call 21; ((with_reducible refine (dir_any t _ c3').mono ?_); rintro e w5 ⟨rfl, rfl⟩; rw [← H2.out])))
          go_roundw
          case rel => exact ⟨k + 1, by go_num, by omega, hpi.step hi4.1, hr.below hi4.1⟩
          case measure => simp [intOf]; omega
        · have HDD : Hid (∀ w, Calls Tryd.prog 21 #[.string p] w fun e w' => e = .returned (.string d) ∧ w = w') := fun w => by rw [HD.out]; exact dir_any p w (by omega)
          have HW1 : Hid (∀ w, Calls Tryd.prog 29 #[.string d, .string p] w fun e w' => e = .returned (.bool true) ∧ w = w') := fun w => by rw [← HZ.out.win]; exact within_any d p w (by omega) (by omega)
          have HW2 : Hid (∀ w, Calls Tryd.prog 29 #[.string p, .string p] w fun e w' => e = .returned (.bool false) ∧ w = w') := fun w => by rw [← HZ.out.self]; exact within_any p p w (by omega) (by omega)
          cases hB3 : wthn p q with
          | false =>
            have HW3 : Hid (∀ w, Calls Tryd.prog 29 #[.string p, .string q] w fun e w' => e = .returned (.bool false) ∧ w = w') := fun w => by rw [← hB3]; exact within_any p q w (by omega) (by omega)
            have HW4 := HW3
            rcases HZ.out.dir with hz0 | ⟨hz0, hzd⟩
            · have he := none_true hz0
              clear hB3 hz0
              have HDI : Hid (isP p = true) := HB.out
              go_wp2_with (first
              | (go_at_call 21; ((with_reducible refine (HDD.out _).mono ?_); rintro e w5 ⟨rfl, rfl⟩))
              | (go_at_call 16; ((with_reducible refine (is_inv hpi d true (by omega) HDI.out).mono ?_); rintro e w4 ⟨rfl, hpi⟩))
              | (go_at_call 29; first | ((with_reducible refine (HW1.out _).mono ?_); rintro e w' ⟨rfl, rfl⟩) | ((with_reducible refine (HW2.out _).mono ?_); rintro e w' ⟨rfl, rfl⟩) | ((with_reducible refine (HW3.out _).mono ?_); rintro e w' ⟨rfl, rfl⟩) | ((with_reducible refine (HW4.out _).mono ?_); rintro e w' ⟨rfl, rfl⟩))
              | (go_at_call 15; ((with_reducible refine (lives_inv hpi).mono ?_); rintro e w' ⟨rfl, hi⟩)))
              go_ret
              exact ⟨rfl, hi.1⟩
            · have he := none_false hz0
              have HDI := Lib.hid hzd
              clear hB3 hz0 hzd
              go_wp2_with (first
              | (go_at_call 21; ((with_reducible refine (HDD.out _).mono ?_); rintro e w5 ⟨rfl, rfl⟩))
              | (go_at_call 16; ((with_reducible refine (is_inv hpi d true (by omega) HDI.out).mono ?_); rintro e w4 ⟨rfl, hpi⟩))
              | (go_at_call 29; first | ((with_reducible refine (HW1.out _).mono ?_); rintro e w' ⟨rfl, rfl⟩) | ((with_reducible refine (HW2.out _).mono ?_); rintro e w' ⟨rfl, rfl⟩) | ((with_reducible refine (HW3.out _).mono ?_); rintro e w' ⟨rfl, rfl⟩) | ((with_reducible refine (HW4.out _).mono ?_); rintro e w' ⟨rfl, rfl⟩))
              | (go_at_call 15; ((with_reducible refine (lives_inv hpi).mono ?_); rintro e w' ⟨rfl, hi⟩)))
              go_ret
              exact ⟨rfl, hi.1⟩
          | true =>
            obtain ⟨hlen, hfar⟩ := HZ.out.far q hB3
            have HW3 : Hid (∀ w, Calls Tryd.prog 29 #[.string p, .string q] w fun e w' => e = .returned (.bool true) ∧ w = w') := fun w => by rw [← hB3]; exact within_any p q w (by omega) (by omega)
            have HW4 : Hid (∀ w, Calls Tryd.prog 29 #[.string d, .string q] w fun e w' => e = .returned (.bool true) ∧ w = w') := fun w => by rw [← hfar]; exact within_any d q w (by omega) (by omega)
            rcases HZ.out.dir with hz0 | ⟨hz0, hzd⟩
            · have he := none_true hz0
              clear hB3 hz0 hfar
              have HDI : Hid (isP p = true) := HB.out
              go_wp2_with (first
              | (go_at_call 21; ((with_reducible refine (HDD.out _).mono ?_); rintro e w5 ⟨rfl, rfl⟩))
              | (go_at_call 16; ((with_reducible refine (is_inv hpi d true (by omega) HDI.out).mono ?_); rintro e w4 ⟨rfl, hpi⟩))
              | (go_at_call 29; first | ((with_reducible refine (HW1.out _).mono ?_); rintro e w' ⟨rfl, rfl⟩) | ((with_reducible refine (HW2.out _).mono ?_); rintro e w' ⟨rfl, rfl⟩) | ((with_reducible refine (HW3.out _).mono ?_); rintro e w' ⟨rfl, rfl⟩) | ((with_reducible refine (HW4.out _).mono ?_); rintro e w' ⟨rfl, rfl⟩))
              | (go_at_call 15; ((with_reducible refine (lives_inv hpi).mono ?_); rintro e w' ⟨rfl, hi⟩)))
              go_ret
              exact ⟨rfl, hi.1⟩
            · have he := none_false hz0
              have HDI := Lib.hid hzd
              clear hB3 hz0 hzd hfar
              go_wp2_with (first
              | (go_at_call 21; ((with_reducible refine (HDD.out _).mono ?_); rintro e w5 ⟨rfl, rfl⟩))
              | (go_at_call 16; ((with_reducible refine (is_inv hpi d true (by omega) HDI.out).mono ?_); rintro e w4 ⟨rfl, hpi⟩))
              | (go_at_call 29; first | ((with_reducible refine (HW1.out _).mono ?_); rintro e w' ⟨rfl, rfl⟩) | ((with_reducible refine (HW2.out _).mono ?_); rintro e w' ⟨rfl, rfl⟩) | ((with_reducible refine (HW3.out _).mono ?_); rintro e w' ⟨rfl, rfl⟩) | ((with_reducible refine (HW4.out _).mono ?_); rintro e w' ⟨rfl, rfl⟩))
              | (go_at_call 15; ((with_reducible refine (lives_inv hpi).mono ?_); rintro e w' ⟨rfl, hi⟩)))
              go_ret
              exact ⟨rfl, hi.1⟩
  · go_enter Tryd.func5, Tryd.ntmps5
    go_wp2_with (go_at_call 15; ((with_reducible refine (lives_inv (by assumption)).mono ?_); rintro e w' ⟨rfl, hi⟩))
    go_ret
    exact ⟨rfl, hi.1⟩
end Go.Proofs.YtlgagfjflaiajaaDoor
