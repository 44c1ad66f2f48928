/-
  The walk of firstToMeet.
-/
import Derived.Test.YtdgcmapmnkopaaaDoorPtMeetPlain
import Derived.Test.YtdgcmapmnkopaaaDoorPtParts
import Derived.Test.YtdgcmapmnkopaaaDoorPtWithin
namespace Go.Proofs.YtdgcmapmnkopaaaDoor
open Go.RowKit Go.Maps Go.WideMaps

theorem str_keyed : Keyed Tryd.prog 9 := string_keyed Tryd.underlying9
theorem int_keyd : Keyed Tryd.prog 3 := int_keyed Tryd.underlying3
theorem zero_int (w : World) : (zeroValue 3).run Tryd.prog w = .ok (.int .i64 0) w := by kernel_rfl
theorem zero_bool (w : World) : (zeroValue 4).run Tryd.prog w = .ok (.bool false) w := by kernel_rfl
theorem make_si (n : Int) (w : World) : (Instr.makeMap 60 (some (.int .i64 n))).run Tryd.prog w = .ok (.map (some w.heap.size)) (w.alloc (.map #[] 0)) := by kernel_rfl
theorem make_ib (w : World) : (Instr.makeMap 61 none).run Tryd.prog w = .ok (.map (some w.heap.size)) (w.alloc (.map #[] 0)) := by kernel_rfl
abbrev Mi (w : World) (b n : Nat) (D : DataW Unit) : Prop := w.ownsMap Tryd.prog 9 (plainElem (H := Unit) Tryd.prog 3) b n D
abbrev Mz (w : World) (b n : Nat) (D : DataW Unit) : Prop := w.ownsMap Tryd.prog 3 (plainElem (H := Unit) Tryd.prog 4) b n D
theorem plainElem_bool_inv {H : Type} {P : Program} {e : TypeId} (he : P.underlying e = some .bool) {v : Value} {z : DataW H × List MemPlace} (h : plainElem P e v = some z) : ∃ b, v = .bool b ∧ z = (.lit (.bool b), []) := by
  unfold plainElem at h
  rw [he] at h
  cases v <;> simp at h
  exact ⟨_, rfl, h.symm⟩
theorem mz_look {w : World} {b n : Nat} {D : DataW Unit} (h : Mz w b n D) {m : Nat} (hm : m ≤ 1048576) {B : Bool} (hat : D.atKey (.int .i64 (m : Int)) (.lit (.bool false)) = .lit (.bool B)) :
    (Instr.lookup 61 (.map (some b)) (.int .i64 (m : Int)) false).run Tryd.prog w = .ok (.bool B) w := by
  obtain ⟨v, ps, h1, h2⟩ := h.lookup int_keyd Tryd.underlying61 (zero_bool w) (plainElem_bool Tryd.underlying4 false) (keyOf_int_mk (a := (m : Int)) Tryd.underlying3 (WalkArith.wf_i64 (by omega)))
  rw [hat] at h2
  obtain ⟨c, rfl, hc⟩ := plainElem_bool_inv Tryd.underlying4 h2
  simp only [Prod.mk.injEq, DataW.lit.injEq, Lit.bool.injEq] at hc
  rw [hc.1]
  exact h1
theorem if_min {a b c q : Int} (h : min (min a b) c = q) : (if c < if b < a then b else a then c else if b < a then b else a) = q := by
  have e1 : (if b < a then b else a) = min a b := by split <;> omega
  rw [e1]
  split <;> omega
theorem getD_in (ls : List (List UInt8)) (k : Nat) (h : k < ls.length) : ls.getD k [] = ls[k] := by
  rw [List.getD_eq_getElem?_getD, List.getElem?_eq_getElem h]
  rfl
theorem pre_eq {ls : List (List UInt8)} {i k m : Nat} (h : W2 ls i k) (hm : (ls.getD i []).length = m) : str (ls.getD i []) = (str (ls.getD k [])).extract 0 m := by
  have := wthn_pre h
  rwa [str_size, hm] at this
theorem take_str (l : List UInt8) (m : Nat) : ((str l).extract 0 m).data.toList = l.take m := by rw [ext_bytes, List.drop_zero, Nat.sub_zero, str_list]

def P1 (ls : List (List UInt8)) (f k : Nat) : Prop := Fp ls f ∧ D1 ls f k
def P2 (ls : List (List UInt8)) (f k : Nat) : Prop := Fp ls f ∧ D1 ls f ls.length ∧ D2 ls f k
def P3 (ls : List (List UInt8)) (f k m : Nat) : Prop := Fp ls f ∧ D1 ls f ls.length ∧ D2 ls f k ∧ D3 ls f k m
theorem P1.found {ls : List (List UInt8)} {f k f0 : Nat} (h : P1 ls f k) (hk : k < ls.length) (hf : f0 < k) (he : ls.getD f0 [] = ls.getD k []) (hno : ∀ j, j < f0 → ls.getD j [] ≠ ls.getD k []) : P1 ls (min f f0) (k + 1) := by
  refine ⟨h.1.min (fp_same (by omega) hk (by omega) he), fun i j a b c => ?_⟩
  rcases Nat.lt_or_ge j k with hl | hl
  · exact Nat.le_trans (Nat.min_le_left _ _) (h.2 i j a hl c)
  · obtain rfl : j = k := by omega
    rcases Nat.lt_or_ge i f0 with hi | hi
    · exact absurd c (hno i hi)
    · exact Nat.le_trans (Nat.min_le_right _ _) hi
theorem P1.fresh {ls : List (List UInt8)} {f k : Nat} (h : P1 ls f k) (hno : ∀ j, j < k → ls.getD j [] ≠ ls.getD k []) : P1 ls f (k + 1) := by
  refine ⟨h.1, fun i j a b c => ?_⟩
  rcases Nat.lt_or_ge j k with hl | hl
  · exact h.2 i j a hl c
  · obtain rfl : j = k := by omega
    exact absurd c (hno i a)
theorem P3.hit {ls : List (List UInt8)} {f k m d : Nat} (h : P3 ls f k m) (hk : k < ls.length) (hd : d < ls.length) (he : ls.getD d [] = (ls.getD k []).take m) (hw : wthn ((str (ls.getD k [])).extract 0 m) (str (ls.getD k [])) = true) (hno : ∀ j, j < d → ls.getD j [] ≠ (ls.getD k []).take m) :
    P3 ls (min (min f d) k) k (m + 1) := by
  have hW : W2 ls d k := by
    unfold W2
    rw [show str (ls.getD d []) = (str (ls.getD k [])).extract 0 m from ba_ext (by rw [str_list, he, take_str])]
    exact hw
  have hfp := fp_in hd hk hW
  have hle : min (min f d) k ≤ f := by omega
  exact ⟨(h.1.min hfp.1).min hfp.2, h.2.1.mono hle, h.2.2.1.mono hle, h.2.2.2.hit hle (by omega) (by omega) hno⟩
theorem P3.miss {ls : List (List UInt8)} {f k m : Nat} (h : P3 ls f k m) (hn : ∀ i, i < ls.length → (ls.getD i []).length = m → ¬ W2 ls i k) : P3 ls f k (m + 1) := ⟨h.1, h.2.1, h.2.2.1, h.2.2.2.skip hn⟩

set_option maxHeartbeats 4000000 in
set_option maxRecDepth 4000 in
theorem firstM_any (ls : List (List UInt8)) (p : Option Addr) (cap n : Nat) (w : World) (hn : n = ls.length) (hp : SRw w p ls) (hn2 : n ≤ 1048576) (hs : ∀ t ∈ ls, t.length ≤ 1048576) :
    Calls Tryd.prog 52 #[.slice p n cap] w fun e w' => (∃ f : Nat, e = .returned (.int .i64 f) ∧ Fm ls f) ∧ Below w.heap.size w w' := by
  have hmm := make_si n w
  have hmz := make_ib (w.alloc (.map #[] 0))
  rw [show (w.alloc (.map #[] 0)).heap.size = w.heap.size + 1 by simp] at hmz
  have hm1 : Mi ((w.alloc (.map #[] 0)).alloc (.map #[] 0)) w.heap.size 0 (Ci ls 0) := (World.ownsMap_made (H := Unit) w Tryd.prog 9 (plainElem Tryd.prog 3)).alloc _
  have hz1 : Mz ((w.alloc (.map #[] 0)).alloc (.map #[] 0)) (w.heap.size + 1) 0 (Zi ls 0) := by
    have h := World.ownsMap_made (H := Unit) (w.alloc (.map #[] 0)) Tryd.prog 3 (plainElem Tryd.prog 4)
    rw [show (w.alloc (.map #[] 0)).heap.size = w.heap.size + 1 by simp] at h
    exact h
  have hb1 : Below w.heap.size w ((w.alloc (.map #[] 0)).alloc (.map #[] 0)) := below_new (below_new (Below.refl _ _) _) _
  have hs1 : w.heap.size + 2 ≤ ((w.alloc (.map #[] 0)).alloc (.map #[] 0)).heap.size := by simp
  obtain ⟨w1, hw1⟩ : ∃ w1, w1 = (w.alloc (.map #[] 0)).alloc (.map #[] 0) := ⟨_, rfl⟩
  rw [← hw1] at hm1 hz1 hb1 hs1 hmz
  have HP0 : Hid (P1 ls n 0) := ⟨.inl hn, fun i j a b c => absurd b (Nat.not_lt_zero _)⟩
  have HN := Lib.hid hn
  have HS := Lib.hid hs
  clear hn hs hw1
  go_enter Tryd.func52, Tryd.ntmps52
  go_wp2
  go_loopw [3, 23] (fun fv i wr => ∃ (k f : Nat), k ≤ n ∧ i = .int .i64 k ∧ fv = .int .i64 f ∧ f ≤ n ∧ Hid (P1 ls f k) ∧ Mi wr w.heap.size k (Ci ls k) ∧ Mz wr (w.heap.size + 1) k (Zi ls k) ∧ Below w.heap.size w wr ∧ w.heap.size + 2 ≤ wr.heap.size) (fun _ i _ => n - (intOf i).toNat)
  case atStart => exact ⟨0, n, by omega, rfl, rfl, Nat.le_refl _, HP0, hm1, hz1, hb1, hs1⟩
  case round =>
    clear HP0 hm1 hz1 hb1 hs1 hmm hmz
    obtain ⟨k, f, hk, rfl, rfl, hf, HPP, hmi, hmz, hbel, hsz⟩ := hrel
    by_cases hlt : k < n
    · have hkl : k < ls.length := by rw [← HN.out]; exact hlt
      obtain ⟨g, o, rfl, hg, hc⟩ := (hp.below hbel) k hkl
      obtain ⟨t, ht⟩ : ∃ t, t = str ls[k] := ⟨_, rfl⟩
      rw [← ht] at hc
      have hts : t.size ≤ 1048576 := by rw [ht, str_size]; exact HS.out _ (List.getElem_mem hkl)
      obtain ⟨D, hD⟩ : ∃ D, D = Ci ls k := ⟨_, rfl⟩
      obtain ⟨Z, hZ⟩ : ∃ Z, Z = Zi ls k := ⟨_, rfl⟩
      obtain ⟨K, hK⟩ : ∃ K, K = pk (ls.getD k []) := ⟨_, rfl⟩
      have hkey : keyOf Tryd.prog 9 (.string t) = some K := by
        rw [keyOf_string_mk Tryd.underlying9 (by unfold maxLen; omega), ht, str_list, hK, getD_in ls k hkl]
        rfl
      have hlook := Ci_look ls (ls.getD k []) k
      rw [← hD, ← hK] at hlook
      rcases hlook with ⟨l1, l2⟩ | ⟨f0, l1, l2, l3, l4, l5⟩
      · have HQ : Hid (P1 ls f (k + 1)) := HPP.out.fresh l1
        have HD : Hid (D.put K (.lit (.int .i64 (k : Int))) = Ci ls (k + 1)) := by show _ = _; rw [Ci, ← hD, ← hK, l2, if_neg (by decide)]
        have HZ : Hid (Z.put (.int .i64 (t.size : Int)) (.lit (.bool true)) = Zi ls (k + 1)) := by
          show _ = _
          rw [Zi, ← hD, ← hZ, ← hK, l2, if_neg (by decide), ht, str_size, getD_in ls k hkl]
        have hkz : keyOf Tryd.prog 3 (.int .i64 (t.size : Int)) = some (.int .i64 (t.size : Int)) := keyOf_int_mk Tryd.underlying3 (WalkArith.wf_i64 (by omega))
        rw [← hD] at hmi
        rw [← hZ] at hmz
        clear hD hZ hK l1 ht hkl HPP
        go_wp2_with (first
          | (at_lookup; refine wpList_lookup_own_ok_int _ rfl _ _ 60 rfl 9 3 .i64 str_keyed Tryd.underlying60 Tryd.underlying3 (zero_int _) w.heap.size k D rfl hmi _ _ rfl hkey ?_; intro c hat hwc)
          | (at_mapUpdate; refine wpList_mapUpdate_own _ rfl _ _ _ 60 rfl 9 3 str_keyed Tryd.underlying60 _ w.heap.size k D rfl hmi (by unfold maxLen; omega) _ _ _ rfl rfl hkey _ [] (plainElem_int Tryd.underlying3 (WalkArith.wf_i64 (by omega))) ?_; intro w3 hm3 hg3; have hz3 := hmz.kept hg3 (by simp))
          | (at_mapUpdate; refine wpList_mapUpdate_own _ rfl _ _ _ 61 rfl 3 4 int_keyd Tryd.underlying61 _ (w.heap.size + 1) k Z rfl hz3 (by unfold maxLen; omega) _ _ _ rfl rfl hkz _ [] (plainElem_bool Tryd.underlying4 true) ?_; intro w4 hz4 hg4; have hm4 := hm3.kept hg4 (by simp)))
        have hb3 : Below w.heap.size w w3 := hbel.grown hg3 (by omega) (fun j hj => by cases hj; exact Nat.le_refl _)
        have hs3 := hg3.size
        have hs4 := hg4.size
        have hb4 : Below w.heap.size w w4 := hb3.grown hg4 (by omega) (fun j hj => by cases hj; exact Nat.le_succ _)
        go_roundw
        case rel => exact ⟨k + 1, f, by omega, by go_num, rfl, hf, HQ, by rw [HD.out] at hm4; exact hm4, by rw [HZ.out] at hz4; exact hz4, hb4, by omega⟩
        case measure => simp [intOf]; omega
      · obtain ⟨q, hq⟩ : ∃ q, q = min f f0 := ⟨_, rfl⟩
        have HQ : Hid (P1 ls q (k + 1)) := by rw [hq]; exact HPP.out.found hkl l1 l2 l3
        have HD : Hid (Ci ls (k + 1) = D) := by show _ = _; rw [Ci, ← hD, ← hK, l4, if_pos rfl]
        have HZ : Hid (Zi ls (k + 1) = Z) := by show _ = _; rw [Zi, ← hD, ← hZ, ← hK, l4, if_pos rfl]
        have L5 : Hid (∀ z, D.atKey K z = .lit (.int .i64 (f0 : Int))) := l5
        have hqn : q ≤ n := by omega
        have HM : Hid ((min (f : Int) (f0 : Int)) = (q : Int)) := by show _ = _; omega
        rw [← hD] at hmi
        rw [← hZ] at hmz
        clear hD hZ hK l1 l2 l3 l5 ht hkl HPP hq
        go_wp2_with (at_lookup; refine wpList_lookup_own_ok_int _ rfl _ _ 60 rfl 9 3 .i64 str_keyed Tryd.underlying60 Tryd.underlying3 (zero_int _) w.heap.size k D rfl hmi _ _ rfl hkey ?_; intro c hat hwc; have hmin : min (f : Int) c = (q : Int) := (by have e := (L5.out _).symm.trans hat; simp only [DataW.lit.injEq, Lit.int.injEq, true_and] at e; rw [← e]; exact HM.out); clear hat hwc)
        go_roundw
        case rel => exact ⟨k + 1, q, by omega, by go_num, rfl, hqn, HQ, by rw [HD.out]; exact hmi.mono (Nat.le_succ _), by rw [HZ.out]; exact hmz.mono (Nat.le_succ _), hbel, hsz⟩
        case measure => simp [intOf]; omega
    · obtain rfl : k = n := by omega
      have HP2 : Hid (P2 ls f 0) := ⟨HPP.out.1, by rw [← HN.out]; exact HPP.out.2, fun i j a b c => absurd b (Nat.not_lt_zero _)⟩
      clear HPP hlt hk
      obtain ⟨W, rfl⟩ : ∃ W, W = wr := ⟨_, rfl⟩
      obtain ⟨n, rfl⟩ : ∃ n, n = k := ⟨_, rfl⟩
      have hpW := hp.below hbel
      go_wp2
      go_loopw [3, 47] (fun fv i wr => ∃ (k f : Nat), k ≤ n ∧ i = .int .i64 k ∧ fv = .int .i64 f ∧ f ≤ n ∧ Hid (P2 ls f k) ∧ wr = W) (fun _ i _ => n - (intOf i).toNat)
      case atStart => exact ⟨0, f, by omega, rfl, rfl, hf, HP2, rfl⟩
      case round =>
        clear HP2 hf
        obtain ⟨k, f, hk, rfl, rfl, hf, HPP, rfl⟩ := hrel
        by_cases hlt : k < n
        · have hkl : k < ls.length := by rw [← HN.out]; exact hlt
          obtain ⟨g, o, rfl, hg, hc⟩ := hpW k hkl
          obtain ⟨t, ht⟩ : ∃ t, t = str (ls.getD k []) := ⟨_, rfl⟩
          rw [← getD_in ls k hkl, ← ht] at hc
          have hts : t.size ≤ 1048576 := by rw [ht, str_size, getD_in ls k hkl]; exact HS.out _ (List.getElem_mem hkl)
          have HP3 : Hid (P3 ls f k 0) := ⟨HPP.out.1, HPP.out.2.1, HPP.out.2.2, D3.start _ _ _⟩
          have HT : Hid (t = str (ls.getD k [])) := ht
          have HK : Hid (k < ls.length) := hkl
          clear ht hkl HPP
          go_wp2
          go_loopw [3, 54] (fun fv i wr2 => ∃ (m f : Nat), m ≤ t.size ∧ i = .int .i64 m ∧ fv = .int .i64 f ∧ f ≤ n ∧ Hid (P3 ls f k m) ∧ wr2 = wr) (fun _ i _ => t.size - (intOf i).toNat)
          case atStart => exact ⟨0, f, by omega, rfl, rfl, hf, HP3, rfl⟩
          case round =>
            clear HP3 hf
            obtain ⟨m, f, hm, rfl, rfl, hf, HPP, rfl⟩ := hrel
            by_cases hmt : m < t.size
            · obtain ⟨d, hd⟩ : ∃ d, d = t.extract 0 m := ⟨_, rfl⟩
              have hds : d.size ≤ 1048576 := by rw [hd, ByteArray.size_extract]; omega
              obtain ⟨B, hB⟩ : ∃ B, B = wthn d t := ⟨_, rfl⟩
              have HC : Hid (∀ w, Calls Tryd.prog 29 #[.string (t.extract 0 m), .string t] w fun e w' => e = .returned (.bool B) ∧ w = w') := fun w => by
                have h := within_any d t w hds hts
                rw [← hB, hd] at h
                exact h
              cases B with
              | false =>
                have HQ : Hid (P3 ls f k (m + 1)) := HPP.out.miss fun i hi hl hw => by
                  have e := pre_eq hw hl
                  rw [← HT.out, ← hd] at e
                  unfold W2 at hw
                  rw [← HT.out, e, ← hB] at hw
                  cases hw
                clear hB hd HPP hds
                go_wp2_with (go_at_call 29; ((with_reducible refine (HC.out _).mono ?_); rintro e w1 ⟨rfl, rfl⟩))
                go_roundw
                case rel => exact ⟨m + 1, f, by omega, by go_num, rfl, hf, HQ, trivial⟩
                case measure => simp [intOf]; omega
              | true =>
                obtain ⟨B2, b1, -, b3⟩ := Zi_look ls m n
                have hlk := mz_look hmz (by omega) b3
                cases B2 with
                | false =>
                  have HQ : Hid (P3 ls f k (m + 1)) := HPP.out.miss fun i hi hl hw => b1 rfl i (by rw [HN.out]; exact hi) hl
                  clear hB hd HPP hds b1 b3
                  go_wp2_with (go_at_call 29; ((with_reducible refine (HC.out _).mono ?_); rintro e w1 ⟨rfl, rfl⟩))
                  go_roundw
                  case rel => exact ⟨m + 1, f, by omega, by go_num, rfl, hf, HQ, trivial⟩
                  case measure => simp [intOf]; omega
                | true =>
                  clear b1 b3
                  have hlook := Ci_look ls ((ls.getD k []).take m) n
                  obtain ⟨D, hD⟩ : ∃ D, D = Ci ls n := ⟨_, rfl⟩
                  obtain ⟨K, hK⟩ : ∃ K, K = pk ((ls.getD k []).take m) := ⟨_, rfl⟩
                  have hkey : keyOf Tryd.prog 9 (.string (t.extract 0 m)) = some K := by
                    rw [keyOf_string_mk Tryd.underlying9 (by rw [ByteArray.size_extract]; unfold maxLen; omega), HT.out, take_str, hK]
                    rfl
                  rw [← hD, ← hK] at hlook
                  have hmi2 := hmi
                  rw [← hD] at hmi2
                  rcases hlook with ⟨l1, l2⟩ | ⟨f0, l1, l2, l3, l4, l5⟩
                  · have HQ : Hid (P3 ls f k (m + 1)) := HPP.out.miss fun i hi hl hw => by
                      have e := congrArg (fun x => x.data.toList) (pre_eq hw hl)
                      simp only [str_list, take_str] at e
                      exact l1 i (by rw [HN.out]; exact hi) e
                    clear hB hd HPP hds l1 hD hK
                    go_wp2_with (first
                      | (go_at_call 29; ((with_reducible refine (HC.out _).mono ?_); rintro e w1 ⟨rfl, rfl⟩))
                      | (at_lookup; refine wpList_lookup_own_ok_int _ rfl _ _ 60 rfl 9 3 .i64 str_keyed Tryd.underlying60 Tryd.underlying3 (zero_int _) w.heap.size n D rfl hmi2 _ _ rfl hkey ?_; intro c hat hwc))
                    go_roundw
                    case rel => exact ⟨m + 1, f, by omega, by go_num, rfl, hf, HQ, trivial⟩
                    case measure => simp [intOf]; omega
                  · obtain ⟨q, hq⟩ : ∃ q, q = min (min f f0) k := ⟨_, rfl⟩
                    have HQ : Hid (P3 ls q k (m + 1)) := by
                      rw [hq]
                      refine HPP.out.hit HK.out (by rw [← HN.out]; exact l1) l2 ?_ l3
                      rw [← HT.out, ← hd]
                      exact hB.symm
                    have L5 : Hid (∀ z, D.atKey K z = .lit (.int .i64 (f0 : Int))) := l5
                    have hqn : q ≤ n := by omega
                    have HM : Hid (min (min (f : Int) (f0 : Int)) (k : Int) = (q : Int)) := by show _ = _; omega
                    clear hB hd HPP hds l1 l2 l3 l5 hD hK hq
                    go_wp2_with (first
                      | (go_at_call 29; ((with_reducible refine (HC.out _).mono ?_); rintro e w1 ⟨rfl, rfl⟩))
                      | (at_lookup; refine wpList_lookup_own_ok_int _ rfl _ _ 60 rfl 9 3 .i64 str_keyed Tryd.underlying60 Tryd.underlying3 (zero_int _) w.heap.size n D rfl hmi2 _ _ rfl hkey ?_; intro c hat hwc; have hmin : min (min (f : Int) c) (k : Int) = (q : Int) := (by have e := (L5.out _).symm.trans hat; simp only [DataW.lit.injEq, Lit.int.injEq, true_and] at e; rw [← e]; exact HM.out); clear hat hwc))
                    go_roundw
                    case rel => exact ⟨m + 1, q, by omega, by go_num, congrArg (Value.int .i64) (if_min hmin), hqn, HQ, trivial⟩
                    case measure => simp [intOf]; omega
            · have HQ : Hid (P2 ls f (k + 1)) := ⟨HPP.out.1, HPP.out.2.1, HPP.out.2.2.1.next HPP.out.2.2.2 (by have h := HT.out; have h2 := congrArg ByteArray.size h; rw [str_size] at h2; omega)⟩
              clear HPP
              go_wp2
              go_roundw
              case rel => exact ⟨k + 1, f, by omega, by go_num, rfl, hf, HQ, trivial⟩
              case measure => simp [intOf]; omega
        · obtain rfl : k = n := by omega
          have HQ : Hid (Fm ls f) := fm_of HPP.out.1 HPP.out.2.1 (by rw [← HN.out]; exact HPP.out.2.2)
          go_wp2
          go_ret
          exact ⟨⟨f, rfl, HQ.out⟩, hbel⟩
end Go.Proofs.YtdgcmapmnkopaaaDoor
