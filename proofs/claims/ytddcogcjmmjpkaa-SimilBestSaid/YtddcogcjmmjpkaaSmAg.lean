/-
  The walk of the function that against makes.
-/
import Derived.Test.YtddcogcjmmjpkaaSmWalk
import Derived.Test.YtddcogcjmmjpkaaSmPlain2
namespace Go.Proofs.Ytddcogcjmmjpkaa
open Go.RowKit Go.Maps Go.WideMaps

theorem shr_take_le (x y : List (List UInt8)) (k : Nat) : shr x (y.take k) ≤ (join y).length := by
  have h1 := shr_le2 x (y.take k)
  have h2 := join_take_le y k
  omega

set_option maxHeartbeats 2000000 in
set_option maxRecDepth 4000 in
theorem against1_any (s : ByteArray) (la : List (List UInt8)) (B r : Nat) (w : World) (hs : s.size ≤ 1048576) (hag : Ag w la B) (hl : la.length ≤ 1048576) (hr : r = shr la (split s.data.toList)) :
    Calls Try.prog 94 #[.string s, .pointer (some ⟨B, 0, none⟩)] w fun e w' => e = .returned (.int .i64 r) ∧ Below w.heap.size w w' := by
  obtain ⟨lb, hlb⟩ : ∃ lb, lb = split s.data.toList := ⟨_, rfl⟩
  obtain ⟨n, hn⟩ : ∃ n, n = lb.length := ⟨_, rfl⟩
  have hn1 : n ≤ 1048576 := by rw [hn, hlb]; have := split_lines s; omega
  have hxs : ∀ x ∈ lb, x.length ≤ 1048576 := fun x hx => by rw [hlb] at hx; have := split_line_le s hx; omega
  have hjn : (join lb).length ≤ 1048576 := by rw [hlb, split_join, list_len]; exact hs
  have hmm := make_map0 (w := w)
  have HSP : Hid (∀ W, Calls Try.prog 72 #[.string s] W fun e w' => (∃ p cap, e = .returned (.slice p n cap) ∧ SRw w' p lb) ∧ Below W.heap.size W w') := fun W => by
    have h := split_any s W hs n (by rw [hn, hlb])
    rw [← hlb] at h
    exact h
  rw [← hlb] at hr
  obtain ⟨M, n0, D0, hbx, hM0, hI0⟩ := hag
  have HN := Lib.hid hn
  have HX := Lib.hid hxs
  have HJ := Lib.hid hjn
  have HR := Lib.hid hr
  have HI0 := Lib.hid hI0
  have HL0 := Lib.hid hl
  have hMB : M ≠ B := map_ne_row hM0 hbx
  clear hlb hn hxs hjn hr hI0 hl
  go_enter Try.func94, Try.ntmps94
  go_upto_region 3 with fail
  obtain ⟨W1, hW1⟩ : ∃ W1, W1 = w.alloc (.map #[] 0) := ⟨_, rfl⟩
  obtain ⟨N, hN⟩ : ∃ N, N = w.heap.size := ⟨_, rfl⟩
  have hM1 : Mi W1 N 0 (.map []) := by rw [hW1, hN]; exact map_new
  have hb1 : Below w.heap.size w W1 := by rw [hW1]; exact below_new (Below.refl _ _) _
  rw [← hW1, ← hN]
  have HNw : Hid (N = w.heap.size) := hN
  clear hW1 hN
  go_wp2_with (go_at_call 72; ((with_reducible refine (HSP.out _).mono ?_); rintro e w2 ⟨⟨p, cap, rfl, hsr⟩, hb2⟩))
  have hb3 := hb1.trans (hb2.mono hb1.size)
  have hM2 := hM1.below hb2
  have hM02 := hM0.below hb3
  have hbx2 := (hb3.block B (row_lt hbx)).trans hbx
  have hMl : M < w.heap.size := hM0.lt
  have hBl : B < w.heap.size := row_lt hbx
  clear hM0 hM1 hb1 hb2 hbx
  have HBX := Lib.hid hbx2
  have HSR := Lib.hid hsr
  have HB3 := Lib.hid hb3
  have HM2 := Lib.hid hM2
  have HM0 := Lib.hid hM02
  have hsz := hb3.size
  clear hbx2 hsr hb3 hM02
  go_loopw [4, 12] (fun sv iv wr => ∃ (S k c : Nat) (D : DataW Unit) (m : List (List UInt8)), k ≤ n ∧ c ≤ k ∧ sv = .int .i64 S ∧ iv = .int .i64 k ∧ S = shr la (lb.take k) ∧ Mi wr N c D ∧ Hid (IsCt D m) ∧ Hid (Cut la (lb.take k) m) ∧ Hid (w2.grownBy wr (some N))) (fun _ iv _ => n - (intOf iv).toNat)
  case atStart => exact ⟨0, 0, 0, _, [], by omega, by omega, rfl, rfl, rfl, hM2, isCt_nil, cut_nil _, ⟨rfl, rfl, rfl, Nat.le_refl _, fun _ _ _ => rfl⟩⟩
  case round =>
    clear hM2
    obtain ⟨S, k, c, D, m, hk, hck, rfl, rfl, hS, hM, HI, HC, HG⟩ := hrel
    have hNM : N ≠ M := by have := HNw.out; omega
    have hNB : N ≠ B := by have := HNw.out; omega
    have hbx : wr.heap[B]? = some (.cells #[.map (some M)] 94 (0, 0)) := (HG.out.block B (by omega) (by simp; omega)).trans HBX.out
    have hMc : Mi wr M n0 D0 := HM0.out.kept HG.out (by simp; omega)
    have cb := cell_of_row wr B 0 _ _ _ hbx
    have hSle := shr_take_le la lb k
    rw [← hS] at hSle
    have hS1 : S ≤ 1048576 := by have := HJ.out; omega
    clear hSle
    by_cases hlt : k < n
    · have hkl : k < lb.length := by rw [← HN.out]; exact hlt
      obtain ⟨g, o, rfl, hgg, hc⟩ := (HSR.out.grown HM2.out HG.out) k hkl
      obtain ⟨t, ht⟩ : ∃ t, t = str lb[k] := ⟨_, rfl⟩
      rw [← ht] at hc
      have hts0 : t.size = lb[k].length := by rw [ht, str_size]
      have hts : t.size ≤ 1048576 := by rw [hts0]; exact HX.out _ (List.getElem_mem hkl)
      have hkey := skey ht (by omega)
      have hcl := count_le_len lb k lb[k]
      have hcl0 : la.count lb[k] ≤ la.length := List.count_le_length
      obtain ⟨C2, hC2⟩ : ∃ C, C = m.count lb[k] := ⟨_, rfl⟩
      obtain ⟨C, hC⟩ : ∃ C, C = la.count lb[k] := ⟨_, rfl⟩
      have hlook2 := HI.out.look lb[k]
      have hlook := HI0.out.look lb[k]
      have hput := HI.out.put lb[k]
      have hcle : C2 ≤ (lb.take k).count lb[k] := by rw [hC2, HC.out]; omega
      rw [← hC2] at hlook2 hput
      rw [← hC] at hlook hcl0
      have hiff : C2 < C ↔ (lb.take k).count lb[k] < la.count lb[k] := by rw [hC2, hC]; exact cut_lt HC.out _
      have hsn := shr_snoc la (lb.take k) lb[k]
      rw [← take_next lb k hkl, ← hS, ← hts0] at hsn
      have hcy := cut_snoc HC.out lb[k]
      have hcn := cut_stay HC.out lb[k]
      rw [← take_next lb k hkl] at hcy hcn
      obtain ⟨K, hK⟩ : ∃ K, K = Lit.string lb[k] := ⟨_, rfl⟩
      rw [← hK] at hkey hlook hlook2 hput
      have HLK := Lib.hid hlook
      have HLK2 := Lib.hid hlook2
      have hcn2 : C2 ≤ 1048576 := by rw [← HN.out] at hcl; omega
      have hcn1 : C ≤ 1048576 := by have := HL0.out; omega
      by_cases hlt2 : C2 < C
      · have HS2 : Hid (S + t.size = shr la (lb.take (k + 1))) := by show _ = _; rw [hsn, if_pos (hiff.1 hlt2)]
        have HC2 : Hid (Cut la (lb.take (k + 1)) (m ++ [lb[k]])) := hcy (hiff.1 hlt2)
        have HP := Lib.hid hput
        have d1 : decide (C2 < C) = true := decide_eq_true hlt2
        clear ht hC hC2 hK hlook hlook2 hput hbx hgg hcl hcl0 hcle HI HC hiff hsn hcy hcn hts0 hS
        go_wp2_with (first
          | (at_lookup; refine wpList_lookup_own_int _ rfl _ _ 94 rfl 9 3 .i64 str_keyed Try.underlying94 Try.underlying3 (zero_int _) N c D rfl hM _ _ rfl hkey ?_; intro c0 hat hwc; obtain rfl : c0 = (C2 : Int) := (by have e := HLK2.out.symm.trans hat; simp only [DataW.lit.injEq, Lit.int.injEq, true_and] at e; exact e.symm); clear hat hwc)
          | (at_lookup; refine wpList_lookup_own_int _ rfl _ _ 94 rfl 9 3 .i64 str_keyed Try.underlying94 Try.underlying3 (zero_int _) M n0 D0 rfl hMc _ _ rfl hkey ?_; intro c0 hat hwc; obtain rfl : c0 = (C : Int) := (by have e := HLK.out.symm.trans hat; simp only [DataW.lit.injEq, Lit.int.injEq, true_and] at e; exact e.symm); clear hat hwc)
          | (at_mapUpdate; refine wpList_mapUpdate_own _ rfl _ _ _ 94 rfl 9 3 str_keyed Try.underlying94 _ N c D rfl hM (by unfold maxLen; omega) _ _ _ rfl rfl hkey _ [] (plainElem_int Try.underlying3 (WalkArith.wf_i64 (by omega))) ?_; intro w3 hM3 hg3))
        go_roundw
        case rel => exact ⟨S + t.size, k + 1, c + 1, _, _, by omega, by omega, by go_num, by go_num, HS2.out, hM3, HP.out, HC2.out, num_grown HG.out hg3⟩
        case measure => simp [intOf]; omega
      · have HS2 : Hid (S = shr la (lb.take (k + 1))) := by show _ = _; rw [hsn, if_neg (fun h => hlt2 (hiff.2 h)), Nat.add_zero]
        have HC2 : Hid (Cut la (lb.take (k + 1)) m) := hcn (fun h => hlt2 (hiff.2 h))
        have d1 : decide (C2 < C) = false := decide_eq_false hlt2
        clear ht hC hC2 hK hlook hlook2 hput hbx hgg hcl hcl0 hcle HC hiff hsn hcy hcn hts0 hS
        go_wp2_with (first
          | (at_lookup; refine wpList_lookup_own_int _ rfl _ _ 94 rfl 9 3 .i64 str_keyed Try.underlying94 Try.underlying3 (zero_int _) N c D rfl hM _ _ rfl hkey ?_; intro c0 hat hwc; obtain rfl : c0 = (C2 : Int) := (by have e := HLK2.out.symm.trans hat; simp only [DataW.lit.injEq, Lit.int.injEq, true_and] at e; exact e.symm); clear hat hwc)
          | (at_lookup; refine wpList_lookup_own_int _ rfl _ _ 94 rfl 9 3 .i64 str_keyed Try.underlying94 Try.underlying3 (zero_int _) M n0 D0 rfl hMc _ _ rfl hkey ?_; intro c0 hat hwc; obtain rfl : c0 = (C : Int) := (by have e := HLK.out.symm.trans hat; simp only [DataW.lit.injEq, Lit.int.injEq, true_and] at e; exact e.symm); clear hat hwc))
        go_roundw
        case rel => exact ⟨S, k + 1, c, _, _, by omega, by omega, rfl, by go_num, HS2.out, hM, HI.out, HC2.out, HG.out⟩
        case measure => simp [intOf]; omega
    · obtain rfl : k = n := by omega
      have HS2 : Hid (S = r) := by show _ = _; rw [hS, HR.out, List.take_of_length_le (by have := HN.out; omega)]
      clear HI HC cb hbx hMc hM hS
      go_wp2
      go_ret
      exact ⟨by rw [HS2.out]; rfl, HB3.out.grown HG.out (by omega) (fun j hj => by have := HNw.out; cases hj; omega)⟩
end Go.Proofs.Ytddcogcjmmjpkaa
