/-
  The walk of the reference's one.
-/
import Derived.Test.YtdgcmapmnkopaaaDoorGlROneP
import Derived.Test.YtdgcmapmnkopaaaDoorGlRSaidW
import Derived.Test.YtdgcmapmnkopaaaDoorGlTells
namespace Go.Proofs.YtdgcmapmnkopaaaDoor
open Go.RowKit

theorem at_str {p : ByteArray} {l : List UInt8} (hp : p = str l) (i : Nat) (h : i < l.length) : ∃ h' : i < p.size, p[i] = l[i] := by
  subst hp
  exact ⟨h, rfl⟩
theorem tm_cls (neg : Bool) (is : List (UInt8 × UInt8)) (c : UInt8) : tm (.cls neg is) c = (is.any (inIt c) != neg) := rfl
theorem eqB (a b : UInt8) : ((a.toNat : Int) == (b.toNat : Int)) = (a == b) := by
  rw [Bool.eq_iff_iff, beq_iff_eq, beq_iff_eq]
  constructor
  · intro h; exact UInt8.toNat_inj.mp (by omega)
  · intro h; rw [h]
set_option maxHeartbeats 2000000 in
set_option maxRecDepth 4000 in
theorem rone_any (x : List UInt8) (t : Tok) (c : UInt8) (B : Bool) (w : World) (h : TokR x (some t)) (hs : x.length ≤ 1048576) (hB : B = tm t c) :
    Calls Tryd.prog 75 #[.string (str x), .int .u8 (c.toNat : Int)] w fun e w' => e = .returned (.bool B) ∧ w = w' := by
  obtain ⟨p, hp⟩ : ∃ p, p = str x := ⟨_, rfl⟩
  have hsz : p.size = x.length := by rw [hp]; rfl
  have e0 : (p.toList == [63]) = decide (x = [63]) := by
    rw [ByteArray.toList_eq, hp, str_self, Bool.eq_iff_iff, beq_iff_eq, decide_eq_true_iff]
  rw [← hp]
  rcases tokR_some h with ⟨hx, ht⟩ | ⟨v, hx, ht⟩ | ⟨v, hx, h63, h92, ht⟩ | ⟨r, T, is, hx, hg, ht, hin⟩
  · have HB : Hid (B = true) := by show _ = _; rw [hB, ht]; rfl
    have e1 : (p.toList == [63]) = true := by rw [e0, decide_eq_true hx]
    clear hB ht hx hp h e0 hsz hs
    go_enter Tryd.func75, Tryd.ntmps75
    go_wp2
    go_ret
    exact ⟨by rw [HB.out]; rfl, rfl⟩
  · have e1 : (p.toList == [63]) = false := by rw [e0, hx]; simp
    rw [hx] at hp hsz
    obtain ⟨g0, a0⟩ := at_str hp 0 (by simp)
    obtain ⟨g1, b0⟩ := at_str hp 1 (by simp)
    have a1 : (((p[0]'g0).toNat : Int) == 92) = true := by rw [beq_iff_eq, a0]; rfl
    have HB : Hid (((((p[1]'g1).toNat : Int) == (c.toNat : Int))) = B) := by
      show _ = _
      rw [eqB, b0, hB, ht]
      rfl
    clear hB ht hx hp h e0 hs a0 b0 hsz
    go_enter Tryd.func75, Tryd.ntmps75
    go_wp2
    go_ret
    exact ⟨ret_bool HB.out, rfl⟩
  · have e1 : (p.toList == [63]) = false := by rw [e0, hx]; simpa using h63
    rw [hx] at hp hsz
    obtain ⟨g0, a0⟩ := at_str hp 0 (by simp)
    have a1 : (((p[0]'g0).toNat : Int) == 92) = false := u8_not (n := 92) (by decide) (by rw [a0]; exact h92)
    have e2 : ((p.size : Int) == 1) = true := by rw [beq_iff_eq, hsz]; rfl
    have HB : Hid (((((p[0]'g0).toNat : Int) == (c.toNat : Int))) = B) := by
      show _ = _
      rw [eqB, a0, hB, ht]
      rfl
    clear hB ht hx hp h e0 hs a0 hsz
    go_enter Tryd.func75, Tryd.ntmps75
    go_wp2
    go_ret
    exact ⟨ret_bool HB.out, rfl⟩
  · have e1 : (p.toList == [63]) = false := by rw [e0, hx]; simp
    rw [hx] at hp hsz
    rw [List.length_cons] at hsz
    obtain ⟨g0, a0⟩ := at_str hp 0 (by simp)
    have a1 : (((p[0]'g0).toNat : Int) == 92) = false := u8_not (n := 92) (by decide) (by rw [a0]; show (91 : UInt8) ≠ 92; decide)
    have hrl : 2 ≤ r.length := by omega
    have e2 : ((p.size : Int) == 1) = false := beq_eq_false_iff_ne.mpr (by omega)
    obtain ⟨m, hm⟩ : ∃ m, m = p.size - 1 := ⟨_, rfl⟩
    obtain ⟨q, hq⟩ : ∃ q, q = p.extract 1 m := ⟨_, rfl⟩
    have hql : q = str (r.take (r.length - 1)) := by
      rw [hq, hp]
      refine ByteArray.ext (Array.toList_inj.1 ?_)
      rw [ext_bytes, str_self, str_self, List.drop_succ_cons, List.drop_zero]
      congr 1
      omega
    have hqs : q.size = r.length - 1 := by rw [hql, str_len, List.length_take]; omega
    obtain ⟨g1, b1⟩ := at_str hql 0 (by rw [List.length_take]; omega)
    rw [List.getElem_take] at b1
    have hX : ∀ w, ng r = 0 → Calls Tryd.prog 87 #[.string q, .int .u8 (c.toNat : Int)] w fun e w' => e = .returned (.bool B) ∧ w = w' := fun w hn => by
      rw [hn, Nat.sub_zero, List.drop_zero, ← hql] at hin
      refine rsaid_any q T c is B w (by rw [hqs]; rw [hx, List.length_cons] at hs; omega) (by omega) hin ?_
      rw [hB, ht, tm_cls, hn]
      simp
    have hY : ∀ w, ng r = 1 → Calls Tryd.prog 87 #[.string (q.extract 1 q.size), .int .u8 (c.toNat : Int)] w fun e w' => e = .returned (.bool (!B)) ∧ w = w' := fun w hn => by
      rw [hn] at hin
      have hz : q.extract 1 q.size = str ((r.drop 1).take (r.length - 1 - 1)) := by
        refine ByteArray.ext (Array.toList_inj.1 ?_)
        rw [ext_bytes, hqs, hql, str_self, str_self, List.drop_take, List.take_take]
        congr 1
        omega
      rw [hz]
      refine rsaid_any _ T c is (!B) w ?_ ?_ hin ?_
      · rw [str_len, List.length_take, List.length_drop]; rw [hx, List.length_cons] at hs; omega
      · rw [str_len, List.length_take, List.length_drop]; omega
      · rw [hB, ht, tm_cls, hn]
        simp
    have hng : ng r = if (q[0]'g1 = 33 ∨ q[0]'g1 = 94) then 1 else 0 := by
      rw [b1]
      cases r with
      | nil => simp at hrl
      | cons a r => rfl
    have HX := Lib.hid hX
    have HY := Lib.hid hY
    have HN := Lib.hid hng
    have HQ := Lib.hid hq
    have HM := Lib.hid hm
    have hp64 : p.size ≤ 1048576 := by rw [hx, List.length_cons] at hs; omega
    have hp2 : 2 ≤ p.size := by omega
    have hq1 : 1 ≤ q.size := by omega
    have hm1 : m ≤ p.size := by omega
    have hm2 : 1 ≤ m := by omega
    have HZ : Hid (ng r = 0 ∨ ng r = 1) := by
      have := (ng_le r).1
      show _ ∨ _
      omega
    clear hB ht hx hp h e0 hs a0 hsz hql b1 hX hY hng hin hg hrl hqs hm hq
    go_enter Tryd.func75, Tryd.ntmps75
    go_upto_region 8 with fail
    rw [← HM.out, ← HQ.out]
    by_cases h33 : q[0]'g1 = 33
    · have c1 : (((q[0]'g1).toNat : Int) == 33) = true := by rw [beq_iff_eq, h33]; rfl
      have HY2 := Lib.hid (fun w => HY.out w (by rw [HN.out, if_pos (.inl h33)]))
      clear h33
      go_wp2_with (go_at_call 87; ((with_reducible refine (HY2.out _).mono ?_); rintro e w2 ⟨rfl, rfl⟩))
      go_ret
      exact ⟨by simp, rfl⟩
    · have c1 : (((q[0]'g1).toNat : Int) == 33) = false := u8_not (n := 33) (by decide) h33
      by_cases h94 : q[0]'g1 = 94
      · have c2 : (((q[0]'g1).toNat : Int) == 94) = true := by rw [beq_iff_eq, h94]; rfl
        have HY2 := Lib.hid (fun w => HY.out w (by rw [HN.out, if_pos (.inr h94)]))
        clear h33 h94
        go_wp2_with (go_at_call 87; ((with_reducible refine (HY2.out _).mono ?_); rintro e w2 ⟨rfl, rfl⟩))
        go_ret
        exact ⟨by simp, rfl⟩
      · have c2 : (((q[0]'g1).toNat : Int) == 94) = false := u8_not (n := 94) (by decide) h94
        have HX2 := Lib.hid (fun w => HX.out w (by rw [HN.out, if_neg (fun e => e.elim h33 h94)]))
        clear h33 h94
        go_wp2_with (go_at_call 87; ((with_reducible refine (HX2.out _).mono ?_); rintro e w2 ⟨rfl, rfl⟩))
        go_ret
        exact ⟨rfl, rfl⟩
end Go.Proofs.YtdgcmapmnkopaaaDoor
