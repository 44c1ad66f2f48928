/-
  The walks of the laws TreeBack and TreeOrder.
-/
import Derived.Test.YtjholoajgnpodaaDoorTrLawA
import Derived.Test.YtjholoajgnpodaaDoorTrOrdP
namespace Go.Proofs.YtjholoajgnpodaaDoor
open Go.RowKit

section
variable {W : World}
set_option maxHeartbeats 4000000 in
set_option maxRecDepth 10000 in
theorem treeBack_walk {es : List En} {p : Option Addr} {n c : Nat} (s : ByteArray) (A : EA W es p n) (hT : TrTab W) (hs : s.size ≤ 140737488355328) : Calls Tryd.prog 6 #[.slice p n c, .string s] W fun e W' => e = .returned (.bool true) ∧ Below W.heap.size W W' := by
  obtain ⟨F, hF⟩ : ∃ F, F = fewT es := ⟨_, rfl⟩
  have HF : Hid (∀ w, Below W.heap.size W w → Calls Tryd.prog 9 #[.slice p n c] w fun e w' => e = .returned (.bool F) ∧ Below W.heap.size W w') := fun w hb => tfew_inv A hb F hF
  have HLV : Hid (∀ w, Below W.heap.size W w → Calls Tryd.prog 10 #[] w fun e w' => e = .returned (.bool true) ∧ Below W.heap.size W w') := fun w hb => tlives_inv hT hb
  have h0 := Below.refl W.heap.size W
  by_cases hgo : F = true ∧ ¬ 3000 < s.size
  · obtain ⟨rfl, hsz⟩ := hgo
    have hfw := A.fewOf (.inl hF.symm)
    have hss : ∀ e ∈ es, e.n.size + e.i.size ≤ 500 := (fewT_yes hF.symm).2
    have hlen := (fewT_yes hF.symm).1
    have e3 : decide ((3000 : Int) < (s.size : Int)) = false := decide_eq_false (by omega)
    obtain ⟨b, hb⟩ : ∃ b, b = str (bodyT es) := ⟨_, rfl⟩
    obtain ⟨C, hC⟩ : ∃ C, C = chkT es := ⟨_, rfl⟩
    have HB1 : Hid (∀ w, Below W.heap.size W w → Calls Tryd.prog 11 #[.slice p n c] w fun e w' => e = .returned (.tuple #[.string b, .int .i64 (C : Int)]) ∧ Below W.heap.size W w') := fun w hb' => by
      rw [hb, hC]
      exact (tbody_any es p c n w A.len (A.row.below hb') (hT.below hb') hfw A.few).mono fun e w' ⟨he, hb2⟩ => ⟨he, hb'.trans (hb2.mono hb'.size)⟩
    -- the second half: Parse of s, Body of what it took
    obtain ⟨D, hD⟩ : ∃ D, D = (parE s.data.toList).1 := ⟨_, rfl⟩
    obtain ⟨fs, hfs⟩ : ∃ fs, fs = (parE s.data.toList).2 := ⟨_, rfl⟩
    obtain ⟨m, hm⟩ : ∃ m, m = fs.length := ⟨_, rfl⟩
    have HP2 : Hid (∀ w, Below W.heap.size W w → Calls Tryd.prog 15 #[.string s] w fun e w' => (∃ p c, e = .returned (.tuple #[.slice p m c, .int .i64 (D : Int)]) ∧ NRw w' p fs) ∧ Below W.heap.size W w') := fun w hb =>
      (tparse_any s w (hT.below hb) (by omega)).mono fun e w' ⟨⟨v, he, p, c, hv, _, hnr⟩, hb2⟩ =>
        ⟨⟨p, c, by rw [he, hv, ← hD, hm, hfs], by rw [hfs]; exact hnr⟩, hb.trans (hb2.mono hb.size)⟩
    have HDok : Hid (D = 0 → chkT fs = 0 ∧ str (bodyT fs) = s ∧ m ≤ 1024) := fun h => by
      have h2 := body_par (l := s.data.toList) (by rw [← hD]; exact h)
      rw [← hfs] at h2
      exact ⟨h2.1, ba_ext (by rw [str_list]; exact h2.2), by rw [hm]; exact (chkT_ok.1 h2.1).1⟩
    have HDno : Hid (D ≠ 0 → m = 0) := fun h => by
      have h2 := par_err (l := s.data.toList) (by rw [← hD]; exact h)
      rw [hm, hfs, h2]
      rfl
    have HFS : Hid (∀ e ∈ fs, e.n.size ≤ 1048576 ∧ e.i.size ≤ 140737488355328) := fun e he => by
      have := par_size (l := s.data.toList) e (by rw [← hfs]; exact he)
      rw [list_len] at this
      omega
    have HM := Lib.hid hm
    have HT := Lib.hid hT
    have HA := Lib.hid A
    have hn60 : n ≤ 60 := by rw [A.len]; exact hlen
    have HBD : Hid (D = 0 → ∀ w q d, Below W.heap.size W w → NRw w q fs → Calls Tryd.prog 11 #[.slice q m d] w fun e w' => e = .returned (.tuple #[.string s, .int .i64 0]) ∧ Below W.heap.size W w') := fun h w q d hb hq => by
      obtain ⟨h1, h2, h3⟩ := HDok.out h
      have := tbody_any fs q d m w HM.out hq (HT.out.below hb) (fun _ => HFS.out) (by omega)
      rw [h1, h2] at this
      exact this.mono fun e w' ⟨he, hb2⟩ => ⟨he, hb.trans (hb2.mono hb.size)⟩
    by_cases hC0 : C = 0
    · have hpb := par_body (hC.symm.trans hC0)
      have HP1 : Hid (∀ w, Below W.heap.size W w → Calls Tryd.prog 15 #[.string b] w fun e w' => (∃ p c, e = .returned (.tuple #[.slice p n c, .int .i64 0]) ∧ NRw w' p es) ∧ Below w.heap.size w w') := fun w hb' => by
        have hbl : b.size ≤ 1000000 := by
          have h1 := chkT_all (hC.symm.trans hC0)
          have h2 := encT_len h1.2 es.length (Nat.le_refl _)
          rw [List.take_of_length_le (Nat.le_refl _)] at h2
          rw [hb, str_size, bodyT_ok (hC.symm.trans hC0)]
          omega
        exact (tparse_any b w (HT.out.below hb') hbl).mono fun e w' ⟨⟨v, he, p, c, hv, _, hnr⟩, hb2⟩ => by
          rw [show b.data.toList = bodyT es by rw [hb, str_list], hpb] at he hv hnr
          exact ⟨⟨p, c, by rw [he, hv, HA.out.len]; rfl, hnr⟩, hb2⟩
      have HS : Hid (∀ w q d, Below W.heap.size W w → NRw w q es → Calls Tryd.prog 17 #[.slice p n c, .slice q n d] w fun e w' => e = .returned (.bool true) ∧ Below W.heap.size W w') := fun w q d hb hq =>
        (tsame_any es es p q c d n n true w HA.out.len HA.out.len (HA.out.row.below hb) hq (by omega) (by omega) (by simp)).mono fun e w' ⟨he, k, hk⟩ => ⟨he, by rw [hk]; exact below_drewN hb k⟩
      have HCz : ((C : Int) == 0) = true := by rw [hC0]; rfl
      have HCv : Hid (C = 0) := hC0
      rw [hC0] at HB1
      clear hF hfw hss hlen hb hC hD hfs hm hT A hpb hC0
      by_cases hD0 : D = 0
      · have HBD2 := Lib.hid (HBD.out hD0)
        rw [hD0] at HP2
        clear HBD HDok HDno hD0
        go_enter Tryd.func6, Tryd.ntmps6
        go_upto_region 6 with (first
          | (go_at_call 9; ((with_reducible refine (HF.out _ (by assumption)).mono ?_); rintro e w1 ⟨rfl, hb1⟩))
          | (go_at_call 11; ((with_reducible refine (HB1.out _ (by assumption)).mono ?_); rintro e w2 ⟨rfl, hb2⟩))
          | (go_at_call 15; ((with_reducible refine (HP1.out _ (by assumption)).mono ?_); rintro e w3 ⟨⟨p3, c3, rfl, hn3⟩, hb3⟩)))
        have HSX := Lib.hid (HS.out w3 p3 c3 (hb2.trans (hb3.mono hb2.size)) hn3)
        clear hn3
        go_upto_region 8 with (go_at_call 17; ((with_reducible refine HSX.out.mono ?_); rintro e w4 ⟨rfl, hb4⟩))
        go_upto_region 9 with (go_at_call 15; ((with_reducible refine (HP2.out _ (by assumption)).mono ?_); rintro e w5 ⟨⟨p5, c5, rfl, hn5⟩, hb5⟩))
        have HBX := Lib.hid (HBD2.out w5 p5 c5 hb5 hn5)
        clear hn5
        go_wp2_with (first
          | (go_at_call 11; ((with_reducible refine HBX.out.mono ?_); rintro e w6 ⟨rfl, hb6⟩))
          | (go_at_call 10; ((with_reducible refine (HLV.out _ (by assumption)).mono ?_); rintro e w7 ⟨rfl, hb7⟩)))
        go_ret
        exact ⟨rfl, hb7⟩
      · have hm0 : m = 0 := HDno.out hD0
        have hdb : ((D : Int) != 0) = true := by simp; omega
        rw [hm0] at HP2
        clear HBD HDok HDno hD0 HM hm0
        go_enter Tryd.func6, Tryd.ntmps6
        go_upto_region 6 with (first
          | (go_at_call 9; ((with_reducible refine (HF.out _ (by assumption)).mono ?_); rintro e w1 ⟨rfl, hb1⟩))
          | (go_at_call 11; ((with_reducible refine (HB1.out _ (by assumption)).mono ?_); rintro e w2 ⟨rfl, hb2⟩))
          | (go_at_call 15; ((with_reducible refine (HP1.out _ (by assumption)).mono ?_); rintro e w3 ⟨⟨p3, c3, rfl, hn3⟩, hb3⟩)))
        have HSX := Lib.hid (HS.out w3 p3 c3 (hb2.trans (hb3.mono hb2.size)) hn3)
        clear hn3
        go_upto_region 8 with (go_at_call 17; ((with_reducible refine HSX.out.mono ?_); rintro e w4 ⟨rfl, hb4⟩))
        go_upto_region 9 with (go_at_call 15; ((with_reducible refine (HP2.out _ (by assumption)).mono ?_); rintro e w5 ⟨⟨p5, c5, rfl, hn5⟩, hb5⟩))
        clear hn5
        go_wp2_with (go_at_call 10; ((with_reducible refine (HLV.out _ (by assumption)).mono ?_); rintro e w7 ⟨rfl, hb7⟩))
        go_ret
        exact ⟨rfl, hb7⟩
    · have hcb : ((C : Int) == 0) = false := by simp; omega
      clear hF hfw hss hlen hb hC hD hfs hm hT A hC0
      by_cases hD0 : D = 0
      · have HBD2 := Lib.hid (HBD.out hD0)
        rw [hD0] at HP2
        clear HBD HDok HDno hD0
        go_enter Tryd.func6, Tryd.ntmps6
        go_upto_region 8 with (first
          | (go_at_call 9; ((with_reducible refine (HF.out _ (by assumption)).mono ?_); rintro e w1 ⟨rfl, hb1⟩))
          | (go_at_call 11; ((with_reducible refine (HB1.out _ (by assumption)).mono ?_); rintro e w2 ⟨rfl, hb2⟩)))
        go_upto_region 9 with (go_at_call 15; ((with_reducible refine (HP2.out _ (by assumption)).mono ?_); rintro e w5 ⟨⟨p5, c5, rfl, hn5⟩, hb5⟩))
        have HBX := Lib.hid (HBD2.out w5 p5 c5 hb5 hn5)
        clear hn5
        go_wp2_with (first
          | (go_at_call 11; ((with_reducible refine HBX.out.mono ?_); rintro e w6 ⟨rfl, hb6⟩))
          | (go_at_call 10; ((with_reducible refine (HLV.out _ (by assumption)).mono ?_); rintro e w7 ⟨rfl, hb7⟩)))
        go_ret
        exact ⟨rfl, hb7⟩
      · have hm0 : m = 0 := HDno.out hD0
        have hdb : ((D : Int) != 0) = true := by simp; omega
        rw [hm0] at HP2
        clear HBD HDok HDno hD0 HM hm0
        go_enter Tryd.func6, Tryd.ntmps6
        go_upto_region 8 with (first
          | (go_at_call 9; ((with_reducible refine (HF.out _ (by assumption)).mono ?_); rintro e w1 ⟨rfl, hb1⟩))
          | (go_at_call 11; ((with_reducible refine (HB1.out _ (by assumption)).mono ?_); rintro e w2 ⟨rfl, hb2⟩)))
        go_upto_region 9 with (go_at_call 15; ((with_reducible refine (HP2.out _ (by assumption)).mono ?_); rintro e w5 ⟨⟨p5, c5, rfl, hn5⟩, hb5⟩))
        clear hn5
        go_wp2_with (go_at_call 10; ((with_reducible refine (HLV.out _ (by assumption)).mono ?_); rintro e w7 ⟨rfl, hb7⟩))
        go_ret
        exact ⟨rfl, hb7⟩
  · have hcs : F = false ∨ (F = true ∧ 3000 < s.size) := by
      cases F
      · exact .inl rfl
      · by_cases h : 3000 < s.size
        · exact .inr ⟨rfl, h⟩
        · exact absurd ⟨rfl, h⟩ hgo
    clear hgo hF hT A
    rcases hcs with rfl | ⟨rfl, h3⟩
    · go_enter Tryd.func6, Tryd.ntmps6
      go_wp2_with (first
        | (go_at_call 9; ((with_reducible refine (HF.out _ (by assumption)).mono ?_); rintro e w1 ⟨rfl, hb1⟩))
        | (go_at_call 10; ((with_reducible refine (HLV.out _ (by assumption)).mono ?_); rintro e w7 ⟨rfl, hb7⟩)))
      go_ret
      exact ⟨rfl, hb7⟩
    · have e3 : decide ((3000 : Int) < (s.size : Int)) = true := decide_eq_true (by omega)
      go_enter Tryd.func6, Tryd.ntmps6
      go_wp2_with (first
        | (go_at_call 9; ((with_reducible refine (HF.out _ (by assumption)).mono ?_); rintro e w1 ⟨rfl, hb1⟩))
        | (go_at_call 10; ((with_reducible refine (HLV.out _ (by assumption)).mono ?_); rintro e w7 ⟨rfl, hb7⟩)))
      go_ret
      exact ⟨rfl, hb7⟩
end
end Go.Proofs.YtjholoajgnpodaaDoor
