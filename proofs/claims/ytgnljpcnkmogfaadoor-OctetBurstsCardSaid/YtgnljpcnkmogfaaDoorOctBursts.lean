/-
  The walk of the law OctetBursts.
-/
import Derived.Test.YtgnljpcnkmogfaaDoorOctLives
import Derived.Test.YtgnljpcnkmogfaaDoorOctFlip
namespace Go.Proofs.YtgnljpcnkmogfaaDoor
open Go.RowKit

theorem open_wrong {t : ByteArray} {c : Nat} (hc : c < 4294967296) (h : crc t.data.toList ≠ c) : openOf (t ++ str (wbytes c)) = (⟨#[]⟩, false) := by
  have hsz : (t ++ str (wbytes c)).size = t.size + 4 := by rw [ByteArray.size_append, str_size, wbytes_len]
  have he : (t ++ str (wbytes c)).extract 0 t.size = t := by
    apply ba_ext
    rw [Lib.extract_data, app_list]
    simp only [List.drop_zero, Nat.sub_zero]
    rw [← list_len t, List.take_left]
  have hl : ((t ++ str (wbytes c)).data.toList.drop t.size).take 4 = wbytes c := by
    rw [app_list, ← list_len t, List.drop_left, str_list, List.take_of_length_le (by rw [wbytes_len]; exact Nat.le_refl _)]
  unfold openOf
  rw [hsz, Nat.add_sub_cancel, if_neg (by omega), he, hl, be_wbytes hc, if_neg (fun e => h e.symm)]

set_option maxHeartbeats 1000000 in
set_option maxRecDepth 10000 in
theorem bursts_walk (s : ByteArray) (p : Int) (n : Nat) (w : World) (hs : s.size ≤ 140737488355328) (hn : n < 4294967296) (ht : Tab w) :
    Calls Tryd.prog 6 #[.string s, .int .i64 p, .int .u32 n] w fun e w' => e = .returned (.bool true) ∧ Below w.heap.size w w' := by
  have h0 : Inv w w := Inv.self ht
  clear ht
  by_cases hp : p < 0
  · go_enter Tryd.func6, Tryd.ntmps6
    go_wp2_with (go_at_call 17; ((with_reducible refine (lives_inv (by assumption)).mono ?_); rintro e w' ⟨rfl, hi⟩))
    go_ret
    exact ⟨rfl, Inv.below ‹_›⟩
  · by_cases hp2 : 1099511627776 < p
    · go_enter Tryd.func6, Tryd.ntmps6
      go_wp2_with (go_at_call 17; ((with_reducible refine (lives_inv (by assumption)).mono ?_); rintro e w' ⟨rfl, hi⟩))
      go_ret
      exact ⟨rfl, Inv.below ‹_›⟩
    · obtain ⟨a, rfl⟩ := Int.eq_ofNat_of_zero_le (by omega : 0 ≤ p)
      have hfl : Calls Tryd.prog 30 #[.string s, .int .i64 a, .int .u32 n] w fun e w' => (∃ l m, e = .returned (.string (str l)) ∧ Burst s.data.toList l a 32 m) ∧ Inv w w' :=
        (flip_any s a n w hs (by omega) hn).mono fun _ _ x => ⟨x.1, h0.step x.2⟩
      go_enter Tryd.func6, Tryd.ntmps6
      go_wp2_with fail
      refine hfl.mono ?_
      rintro e w1 ⟨⟨l, m, rfl, hb⟩, hi⟩
      clear hfl h0
      obtain ⟨t, htt⟩ : ∃ t, t = str l := ⟨_, rfl⟩
      rw [← htt]
      have htl : t.data.toList = l := by rw [htt, str_list]
      have htz : t.size = s.size := by rw [← list_len, ← list_len, htl, hb.1]
      by_cases hm : m = 0
      · have hts : t = s := by apply ba_ext; rw [htl, hb.2.2.2.2 hm]
        subst hts
        clear htt htl htz hb hm
        go_wp2_with (go_at_call 17; ((with_reducible refine (lives_inv (by assumption)).mono ?_); rintro e w' ⟨rfl, hi⟩))
        go_ret
        exact ⟨rfl, Inv.below ‹_›⟩
      · have hne : crc t.data.toList ≠ crc s.data.toList := by
          rw [htl]
          exact crc_burst hb.1 hb.2.2.1 hb.2.1 hm (hb.2.2.2.1 hm)
        have hts : t ≠ s := fun e => hne (by rw [e])
        have hop := open_wrong (crc_lt s.data.toList) hne
        obtain ⟨c, hc⟩ : ∃ c, crc s.data.toList = c := ⟨_, rfl⟩
        obtain ⟨d, hd⟩ : ∃ d, crc t.data.toList = d := ⟨_, rfl⟩
        have hcl := crc_lt s.data.toList
        rw [hc] at hne hop hcl
        rw [hd] at hne
        have g1 := ba_ne hts
        have g2 : ((d : Int) != (c : Int)) = true := by simp; omega
        have HC : Hid (crc s.data.toList = c) := hc
        have HD : Hid (crc t.data.toList = d) := hd
        have HO : Hid (openOf (t ++ str (wbytes c)) = (⟨#[]⟩, false)) := hop
        have hsz : (t ++ str (wbytes c)).size ≤ 1125899906842624 := by rw [ByteArray.size_append, str_size, wbytes_len]; omega
        have hz2 : t.size ≤ 140737488355328 := by omega
        clear hc hd hop hne hts htt htl htz hb hm
        go_wp2_with (first
          | (go_at_call 17; ((with_reducible refine (lives_inv (by assumption)).mono ?_); rintro e w' ⟨rfl, hi⟩))
          | (go_at_call 27; first | ((with_reducible refine (sum_inv (by assumption) _ (by omega) _ HC.out).mono ?_); rintro e w' ⟨rfl, hi⟩) | ((with_reducible refine (sum_inv (by assumption) _ (by omega) _ HD.out).mono ?_); rintro e w' ⟨rfl, hi⟩))
          | (go_at_call 20; ((with_reducible refine (word_inv (by assumption) _ _ hcl (by omega)).mono ?_); rintro e w' ⟨rfl, hi⟩))
          | (go_at_call 24; ((with_reducible refine (open_inv (by assumption) _ (by omega) _ _ HO.out).mono ?_); rintro e w' ⟨rfl, hi⟩)))
        go_ret
        exact ⟨rfl, Inv.below ‹_›⟩
end Go.Proofs.YtgnljpcnkmogfaaDoor
