/-
  The walk of the reference's part.
-/
import Derived.Test.YtddmnibioacelaaGreatDoorPtSplitPk
namespace Go.Proofs.YtddmnibioacelaaGreatDoor
open Go.RowKit

def fine (l : List UInt8) : Bool := l.all fun c => decide (32 ≤ c.toNat) && !(c == 47)
def rokc (s : ByteArray) : Bool := !named s && decide (s.size ≤ 64) && fine s.data.toList
theorem fine_drop (s : ByteArray) (k : Nat) (h : k < s.size) : fine (s.data.toList.drop k) = ((decide (32 ≤ s[k].toNat) && !(s[k] == 47)) && fine (s.data.toList.drop (k + 1))) := by
  unfold fine
  rw [List.drop_eq_getElem_cons (by rw [list_len]; exact h), List.all_cons]
  rfl
theorem fine_end (s : ByteArray) (k : Nat) (h : s.size ≤ k) : fine (s.data.toList.drop k) = true := by
  rw [List.drop_eq_nil_of_le (by rw [list_len]; exact h)]
  rfl
/-- Without slashes the two are one. -/
theorem rokc_is {s : ByteArray} (h : ∀ c ∈ s.data.toList, c ≠ 47) : rokc s = okc s := by
  have e : fine s.data.toList = highs s.data.toList := by
    unfold fine highs
    apply Bool.eq_iff_iff.mpr
    simp only [List.all_eq_true, Bool.and_eq_true, decide_eq_true_eq, Bool.not_eq_true', beq_eq_false_iff_ne]
    exact ⟨fun g c hc => (g c hc).1, fun g c hc => ⟨g c hc, h c hc⟩⟩
  unfold rokc okc
  rw [e, Bool.and_assoc, Bool.and_assoc, Bool.and_comm (decide _)]

set_option maxHeartbeats 1000000 in
set_option maxRecDepth 4000 in
theorem rpart_any (s : ByteArray) (w : World) (hs : s.size ≤ 1048576) :
    Calls Tryz.prog 153 #[.string s] w fun e w' => e = .returned (.bool (rokc s)) ∧ w = w' := by
  by_cases h0 : s.size < 1
  · have hk : rokc s = false := by unfold rokc named; rw [none_true (by omega)]; simp
    have d0 : decide (s.size < 1) = true := decide_eq_true h0
    rw [hk]
    clear hk
    go_enter Tryz.func153, Tryz.ntmps153
    go_wp2
    go_ret
    exact ⟨rfl, rfl⟩
  · have he := none_false (s := s) (by omega)
    by_cases h64 : 64 < s.size
    · have hk : rokc s = false := by unfold rokc; rw [decide_eq_false (by omega), Bool.and_false]; rfl
      rw [hk]
      clear hk
      go_enter Tryz.func153, Tryz.ntmps153
      go_wp2
      go_ret
      exact ⟨rfl, rfl⟩
    · cases h1 : s.toList == [46] with
      | true =>
        have hk : rokc s = false := by unfold rokc named; rw [he, h1]; simp
        rw [hk]
        clear hk
        go_enter Tryz.func153, Tryz.ntmps153
        go_wp2
        go_ret
        exact ⟨rfl, rfl⟩
      | false =>
        cases h2 : s.toList == [46, 46] with
        | true =>
          have hk : rokc s = false := by unfold rokc named; rw [he, h1, h2]; simp
          rw [hk]
          clear hk
          go_enter Tryz.func153, Tryz.ntmps153
          go_wp2
          go_ret
          exact ⟨rfl, rfl⟩
        | false =>
          cases h3 : s.toList == [46, 103, 114, 97, 102, 116] with
          | true =>
            have hk : rokc s = false := by unfold rokc named; rw [he, h1, h2, h3]; simp
            rw [hk]
            clear hk
            go_enter Tryz.func153, Tryz.ntmps153
            go_wp2
            go_ret
            exact ⟨rfl, rfl⟩
          | false =>
            obtain ⟨R, hR⟩ : ∃ R, R = rokc s := ⟨_, rfl⟩
            have HR : Hid (R = fine (s.data.toList.drop 0)) := by show _ = _; rw [hR]; unfold rokc named; rw [he, h1, h2, h3, decide_eq_true (by omega)]; rfl
            rw [← hR]
            clear hR
            go_enter Tryz.func153, Tryz.ntmps153
            go_wp2
            go_loopw [3] (fun i wr => ∃ k : Nat, k ≤ s.size ∧ i = .int .i64 k ∧ wr = w ∧ Hid (R = fine (s.data.toList.drop k))) (fun i _ => s.size - (intOf i).toNat)
            case atStart => exact ⟨0, by omega, rfl, rfl, HR⟩
            case round =>
              clear HR
              obtain ⟨k, hk, rfl, rfl, HR⟩ := hrel
              by_cases hlt : k < s.size
              · have hd := fine_drop s k hlt
                by_cases hc : 32 ≤ s[k].toNat
                · have hc1 : decide ((s[k].toNat : Int) < 32) = false := decide_eq_false (by omega)
                  have hc2 : ¬ s[k].toNat < 32 := by omega
                  have h47 := pt47 s[k]
                  cases h48 : (s[k] == 47) with
                  | true =>
                    rw [h48] at h47
                    have HX : Hid (R = false) := by
                      show _ = _
                      rw [HR.out, hd, h48]
                      simp
                    clear hd hc HR
                    go_wp2
                    go_ret
                    exact ⟨by rw [HX.out]; rfl, rfl⟩
                  | false =>
                    rw [h48] at h47
                    have HX : Hid (R = fine (s.data.toList.drop (k + 1))) := by
                      show _ = _
                      rw [HR.out, hd, decide_eq_true hc, h48]
                      rfl
                    clear hd hc HR
                    go_wp2
                    go_roundw
                    case rel => exact ⟨k + 1, by omega, by go_num, trivial, HX⟩
                    case measure => simp [intOf]; omega
                · have hc1 : decide ((s[k].toNat : Int) < 32) = true := decide_eq_true (by omega)
                  have hc2 : s[k].toNat < 32 := by omega
                  have HX : Hid (R = false) := by
                    show _ = _
                    rw [HR.out, hd, decide_eq_false hc]
                    rfl
                  clear hd hc HR
                  go_wp2
                  go_ret
                  exact ⟨by rw [HX.out]; rfl, rfl⟩
              · have HX : Hid (R = true) := by
                  show _ = _
                  rw [HR.out, fine_end s k (by omega)]
                go_wp2
                go_ret
                exact ⟨by rw [HX.out]; rfl, rfl⟩
end Go.Proofs.YtddmnibioacelaaGreatDoor
/-
  The walks of the reference's Is and Same.
-/
namespace Go.Proofs.YtddmnibioacelaaGreatDoor
open Go.RowKit

set_option maxHeartbeats 1000000 in
set_option maxRecDepth 4000 in
theorem rsameS_any (ls : List (List UInt8)) (p q : Option Addr) (c d n : Nat) (w : World) (hn : n = ls.length) (hp : SRw w p ls) (hq : SRw w q ls) (hl : ls.length ≤ 1099511627776) :
    Calls Tryz.prog 32 #[.slice p n c, .slice q n d] w fun e w' => e = .returned (.bool true) ∧ ∃ k, w' = w.drewN k := by
  have HN : Hid (n = ls.length) := hn
  rw [← hn] at hl
  clear hn
  go_enter Tryz.func32, Tryz.ntmps32
  go_wp2
  go_loopw [5] (fun i wr => ∃ (k m : Nat), k ≤ n ∧ i = .int .i64 k ∧ wr = w.drewN m) (fun i _ => n - (intOf i).toNat)
  case atStart => exact ⟨0, 0, by omega, rfl, rfl⟩
  case round =>
    obtain ⟨k, m, hk, rfl, rfl⟩ := hrel
    by_cases hlt : k < n
    · obtain ⟨g, o, rfl, hg, a0⟩ := hp k (by rw [← HN.out]; exact hlt)
      obtain ⟨h, o2, rfl, hh, b0⟩ := hq k (by rw [← HN.out]; exact hlt)
      obtain ⟨t, ht⟩ : ∃ t, t = str (ls[k]'(by rw [← HN.out]; exact hlt)) := ⟨_, rfl⟩
      rw [← ht] at a0 b0
      clear ht hg hh
      go_wp2
      go_quiet (fail)
      go_wp2
      go_roundw
      case rel => exact ⟨k + 1, _, by omega, by go_num, rfl⟩
      case measure => simp [intOf]; omega
    · go_wp2
      go_ret
      exact ⟨rfl, m, rfl⟩

theorem prts_rokc {s : ByteArray} {t : List UInt8} (h : t ∈ prts s) : rokc (str t) = okc (str t) := rokc_is (by
  rw [str_list]
  unfold prts at h
  split at h
  · simp at h
  · exact cut_free _ [] (by simp) t h)

set_option maxHeartbeats 1000000 in
set_option maxRecDepth 4000 in
theorem pris_any (s : ByteArray) (w : World) (hs : s.size ≤ 1048576) :
    Calls Tryz.prog 135 #[.string s] w fun e w' => e = .returned (.bool (isP s)) ∧ Below w.heap.size w w' := by
  have HP : Hid (Calls Tryz.prog 152 #[.string s] w fun e w' => (∃ p cap, e = .returned (.slice p (prts s).length cap) ∧ SRw w' p (prts s)) ∧ Below w.heap.size w w') := rparts_any s w hs
  have HC : Hid (∀ t ∈ prts s, ∀ w, Calls Tryz.prog 153 #[.string (str t)] w fun e w' => e = .returned (.bool (okc (str t))) ∧ w = w') := fun t ht w => by
    have h := rpart_any (str t) w (by have := prts_len ht; rw [str_size]; omega)
    rw [prts_rokc ht] at h
    exact h
  obtain ⟨R, hR⟩ : ∃ R, R = isP s := ⟨_, rfl⟩
  rw [← hR]
  have hR2 : R = (decide (s.size ≤ 255) && (comps ((prts s).drop 0) && (decide (1 ≤ (prts s).length) && decide ((prts s).length ≤ 16)))) := hR
  have hnl := prts_count s
  obtain ⟨ls, hls⟩ : ∃ ls, ls = prts s := ⟨_, rfl⟩
  rw [← hls] at HP HC hR2 hnl
  obtain ⟨n, hn⟩ : ∃ n, n = ls.length := ⟨_, rfl⟩
  rw [← hn] at HP hR2 hnl
  have HN := Lib.hid hn
  clear hR hls hn
  by_cases h1 : n < 1
  · have HX : Hid (R = false) := by show _ = _; rw [hR2, decide_eq_false (show ¬ 1 ≤ n by omega)]; simp
    have d1 : decide (n < 1) = true := decide_eq_true h1
    clear hR2
    go_enter Tryz.func135, Tryz.ntmps135
    go_wp2_with (go_at_call 152; refine HP.out.mono ?_; rintro e w1 ⟨⟨p, cap, rfl, hsr⟩, hb⟩)
    go_ret
    exact ⟨by rw [HX.out]; rfl, hb⟩
  · by_cases h16 : 16 < n
    · have HX : Hid (R = false) := by show _ = _; rw [hR2, decide_eq_false (show ¬ n ≤ 16 by omega)]; simp
      clear hR2
      go_enter Tryz.func135, Tryz.ntmps135
      go_wp2_with (go_at_call 152; refine HP.out.mono ?_; rintro e w1 ⟨⟨p, cap, rfl, hsr⟩, hb⟩)
      go_ret
      exact ⟨by rw [HX.out]; rfl, hb⟩
    · by_cases h255 : 255 < s.size
      · have HX : Hid (R = false) := by show _ = _; rw [hR2, decide_eq_false (show ¬ s.size ≤ 255 by omega)]; simp
        clear hR2
        go_enter Tryz.func135, Tryz.ntmps135
        go_wp2_with (go_at_call 152; refine HP.out.mono ?_; rintro e w1 ⟨⟨p, cap, rfl, hsr⟩, hb⟩)
        go_ret
        exact ⟨by rw [HX.out]; rfl, hb⟩
      · have HR : Hid (R = comps (ls.drop 0)) := by show _ = _; rw [hR2, decide_eq_true (show s.size ≤ 255 by omega), decide_eq_true (show 1 ≤ n by omega), decide_eq_true (show n ≤ 16 by omega)]; simp
        clear hR2
        go_enter Tryz.func135, Tryz.ntmps135
        go_wp2_with (go_at_call 152; refine HP.out.mono ?_; rintro e w1 ⟨⟨p, cap, rfl, hsr⟩, hb⟩)
        go_loopw [4] (fun i wr => ∃ k : Nat, k ≤ n ∧ i = .int .i64 k ∧ wr = w1 ∧ Hid (R = comps (ls.drop k))) (fun i _ => n - (intOf i).toNat)
        case atStart => exact ⟨0, by omega, rfl, rfl, HR⟩
        case round =>
          clear HR
          obtain ⟨k, hk, rfl, rfl, HR⟩ := hrel
          by_cases hlt : k < n
          · have hkl : k < ls.length := by rw [← HN.out]; exact hlt
            obtain ⟨g, o, rfl, hg, hc⟩ := hsr k hkl
            have hcall := HC.out ls[k] (List.getElem_mem hkl)
            have hd := comps_drop ls k hkl
            obtain ⟨t, ht⟩ : ∃ t, t = str (ls[k]'hkl) := ⟨_, rfl⟩
            rw [← ht] at hcall hd hc
            cases hok : okc t with
            | true =>
              rw [hok] at hcall hd
              have HX : Hid (R = comps (ls.drop (k + 1))) := by show _ = _; rw [HR.out, hd, Bool.true_and]
              have HCC := Lib.hid hcall
              clear hcall hd ht hok HR hkl
              go_wp2_with (go_at_call 153; refine (HCC.out _).mono ?_; rintro e w2 ⟨rfl, rfl⟩)
              go_roundw
              case rel => exact ⟨k + 1, by omega, by go_num, trivial, HX⟩
              case measure => simp [intOf]; omega
            | false =>
              rw [hok] at hcall hd
              have HX : Hid (R = false) := by show _ = _; rw [HR.out, hd]; rfl
              have HCC := Lib.hid hcall
              clear hcall hd ht hok HR hkl
              go_wp2_with (go_at_call 153; refine (HCC.out _).mono ?_; rintro e w2 ⟨rfl, rfl⟩)
              go_ret
              exact ⟨by rw [HX.out]; rfl, hb⟩
          · have HX : Hid (R = true) := by
              show _ = _
              rw [HR.out, List.drop_eq_nil_of_le (by have := HN.out; omega)]
              rfl
            go_wp2
            go_ret
            exact ⟨by rw [HX.out]; rfl, hb⟩
end Go.Proofs.YtddmnibioacelaaGreatDoor
