/-
  The walk of Parts.
-/
import Derived.Test.YtddmnibioacelaaGreatDoorPtBasicPk
import Derived.Test.YtddmnibioacelaaGreatDoorShelf
import Derived.BigQuiet
import Derived.Deep.QuietTactic
import Derived.Test.YtddmnibioacelaaGreatDoorIdDigitPk
import Derived.RegionTactic
import Derived.Deep.MidRow
import Derived.WalkSmall
import Derived.IntWalk
namespace Go.Proofs.YtddmnibioacelaaGreatDoor
open Go.RowKit

theorem srw_new (w : World) (L : List ByteArray) (t : TypeId) : SRw (w.alloc (.cells (L.map Value.string).toArray t)) (some ⟨w.heap.size, 0, none⟩) (L.map fun x => x.data.toList) := fun k hk => by
  refine ⟨w.heap.size, 0, rfl, by simp, ?_⟩
  have h := World.cell?_alloc_mark w (L.map Value.string).toArray t (0, 0) k
  rw [Nat.zero_add]
  refine h.trans ?_
  have hk' : k < L.length := by simpa using hk
  simp [List.getElem?_eq_getElem hk', pt_self]

set_option maxHeartbeats 1000000 in
set_option maxRecDepth 4000 in
theorem parts_cap (s : ByteArray) (m : Int) (w : World) (hs : s.size ≤ 1048576) (hm : w.cell? ⟨1, 0, none⟩ = some (.int .i64 m)) :
    Calls Tryz.prog 159 #[.string s] w fun e w' => (∃ p cap, e = .returned (.slice p (prts s).length cap) ∧ (prts s).length ≤ cap ∧ SRw w' p (prts s)) ∧ Below w.heap.size w w' := by
  by_cases h0 : s.size = 0
  · have he := none_true h0
    rw [show prts s = [] from if_pos h0]
    clear h0
    go_enter Tryz.func159, Tryz.ntmps159
    go_wp2
    go_ret
    exact ⟨⟨none, 0, rfl, Nat.le_refl _, SRw.none _ _⟩, Below.refl _ _⟩
  · have he := none_false (s := s) (by omega)
    have hp : prts s = (Lib.splitB slash 0 (Lib.countB s slash) s).map fun x => x.data.toList := by rw [cut_split s.size s (Nat.le_refl _)]; exact if_neg h0
    have hl : (prts s).length = Lib.countB s slash + 1 := by
      rw [hp, List.length_map]
      exact Lib.splitB_all slash (by decide) 0 _ s rfl
    have HS : Hid (Calls Tryz.prog 161 #[.string s, .string ⟨#[47]⟩] w fun e w' => (∃ p cap, e = .returned (.slice p (prts s).length cap) ∧ (prts s).length ≤ cap ∧ SRw w' p (prts s)) ∧ Below w.heap.size w w') := by
      refine (Tryz.strings_Split s slash m w (by omega) hm (by decide)).mono fun e w' ⟨h1, h2⟩ => ⟨⟨some ⟨w.heap.size, 0, none⟩, Lib.countB s slash + 1, by rw [hl]; exact h1, by rw [hl]; exact Nat.le_refl _, ?_⟩, ?_⟩
      · rw [h2, hp]
        exact srw_new w _ _
      · rw [h2]
        exact (Below.refl _ _).alloc (Nat.le_refl _) _
    obtain ⟨R, hR⟩ : ∃ R, R = prts s := ⟨_, rfl⟩
    rw [← hR] at HS ⊢
    clear hp hl hR h0
    go_enter Tryz.func159, Tryz.ntmps159
    go_wp2_with (go_at_call 161; refine HS.out.mono ?_; rintro e w1 ⟨⟨p, cap, rfl, hcap, hsr⟩, hb⟩)
    go_ret
    exact ⟨⟨p, cap, rfl, hcap, hsr⟩, hb⟩
theorem parts_any (s : ByteArray) (m : Int) (w : World) (hs : s.size ≤ 1048576) (hm : w.cell? ⟨1, 0, none⟩ = some (.int .i64 m)) :
    Calls Tryz.prog 159 #[.string s] w fun e w' => (∃ p cap, e = .returned (.slice p (prts s).length cap) ∧ SRw w' p (prts s)) ∧ Below w.heap.size w w' :=
  (parts_cap s m w hs hm).mono fun _ _ ⟨⟨p, cap, h1, _, h2⟩, h3⟩ => ⟨⟨p, cap, h1, h2⟩, h3⟩
end Go.Proofs.YtddmnibioacelaaGreatDoor
/-
  The walk of isComponent.
-/
namespace Go.Proofs.YtddmnibioacelaaGreatDoor
open Go.RowKit

/-- The names that no component has. -/
def named (s : ByteArray) : Bool := s.toList.isEmpty || s.toList == [46] || s.toList == [46, 46] || s.toList == [46, 103, 114, 97, 102, 116]
def highs (l : List UInt8) : Bool := l.all fun c => decide (32 ≤ c.toNat)
/-- Whether a string without slashes is a component. -/
def okc (s : ByteArray) : Bool := !named s && highs s.data.toList && decide (s.size ≤ 64)
theorem highs_drop (s : ByteArray) (k : Nat) (h : k < s.size) : highs (s.data.toList.drop k) = (decide (32 ≤ s[k].toNat) && highs (s.data.toList.drop (k + 1))) := by
  unfold highs
  rw [List.drop_eq_getElem_cons (by rw [list_len]; exact h), List.all_cons]
  rfl
theorem highs_end (s : ByteArray) (k : Nat) (h : s.size ≤ k) : highs (s.data.toList.drop k) = true := by
  rw [List.drop_eq_nil_of_le (by rw [list_len]; exact h)]
  rfl

set_option maxHeartbeats 1000000 in
set_option maxRecDepth 4000 in
theorem comp_any (s : ByteArray) (w : World) (hs : s.size ≤ 1048576) :
    Calls Tryz.prog 160 #[.string s] w fun e w' => e = .returned (.bool (okc s)) ∧ w = w' := by
  cases he : s.toList.isEmpty with
  | true =>
    have hk : okc s = false := by unfold okc named; rw [he]; simp
    rw [hk]
    clear hk
    go_enter Tryz.func160, Tryz.ntmps160
    go_wp2
    go_ret
    exact ⟨rfl, rfl⟩
  | false =>
    cases h1 : s.toList == [46] with
    | true =>
      have hk : okc s = false := by unfold okc named; rw [he, h1]; simp
      rw [hk]
      clear hk
      go_enter Tryz.func160, Tryz.ntmps160
      go_wp2
      go_ret
      exact ⟨rfl, rfl⟩
    | false =>
      cases h2 : s.toList == [46, 46] with
      | true =>
        have hk : okc s = false := by unfold okc named; rw [he, h1, h2]; simp
        rw [hk]
        clear hk
        go_enter Tryz.func160, Tryz.ntmps160
        go_wp2
        go_ret
        exact ⟨rfl, rfl⟩
      | false =>
        cases h3 : s.toList == [46, 103, 114, 97, 102, 116] with
        | true =>
          have hk : okc s = false := by unfold okc named; rw [he, h1, h2, h3]; simp
          rw [hk]
          clear hk
          go_enter Tryz.func160, Tryz.ntmps160
          go_wp2
          go_ret
          exact ⟨rfl, rfl⟩
        | false =>
          obtain ⟨R, hR⟩ : ∃ R, R = okc s := ⟨_, rfl⟩
          have HR : Hid (R = (highs (s.data.toList.drop 0) && decide (s.size ≤ 64))) := by show _ = _; rw [hR]; unfold okc named; rw [he, h1, h2, h3]; rfl
          rw [← hR]
          clear hR
          go_enter Tryz.func160, Tryz.ntmps160
          go_wp2
          go_loopw [12] (fun i wr => ∃ k : Nat, k ≤ s.size ∧ i = .int .i64 k ∧ wr = w ∧ Hid (R = (highs (s.data.toList.drop k) && decide (s.size ≤ 64)))) (fun i _ => s.size - (intOf i).toNat)
          case atStart => exact ⟨0, by omega, rfl, rfl, HR⟩
          case round =>
            clear HR
            obtain ⟨k, hk, rfl, rfl, HR⟩ := hrel
            by_cases hlt : k < s.size
            · have hd := highs_drop s k hlt
              by_cases hc : 32 ≤ s[k].toNat
              · have hc1 : decide ((s[k].toNat : Int) < 32) = false := decide_eq_false (by omega)
                have hc2 : ¬ s[k].toNat < 32 := by omega
                have HX : Hid (R = (highs (s.data.toList.drop (k + 1)) && decide (s.size ≤ 64))) := by
                  show _ = _
                  rw [HR.out, hd, decide_eq_true hc, Bool.true_and]
                clear hd hc HR
                go_wp2
                go_roundw
                case rel => exact ⟨k + 1, by omega, by go_num, trivial, HX⟩
                case measure => simp [intOf]; omega
              · have hc1 : decide ((s[k].toNat : Int) < 32) = true := decide_eq_true (by omega)
                have hc2 : s[k].toNat < 32 := by omega
                have HX : Hid (R = false) := by
                  show _ = _
                  rw [HR.out, hd, decide_eq_false hc]
                  rfl
                clear hd hc HR
                go_wp2
                go_ret
                exact ⟨by rw [HX.out]; rfl, rfl⟩
            · have HX : Hid (R = decide ((s.size : Int) ≤ 64)) := by
                show _ = _
                rw [HR.out, highs_end s k (by omega), Bool.true_and]
                exact decide_eq_decide.mpr (by omega)
              go_wp2
              go_ret
              exact ⟨by rw [HX.out]; rfl, rfl⟩
end Go.Proofs.YtddmnibioacelaaGreatDoor
/-
  The walk of Is.
-/
namespace Go.Proofs.YtddmnibioacelaaGreatDoor
open Go.RowKit

def comps (ls : List (List UInt8)) : Bool := ls.all fun l => okc (str l)
def isP (s : ByteArray) : Bool := decide (s.size ≤ 255) && (comps (prts s) && (decide (1 ≤ (prts s).length) && decide ((prts s).length ≤ 16)))
theorem comps_drop (ls : List (List UInt8)) (k : Nat) (h : k < ls.length) : comps (ls.drop k) = (okc (str ls[k]) && comps (ls.drop (k + 1))) := by
  unfold comps
  rw [List.drop_eq_getElem_cons h, List.all_cons]
theorem cut_len : ∀ (l cur : List UInt8), ∀ p ∈ cut cur l, p.length ≤ cur.length + l.length
  | [], cur, p, hp => by
    simp only [cut, List.mem_singleton] at hp
    subst hp
    simp
  | c :: r, cur, p, hp => by
    rw [cut] at hp
    split at hp
    · rcases List.mem_cons.mp hp with rfl | hp
      · omega
      · have := cut_len r [] p hp
        simp at this ⊢
        omega
    · have := cut_len r (cur ++ [c]) p hp
      simp at this ⊢
      omega
theorem prts_len {s : ByteArray} {p : List UInt8} (h : p ∈ prts s) : p.length ≤ s.size := by
  unfold prts at h
  split at h
  · simp at h
  · have := cut_len _ _ p h
    rw [list_len] at this
    simpa using this

theorem cut_count : ∀ (l cur : List UInt8), (cut cur l).length ≤ l.length + 1
  | [], cur => by simp [cut]
  | c :: r, cur => by
    rw [cut]
    split
    · have := cut_count r []
      simp
      omega
    · have := cut_count r (cur ++ [c])
      simp
      omega
theorem prts_count (s : ByteArray) : (prts s).length ≤ s.size + 1 := by
  unfold prts
  split
  · simp
  · have := cut_count s.data.toList []
    rw [list_len] at this
    exact this

set_option maxHeartbeats 1000000 in
set_option maxRecDepth 4000 in
theorem pis_any (s : ByteArray) (m : Int) (w : World) (hs : s.size ≤ 1048576) (hm : w.cell? ⟨1, 0, none⟩ = some (.int .i64 m)) :
    Calls Tryz.prog 150 #[.string s] w fun e w' => e = .returned (.bool (isP s)) ∧ Below w.heap.size w w' := by
  by_cases h1 : 255 < s.size
  · have hk : isP s = false := by unfold isP; rw [decide_eq_false (by omega)]; rfl
    rw [hk]
    clear hk
    go_enter Tryz.func150, Tryz.ntmps150
    go_wp2
    go_ret
    exact ⟨rfl, Below.refl _ _⟩
  · have HP : Hid (Calls Tryz.prog 159 #[.string s] w fun e w' => (∃ p cap, e = .returned (.slice p (prts s).length cap) ∧ SRw w' p (prts s)) ∧ Below w.heap.size w w') := parts_any s m w hs hm
    have HC : Hid (∀ t ∈ prts s, ∀ w, Calls Tryz.prog 160 #[.string (str t)] w fun e w' => e = .returned (.bool (okc (str t))) ∧ w = w') := fun t ht w => comp_any (str t) w (by have := prts_len ht; rw [str_size]; omega)
    obtain ⟨R, hR⟩ : ∃ R, R = isP s := ⟨_, rfl⟩
    rw [← hR]
    have hR2 : R = (comps ((prts s).drop 0) && (decide (1 ≤ (prts s).length) && decide ((prts s).length ≤ 16))) := by rw [hR]; unfold isP; rw [decide_eq_true (by omega)]; rfl
    have hnl := prts_count s
    obtain ⟨ls, hls⟩ : ∃ ls, ls = prts s := ⟨_, rfl⟩
    rw [← hls] at HP HC hR2 hnl
    obtain ⟨n, hn⟩ : ∃ n, n = ls.length := ⟨_, rfl⟩
    rw [← hn] at HP hR2 hnl
    have HR : Hid (R = (comps (ls.drop 0) && (decide (1 ≤ n) && decide (n ≤ 16)))) := hR2
    have HN := Lib.hid hn
    clear hR hR2 hls hn
    go_enter Tryz.func150, Tryz.ntmps150
    go_wp2_with (go_at_call 159; refine HP.out.mono ?_; rintro e w1 ⟨⟨p, cap, rfl, hsr⟩, hb⟩)
    go_loopw [13] (fun i wr => ∃ k : Nat, k ≤ n ∧ i = .int .i64 k ∧ wr = w1 ∧ Hid (R = (comps (ls.drop k) && (decide (1 ≤ n) && decide (n ≤ 16))))) (fun i _ => n - (intOf i).toNat)
    case atStart => exact ⟨0, by omega, rfl, rfl, HR⟩
    case round =>
      clear HR
      obtain ⟨k, hk, rfl, rfl, HR⟩ := hrel
      by_cases hlt : k < n
      · have hkl : k < ls.length := by rw [← HN.out]; exact hlt
        obtain ⟨g, o, rfl, hg, hc⟩ := hsr k hkl
        have hcall := HC.out ls[k] (List.getElem_mem hkl)
        have hd := comps_drop ls k hkl
        obtain ⟨t, ht⟩ : ∃ t, t = str (ls[k]'hkl) := ⟨_, rfl⟩
        rw [← ht] at hcall hd hc
        cases hok : okc t with
        | true =>
          rw [hok] at hcall hd
          have HX : Hid (R = (comps (ls.drop (k + 1)) && (decide (1 ≤ n) && decide (n ≤ 16)))) := by show _ = _; rw [HR.out, hd, Bool.true_and]
          have HCC := Lib.hid hcall
          clear hcall hd ht hok HR hkl
          go_wp2_with (go_at_call 160; refine (HCC.out _).mono ?_; rintro e w2 ⟨rfl, rfl⟩)
          go_roundw
          case rel => exact ⟨k + 1, by omega, by go_num, trivial, HX⟩
          case measure => simp [intOf]; omega
        | false =>
          rw [hok] at hcall hd
          have HX : Hid (R = false) := by show _ = _; rw [HR.out, hd]; rfl
          have HCC := Lib.hid hcall
          clear hcall hd ht hok HR hkl
          go_wp2_with (go_at_call 160; refine (HCC.out _).mono ?_; rintro e w2 ⟨rfl, rfl⟩)
          go_ret
          exact ⟨by rw [HX.out]; rfl, hb⟩
      · have HX : Hid (R = (decide (1 ≤ n) && decide (n ≤ 16))) := by
          show _ = _
          rw [HR.out, List.drop_eq_nil_of_le (by have := HN.out; omega)]
          rfl
        by_cases h16 : 1 ≤ n
        · have HY : Hid (R = decide ((n : Int) ≤ 16)) := by show _ = _; rw [HX.out, decide_eq_true h16, Bool.true_and]; exact decide_eq_decide.mpr (by omega)
          go_wp2
          go_ret
          exact ⟨by rw [HY.out]; rfl, hb⟩
        · have HY : Hid (R = false) := by show _ = _; rw [HX.out, decide_eq_false h16]; rfl
          go_wp2
          go_ret
          exact ⟨by rw [HY.out]; rfl, hb⟩
end Go.Proofs.YtddmnibioacelaaGreatDoor
/-
  The walk of Raw.
-/
namespace Go.Proofs.YtddmnibioacelaaGreatDoor
open Go.RowKit

def hv (b : UInt8) : Nat := (halfOf b).getD 0
theorem hv_lt (b : UInt8) : hv b < 16 := by
  unfold hv halfOf
  split
  · simp; omega
  · split
    · simp; omega
    · simp
/-- n bytes, from two digits each. -/
def rawL (l : List UInt8) (n : Nat) : List UInt8 := (List.range n).map fun i => UInt8.ofNat (hv (l.getD (2 * i) 0) * 16 + hv (l.getD (2 * i + 1) 0))
theorem rawL_next (l : List UInt8) (n : Nat) : rawL l (n + 1) = rawL l n ++ [UInt8.ofNat (hv (l.getD (2 * n) 0) * 16 + hv (l.getD (2 * n + 1) 0))] := by
  simp [rawL, List.range_succ]
theorem or_half (x y : Nat) (hx : x < 16) (hy : y < 16) : bits .or .u8 ((x : Int) * 16) (y : Int) = (((UInt8.ofNat (x * 16 + y)).toNat : Nat) : Int) := by
  rw [show ((x : Int) * 16) = ((x * 16 : Nat) : Int) by omega, u8_or_nat _ _ (by omega) (by omega), nat_join 4 (x * 16) y (by omega) (by omega), u8nat (by omega)]
theorem half_id (b : UInt8) (w : World) : ∃ p, Calls Tryz.prog 92 #[.int .u8 b.toNat] w fun e w' => e = .returned (.tuple #[.int .u8 (hv b : Nat), .bool p]) ∧ w = w' := ⟨_, half_any b w⟩

end Go.Proofs.YtddmnibioacelaaGreatDoor
