/-
  The walk of Parts.
-/
import Derived.Test.YtjholoajgnpodaaDoorPtParts
import Derived.Test.YtjholoajgnpodaaDoorShelf
import Derived.Test.YtjholoajgnpodaaDoorPtBasicPk
import Derived.BigQuiet
import Derived.Deep.QuietTactic
namespace Go.Proofs.YtjholoajgnpodaaDoor
open Go.RowKit

theorem srw_new (w : World) (L : List ByteArray) (t : TypeId) : SRw (w.alloc (.cells (L.map Value.string).toArray t)) (some ⟨w.heap.size, 0, none⟩) (L.map fun x => x.data.toList) := fun k hk => by
  refine ⟨w.heap.size, 0, rfl, by simp, ?_⟩
  have h := World.cell?_alloc_mark w (L.map Value.string).toArray t (0, 0) k
  rw [Nat.zero_add]
  refine h.trans ?_
  have hk' : k < L.length := by simpa using hk
  simp [List.getElem?_eq_getElem hk', pt_self]

set_option maxHeartbeats 1000000 in
set_option maxRecDepth 4000 in
theorem parts_cap (s : ByteArray) (m : Int) (w : World) (hs : s.size ≤ 1048576) (hm : w.cell? ⟨1, 0, none⟩ = some (.int .i64 m)) :
    Calls Tryd.prog 62 #[.string s] w fun e w' => (∃ p cap, e = .returned (.slice p (prts s).length cap) ∧ (prts s).length ≤ cap ∧ SRw w' p (prts s)) ∧ Below w.heap.size w w' := by
  by_cases h0 : s.size = 0
  · have he := none_true h0
    rw [show prts s = [] from if_pos h0]
    clear h0
    go_enter Tryd.func62, Tryd.ntmps62
    go_wp2
    go_ret
    exact ⟨⟨none, 0, rfl, Nat.le_refl _, SRw.none _ _⟩, Below.refl _ _⟩
  · have he := none_false (s := s) (by omega)
    have hp : prts s = (Lib.splitB slash 0 (Lib.countB s slash) s).map fun x => x.data.toList := by rw [cut_split s.size s (Nat.le_refl _)]; exact if_neg h0
    have hl : (prts s).length = Lib.countB s slash + 1 := by
      rw [hp, List.length_map]
      exact Lib.splitB_all slash (by decide) 0 _ s rfl
    have HS : Hid (Calls Tryd.prog 70 #[.string s, .string ⟨#[47]⟩] w fun e w' => (∃ p cap, e = .returned (.slice p (prts s).length cap) ∧ (prts s).length ≤ cap ∧ SRw w' p (prts s)) ∧ Below w.heap.size w w') := by
      refine (Tryd.strings_Split s slash m w (by omega) hm (by decide)).mono fun e w' ⟨h1, h2⟩ => ⟨⟨some ⟨w.heap.size, 0, none⟩, Lib.countB s slash + 1, by rw [hl]; exact h1, by rw [hl]; exact Nat.le_refl _, ?_⟩, ?_⟩
      · rw [h2, hp]
        exact srw_new w _ _
      · rw [h2]
        exact (Below.refl _ _).alloc (Nat.le_refl _) _
    obtain ⟨R, hR⟩ : ∃ R, R = prts s := ⟨_, rfl⟩
    rw [← hR] at HS ⊢
    clear hp hl hR h0
    go_enter Tryd.func62, Tryd.ntmps62
    go_wp2_with (go_at_call 70; refine HS.out.mono ?_; rintro e w1 ⟨⟨p, cap, rfl, hcap, hsr⟩, hb⟩)
    go_ret
    exact ⟨⟨p, cap, rfl, hcap, hsr⟩, hb⟩
theorem parts_any (s : ByteArray) (m : Int) (w : World) (hs : s.size ≤ 1048576) (hm : w.cell? ⟨1, 0, none⟩ = some (.int .i64 m)) :
    Calls Tryd.prog 62 #[.string s] w fun e w' => (∃ p cap, e = .returned (.slice p (prts s).length cap) ∧ SRw w' p (prts s)) ∧ Below w.heap.size w w' :=
  (parts_cap s m w hs hm).mono fun _ _ ⟨⟨p, cap, h1, _, h2⟩, h3⟩ => ⟨⟨p, cap, h1, h2⟩, h3⟩
end Go.Proofs.YtjholoajgnpodaaDoor
/-
  The walk of isComponent.
-/
namespace Go.Proofs.YtjholoajgnpodaaDoor
open Go.RowKit

/-- The names that no component has. -/
def named (s : ByteArray) : Bool := s.toList.isEmpty || s.toList == [46] || s.toList == [46, 46] || s.toList == [46, 103, 114, 97, 102, 116]
def highs (l : List UInt8) : Bool := l.all fun c => decide (32 ≤ c.toNat)
/-- Whether a string without slashes is a component. -/
def okc (s : ByteArray) : Bool := !named s && highs s.data.toList && decide (s.size ≤ 64)
theorem highs_drop (s : ByteArray) (k : Nat) (h : k < s.size) : highs (s.data.toList.drop k) = (decide (32 ≤ s[k].toNat) && highs (s.data.toList.drop (k + 1))) := by
  unfold highs
  rw [List.drop_eq_getElem_cons (by rw [list_len]; exact h), List.all_cons]
  rfl
theorem highs_end (s : ByteArray) (k : Nat) (h : s.size ≤ k) : highs (s.data.toList.drop k) = true := by
  rw [List.drop_eq_nil_of_le (by rw [list_len]; exact h)]
  rfl

set_option maxHeartbeats 1000000 in
set_option maxRecDepth 4000 in
theorem comp_any (s : ByteArray) (w : World) (hs : s.size ≤ 1048576) :
    Calls Tryd.prog 63 #[.string s] w fun e w' => e = .returned (.bool (okc s)) ∧ w = w' := by
  cases he : s.toList.isEmpty with
  | true =>
    have hk : okc s = false := by unfold okc named; rw [he]; simp
    rw [hk]
    clear hk
    go_enter Tryd.func63, Tryd.ntmps63
    go_wp2
    go_ret
    exact ⟨rfl, rfl⟩
  | false =>
    cases h1 : s.toList == [46] with
    | true =>
      have hk : okc s = false := by unfold okc named; rw [he, h1]; simp
      rw [hk]
      clear hk
      go_enter Tryd.func63, Tryd.ntmps63
      go_wp2
      go_ret
      exact ⟨rfl, rfl⟩
    | false =>
      cases h2 : s.toList == [46, 46] with
      | true =>
        have hk : okc s = false := by unfold okc named; rw [he, h1, h2]; simp
        rw [hk]
        clear hk
        go_enter Tryd.func63, Tryd.ntmps63
        go_wp2
        go_ret
        exact ⟨rfl, rfl⟩
      | false =>
        cases h3 : s.toList == [46, 103, 114, 97, 102, 116] with
        | true =>
          have hk : okc s = false := by unfold okc named; rw [he, h1, h2, h3]; simp
          rw [hk]
          clear hk
          go_enter Tryd.func63, Tryd.ntmps63
          go_wp2
          go_ret
          exact ⟨rfl, rfl⟩
        | false =>
          obtain ⟨R, hR⟩ : ∃ R, R = okc s := ⟨_, rfl⟩
          have HR : Hid (R = (highs (s.data.toList.drop 0) && decide (s.size ≤ 64))) := by show _ = _; rw [hR]; unfold okc named; rw [he, h1, h2, h3]; rfl
          rw [← hR]
          clear hR
          go_enter Tryd.func63, Tryd.ntmps63
          go_wp2
          go_loopw [12] (fun i wr => ∃ k : Nat, k ≤ s.size ∧ i = .int .i64 k ∧ wr = w ∧ Hid (R = (highs (s.data.toList.drop k) && decide (s.size ≤ 64)))) (fun i _ => s.size - (intOf i).toNat)
          case atStart => exact ⟨0, by omega, rfl, rfl, HR⟩
          case round =>
            clear HR
            obtain ⟨k, hk, rfl, rfl, HR⟩ := hrel
            by_cases hlt : k < s.size
            · have hd := highs_drop s k hlt
              by_cases hc : 32 ≤ s[k].toNat
              · have hc1 : decide ((s[k].toNat : Int) < 32) = false := decide_eq_false (by omega)
                have hc2 : ¬ s[k].toNat < 32 := by omega
                have HX : Hid (R = (highs (s.data.toList.drop (k + 1)) && decide (s.size ≤ 64))) := by
                  show _ = _
                  rw [HR.out, hd, decide_eq_true hc, Bool.true_and]
                clear hd hc HR
                go_wp2
                go_roundw
                case rel => exact ⟨k + 1, by omega, by go_num, trivial, HX⟩
                case measure => simp [intOf]; omega
              · have hc1 : decide ((s[k].toNat : Int) < 32) = true := decide_eq_true (by omega)
                have hc2 : s[k].toNat < 32 := by omega
                have HX : Hid (R = false) := by
                  show _ = _
                  rw [HR.out, hd, decide_eq_false hc]
                  rfl
                clear hd hc HR
                go_wp2
                go_ret
                exact ⟨by rw [HX.out]; rfl, rfl⟩
            · have HX : Hid (R = decide ((s.size : Int) ≤ 64)) := by
                show _ = _
                rw [HR.out, highs_end s k (by omega), Bool.true_and]
                exact decide_eq_decide.mpr (by omega)
              go_wp2
              go_ret
              exact ⟨by rw [HX.out]; rfl, rfl⟩
end Go.Proofs.YtjholoajgnpodaaDoor
