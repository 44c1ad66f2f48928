/-
  The walk of the reference's Flip.
-/
import Derived.Test.YtgnljpcnkmogfaaDoorAid
import Derived.Test.YtgnljpcnkmogfaaDoorBurstPlain
import Derived.RegionTactic
import Derived.IntWalk
namespace Go.Proofs.YtgnljpcnkmogfaaDoor
open Go.RowKit

/-- Block B holds the bytes l, and they may be written. -/
def Row (w : World) (B : Nat) (l : List UInt8) : Prop := ∀ i c, l[i]? = some c → w.cell? ⟨B, i, none⟩ = some (.int .u8 (c.toNat : Int)) ∧ w.frozen? ⟨B, i, none⟩ = false

theorem Row.set {w : World} {B : Nat} {l : List UInt8} (h : Row w B l) {i : Nat} (hi : i < l.length) (c : UInt8) : Row (w.setCell ⟨B, i, none⟩ (.int .u8 (c.toNat : Int))) B (l.set i c) := by
  intro j d hj
  rw [World.frozen?_setCell]
  by_cases e : i = j
  · subst e
    rw [List.getElem?_set_self hi] at hj
    obtain rfl := Option.some.inj hj
    have h0 := h i l[i] (List.getElem?_eq_getElem hi)
    exact ⟨World.cell?_setCell_same _ _ _ h0.1, h0.2⟩
  · rw [List.getElem?_set_ne e] at hj
    have h0 := h j d hj
    exact ⟨(World.cell?_setCell_other _ _ _ _ (by simp)).trans h0.1, h0.2⟩
theorem Row.drew {w : World} {B : Nat} {l : List UInt8} (h : Row w B l) : Row w.drew B l := h

theorem Row.conv {P : Program} {w : World} {B : Nat} {l : List UInt8} (h : Row w B l) (n cap : Nat) (hn : n = l.length) (src dst e : TypeId) (hs : P.underlying src = some (.slice e)) (he : P.underlying e = some (.int .u8)) (hd : P.underlying dst = some .string) :
    (convert src dst (.slice (some ⟨B, 0, none⟩) n cap)).run P w = .ok (.string (str l)) w := by
  subst hn
  refine run_convert_bytes_back (P := P) w src dst e ⟨B, 0, none⟩ cap l hs he hd fun j hj => ?_
  rw [Addr.add_lit, Nat.zero_add]
  exact (h j l[j] (List.getElem?_eq_getElem hj)).1

theorem Row.new (w : World) (s : ByteArray) (cap : Nat) (e : TypeId) : Row (w.drew.alloc (.cells (bytesRow s cap) e ((bytesRow s cap).size, (bytesRow s cap).size + 1))) w.heap.size s.data.toList := by
  intro i c hc
  have hi : i < s.data.size := by
    have := (List.getElem?_eq_some_iff.1 hc).1
    simpa using this
  constructor
  · have h := World.cell?_alloc_mark w.drew (bytesRow s cap) e ((bytesRow s cap).size, (bytesRow s cap).size + 1) i
    refine h.trans ?_
    have hc' : s.data[i]? = some c := by simpa using hc
    have hi' : i < s.size := hi
    have hc2 : s.data[i] = c := by
      have := Array.getElem?_eq_getElem hi
      rw [this] at hc'
      exact Option.some.inj hc'
    simp [bytesRow, Array.getElem?_append, hi', hc2]
  · have hb : (w.drew.alloc (.cells (bytesRow s cap) e ((bytesRow s cap).size, (bytesRow s cap).size + 1))).heap[w.heap.size]? = some (.cells (bytesRow s cap) e ((bytesRow s cap).size, (bytesRow s cap).size + 1)) := by
      show (w.heap.push _)[w.heap.size]? = _
      simp
    have hsz : i < (bytesRow s cap).size := by simp [bytesRow]; exact Nat.lt_of_lt_of_le hi (Nat.le_add_right s.size _)
    simp only [World.frozen?, hb]
    simp
    omega

/-- What a burst does to a string's bytes. -/
def Burst (s l : List UInt8) (at' k m : Nat) : Prop := l.length = s.length ∧ m < 2 ^ k ∧ val l = val s ^^^ (m * 2 ^ at') ∧ (m ≠ 0 → at' ≤ 8 * s.length) ∧ (m = 0 → l = s)

theorem Burst.keep {s l : List UInt8} {a k m : Nat} (h : Burst s l a k m) : Burst s l a (k + 1) m :=
  ⟨h.1, Nat.lt_of_lt_of_le h.2.1 (Nat.pow_le_pow_right (by decide) (Nat.le_succ k)), h.2.2⟩

theorem Burst.turn {s l : List UInt8} {a k m : Nat} (h : Burst s l a k m) {x : UInt8} (hx : l[(a + k) / 8]? = some x) : Burst s (l.set ((a + k) / 8) (x ^^^ UInt8.ofNat (2 ^ ((a + k) % 8)))) a (k + 1) (m + 2 ^ k) := by
  obtain ⟨h1, h2, h3, h4, h5⟩ := h
  have hi := (List.getElem?_eq_some_iff.1 hx).1
  have h8 : (a + k) % 8 < 8 := Nat.mod_lt _ (by decide)
  have hb : (UInt8.ofNat (2 ^ ((a + k) % 8))).toNat = 2 ^ ((a + k) % 8) := by
    have : 2 ^ ((a + k) % 8) < 2 ^ 8 := Nat.pow_lt_pow_right (by decide) h8
    simp; omega
  refine ⟨by simp [h1], by rw [Nat.pow_succ]; omega, ?_, fun _ => by omega, fun h0 => ?_⟩
  · rw [val_set l _ _ x hx, h3, hb, ← Nat.pow_add, show (a + k) % 8 + 8 * ((a + k) / 8) = a + k by omega, burst_next h2]
  · have := Nat.two_pow_pos k; omega

theorem flip_bit (x : UInt8) (j : Nat) : bits .xor .u8 (x.toNat : Int) (2 ^ (j % 8) % 256) = ((x ^^^ UInt8.ofNat (2 ^ (j % 8))).toNat : Int) := by
  have h8 : j % 8 < 8 := Nat.mod_lt _ (by decide)
  have hlt : 2 ^ (j % 8) < 2 ^ 8 := Nat.pow_lt_pow_right (by decide) h8
  have hx := UInt8.toNat_lt x
  have e : ((2 : Int) ^ (j % 8) % 256) = ((2 ^ (j % 8) : Nat) : Int) := by
    have e1 : ((2 ^ (j % 8) : Nat) : Int) = (2 : Int) ^ (j % 8) := by simp
    rw [← e1]
    obtain ⟨P, hP⟩ : ∃ P, P = 2 ^ (j % 8) := ⟨_, rfl⟩
    rw [← hP] at hlt ⊢
    omega
  have hb : (UInt8.ofNat (2 ^ (j % 8))).toNat = 2 ^ (j % 8) := by simp; omega
  rw [e, u8_xor_nat _ _ hx (by omega), UInt8.toNat_xor, hb]

set_option maxHeartbeats 1000000 in
set_option maxRecDepth 4000 in
theorem flip_any (s : ByteArray) (a n : Nat) (w : World) (_hs : s.size ≤ 140737488355328) (ha : a ≤ 1099511627776) (_hn : n < 4294967296) :
    Calls Tryd.prog 30 #[.string s, .int .i64 a, .int .u32 n] w fun e w' => (∃ l m, e = .returned (.string (str l)) ∧ Burst s.data.toList l a 32 m) ∧ Below w.heap.size w w' := by
  have hcv := run_bytes_of_string (P := Tryd.prog) w 9 54 5 s Tryd.underlying9 Tryd.underlying54 Tryd.underlying5
  have hrow := Row.new w s (grownCap w s.size 0 5) 5
  have hb0 : Below w.heap.size w (w.drew.alloc (.cells (bytesRow s (grownCap w s.size 0 5)) 5 ((bytesRow s (grownCap w s.size 0 5)).size, (bytesRow s (grownCap w s.size 0 5)).size + 1))) := ((Below.refl _ _).drew).alloc (Nat.le_refl _) _
  go_enter Tryd.func30, Tryd.ntmps30
  obtain ⟨w1, hw1⟩ : ∃ w1, w1 = w.drew.alloc (.cells (bytesRow s (grownCap w s.size 0 5)) 5 ((bytesRow s (grownCap w s.size 0 5)).size, (bytesRow s (grownCap w s.size 0 5)).size + 1)) := ⟨_, rfl⟩
  rw [← hw1] at hcv hrow hb0
  obtain ⟨cap, hcap⟩ : ∃ c, c = grownCap w s.size 0 5 := ⟨_, rfl⟩
  rw [← hcap] at hcv
  obtain ⟨B, hB⟩ : ∃ B, B = w.heap.size := ⟨_, rfl⟩
  rw [← hB] at hcv hrow hb0 ⊢
  clear hw1 hcap
  have HB : Hid (B = w.heap.size) := hB
  clear hB
  go_wp2
  go_loopw [8] (fun i wr => ∃ (k m : Nat) (l : List UInt8), k ≤ 32 ∧ i = .int .i64 k ∧ Burst s.data.toList l a k m ∧ Row wr B l ∧ Below B w wr) (fun i _ => 32 - (intOf i).toNat)
  case atStart => exact ⟨0, 0, s.data.toList, by omega, rfl, ⟨rfl, by decide, by simp, by simp, fun _ => rfl⟩, hrow, hb0⟩
  case round =>
    obtain ⟨k, m, l, hk, rfl, hbu, hro, hbe⟩ := hrel
    have hln : Hid (l.length = s.size) := by rw [← list_len]; exact hbu.1
    clear hrow hb0 hcv
    have htm : ((n : Int) / 2 ^ k).tmod 2 = ((n / 2 ^ k % 2 : Nat) : Int) := by
      have e : (n : Int) / 2 ^ k = ((n / 2 ^ k : Nat) : Int) := by simp
      rw [e, Int.tmod_eq_emod_of_nonneg (Int.natCast_nonneg _)]; rfl
    by_cases hlt : k < 32
    · by_cases hbit : n / 2 ^ k % 2 = 1
      · rw [hbit] at htm
        have ht : ((n : Int) / 2 ^ k).tmod 2 = 1 := htm
        clear htm hbit
        by_cases hin : (a + k) / 8 < s.size
        · obtain ⟨x, hx⟩ : ∃ x, l[(a + k) / 8]? = some x := ⟨_, List.getElem?_eq_getElem (by rw [hln.out]; exact hin)⟩
          have hce := hro _ x hx
          have hc1 := hce.1
          have hc2 := hce.2
          have HX : Hid (l[(a + k) / 8]? = some x) := hx
          have q1 : (0 : Int) ≤ ((a : Int) + k) / 8 := by omega
          have q2 : ((a : Int) + k) / 8 < s.size := by omega
          clear hx hce
          go_wp2
          go_region
          go_wp2
          go_roundw
          case rel =>
            rw [flip_bit]
            exact ⟨k + 1, m + 2 ^ k, _, by omega, by go_num, hbu.turn HX.out, (hro.set (by rw [hln.out]; exact hin) _).drew, (hbe.setCell (p := ⟨B, (a + k) / 8, none⟩) (Nat.le_refl _) _).drew⟩
          case measure => simp [intOf]; omega
        · go_wp2
          go_roundw
          case rel => exact ⟨k + 1, m, l, by omega, by go_num, hbu.keep, hro, hbe⟩
          case measure => simp [intOf]; omega
      · have h0 : n / 2 ^ k % 2 = 0 := by omega
        rw [h0] at htm
        have ht : (((n : Int) / 2 ^ k).tmod 2 == 1) = false := by rw [htm]; rfl
        clear htm h0 hbit
        go_wp2
        go_roundw
        case rel => exact ⟨k + 1, m, l, by omega, by go_num, hbu.keep, hro, hbe⟩
        case measure => simp [intOf]; omega
    · obtain rfl : k = 32 := by omega
      have hcl := hro.conv (P := Tryd.prog) s.size cap hln.out.symm 54 9 5 Tryd.underlying54 Tryd.underlying5 Tryd.underlying9
      clear htm
      go_wp2
      go_ret
      exact ⟨⟨l, m, rfl, hbu⟩, hbe⟩
end Go.Proofs.YtgnljpcnkmogfaaDoor
