/-
  The walk of schedule: the words of a block.
-/
import Derived.Test.YtalbphlmebhjoaaDoorShaMix
import Derived.RegionTactic
import Derived.Deep.MidRow
namespace Go.Proofs.YtalbphlmebhjoaaDoor
open Go.RowKit

/-- Block B holds the words l, and they may be written. -/
def Row32 (w : World) (B : Nat) (l : List Nat) : Prop := ∀ t, t < l.length → w.cell? ⟨B, t, none⟩ = some (.int .u32 (l.getD t 0 : Nat)) ∧ w.frozen? ⟨B, t, none⟩ = false
theorem Row32.set {w : World} {B : Nat} {l : List Nat} (h : Row32 w B l) {i : Nat} (hi : i < l.length) (x : Nat) : Row32 (w.setCell ⟨B, i, none⟩ (.int .u32 (x : Int))) B (l.set i x) := by
  intro j hj
  rw [List.length_set] at hj
  rw [World.frozen?_setCell]
  by_cases e : i = j
  · subst e
    have h0 := h i hi
    refine ⟨(World.cell?_setCell_same _ _ _ h0.1).trans ?_, h0.2⟩
    rw [List.getD_eq_getElem?_getD, List.getElem?_set_self hi]
    rfl
  · have h0 := h j hj
    refine ⟨(World.cell?_setCell_other _ _ _ _ (by simp [e])).trans (h0.1.trans ?_), h0.2⟩
    rw [List.getD_eq_getElem?_getD, List.getD_eq_getElem?_getD, List.getElem?_set_ne e]
theorem Row32.range {w : World} {B : Nat} {l : List Nat} (h : Row32 w B l) : w.rangeAt B 0 (l.map fun (n : Nat) => Value.int .u32 (n : Int)) := by
  intro j v hv
  have hj : j < l.length := by
    have := (List.getElem?_eq_some_iff.1 hv).1
    simpa using this
  rw [Nat.zero_add, (h j hj).1, ← hv, List.getD_eq_getElem?_getD]
  simp [hj]

def zeros64 : List Nat := [0, 0, 0, 0, 0, 0, 0, 0, 0, 0, 0, 0, 0, 0, 0, 0, 0, 0, 0, 0, 0, 0, 0, 0, 0, 0, 0, 0, 0, 0, 0, 0, 0, 0, 0, 0, 0, 0, 0, 0, 0, 0, 0, 0, 0, 0, 0, 0, 0, 0, 0, 0, 0, 0, 0, 0, 0, 0, 0, 0, 0, 0, 0, 0]
theorem zeros64_get (t : Nat) : zeros64.getD t 0 = 0 := by
  have h : ∀ x ∈ zeros64, x = 0 := by decide
  rw [List.getD_eq_getElem?_getD]
  by_cases ht : t < zeros64.length
  · rw [List.getElem?_eq_getElem ht]; exact h _ (List.getElem_mem ht)
  · rw [List.getElem?_eq_none (by omega)]; rfl
theorem Row32.new (w : World) (l : List Nat) (t : TypeId) : Row32 (w.alloc (.cells (u32s l) t)) w.heap.size l := fun i hi => by
  have hb : (w.alloc (.cells (u32s l) t)).heap[w.heap.size]? = some (.cells (u32s l) t (0, 0)) := heap_alloc_new w _
  exact ⟨WTab.new w l t i hi, frozen_of_row _ _ _ _ _ hb⟩

/-- The world in which the schedule is made. -/
structure SchW (w wr : World) (L : List Nat) : Prop where
  below : Below w.heap.size w wr
  len : L.length = 64
  row : Row32 wr (w.heap.size + 1) L
  res : Row32 wr w.heap.size zeros64
theorem SchW.start (w : World) : SchW w ((w.alloc (.cells (u32s zeros64) 69)).alloc (.cells (u32s zeros64) 69)) zeros64 := by
  refine ⟨((Below.refl _ w).alloc (Nat.le_refl _) _).alloc (by simp) _, rfl, ?_, ?_⟩
  · have h := Row32.new (w.alloc (.cells (u32s zeros64) 69)) zeros64 69
    simpa using h
  · intro t ht
    have h := Row32.new w zeros64 69 t ht
    have hb := (Below.refl (w.alloc (.cells (u32s zeros64) 69)).heap.size (w.alloc (.cells (u32s zeros64) 69))).alloc (Nat.le_refl _) (.cells (u32s zeros64) 69)
    have hlt : w.heap.size < (w.alloc (.cells (u32s zeros64) 69)).heap.size := by simp
    exact ⟨(hb.cell (p := ⟨w.heap.size, t, none⟩) hlt).trans h.1, (hb.frozen (p := ⟨w.heap.size, t, none⟩) hlt).trans h.2⟩
theorem SchW.set {w wr : World} {L : List Nat} (h : SchW w wr L) {i : Nat} (hi : i < 64) (x : Nat) : SchW w (wr.setCell ⟨w.heap.size + 1, i, none⟩ (.int .u32 (x : Int))) (L.set i x) :=
  ⟨h.below.setCell (p := ⟨w.heap.size + 1, i, none⟩) (Nat.le_succ _) _, by rw [List.length_set]; exact h.len, h.row.set (by rw [h.len]; exact hi) x, fun t ht => by
    rw [World.frozen?_setCell]
    exact ⟨(World.cell?_setCell_other _ _ _ _ (by simp)).trans (h.res t ht).1, (h.res t ht).2⟩⟩
theorem SchW.drewN {w wr : World} {L : List Nat} (h : SchW w wr L) (n : Nat) : SchW w (wr.drewN n) L := ⟨below_drewN h.below n, h.len, fun t ht => h.row t ht, fun t ht => h.res t ht⟩
theorem SchW.drew {w wr : World} {L : List Nat} (h : SchW w wr L) : SchW w wr.drew L := h.drewN 1

/-- The number of j bytes from k on. -/
def pv (l : List UInt8) (k : Nat) : Nat → Nat
  | 0 => 0
  | j + 1 => pv l k j * 256 + (l.getD (k + j) 0).toNat
theorem pv_lt (l : List UInt8) (k j : Nat) : pv l k j < 256 ^ j := by
  induction j with
  | zero => exact Nat.one_pos
  | succ j ih =>
    have := UInt8.toNat_lt (l.getD (k + j) 0)
    rw [pv, Nat.pow_succ]; omega
theorem pv_four (l : List UInt8) (k : Nat) : pv l k 4 = word4 l k := by simp [pv, word4]

theorem take_get {L : List Nat} {i t : Nat} (h : i < t) : (L.take t).getD i 0 = L.getD i 0 := by
  rw [List.getD_eq_getElem?_getD, List.getD_eq_getElem?_getD, List.getElem?_take_of_lt h]
/-- i words are made, j bytes of the next. -/
def Part (l : List UInt8) (L : List Nat) (i j : Nat) : Prop := (∀ t, t < i → L.getD t 0 = word4 l (4 * t)) ∧ L.getD i 0 = pv l (4 * i) j ∧ ∀ t, i < t → L.getD t 0 = 0
theorem getD_set {L : List Nat} {i x : Nat} (hi : i < L.length) (t : Nat) : (L.set i x).getD t 0 = if i = t then x else L.getD t 0 := by
  rw [List.getD_eq_getElem?_getD, List.getD_eq_getElem?_getD]
  by_cases e : i = t
  · subst e; rw [List.getElem?_set_self hi]; simp
  · rw [List.getElem?_set_ne e, if_neg e]
theorem Part.next {l : List UInt8} {L : List Nat} {i j : Nat} (h : Part l L i j) (hi : i < L.length) : Part l (L.set i (pv l (4 * i) j * 256 + (l.getD (4 * i + j) 0).toNat)) i (j + 1) := by
  refine ⟨fun t ht => ?_, ?_, fun t ht => ?_⟩
  · rw [getD_set hi, if_neg (by omega)]; exact h.1 t ht
  · rw [getD_set hi, if_pos rfl]; rfl
  · rw [getD_set hi, if_neg (by omega)]; exact h.2.2 t ht
theorem Part.on {l : List UInt8} {L : List Nat} {i : Nat} (h : Part l L i 4) : Part l L (i + 1) 0 := by
  refine ⟨fun t ht => ?_, h.2.2 _ (by omega), fun t ht => h.2.2 _ (by omega)⟩
  by_cases e : t = i
  · subst e; rw [h.2.1, pv_four]
  · exact h.1 t (by omega)

theorem byte_or {p c : Nat} (hp : p < 16777216) (hc : c < 256) : bits .or .u32 ((p : Int) * 256) (c : Int) = ((p * 256 + c : Nat) : Int) := by
  rw [show ((p : Int) * 256) = ((p * 256 : Nat) : Int) by omega, u32_or_nat (p * 256) c (by omega) (by omega), nat_join 8 (p * 256) c (by omega) (by omega)]
theorem getD_byte (s : ByteArray) (i : Nat) (h : i < s.size) : s.data.toList.getD i 0 = s[i] := by
  rw [List.getD_eq_getElem?_getD, List.getElem?_eq_getElem (by rw [list_len]; exact h)]
  rfl

theorem below_setCells {B b : Nat} {a : World} : ∀ (vs : List Value) (o : Nat) (w : World), Below B a w → B ≤ b → Below B a (w.setCells b o vs)
  | [], _, _, h, _ => h
  | v :: r, o, w, h, hb => below_setCells r (o + 1) (w.setCell ⟨b, o, none⟩ v) (h.setCell (p := ⟨b, o, none⟩) hb v) hb
theorem results_cell_mid {P : Program} {fn : Func} {p : Tmp} {ty : TypeId} (h : fn.results = #[.cell p ty]) (tmps : Array Value) (w : World) (g : Nat) (cs : List Value) (d : TypeDesc)
    (hp : tmps.getD p undef = .pointer (some ⟨g, 0, none⟩)) (hg : w.rangeAt g 0 cs) (hu : P.underlying ty = some d) (hd : d.isRow = true) (hi : (P.info? ty).map (·.size) = some cs.length) :
    (results fn tmps).run P w = .ok (.agg cs.toArray) w := by
  have hp' : tmps[p]?.getD undef = .pointer (some ⟨g, 0, none⟩) := by simpa using hp
  simp [results, h, hp', asAddr, run_loadVar_mid w g 0 ty cs d hg hu hd hi]

set_option maxHeartbeats 1000000 in
set_option maxRecDepth 4000 in
theorem sched_any (s : ByteArray) (w : World) (hs : s.size = 64) :
    Calls Tryd.prog 49 #[.string s] w fun e w' => e = .returned (.agg (u32s (sched (words16 s.data.toList 0) 48))) ∧ Below w.heap.size w w' := by
  have hs1 : s.size ≤ 64 := by omega
  have hs2 : 64 ≤ s.size := by omega
  have HS : Hid (s.size = 64) := hs
  clear hs
  go_enter Tryd.func49, Tryd.ntmps49
  go_wp2
  go_loopw [11] (fun i wr => ∃ (k : Nat) (L : List Nat), k ≤ 16 ∧ i = .int .i64 k ∧ SchW w wr L ∧ Part s.data.toList L k 0) (fun i _ => 16 - (intOf i).toNat)
  case atStart => exact ⟨0, zeros64, by omega, rfl, SchW.start w, ⟨fun t ht => by omega, zeros64_get 0, fun t _ => zeros64_get t⟩⟩
  case round =>
    obtain ⟨k, L, hk, rfl, hw, hp⟩ := hrel
    by_cases hlt : k < 16
    · go_wp2
      obtain ⟨wo, hwo⟩ : ∃ wo : World, wo = wr := ⟨_, rfl⟩
      subst hwo
      go_loopw [14] (fun i wr => ∃ (j : Nat) (L : List Nat), j ≤ 4 ∧ i = .int .i64 j ∧ SchW w wr L ∧ Part s.data.toList L k j) (fun i _ => 4 - (intOf i).toNat)
      case atStart => exact ⟨0, L, by omega, rfl, hw, hp⟩
      case round =>
        clear hw hp
        obtain ⟨j, L, hj, rfl, hw, hp⟩ := hrel
        by_cases hjl : j < 4
        · have hb := UInt8.toNat_lt s[4 * k + j]
          obtain ⟨p, hpp⟩ : ∃ p, p = pv s.data.toList (4 * k) j := ⟨_, rfl⟩
          have pl : p < 16777216 := by
            have h1 := pv_lt s.data.toList (4 * k) j
            have h2 : 256 ^ j ≤ 256 ^ 3 := Nat.pow_le_pow_right (by decide) (by omega)
            omega
          have hc := (hw.row k (by rw [hw.len]; omega)).1
          have hf := (hw.row k (by rw [hw.len]; omega)).2
          rw [hp.2.1, ← hpp] at hc
          have hor := byte_or pl hb
          have HN : Hid (SchW w (wr.setCell ⟨w.heap.size + 1, k, none⟩ (.int .u32 ((p * 256 + s[4 * k + j].toNat : Nat) : Int))) (L.set k (p * 256 + s[4 * k + j].toNat))) := hw.set (by omega) _
          have HP : Hid (Part s.data.toList (L.set k (p * 256 + s[4 * k + j].toNat)) k (j + 1)) := by
            have h := hp.next (by rw [hw.len]; omega)
            rw [← hpp, getD_byte s _ (by omega)] at h
            exact h
          obtain ⟨x, hx⟩ : ∃ x, x = p * 256 + s[4 * k + j].toNat := ⟨_, rfl⟩
          rw [← hx] at hor HN HP
          have q1 : (0 : Int) ≤ k := by omega
          have q2 : (k : Int) < 64 := by omega
          have q3 : (0 : Int) ≤ 4 * (k : Int) + j := by omega
          have q4 : 4 * (k : Int) + j < s.size := by omega
          clear hpp hx hp hw
          go_wp2
          go_region
          go_wp2
          go_roundw
          case rel => exact ⟨j + 1, _, by omega, by go_num, HN.out.drew, HP.out⟩
          case measure => simp [intOf]; omega
        · obtain rfl : j = 4 := by omega
          go_wp2
          go_roundw
          case rel => exact ⟨k + 1, L, by omega, by go_num, hw, hp.on⟩
          case measure => simp [intOf]; omega
    · obtain rfl : k = 16 := by omega
      have hts : L.take 16 = words16 s.data.toList 0 := by
        apply List.ext_getElem
        · rw [List.length_take, hw.len, words16_len]; rfl
        · intro t h1 h2
          rw [words16_len] at h2
          have := hp.1 t h2
          rw [List.getD_eq_getElem?_getD, List.getElem?_eq_getElem (by rw [hw.len]; omega)] at this
          simpa [words16] using this
      have HT : Hid (L.take 16 = words16 s.data.toList 0) := hts
      clear hts hp
      rw [show ((16 : Nat) : Int) = 16 from rfl]
      go_wp2
      obtain ⟨wo, hwo⟩ : ∃ wo : World, wo = wr := ⟨_, rfl⟩
      subst hwo
      go_loopw [6] (fun i wr => ∃ (t : Nat) (L : List Nat), 16 ≤ t ∧ t ≤ 64 ∧ i = .int .i64 t ∧ SchW w wr L ∧ L.take t = sched (words16 s.data.toList 0) (t - 16)) (fun i _ => 64 - (intOf i).toNat)
      case atStart => exact ⟨16, L, by omega, by omega, rfl, hw, HT.out⟩
      case round =>
        clear hw HT
        obtain ⟨t, L, ht1, ht2, rfl, hw, hp⟩ := hrel
        have HP : Hid (L.take t = sched (words16 s.data.toList 0) (t - 16)) := hp
        clear hp
        by_cases htl : t < 64
        · have hl := hw.len
          have g {i : Nat} (hi : i < 64) := hw.row i (by rw [hl]; exact hi)
          obtain ⟨a, ha⟩ : ∃ a, a = L.getD (t - 15) 0 := ⟨_, rfl⟩
          obtain ⟨b, hb⟩ : ∃ b, b = L.getD (t - 2) 0 := ⟨_, rfl⟩
          obtain ⟨c, hc⟩ : ∃ c, c = L.getD (t - 7) 0 := ⟨_, rfl⟩
          obtain ⟨d, hd⟩ : ∃ d, d = L.getD (t - 16) 0 := ⟨_, rfl⟩
          have ca := (g (i := t - 15) (by omega)).1
          have cb := (g (i := t - 2) (by omega)).1
          have cc := (g (i := t - 7) (by omega)).1
          have cd := (g (i := t - 16) (by omega)).1
          have ct := (g (i := t) htl).1
          have cf := (g (i := t) htl).2
          rw [← ha] at ca
          rw [← hb] at cb
          rw [← hc] at cc
          rw [← hd] at cd
          have q1 : (0 : Int) ≤ (t : Int) - 15 := by omega
          have q2 : (t : Int) - 15 < 64 := by omega
          have q3 : (0 : Int) ≤ (t : Int) - 2 := by omega
          have q4 : (t : Int) - 2 < 64 := by omega
          have r1 : IntKind.i64.wrap ((t : Int) - 15) = (t : Int) - 15 := IntWalk.i64_in _ (by omega)
          have r2 : IntKind.i64.wrap ((t : Int) - 2) = (t : Int) - 2 := IntWalk.i64_in _ (by omega)
          have n1 : ((t : Int) - 15).toNat = t - 15 := by omega
          have n2 : ((t : Int) - 2).toNat = t - 2 := by omega
          have lt {i : Nat} (hi : i < t) : L.getD i 0 < 4294967296 := by
            rw [← take_get hi, HP.out, List.getD_eq_getElem?_getD, List.getElem?_eq_getElem (by rw [sched_len (words16_len _ _)]; omega)]
            exact sched_lt (words16_lt _ _) _ _ (List.getElem_mem _)
          have la : a < 4294967296 := by rw [ha]; exact lt (by omega)
          have lb : b < 4294967296 := by rw [hb]; exact lt (by omega)
          have lc : c < 4294967296 := by rw [hc]; exact lt (by omega)
          have ld : d < 4294967296 := by rw [hd]; exact lt (by omega)
          obtain ⟨x1, hx1⟩ : ∃ x, x = ls0 a := ⟨_, rfl⟩
          obtain ⟨x2, hx2⟩ : ∃ x, x = ls1 b := ⟨_, rfl⟩
          have e1 := sig_eq (rotr_lt (n := 7) la) (rotr_lt (n := 18) la) (Nat.lt_of_le_of_lt (Nat.div_le_self a 8) la)
          have e2 := sig_eq (rotr_lt (n := 17) lb) (rotr_lt (n := 19) lb) (Nat.lt_of_le_of_lt (Nat.div_le_self b 1024) lb)
          rw [← ls0, ← hx1, show ((a / 8 : Nat) : Int) = (a : Int) / 8 from rfl] at e1
          rw [← ls1, ← hx2, show ((b / 1024 : Nat) : Int) = (b : Int) / 1024 from rfl] at e2
          have m1 : x1 < 4294967296 := by rw [hx1]; exact ls0_lt la
          have m2 : x2 < 4294967296 := by rw [hx2]; exact ls1_lt lb
          obtain ⟨y1, hy1⟩ : ∃ y, y = (x2 + c) % 4294967296 := ⟨_, rfl⟩
          obtain ⟨y2, hy2⟩ : ∃ y, y = (y1 + x1) % 4294967296 := ⟨_, rfl⟩
          obtain ⟨y3, hy3⟩ : ∃ y, y = (y2 + d) % 4294967296 := ⟨_, rfl⟩
          have s1 : ((x2 : Int) + c) % 4294967296 = (y1 : Int) := by rw [hy1]; rfl
          have s2 : ((y1 : Int) + x1) % 4294967296 = (y2 : Int) := by rw [hy2]; rfl
          have s3 : ((y2 : Int) + d) % 4294967296 = (y3 : Int) := by rw [hy3]; rfl
          have u1 : IntKind.u32.wrap ((x2 : Int) + c) = (y1 : Int) := by rw [IntKind.wrap_u32', s1]
          have u2 : IntKind.u32.wrap ((y1 : Int) + x1) = (y2 : Int) := by rw [IntKind.wrap_u32', s2]
          have u3 : IntKind.u32.wrap ((y2 : Int) + d) = (y3 : Int) := by rw [IntKind.wrap_u32', s3]
          have HN : Hid (SchW w (wr.setCell ⟨w.heap.size + 1, t, none⟩ (.int .u32 (y3 : Int))) (L.set t y3)) := hw.set htl _
          have HQ : Hid ((L.set t y3).take (t + 1) = sched (words16 s.data.toList 0) (t + 1 - 16)) := by
            show _ = _
            rw [show t + 1 - 16 = (t - 16) + 1 by omega, sched, ← HP.out, List.take_succ_eq_append_getElem (by rw [List.length_set]; omega), List.take_set_of_le (Nat.le_refl _)]
            congr 1
            simp only [List.getElem_set_self, nextW]
            rw [show 16 + (t - 16) = t by omega, take_get (by omega), take_get (by omega), take_get (by omega), take_get (by omega), ← ha, ← hb, ← hc, ← hd, ← hx1, ← hx2, hy3, hy2, hy1]
          clear hy1 hy2 hy3 hx1 hx2 ha hb hc hd g
          go_wp2
          go_quiet (fail)
          clear r1 r2
          go_wp2_with (go_at_call 65; first
            | ((with_reducible refine (turned_7 _ _ (by assumption)).mono ?_); rintro e w' ⟨rfl, rfl⟩)
            | ((with_reducible refine (turned_18 _ _ (by assumption)).mono ?_); rintro e w' ⟨rfl, rfl⟩)
            | ((with_reducible refine (turned_17 _ _ (by assumption)).mono ?_); rintro e w' ⟨rfl, rfl⟩)
            | ((with_reducible refine (turned_19 _ _ (by assumption)).mono ?_); rintro e w' ⟨rfl, rfl⟩))
          have q5 : (0 : Int) ≤ (t : Int) - 7 := by omega
          have q6 : (t : Int) - 7 < 64 := by omega
          have q7 : (0 : Int) ≤ (t : Int) - 16 := by omega
          have q8 : (t : Int) - 16 < 64 := by omega
          have q9 : (0 : Int) ≤ (t : Int) := by omega
          have q10 : (t : Int) < 64 := by omega
          have r3 : IntKind.i64.wrap ((t : Int) - 7) = (t : Int) - 7 := IntWalk.i64_in _ (by omega)
          have r4 : IntKind.i64.wrap ((t : Int) - 16) = (t : Int) - 16 := IntWalk.i64_in _ (by omega)
          have n3 : ((t : Int) - 7).toNat = t - 7 := by omega
          have n4 : ((t : Int) - 16).toNat = t - 16 := by omega
          go_region
          go_wp2
          go_roundw
          case rel => exact ⟨t + 1, _, by omega, by omega, by go_num, (HN.out.drewN _).drew, HQ.out⟩
          case measure => simp [intOf]; omega
        · obtain rfl : t = 64 := by omega
          have hl := hw.len
          have hLs : L = sched (words16 s.data.toList 0) 48 := by rw [← HP.out, List.take_of_length_le (by omega)]
          have hrg := hw.row.range
          have hbl := hw.below
          have hth : wr.there w.heap.size 0 (u32s L).size := fun j hj => by
            have h := hw.res j (by simp [u32s, hl] at hj; exact hj)
            rw [Nat.zero_add]
            exact ⟨by rw [h.1]; rfl, h.2⟩
          have hi1 : (Tryd.prog.info? 69).map (·.size) = some (L.map fun (n : Nat) => Value.int .u32 (n : Int)).length := by rw [List.length_map, hl]; kernel_rfl
          have hi2 : (Tryd.prog.info? 69).map (·.size) = some (u32s L).size := by simp only [u32s, List.size_toArray]; exact hi1
          have hone : (u32s L).all (·.oneCell') = true := all_oneCell_toArray (by intro v hv; obtain ⟨_, _, rfl⟩ := List.mem_map.1 hv; rfl)
          have HL : Hid (L = sched (words16 s.data.toList 0) 48) := hLs
          have HI1 : Hid ((Tryd.prog.info? 69).map (·.size) = some (L.map fun (n : Nat) => Value.int .u32 (n : Int)).length) := hi1
          have HI2 : Hid ((Tryd.prog.info? 69).map (·.size) = some (u32s L).size) := hi2
          have HO : Hid ((u32s L).all (·.oneCell') = true) := hone
          clear hi1 hi2 hone hLs hl hw
          go_wp2_with (first
            | (with_reducible refine wpList_load_mid rfl 69 _ rfl (w.heap.size + 1) 0 rfl _ _ hrg Tryd.underlying69 rfl HI1.out ?_)
            | (with_reducible refine wpList_store_mid rfl 69 _ _ rfl w.heap.size 0 (u32s L) rfl rfl hth HI2.out HO.out ?_))
          have hrr : (wr.setCells w.heap.size 0 (u32s L).toList).rangeAt w.heap.size 0 (u32s L).toList := World.rangeAt_setCells_same _ _ _ _ (by simpa using hth)
          have hv : Value.agg (u32s L) = .agg (u32s (sched (words16 s.data.toList 0) 48)) := by rw [HL.out]
          refine bodyPost_ret (v := .agg (u32s L)) (results_cell_mid (fn := Tryd.f49) (p := 2) (ty := 69) Tryd.results49 _ _ w.heap.size (u32s L).toList _ rfl hrr Tryd.underlying69 rfl HI2.out) rfl ⟨by rw [hv], below_setCells _ _ _ hbl (Nat.le_refl _)⟩
end Go.Proofs.YtalbphlmebhjoaaDoor
