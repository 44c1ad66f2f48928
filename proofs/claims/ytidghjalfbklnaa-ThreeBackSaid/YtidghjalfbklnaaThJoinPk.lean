/-
  The walk of Join, on a seat that has SpRef and not LnRef.
-/
import Derived.Test.YtidghjalfbklnaaSpSplitPk
import Derived.Test.YtidghjalfbklnaaThAdd
namespace Go.Proofs.Ytidghjalfbklnaa
open Go.RowKit

set_option maxHeartbeats 2000000 in
set_option maxRecDepth 4000 in
theorem join_any (ls : List (List UInt8)) (p : Option Addr) (cap n : Nat) (r : ByteArray) (w : World) (hn : n = ls.length) (hp : SRw w p ls) (hr : r = str (join ls)) (ht : (join ls).length ≤ 1048576) (hn2 : n ≤ 1048576) :
    Calls Try.prog 59 #[.slice p n cap] w fun e w' => e = .returned (.string r) ∧ Below w.heap.size w w' := by
  obtain ⟨i0, hi, hz0, hz1, hz2⟩ := info_parts Try.info5
  have HN := Lib.hid hn
  have HR := Lib.hid hr
  have HT := Lib.hid ht
  clear hn hr ht
  go_enter Try.func59, Try.ntmps59
  go_wp2
  go_loop [3, 11] (fun z i => ∃ (k : Nat), k ≤ n ∧ i = .int .i64 k ∧ z = .int .i64 (join (ls.take k)).length) (fun _ i => n - (intOf i).toNat)
  case atStart => exact ⟨0, by omega, rfl, rfl⟩
  case round =>
    obtain ⟨k, hk, rfl, rfl⟩ := hrel
    by_cases hlt : k < n
    · have hkl : k < ls.length := by rw [← HN.out]; exact hlt
      obtain ⟨g, o, rfl, hg, hc⟩ := hp k hkl
      have hle := join_at_le ls k hkl
      have hT := HT.out
      obtain ⟨a, ha⟩ : ∃ a, a = (join (ls.take k)).length := ⟨_, rfl⟩
      obtain ⟨t, ht⟩ : ∃ t, t = str ls[k] := ⟨_, rfl⟩
      rw [← ht] at hc
      have hts : ls[k].length = t.size := by rw [ht, str_size]
      have HA : Hid (a + t.size = (join (ls.take (k + 1))).length) := by show _ = _; rw [take_next ls k hkl, join_snoc, List.length_append, ha, hts]
      rw [← ha, hts] at hle
      rw [← ha]
      have hab : a + t.size ≤ 1048576 := by omega
      clear ht hts ha hle hT hkl
      go_wp2
      go_round
      case rel => exact ⟨k + 1, by omega, by go_num, by rw [← HA.out]; go_num⟩
      case measure => simp [intOf]; omega
    · obtain rfl : k = n := by omega
      obtain ⟨a, ha⟩ : ∃ a, a = (join (ls.take k)).length := ⟨_, rfl⟩
      have hab : a ≤ 1048576 := by have := join_take_le ls k; have := HT.out; omega
      rw [← ha]
      clear ha hlt
      obtain ⟨n, rfl⟩ : ∃ n, n = k := ⟨_, rfl⟩
      go_wp2_with (at_make; refine wpList_make_own _ rfl _ _ 30 rfl w.heap.size 5 i0 (.int .u8 0) 1 Try.underlying30 hi hz0 hz1 _ _ _ a rfl rfl (by omega) (by rw [hz2]; omega) (by unfold maxLen; omega) (Nat.le_refl _) ?_)
      intro w1 hown1 hgrow1
      have hb1 : Below w.heap.size w w1 := (Below.refl _ _).grown hgrow1 (Nat.le_refl _) (by simp)
      have ho1 : Ow w1 w.heap.size (.slice (some ⟨w.heap.size, 0, none⟩) 0 a) [] := hown1
      clear hown1 hgrow1
      go_wp2
      go_loopw [6, 24] (fun v i wr => ∃ (k : Nat) (l : List UInt8), k ≤ n ∧ i = .int .i64 k ∧ l = join (ls.take k) ∧ Ow wr w.heap.size v l ∧ Below w.heap.size w wr) (fun _ i _ => n - (intOf i).toNat)
      case atStart => exact ⟨0, [], by omega, rfl, rfl, ho1, hb1⟩
      case round =>
        clear ho1 hb1
        obtain ⟨k, l, hk, rfl, hl, ho, hb⟩ := hrel
        by_cases hlt : k < n
        · have hkl : k < ls.length := by rw [← HN.out]; exact hlt
          obtain ⟨g, o, rfl, hg, hc⟩ := (hp.below (below_all hb)) k hkl
          obtain ⟨t, ht⟩ : ∃ t, t = str ls[k] := ⟨_, rfl⟩
          rw [← ht] at hc
          have hle := join_at_le ls k hkl
          have hts : t.size = ls[k].length := by rw [ht, str_size]
          have HL : Hid (l ++ t.data.toList = join (ls.take (k + 1))) := by show _ = _; rw [hl, ht, str_list, take_next ls k hkl, join_snoc]
          have hll : l.length + t.size ≤ 1048576 := by rw [hl, hts]; have := HT.out; omega
          clear ht hl hts hle hkl
          go_wp2_with (at_builtin; refine Lib.wpList_append_own_string _ rfl _ _ 30 9 rfl w.heap.size 5 i0 Try.underlying30 Try.underlying9 hi hz0 hz1 hz2 _ l.length (bcells l) rfl ho t rfl (by unfold maxLen; omega) (by omega) hb.size ?_)
          intro v2 w2 ho2 hg2 _
          have hb2 : Below w.heap.size w w2 := below_own hb ho (Nat.le_refl _) hg2
          have ho3 := Ow.add (by omega) ho2
          clear ho2 hg2 ho hc
          go_wp2
          go_roundw
          case rel => exact ⟨k + 1, _, by omega, by go_num, HL.out, ho3, hb2⟩
          case measure => simp [intOf]; omega
        · have HX : Hid (r = str l) := by show _ = _; rw [HR.out, hl, List.take_of_length_le (by have := HN.out; omega)]
          have hcv : (convert 30 9 u6).run Try.prog wr = .ok (.string (str l)) wr := conv_owned (P := Try.prog) 30 9 5 Try.underlying30 Try.underlying5 Try.underlying9 ho
          clear hl ho
          go_wp2
          go_ret
          exact ⟨ret_str HX.out.symm, hb⟩
end Go.Proofs.Ytidghjalfbklnaa
/-
  The walk of Mark.
-/
namespace Go.Proofs.Ytidghjalfbklnaa
open Go.RowKit

def openM : List UInt8 := [60, 60, 60, 60, 60, 60, 60, 32]
def baseM : List UInt8 := [124, 124, 124, 124, 124, 124, 124]
def divM : List UInt8 := [61, 61, 61, 61, 61, 61, 61]
def closeM : List UInt8 := [62, 62, 62, 62, 62, 62, 62, 32]
/-- The lines that a region is printed as. -/
def markR (oN tN : List UInt8) (two last : Bool) (r : Rg) : List (List UInt8) :=
  if r.k = 2 then ((([endL (openM ++ oN)] ++ r.o.map endL) ++ (if two then [endL baseM] ++ r.b.map endL else [])) ++ [endL divM]) ++ r.t.map endL ++ [endL (closeM ++ tN)]
  else if last then r.l else r.l.map endL
def markAcc (oN tN : List UInt8) (two : Bool) (n : Nat) : List Rg → Nat → List (List UInt8)
  | [], _ => []
  | r :: rs, i => markR oN tN two (decide (n ≤ i + 1)) r ++ markAcc oN tN two n rs (i + 1)
/-- The state of Mark while it prints the region in the box E. -/
structure MS (w wX : World) (B E : Nat) (cs : Array Value) (acc : List (List UInt8)) (S : Nat → Prop) (v : Value) : Prop where
  mb : MB wX w.heap.size B S acc v
  bel : Below w.heap.size w wX
  nS : ¬ S E
  nB : E ≠ B
  box : wX.heap[E]? = some (.cells cs 43 (0, 0))
/-- What a call of the function leaves. -/
def MSR (w : World) (B E : Nat) (cs : Array Value) (acc : List (List UInt8)) (e : Ending) (w' : World) : Prop := e = .returned (.tuple #[]) ∧ ∃ S v, MS w w' B E cs acc S v
theorem MS.step {w wX wY w' : World} {B E : Nat} {cs : Array Value} {acc acc' : List (List UInt8)} {S : Nat → Prop} {v : Value} {e : Ending} (h : MS w wX B E cs acc S v) (hY : Below wX.heap.size wX wY) (hr : AddR wY w.heap.size B S acc' e w') : MSR w B E cs acc' e w' := by
  obtain ⟨he, S', v', hm, hc, hs⟩ := hr
  have hEl := row_lt h.box
  have hbx : wY.heap[E]? = some (.cells cs 43 (0, 0)) := (hY.block E hEl).trans h.box
  have hno : ¬ own2 S B E := fun x => by
    rcases x with x | x
    · exact h.nS x
    · exact h.nB x
  refine ⟨he, S', v', hm, (h.bel.trans (hY.mono h.bel.size)).trans (hc.toBelow (fun b hb => ?_) (Nat.le_trans h.bel.size hY.size)), fun x => ?_, h.nB, (hc.block E (row_lt hbx) hno).trans hbx⟩
  · rcases hb with hb | rfl
    · exact (h.mb.low b hb).1
    · exact h.mb.bb
  · rcases hs E x with x | x
    · exact h.nS x
    · have := hY.size
      omega
/-- Some lines of a slice that came in. -/
theorem addRow {w wX : World} {B E n c : Nat} {cs : Array Value} {acc ls : List (List UInt8)} {S : Nat → Prop} {v : Value} {p : Option Addr} (h : MS w wX B E cs acc S v) (hn : n = ls.length) (hp : ∀ w', Below w.heap.size w w' → SRw w' p ls) (hl : acc.length + n ≤ 1000000) (hs : ∀ s ∈ ls, s.length ≤ 1000000) :
    Calls Try.prog 57 #[.slice p n c, .pointer (some ⟨B, 0, none⟩)] wX (MSR w B E cs (acc ++ ls.map endL)) :=
  (add_any ls acc p n c w.heap.size B S v wX hn (fun w' hw' => hp w' (h.bel.trans (hw'.toBelow (fun b hb => by
    rcases hb with hb | rfl
    · exact (h.mb.low b hb).1
    · exact h.mb.bb) h.bel.size))) h.mb h.bel.size hl hs).mono fun e w' hr => h.step (Below.refl _ _) hr
/-- A line by itself. -/
theorem addOne {w wX : World} {B E : Nat} {cs : Array Value} {acc : List (List UInt8)} {S : Nat → Prop} {v : Value} (s : ByteArray) (h : MS w wX B E cs acc S v) (hl : acc.length + 1 ≤ 1000000) (hs : s.size ≤ 1000000) :
    Calls Try.prog 57 #[.slice (some ⟨wX.heap.size, 0, none⟩) 1 1, .pointer (some ⟨B, 0, none⟩)] (wX.alloc (.cells #[.string s] 9)) (MSR w B E cs (acc ++ [endL s.data.toList])) := by
  have hY : Below wX.heap.size wX (wX.alloc (.cells #[.string s] 9)) := below_new (Below.refl _ _) _
  have hrow := heap_alloc_new wX (.cells #[.string s] 9)
  have hB : B < wX.heap.size := row_lt h.mb.box
  refine (add_any [s.data.toList] acc (some ⟨wX.heap.size, 0, none⟩) 1 1 w.heap.size B S v (wX.alloc (.cells #[.string s] 9)) rfl (fun w' hw' k hk => ?_) (h.mb.below hY) (Nat.le_trans h.bel.size hY.size) hl (fun x hx => ?_)).mono fun e w' hr => h.step hY hr
  · have hk0 : k = 0 := by simpa using hk
    subst hk0
    have hk2 := (hw'.block wX.heap.size (row_lt hrow) (fun x => by
      rcases x with x | x
      · have := (h.mb.low _ x).2; omega
      · omega)).trans hrow
    refine ⟨_, 0, rfl, row_lt hk2, ?_⟩
    rw [cell_of_row w' _ _ _ _ _ hk2]
    rfl
  · rw [List.mem_singleton.mp hx, list_len]
    exact hs
end Go.Proofs.Ytidghjalfbklnaa
/-
  What three's Parse keeps while it reads: the regions, and the conflict that is open.
-/
namespace Go.Proofs.Ytidghjalfbklnaa
open Go.RowKit

/-- An own row over whatever leaves its block. -/
theorem own_same {w w' : World} {base size n : Nat} {e : TypeId} {v : Value} {xs : List Value} (h : w.ownsRow base e size v n xs) (hs : ∀ g, v.ownBlock = some g → w'.heap[g]? = w.heap[g]?) : w'.ownsRow base e size v n xs := by
  refine ⟨h.1, ?_⟩
  rcases h.2 with hn | ⟨g, cap, cur, rfl, hb, hgg, rest⟩
  · exact .inl hn
  · exact .inr ⟨g, cap, cur, rfl, hb, (hs g rfl).trans hgg, rest⟩
/-- The regions, over steps that write the box alone. -/
theorem RS.re {w w' : World} {base R : Nat} {S : Nat → Prop} {gs : List Rg} {v : Value} {xs : List Value} {cs : Array Value} {t : TypeId} (h : RS w base R S gs v xs) (hc : Chg (fun k => k = R) w w') (hb : w'.heap[R]? = some (.cells cs t (0, 0))) (hv : cs[0]? = some v) (ht1 : t ≠ 9) (ht2 : t ≠ 43) : RS w' base R S gs v xs := by
  obtain ⟨cs0, t0, hbox, hcs, h1, h2⟩ := h.box
  refine ⟨⟨cs, t, hb, hv, ht1, ht2⟩, own_same h.own fun g hg => hc.block g (World.ownsRow.lt h.own g hg).2 (fun e => own_ty h.own hbox h2 (by rw [← e]; exact hg)), h.blk, fun k hk hx w2 hw => h.st k hk hx w2 (hc.mono (fun b hb => .inr hb) |>.trans' hw), fun k hk h3 h4 => ?_, fun b hs => ⟨(h.low b hs).1, Nat.lt_of_lt_of_le (h.low b hs).2 hc.size⟩, h.rb⟩
  obtain ⟨v1, x0, x1, x2, x3, x4, e1, e2, e3, ho, hs⟩ := h.last k hk h3 h4
  exact ⟨v1, x0, x1, x2, x3, x4, e1, e2, e3, own_same ho fun g hg => hc.block g (World.ownsRow.lt ho g hg).2 (fun e => own_ty ho hbox h1 (by rw [← e]; exact hg)), hs⟩
/-- A row of strings grown behind a cell of the box. -/
theorem lay_row {w0 w w2 : World} {R g n cap i B : Nat} {cs : Array Value} {t : TypeId} {v u1 u2 : Value} {o l1 l2 ls : List (List UInt8)} {ob : Obj}
    (hc : Chg (fun k => k = R) w0 w) (hB : B ≤ w0.heap.size) (hR : R < w0.heap.size) (hbox : w.heap[R]? = some (.cells cs t (0, 0))) (ht : t ≠ 9) (ho : TOw w w0.heap.size v o) (h1 : TOw w w0.heap.size u1 l1) (h2 : TOw w w0.heap.size u2 l2)
    (d1 : ∀ g, v.ownBlock = some g → u1.ownBlock ≠ some g) (d2 : ∀ g, v.ownBlock = some g → u2.ownBlock ≠ some g)
    (ho2 : TOw w2 w0.heap.size (.slice (some ⟨g, 0, none⟩) n cap) ls) (hg : (w.alloc ob).grownBy w2 v.ownBlock) (hat : v.ownBlock = some g ∨ g = (w.alloc ob).heap.size) :
    w2.heap[R]? = some (.cells cs t (0, 0)) ∧
    TOw (w2.setCell ⟨R, i, none⟩ (.slice (some ⟨g, 0, none⟩) n cap)) w0.heap.size (.slice (some ⟨g, 0, none⟩) n cap) ls ∧ TOw (w2.setCell ⟨R, i, none⟩ (.slice (some ⟨g, 0, none⟩) n cap)) w0.heap.size u1 l1 ∧ TOw (w2.setCell ⟨R, i, none⟩ (.slice (some ⟨g, 0, none⟩) n cap)) w0.heap.size u2 l2 ∧
    u1.ownBlock ≠ some g ∧ u2.ownBlock ≠ some g ∧ Chg (fun k => k = R) w0 (w2.setCell ⟨R, i, none⟩ (.slice (some ⟨g, 0, none⟩) n cap)) ∧
    (w2.setCell ⟨R, i, none⟩ (.slice (some ⟨g, 0, none⟩) n cap)).heap[R]? = some (.cells (cs.setIfInBounds i (.slice (some ⟨g, 0, none⟩) n cap)) t (0, 0)) ∧ Chg (fun k => k = R ∨ B ≤ k) w (w2.setCell ⟨R, i, none⟩ (.slice (some ⟨g, 0, none⟩) n cap)) := by
  have hRl := row_lt hbox
  have hsz : w.heap.size < (w.alloc ob).heap.size := by simp
  have hvR : v.ownBlock ≠ some R := own_ty ho hbox ht
  have hR2 : w2.heap[R]? = some (.cells cs t (0, 0)) := (hg.block R (by omega) (fun e => hvR e.symm)).trans ((Below.heap_alloc w ob R hRl).trans hbox)
  have hgR : g ≠ R := fun e => own_ty ho2 hR2 ht (by rw [e]; rfl)
  have keep : ∀ k, k < w.heap.size → v.ownBlock ≠ some k → k ≠ R → (w2.setCell ⟨R, i, none⟩ (.slice (some ⟨g, 0, none⟩) n cap)).heap[k]? = w.heap[k]? := fun k hk hv hkR =>
    (Below.heap_setCell w2 ⟨R, i, none⟩ _ k hkR).trans ((hg.block k (by omega) (fun e => hv e.symm)).trans (Below.heap_alloc w ob k hk))
  have keepRow : ∀ (u : Value) (l : List (List UInt8)), TOw w w0.heap.size u l → (∀ g, v.ownBlock = some g → u.ownBlock ≠ some g) → TOw (w2.setCell ⟨R, i, none⟩ (.slice (some ⟨g, 0, none⟩) n cap)) w0.heap.size u l := fun u l hu hd =>
    own_same hu fun k hk => keep k (World.ownsRow.lt hu k hk).2 (fun e => hd k e hk) (fun e => own_ty hu hbox ht (by rw [← e]; exact hk))
  have far : ∀ (u : Value) (l : List (List UInt8)), TOw w w0.heap.size u l → (∀ g, v.ownBlock = some g → u.ownBlock ≠ some g) → u.ownBlock ≠ some g := fun u l hu hd e => by
    rcases hat with h' | h'
    · exact hd g h' e
    · have := (World.ownsRow.lt hu g e).2
      omega
  have hcw : Chg (fun k => k = R ∨ v.ownBlock = some k) w (w2.setCell ⟨R, i, none⟩ (.slice (some ⟨g, 0, none⟩) n cap)) :=
    ((Chg.below (below_new (Below.refl _ _) ob)).trans' (Chg.grown hg fun k hk => .inr hk)).trans' (Chg.set _ (.inl rfl))
  refine ⟨hR2, own_same ho2 fun k hk => ?_, keepRow u1 l1 h1 d1, keepRow u2 l2 h2 d2, far u1 l1 h1 d1, far u2 l2 h2 d2, hc.trans hcw fun b hb => ?_, heap_setCell_same w2 R i cs t _ hR2, hcw.mono fun b hb => ?_⟩
  · have : g = k := by simpa [Value.ownBlock] using hk
    exact Below.heap_setCell w2 ⟨R, i, none⟩ _ k (by rw [← this]; exact hgR)
  · rcases hb with hb | hb
    · exact .inl hb
    · exact .inr (World.ownsRow.lt ho b hb).1
  · rcases hb with hb | hb
    · exact .inl hb
    · exact .inr (Nat.le_trans hB (World.ownsRow.lt ho b hb).1)

/-- The parser: its regions, the open conflict's three rows, the last marker. -/
def PSt (w : World) (base B R : Nat) (gs : List Rg) (o b t : List (List UInt8)) (last : Nat) : Prop :=
  ∃ (w0 : World) (S : Nat → Prop) (v : Value) (xs : List Value) (co cb ct : Value), RS w0 base R S gs v xs ∧ Chg (fun k => k = R) w0 w ∧ (B ≤ w0.heap.size ∧ base ≤ B ∧ ∀ b, S b → B ≤ b) ∧
    w.heap[R]? = some (.cells #[v, .int .i64 0, .slice none 0 0, co, cb, ct, .int .i64 (last : Int)] 78 (0, 0)) ∧
    TOw w w0.heap.size co o ∧ TOw w w0.heap.size cb b ∧ TOw w w0.heap.size ct t ∧
    (∀ g, co.ownBlock = some g → cb.ownBlock ≠ some g ∧ ct.ownBlock ≠ some g) ∧ (∀ g, cb.ownBlock = some g → ct.ownBlock ≠ some g) ∧ (last = 0 → co = .slice none 0 0 ∧ cb = .slice none 0 0 ∧ ct = .slice none 0 0)
/-- What a line, or a marker, leaves. -/
def PStR (w : World) (base B R : Nat) (gs : List Rg) (o b t : List (List UInt8)) (last : Nat) (r : Value) (e : Ending) (w' : World) : Prop := e = .returned r ∧ PSt w' base B R gs o b t last ∧ Chg (fun k => k = R ∨ B ≤ k) w w'
end Go.Proofs.Ytidghjalfbklnaa
