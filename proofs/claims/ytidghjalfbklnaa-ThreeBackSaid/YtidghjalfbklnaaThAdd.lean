/-
  The walk of the function that Mark makes, which lays lines down behind a box.
-/
import Derived.Test.YtidghjalfbklnaaThMerge
import Derived.Test.YtidghjalfbklnaaThRegPk
namespace Go.Proofs.Ytidghjalfbklnaa
open Go.RowKit

/-- A box that holds a row of strings of the call's own. -/
structure MB (w : World) (base B : Nat) (S : Nat → Prop) (acc : List (List UInt8)) (v : Value) : Prop where
  box : w.heap[B]? = some (.cells #[v] 22 (0, 0))
  own : TOw w base v acc
  blk : ∀ g, v.ownBlock = some g → S g
  low : ∀ b, S b → base ≤ b ∧ b < w.heap.size
  bb : base ≤ B
theorem MB.below {w w' : World} {base B : Nat} {S : Nat → Prop} {acc : List (List UInt8)} {v : Value} (h : MB w base B S acc v) (hb : Below w.heap.size w w') : MB w' base B S acc v :=
  ⟨(hb.block B (row_lt h.box)).trans h.box, h.own.below hb, h.blk, fun b hs => ⟨(h.low b hs).1, Nat.lt_of_lt_of_le (h.low b hs).2 hb.size⟩, h.bb⟩
/-- The row grown, and stored in the box. -/
theorem MB.put {w wE w2 : World} {base B g n cap : Nat} {S : Nat → Prop} {v : Value} {acc ls : List (List UInt8)} (h : MB w base B S acc v) (hE : Below w.heap.size w wE)
    (ho2 : TOw w2 base (.slice (some ⟨g, 0, none⟩) n cap) (acc ++ ls)) (hg : wE.grownBy w2 v.ownBlock) (hat : v.ownBlock = some g ∨ g = wE.heap.size) :
    MB (w2.setCell ⟨B, 0, none⟩ (.slice (some ⟨g, 0, none⟩) n cap)) base B (fun b => b = g) (acc ++ ls) (.slice (some ⟨g, 0, none⟩) n cap) ∧ Chg (own2 S B) w (w2.setCell ⟨B, 0, none⟩ (.slice (some ⟨g, 0, none⟩) n cap)) ∧ (S g ∨ w.heap.size ≤ g) ∧ w2.heap[B]? = some (.cells #[v] 22 (0, 0)) := by
  have hBl := row_lt h.box
  have hvB : v.ownBlock ≠ some B := own_ty h.own h.box (by decide)
  have hB2 : w2.heap[B]? = some (.cells #[v] 22 (0, 0)) := (hg.block B (Nat.lt_of_lt_of_le hBl hE.size) (fun e => hvB e.symm)).trans ((hE.block B hBl).trans h.box)
  have hv2 : (Value.slice (some ⟨g, 0, none⟩) n cap).ownBlock ≠ some B := own_ty ho2 hB2 (by decide)
  refine ⟨⟨one_set hB2, own_set ho2 hv2, fun b hb => ?_, fun b hb => ?_, h.bb⟩, ?_, ?_, hB2⟩
  · simpa [Value.ownBlock] using hb.symm
  · subst hb
    have := World.ownsRow.lt ho2 b rfl
    exact ⟨this.1, by simpa using this.2⟩
  · exact ((Chg.below hE).trans' (Chg.grown (S := own2 S B) hg fun k hk => .inl (h.blk k hk))).trans' (Chg.set _ (.inr rfl))
  · rcases hat with h' | h'
    · exact .inl (h.blk g h')
    · right
      have := hE.size
      omega
/-- What the function does. -/
def AddR (w : World) (base B : Nat) (S : Nat → Prop) (acc' : List (List UInt8)) (e : Ending) (w' : World) : Prop := e = .returned (.tuple #[]) ∧ ∃ S' v', MB w' base B S' acc' v' ∧ Chg (own2 S B) w w' ∧ ∀ b, S' b → S b ∨ w.heap.size ≤ b

set_option maxHeartbeats 4000000 in
set_option maxRecDepth 8000 in
theorem add_any (ls acc : List (List UInt8)) (p : Option Addr) (n c base B : Nat) (S : Nat → Prop) (v0 : Value) (w : World) (hn : n = ls.length) (hp : ∀ w', Chg (own2 S B) w w' → SRw w' p ls) (hm : MB w base B S acc v0) (hbase : base ≤ w.heap.size) (hl : acc.length + n ≤ 1000000) (hs : ∀ s ∈ ls, s.length ≤ 1000000) :
    Calls Try.prog 57 #[.slice p n c, .pointer (some ⟨B, 0, none⟩)] w (AddR w base B S (acc ++ ls.map endL)) := by
  have HN := Lib.hid hn
  have HP := Lib.hid hp
  have HS := Lib.hid hs
  have HM0 : Hid (MB w base B S (acc ++ (ls.take 0).map endL) v0) := by show MB _ _ _ _ _ _; simpa using hm
  have HU : Hid (Try.prog.underlying 22 = some (.slice 9)) := Try.underlying22
  have HAL := Lib.hid hl
  have hnl : n ≤ 1000000 := by omega
  clear hn hp hs hm hl
  go_enter Try.func57, Try.ntmps57
  go_wp2
  go_loopw [7] (fun iv wr => ∃ (k : Nat) (S1 : Nat → Prop) (v : Value), k ≤ n ∧ iv = .int .i64 (k : Int) ∧ Hid (MB wr base B S1 (acc ++ (ls.take k).map endL) v) ∧ Hid (Chg (own2 S B) w wr) ∧ Hid (∀ b, S1 b → S b ∨ w.heap.size ≤ b)) (fun iv _ => n - (intOf iv).toNat)
  case atStart => exact ⟨0, S, v0, Nat.zero_le _, rfl, HM0.out, Chg.refl _ _, fun b hb => .inl hb⟩
  case round =>
    clear HM0
    obtain ⟨k, S1, v, hk, rfl, HM, HF, HSS⟩ := hrel
    by_cases hlt : k < n
    · have hkl : k < ls.length := by rw [← HN.out]; exact hlt
      obtain ⟨g, o, rfl, hg, a0⟩ := HP.out wr HF.out k hkl
      obtain ⟨t, ht⟩ : ∃ t, t = str ls[k] := ⟨_, rfl⟩
      rw [← ht] at a0
      obtain ⟨b, hb⟩ : ∃ b, b = str (endL t.data.toList) := ⟨_, rfl⟩
      have hts : t.size ≤ 1048576 := by rw [ht, str_size]; have := HS.out _ (List.getElem_mem hkl); omega
      have HE : Hid (∀ w, Calls Try.prog 58 #[.string t] w fun e w' => e = .returned (.string b) ∧ w = w') := fun w => (ended_any t b w hts hb).mono fun e w' ⟨h1, h2⟩ => ⟨h1, h2.symm⟩
      have HNX : Hid (acc ++ (ls.take (k + 1)).map endL = (acc ++ (ls.take k).map endL) ++ [b.data.toList]) := by
        show _ = _
        rw [List.take_succ_eq_append_getElem hkl, List.map_append, hb, ht, str_list, str_list, List.append_assoc]
        rfl
      have h2 := HM.out.own
      obtain ⟨L, hL⟩ : ∃ L, L = (acc ++ (ls.take k).map endL).length := ⟨_, rfl⟩
      have hLl : L + 1 ≤ 1000000 := by
        rw [hL, List.length_append, List.length_map, List.length_take]
        have := HAL.out
        have := HN.out
        omega
      obtain ⟨pv, cv, rfl, _⟩ := h2.shapeN hL
      have c0 := cell_of_row wr B 0 _ _ _ HM.out.box
      have H2N := Lib.hid (h2.of hL)
      have HL := Lib.hid hL
      have hbs : base ≤ wr.heap.size := Nat.le_trans hbase HF.out.size
      have HLT : Hid (k + 1 ≤ n) := hlt
      clear ht hb hts h2 hL hg
      go_upto_region 3 with fail
      have HO5 : Hid (∀ ob, (wr.alloc ob).drew.ownsRow base 9 1 (.slice pv L cv) L (strs (acc ++ (ls.take k).map endL))) := fun ob => own_below H2N.out (below_new (Below.refl wr.heap.size wr) ob).drew
      have c5 : ∀ ob, (wr.alloc ob).drew.cell? ⟨B, 0, none⟩ = some (.slice pv L cv) := fun ob => cell_belT c0 (below_new (Below.refl wr.heap.size wr) ob).drew
      have HPUT : Hid (∀ (w6 : World) (g6 c6 : Nat) (ob : Obj), w6.ownsRow base 9 1 (.slice (some ⟨g6, 0, none⟩) (L + 1) c6) (L + 1) (strs (acc ++ (ls.take k).map endL) ++ [.string b]) → (wr.alloc ob).drew.grownBy w6 (Value.slice pv L cv).ownBlock → ((Value.slice pv L cv).ownBlock = some g6 ∨ g6 = (wr.alloc ob).drew.heap.size) → MB (w6.setCell ⟨B, 0, none⟩ (.slice (some ⟨g6, 0, none⟩) (L + 1) c6)) base B (fun b => b = g6) (acc ++ (ls.take (k + 1)).map endL) (.slice (some ⟨g6, 0, none⟩) (L + 1) c6) ∧ Chg (own2 S B) w (w6.setCell ⟨B, 0, none⟩ (.slice (some ⟨g6, 0, none⟩) (L + 1) c6)) ∧ (S g6 ∨ w.heap.size ≤ g6) ∧ w6.heap[B]? = some (.cells #[.slice pv L cv] 22 (0, 0))) := fun w6 g6 c6 ob ho6 hg6 hat6 => by
        have e1 : str b.data.toList = b := ba_ext rfl
        have ho7 : TOw w6 base (.slice (some ⟨g6, 0, none⟩) (L + 1) c6) ((acc ++ (ls.take k).map endL) ++ [b.data.toList]) := TOw.app (m := 1) HL.out rfl (by rw [show strs [b.data.toList] = [Value.string b] by simp [strs, e1]]; exact ho6)
        obtain ⟨q1, q2, q3, q4⟩ := HM.out.put (below_new (Below.refl wr.heap.size wr) ob).drew ho7 hg6 hat6
        refine ⟨by rw [HNX.out]; exact q1, HF.out.trans q2 fun x hx => ?_, ?_, q4⟩
        · rcases hx with hx | rfl
          · exact (HSS.out x hx).imp (fun h => .inl h) id
          · exact .inl (.inr rfl)
        · rcases q3 with h | h
          · exact HSS.out g6 h
          · exact .inr (Nat.le_trans HF.out.size h)
      clear a0
      obtain ⟨i0, hi, hz0, hz1, hz2⟩ := info_parts Try.infoStr
      go_region_law (first
        | (refine step_append_lies _ (by rfl) _ _ _ (by rfl) base 9 i0 (.string ⟨#[]⟩) 1 16 Try.underlying22 hi hz0 hz1 hz2 rfl (by omega) _ L _ (by rfl) (HO5.out _) ⟨wr.heap.size, 0, none⟩ 1 1 [.string b] (by rfl) (by rfl) (World.news_of_block (heap_alloc_new _ _)) (by simp [Value.oneCell']) (by omega) (by unfold maxLen; omega) (by omega) (by simp; omega) _ rfl ?_; intro g6 c6 w6 ho6 hg6 hat6 hlt6; obtain ⟨m1, m2, m3, m4⟩ := HPUT.out _ _ _ _ ho6 hg6 hat6; have y6 := cell_of_row w6 B 0 _ _ _ m4; have z6 := frozen_of_row w6 B 0 _ _ m4)
        | (go_simp; go_at_call 58; ((with_reducible refine (HE.out _).mono ?_); rintro e w4 ⟨rfl, rfl⟩)))
      all_goals
        have HM2 := Lib.hid m1
        have HF2 := Lib.hid m2
        have HS2 := Lib.hid m3
        clear m1 m2 m3 m4 ho6 hg6 hat6 hlt6 hi hz0 hz1 hz2
        go_wp2
        go_roundw
        case rel => exact ⟨k + 1, fun b => b = g6, _, HLT.out, by go_num, HM2.out, HF2.out, fun x hx => by subst hx; exact HS2.out⟩
        case measure =>
          have := HLT.out
          simp [intOf]
          omega
    · obtain rfl : k = n := by omega
      have hX : acc ++ (ls.take k).map endL = acc ++ ls.map endL := by rw [List.take_of_length_le (by have := HN.out; omega)]
      have hm := HM.out
      rw [hX] at hm
      have HX := Lib.hid hm
      clear hX hm HM
      go_wp2
      refine bodyPost_end (results_none rfl _ _ _) rfl ?_
      exact ⟨rfl, S1, v, HX.out, HF.out, HSS.out⟩
end Go.Proofs.Ytidghjalfbklnaa
