/-
  The walks of the reference's moved and joined.
-/
import Derived.Test.YtnmebnpldacngaaHsStaP
import Derived.Test.YtnmebnpldacngaaDfStay
import Derived.Test.YtnmebnpldacngaaDfOf
import Derived.Test.YtnmebnpldacngaaHsRunAt
import Derived.ArgAppend
import Derived.Deep.RegionHeld3
import Derived.Deep.AppendLies
namespace Go.Proofs.Ytnmebnpldacngaa
open Go.RowKit

theorem inn_at {N : Nat} {rs : List Rn} (h : ∀ r ∈ rs, Inn N r) {k : Nat} (hk : k < rs.length) : ∃ a b n : Nat, rs[k] = ⟨a, b, n⟩ ∧ 1 ≤ n ∧ a + n ≤ N ∧ b + n ≤ N := h _ (List.getElem_mem hk)

set_option maxHeartbeats 2000000 in
set_option maxRecDepth 4000 in
theorem rmoved_any (rs : List Rn) (N U V : Nat) (p : Option Addr) (c n : Nat) (w : World) (hn : n = rs.length) (hp : RRw w p rs) (hl : n ≤ 1000000) (hi : ∀ r ∈ rs, Inn N r) (hN : N ≤ 1048576) (hU : U ≤ 1048576) (hV : V ≤ 1048576) :
    Calls Try.prog 44 #[.slice p n c, .int .i64 (U : Int), .int .i64 (V : Int)] w fun e w' => (∃ v, e = .returned v ∧ ROw w' w.heap.size v (rs.map (sh U V))) ∧ Below w.heap.size w w' := by
  obtain ⟨i0, hif, hz0, hz1, hz2⟩ := info_parts Try.infoRn
  have HN := Lib.hid hn
  have HP := Lib.hid hp
  have HI := Lib.hid hi
  obtain ⟨R, hR⟩ : ∃ R, R = rs.map (sh U V) := ⟨_, rfl⟩
  rw [← hR]
  have HR := Lib.hid hR
  clear hn hp hR hi
  go_enter Try.func44, Try.ntmps44
  go_wp2
  go_loopw [8, 7] (fun iv ov wr => ∃ (k : Nat) (q : Option Addr) (cap : Nat), k ≤ n ∧ iv = .int .i64 k ∧ ov = .slice q k cap ∧ Hid (ROw wr w.heap.size (.slice q k cap) ((rs.take k).map (sh U V))) ∧ Hid (Below w.heap.size w wr)) (fun iv _ _ => n - (intOf iv).toNat)
  case atStart => exact ⟨0, none, 0, by omega, rfl, rfl, ROw.nil _ _, Below.refl _ _⟩
  case round =>
    obtain ⟨k, q, cap, hk, rfl, rfl, HO, HB⟩ := hrel
    by_cases hlt : k < n
    · have hka : k < rs.length := by rw [← HN.out]; omega
      obtain ⟨g, o, rfl, hg, a0, a1, a2⟩ := HP.out.now HB.out k hka
      have hlk : k = ((rs.take k).map (sh U V)).length := by rw [List.length_map, List.length_take]; omega
      have hsn : (rs.take (k + 1)).map (sh U V) = (rs.take k).map (sh U V) ++ [sh U V rs[k]] := by rw [List.take_succ_eq_append_getElem hka, List.map_append, List.map_singleton]
      obtain ⟨a, b, x, he, h1, h2, h3⟩ := inn_at HI.out hka
      rw [he] at a0 a1 a2 hsn
      simp only at a0 a1 a2
      obtain ⟨A, hA⟩ : ∃ A, A = a + U := ⟨_, rfl⟩
      obtain ⟨B, hB⟩ : ∃ B, B = b + V := ⟨_, rfl⟩
      have i1 : IntKind.i64.wrap ((a : Int) + (U : Int)) = (A : Int) := by rw [IntWalk.i64_in _ (by omega)]; omega
      have i2 : IntKind.i64.wrap ((b : Int) + (V : Int)) = (B : Int) := by rw [IntWalk.i64_in _ (by omega)]; omega
      have hsh : sh U V ⟨(a : Int), (b : Int), (x : Int)⟩ = ⟨(A : Int), (B : Int), (x : Int)⟩ := by
        unfold sh
        simp only [Rn.mk.injEq, and_true]
        omega
      rw [hsh] at hsn
      have HS := Lib.hid hsn
      have HLK := Lib.hid hlk
      have ho := HO.out.of hlk
      have hbs := HB.out.size
      have hro : (Value.slice q k cap).ownBlock ≠ some g := fun h => by
        have h1 := (ho.lt g h).1
        omega
      have hgs : g < wr.heap.size := Nat.lt_of_lt_of_le hg hbs
      clear he hka hsn hlk hsh hA hB
      go_wp2
      go_region_held3 (fun w' => w'.cell? ⟨g, o + k * 3, none⟩ = some (.int .i64 (a : Int)) ∧ w'.cell? ⟨g, o + k * 3 + 1, none⟩ = some (.int .i64 (b : Int)) ∧ w'.cell? ⟨g, o + k * 3 + 2, none⟩ = some (.int .i64 (x : Int))) (first | go_keep | (go_split_ands; refine ⟨?_, ?_, ?_⟩ <;> (rw [hg3.cell_far _ (by simp; omega) (Ne.symm hro)]; assumption)))
        ((refine step_append_lies _ (by rfl) _ _ _ (by rfl) w.heap.size 30 i0 (.agg #[.int .i64 0, .int .i64 0, .int .i64 0]) 3 24 Try.underlying45 hif hz0 hz1 hz2 rfl (by omega) _ _ _ (by rfl) ((ho.alloc _).drew) ⟨wr.heap.size, 0, none⟩ 1 1 (Rn.cells ⟨(A : Int), (B : Int), (x : Int)⟩) (by rfl) (by rfl) (new_rn wr ⟨(A : Int), (B : Int), (x : Int)⟩ _) (rn_one _) (by omega) (by unfold maxLen; omega) (by omega) (by simp; omega) (wr.heap.size + 1) (by simp) ?_; intro g6 c6 w3 ho3 hg3 hat hlt6))
      have HO1 := Lib.hid (ROw.push HLK.out ho3)
      have HB1 := Lib.hid ((below_drewN (below_new HB.out _) 1).grown hg3 (by simp; omega) (fun j hj => (ho.lt j hj).1))
      clear ho3 hg3 hat hlt6 ho hro
      go_wp2
      go_roundw
      case rel => exact ⟨k + 1, _, _, by omega, by go_num, rfl, by show ROw _ _ _ _; rw [HS.out]; exact HO1.out, HB1.out⟩
      case measure => simp [intOf]; omega
    · obtain rfl : k = n := by omega
      have HX : Hid ((rs.take k).map (sh U V) = R) := by show _ = _; rw [HR.out, List.take_of_length_le (by rw [← HN.out]; omega)]
      go_wp2
      go_ret
      exact ⟨⟨_, rfl, by rw [← HX.out]; exact HO.out⟩, HB.out⟩

theorem jn_drop {acc rs : List Rn} {k : Nat} (h : k < rs.length) : jn acc (rs.drop k) = jn (js acc rs[k]) (rs.drop (k + 1)) := by rw [List.drop_eq_getElem_cons h, jn]

/-- An append that finds the row full, at a step of a region that draws its order. -/
theorem step_append_grows {P : Program} (w : World) {ops : Array Oper} {o : Oper} {a : Act} {K : Act → World → Prop} {Q : Exit → Act → World → Prop} {E : Prop} (hgd : o.guard = none) (s x : Operand) (t : TypeId)
    (ho : o.op = .call { callee := .builtin .append, args := #[s, x], argTypes := #[t, t] })
    (e : TypeId) (i : TypeInfo) (z : Value) (size bytes : Nat) (ht : P.underlying t = some (.slice e)) (hi : P.info? e = some i) (hz : i.zero = some z)
    (hsize : i.size = size) (hby : i.bytes = bytes) (hzs : z.cells.size = size) (hsz : 0 < size)
    (b : Addr) (n cap : Nat) (olds : List Value) (hs : a.eval s = .slice (some b) n cap) (hlo : olds.length = n * size) (holds : ∀ j u, olds[j]? = some u → w.cell? (b.add j) = some u)
    (ad : Addr) (m c : Nat) (news : List Value) (hx : a.eval x = .slice (some ad) m c) (hl : news.length = m * size) (hnews : ∀ j u, news[j]? = some u → w.cell? (ad.add j) = some u)
    (hg : cap < n + m) (h63 : n + m ≤ maxLen) (hbytes : (n + m) * bytes ≤ 140737488355328)
    (h : ∀ v' w', w'.ownsRow w.heap.size e size v' (n + m) (olds ++ news) → w.grownBy w' none → K (a.put o.dst v') w') :
    if Region.wanted o (yielded ops a.tmps) = true then Oper.wp P o a w K Q else E := by
  have hw : Region.wanted o (yielded ops a.tmps) = true := by simp [Region.wanted, hgd]
  rw [if_pos hw]
  obtain ⟨v', w', hrun, r1, r2⟩ := run_append_arg_grows (P := P) w t o.type e i z size bytes ht hi hz hsize hby hzs hsz b n cap olds hlo holds ad m c news hl hnews hg h63 hbytes
  unfold Oper.wp
  simp [execOp, ho, resolve, invoke, builtin, hs, hx, hrun, Result.andThen]
  exact h _ _ r1 r2

/-- A row of runs whose last one is known. -/
theorem row_last {w : World} {base z cap : Nat} {q : Option Addr} {pr : List Rn} {r : Rn} (h : ROw w base (.slice q (z + 1) cap) (pr ++ [r])) (hz : z = pr.length) :
    ∃ g, q = some ⟨g, 0, none⟩ ∧ base ≤ g ∧ g < w.heap.size ∧ z + 1 ≤ cap ∧ (w.cell? ⟨g, z * 3, none⟩ = some (.int .i64 r.a) ∧ w.cell? ⟨g, z * 3 + 1, none⟩ = some (.int .i64 r.b) ∧ w.cell? ⟨g, z * 3 + 2, none⟩ = some (.int .i64 r.n)) ∧
      ∀ j u, (rcells pr)[j]? = some u → w.cell? ⟨g, j, none⟩ = some u := by
  obtain ⟨p2, cap2, e2, h2⟩ := h.rw
  have ho : w.ownsRow base 30 3 (.slice q (z + 1) cap) (pr ++ [r]).length (rcells (pr ++ [r])) := h
  obtain ⟨g, c2, he, hb, hg⟩ := ho.form (by simp)
  simp only [Value.slice.injEq] at he e2
  obtain ⟨rfl, he1, rfl⟩ := he
  obtain ⟨rfl, _, _⟩ := e2
  have hzl : z < (pr ++ [r]).length := by simp [hz]
  obtain ⟨g', o', e3, _, c0, c1, c2'⟩ := h2 z hzl
  simp only [Option.some.injEq, Addr.mk.injEq, and_true] at e3
  obtain ⟨rfl, rfl⟩ := e3
  have hzr : (pr ++ [r])[z] = r := by rw [List.getElem_append_right (by omega)]; simp [hz]
  rw [hzr] at c0 c1 c2'
  rw [Nat.zero_add] at c0 c1 c2'
  refine ⟨g, rfl, hb, hg, ?_, ⟨c0, c1, c2'⟩, fun j u hj => ?_⟩
  · rcases ho.2 with ⟨_, h0⟩ | ⟨g', cap', cur, hv, _, _, hle, _⟩
    · simp at h0
    · simp only [Value.slice.injEq] at hv
      obtain ⟨_, e1, rfl⟩ := hv
      omega
  · have h3 := ho.cells (g := g) rfl j u (by rw [rcells_snoc, List.getElem?_append_left (List.getElem?_eq_some_iff.mp hj).1]; exact hj)
    rw [Addr.add_lit, Nat.zero_add] at h3
    exact h3

set_option maxHeartbeats 4000000 in
set_option maxRecDepth 8000 in
theorem rjoined_any (rs : List Rn) (N : Nat) (p : Option Addr) (c n : Nat) (w : World) (hn : n = rs.length) (hp : RRw w p rs) (hl : n ≤ 1000000) (hi : ∀ r ∈ rs, Inn N r) (hN : N ≤ 1048576) :
    Calls Try.prog 26 #[.slice p n c] w fun e w' => (∃ v, e = .returned v ∧ ROw w' w.heap.size v (jn [] rs)) ∧ Below w.heap.size w w' := by
  obtain ⟨i0, hif, hz0, hz1, hz2⟩ := info_parts Try.infoRn
  have HN := Lib.hid hn
  have HP := Lib.hid hp
  have HI := Lib.hid hi
  obtain ⟨R, hR⟩ : ∃ R, R = jn [] rs := ⟨_, rfl⟩
  rw [← hR]
  have HR : Hid (R = jn [] (rs.drop 0)) := hR
  clear hn hp hR hi
  go_enter Try.func26, Try.ntmps26
  go_wp2
  go_loopw [4, 3] (fun iv ov wr => ∃ (k L : Nat) (acc : List Rn) (q : Option Addr) (cap : Nat), k ≤ n ∧ L ≤ k ∧ iv = .int .i64 k ∧ ov = .slice q L cap ∧ Hid (L = acc.length) ∧ Hid (ROw wr w.heap.size (.slice q L cap) acc) ∧ Hid (R = jn acc (rs.drop k)) ∧ Hid (∀ r ∈ acc, Inn N r) ∧ Hid (Below w.heap.size w wr)) (fun iv _ _ => n - (intOf iv).toNat)
  case atStart => exact ⟨0, 0, [], none, 0, by omega, by omega, rfl, rfl, rfl, ROw.nil _ _, HR.out, (fun r hr => absurd hr (by simp) : ∀ r ∈ ([] : List Rn), Inn N r), Below.refl _ _⟩
  case round =>
    clear HR
    obtain ⟨k, L, acc, q, cap, hk, hL, rfl, rfl, HL, HO, HR, HA, HB⟩ := hrel
    have hbs := HB.out.size
    by_cases hlt : k < n
    · have hka : k < rs.length := by rw [← HN.out]; omega
      obtain ⟨g, o, rfl, hg, a0, a1, a2⟩ := HP.out.now HB.out k hka
      obtain ⟨a, b, x, he, h1, h2, h3⟩ := inn_at HI.out hka
      have hX := HR.out
      rw [jn_drop hka, he] at hX
      have hrin : Inn N ⟨(a : Int), (b : Int), (x : Int)⟩ := ⟨a, b, x, rfl, h1, h2, h3⟩
      have HIN : Hid (∀ r ∈ js acc ⟨(a : Int), (b : Int), (x : Int)⟩, Inn N r) := js_inn HA.out hrin
      rw [he] at a0 a1 a2
      simp only at a0 a1 a2
      have HNOW : Hid (∀ w', Below wr.heap.size wr w' → w'.cell? ⟨g, o + k * 3, none⟩ = some (.int .i64 (a : Int)) ∧ w'.cell? ⟨g, o + k * 3 + 1, none⟩ = some (.int .i64 (b : Int)) ∧ w'.cell? ⟨g, o + k * 3 + 2, none⟩ = some (.int .i64 (x : Int))) := fun w' hb => by
        have hg2 := Nat.lt_of_lt_of_le hg hbs
        exact ⟨(hb.cell (p := ⟨g, _, none⟩) hg2).trans a0, (hb.cell (p := ⟨g, _, none⟩) hg2).trans a1, (hb.cell (p := ⟨g, _, none⟩) hg2).trans a2⟩
      have ho := HO.out.of HL.out
      rcases js_cases acc ⟨(a : Int), (b : Int), (x : Int)⟩ with ⟨hac, hjs⟩ | ⟨pr, q0, hac⟩
      · have hL0 : L = 0 := by rw [HL.out, hac]; rfl
        rw [hjs] at hX HIN
        have HX := Lib.hid hX
        obtain ⟨z, hz⟩ : ∃ z : Int, z = -1 := ⟨_, rfl⟩
        have i1 : IntKind.i64.wrap ((L : Int) - 1) = z := by rw [IntWalk.i64_in _ (by omega)]; omega
        have d1 : decide (0 ≤ z) = false := decide_eq_false (by omega)
        have HEQ : Hid (acc ++ [⟨(a : Int), (b : Int), (x : Int)⟩] = [⟨(a : Int), (b : Int), (x : Int)⟩]) := by show _ = _; rw [hac]; rfl
        clear hac hjs hL0 hX hz he hka hrin
        go_wp2
        go_quiet (fail)
        have HO2 := HO.out.below (below_drewN (Below.refl _ _) nq)
        have ho2 := HO2.of HL.out
        have HB2 := below_drewN HB.out nq
        clear ho
        go_wp2_with (at_builtin; refine wpList_append_own _ rfl _ _ 45 rfl w.heap.size 30 i0 (.agg #[.int .i64 0, .int .i64 0, .int .i64 0]) 3 24 Try.underlying45 hif hz0 hz1 hz2 rfl (by decide) _ _ _ rfl (ho2.alloc _) ⟨wr.heap.size, 0, none⟩ 1 1 (Rn.cells ⟨(a : Int), (b : Int), (x : Int)⟩) rfl rfl (new_rn (wr.drewN nq) ⟨(a : Int), (b : Int), (x : Int)⟩ _) (rn_one _) (by unfold maxLen; omega) (by omega) (by simp; omega) ?_; intro v1 w1 ho1 hg1 _; have ho1' := ROw.push HL.out ho1; obtain ⟨q1, cap1, rfl⟩ := ho1'.shapeN (n := L + 1) (by rw [List.length_append, ← HL.out, List.length_singleton]); have HO1 := Lib.hid ho1'; have HB1 := Lib.hid ((below_new HB2 _).grown hg1 (by simp; omega) (fun j hj => (ho2.lt j hj).1)); clear ho1 hg1 ho1')
        go_roundw
        case rel => exact ⟨k + 1, L + 1, acc ++ [Rn.mk (a : Int) (b : Int) (x : Int)], q1, cap1, by omega, by omega, by go_num, rfl, by show _ = _; rw [List.length_append, ← HL.out, List.length_singleton], HO1.out, by show _ = _; rw [HEQ.out]; exact HX.out, by show ∀ r ∈ _, _; rw [HEQ.out]; exact HIN.out, HB1.out⟩
        case measure => simp [intOf]; omega
      · obtain ⟨z, hz⟩ : ∃ z : Nat, z = pr.length := ⟨_, rfl⟩
        have hLz : L = z + 1 := by rw [HL.out, hac, List.length_append, List.length_singleton, hz]
        obtain ⟨qa, qb, qn, hq, g1, g2, g3⟩ := HA.out q0 (by rw [hac]; simp)
        subst hq
        have i1 : IntKind.i64.wrap ((L : Int) - 1) = (z : Int) := by rw [IntWalk.i64_in _ (by omega)]; omega
        subst hLz
        have HO' : Hid (ROw wr w.heap.size (.slice q (z + 1) cap) (pr ++ [⟨(qa : Int), (qb : Int), (qn : Int)⟩])) := by rw [hac] at HO; exact HO
        obtain ⟨gq, rfl, hgb, hgs, hcap, ⟨b0, b1, b2⟩, -⟩ := row_last HO'.out hz
        simp only at b0 b1 b2
        obtain ⟨s1, hs1⟩ : ∃ s, s = qa + qn := ⟨_, rfl⟩
        obtain ⟨s2, hs2⟩ : ∃ s, s = qb + qn := ⟨_, rfl⟩
        have i2 : IntKind.i64.wrap ((qa : Int) + (qn : Int)) = (s1 : Int) := by rw [IntWalk.i64_in _ (by omega)]; omega
        have i3 : IntKind.i64.wrap ((qb : Int) + (qn : Int)) = (s2 : Int) := by rw [IntWalk.i64_in _ (by omega)]; omega
        have hzz : z < z + 1 := Nat.lt_succ_self z
        have HZ := Lib.hid hz
        have HAC := Lib.hid hac
        clear HO ho
        by_cases hc : (qa : Int) + (qn : Int) = (a : Int) ∧ (qb : Int) + (qn : Int) = (b : Int)
        · rw [hac, js_yes pr _ _ hc] at hX HIN
          simp only at hX HIN
          obtain ⟨s, hs⟩ : ∃ s, s = qn + x := ⟨_, rfl⟩
          rw [show ((qn : Int) + (x : Int)) = (s : Int) by omega] at hX HIN
          have HX := Lib.hid hX
          have e1 : ((s1 : Int) == (a : Int)) = true := by rw [beq_iff_eq]; omega
          have e2 : ((s2 : Int) == (b : Int)) = true := by rw [beq_iff_eq]; omega
          have i4 : IntKind.i64.wrap ((qn : Int) + (x : Int)) = (s : Int) := by rw [IntWalk.i64_in _ (by omega)]; omega
          clear hac hX hc hs1 hs2 he hka hrin hz hs
          go_wp2
          go_quiet (fail)
          have hbw : Below wr.heap.size wr (wr.drewN nq) := below_drewN (Below.refl _ _) nq
          have HO0 := Lib.hid (HO'.out.below hbw)
          have HB0 := Lib.hid (below_drewN HB.out nq)
          have HNOW0 : Hid (∀ w', Below (wr.drewN nq).heap.size (wr.drewN nq) w' → w'.cell? ⟨g, o + k * 3, none⟩ = some (.int .i64 (a : Int)) ∧ w'.cell? ⟨g, o + k * 3 + 1, none⟩ = some (.int .i64 (b : Int)) ∧ w'.cell? ⟨g, o + k * 3 + 2, none⟩ = some (.int .i64 (x : Int))) := fun w' h => HNOW.out w' (hbw.trans (h.mono hbw.size))
          clear a0 a1 a2 b0 b1 b2 hgs hbs HNOW HO' HB hbw
          generalize wr.drewN nq = w0 at HO0 HB0 HNOW0 ⊢
          obtain ⟨a0, a1, a2⟩ := HNOW0.out _ (Below.refl _ _)
          obtain ⟨_, e3, hgb, hgs, hcap, ⟨b0, b1, b2⟩, hold⟩ := row_last HO0.out HZ.out
          simp only [Option.some.injEq, Addr.mk.injEq, and_true] at e3
          subst e3
          simp only at b0 b1 b2
          have HOLD := Lib.hid hold
          have hbs := HB0.out.size
          clear hold
          go_upto_region 8 with fail
          obtain ⟨S, hS⟩ : ∃ S, S = w0.heap.size := ⟨_, rfl⟩
          obtain ⟨w1, hw1⟩ : ∃ w1, w1 = w0.alloc (.cells #[.int .i64 (qa : Int), .int .i64 (qb : Int), .int .i64 (qn : Int)] 30) := ⟨_, rfl⟩
          have hbx : w1.heap[S]? = some (.cells #[.int .i64 (qa : Int), .int .i64 (qb : Int), .int .i64 (qn : Int)] 30 (0, 0)) := by rw [hw1, hS]; exact heap_alloc_new _ _
          have hb1 : Below w0.heap.size w0 w1 := by rw [hw1]; exact below_new (Below.refl _ _) _
          rw [← hw1, ← hS]
          have HS := Lib.hid hS
          clear a0 a1 a2 b0 b1 b2 hw1 hS
          obtain ⟨a0, a1, a2⟩ := HNOW0.out _ hb1
          have z2 := cell_of_row w1 S 2 _ _ _ hbx
          have zf := frozen_of_row w1 S 2 _ _ hbx
          have hgS : g ≠ S := by have := HS.out; omega
          have HBX := Lib.hid hbx
          have HB1 := Lib.hid hb1
          clear hbx hb1
          go_region
          obtain ⟨w2, hw2⟩ : ∃ w2, w2 = (w1.setCell ⟨S, 2, none⟩ (.int .i64 (s : Int))).drew := ⟨_, rfl⟩
          have hbx2 : w2.heap[S]? = some (.cells #[.int .i64 (qa : Int), .int .i64 (qb : Int), .int .i64 (s : Int)] 30 (0, 0)) := by
            have h := heap_setCell_same w1 S 2 _ 30 (.int .i64 (s : Int)) HBX.out
            have h2 : (w1.setCell ⟨S, 2, none⟩ (.int .i64 (s : Int))).heap[S]? = some (.cells #[.int .i64 (qa : Int), .int .i64 (qb : Int), .int .i64 (s : Int)] 30 (0, 0)) := by simpa using h
            rw [hw2]
            exact h2
          have hb2 : Below w0.heap.size w0 w2 := by rw [hw2]; exact (HB1.out.setCell (by have := HS.out; simp; omega) _).drew
          have HOLD2 : Hid (∀ w', Below w2.heap.size w2 w' → ∀ j u, (rcells pr)[j]? = some u → w'.cell? ⟨gq, j, none⟩ = some u) := fun w' h j u hj => ((hb2.trans (h.mono hb2.size)).cell (p := ⟨gq, j, none⟩) hgs).trans (HOLD.out j u hj)
          rw [← hw2]
          clear a0 a1 a2 z2 zf hw2
          have z0 := cell_of_row w2 S 0 _ _ _ hbx2
          have z1 := cell_of_row w2 S 1 _ _ _ hbx2
          have z2 := cell_of_row w2 S 2 _ _ _ hbx2
          have HB2 := Lib.hid (HB0.out.trans (hb2.mono HB0.out.size))
          have hs2 := HB2.out.size
          have hzc : z ≤ cap := by omega
          have hzc' : (z : Int) ≤ (cap : Int) := by omega
          have HRC : Hid ((rcells pr).length = z * 3) := by show _ = _; rw [rcells_len, ← HZ.out]
          have hSs : S < w2.heap.size := row_lt hbx2
          have HBX2 := Lib.hid hbx2
          clear hb2 hbx2
          go_wp2
          go_region_held3 (fun w' => w'.cell? ⟨S, 0, none⟩ = some (.int .i64 (qa : Int)) ∧ w'.cell? ⟨S, 1, none⟩ = some (.int .i64 (qb : Int)) ∧ w'.cell? ⟨S, 2, none⟩ = some (.int .i64 (s : Int))) (first | go_keep | (go_split_ands; refine ⟨?_, ?_, ?_⟩ <;> (rw [hg3.cell_far _ (by simp; omega) (by simp)]; assumption)))
            ((refine step_append_grows _ (by rfl) _ _ _ (by rfl) 30 i0 (.agg #[.int .i64 0, .int .i64 0, .int .i64 0]) 3 24 Try.underlying45 hif hz0 hz1 hz2 rfl (by omega) ⟨gq, 0, none⟩ z z (rcells pr) (by rfl) HRC.out (fun j u hj => by rw [Addr.add_lit, Nat.zero_add]; exact HOLD2.out _ (below_new (Below.refl _ _) _).drew j u hj) ⟨w2.heap.size, 0, none⟩ 1 1 (Rn.cells ⟨(qa : Int), (qb : Int), (s : Int)⟩) (by rfl) (by rfl) (new_rn w2 ⟨(qa : Int), (qb : Int), (s : Int)⟩ _) (by omega) (by unfold maxLen; omega) (by omega) ?_; intro v3 w3 ho3 hg3))
          all_goals have ho3' := (ROw.push HZ.out ho3).lower (base' := w.heap.size) (by simp; omega)
          all_goals obtain ⟨q3, c3, rfl⟩ := ho3'.shapeN (n := z + 1) (by rw [List.length_append, ← HZ.out, List.length_singleton])
          all_goals have HO3 := Lib.hid ho3'
          all_goals have HB3 := Lib.hid ((below_drewN (below_new HB2.out _) 1).grown hg3 (by simp; omega) (fun j hj => by cases hj))
          all_goals clear ho3 ho3' hg3
          all_goals go_wp2
          all_goals go_roundw
          all_goals first
            | exact ⟨k + 1, z + 1, pr ++ [Rn.mk (qa : Int) (qb : Int) (s : Int)], q3, c3, by omega, by omega, by go_num, rfl, by show _ = _; rw [List.length_append, ← HZ.out, List.length_singleton], HO3.out, HX.out, HIN.out, HB3.out⟩
            | (simp [intOf]; omega)
        · rw [hac, js_no pr _ _ hc] at hX HIN
          have HX := Lib.hid hX
          have hB : ((s1 : Int) == (a : Int)) = false ∨ (((s1 : Int) == (a : Int)) = true ∧ ((s2 : Int) == (b : Int)) = false) := by
            by_cases h1 : (s1 : Int) = (a : Int)
            · exact .inr ⟨beq_iff_eq.mpr h1, beq_eq_false_iff_ne.mpr (fun h2 => hc ⟨by omega, by omega⟩)⟩
            · exact .inl (beq_eq_false_iff_ne.mpr h1)
          clear hac hX hc hs1 hs2 he hka hrin hz
          rcases hB with e1 | ⟨e1, e2⟩
          all_goals go_wp2
          all_goals go_quiet (fail)
          all_goals have hbw : Below wr.heap.size wr (wr.drewN nq) := below_drewN (Below.refl _ _) nq
          all_goals have HO0 := Lib.hid (HO'.out.below hbw)
          all_goals have HB0 := Lib.hid (below_drewN HB.out nq)
          all_goals have HNOW0 : Hid ((wr.drewN nq).cell? ⟨g, o + k * 3, none⟩ = some (.int .i64 (a : Int)) ∧ (wr.drewN nq).cell? ⟨g, o + k * 3 + 1, none⟩ = some (.int .i64 (b : Int)) ∧ (wr.drewN nq).cell? ⟨g, o + k * 3 + 2, none⟩ = some (.int .i64 (x : Int))) := HNOW.out _ hbw
          all_goals clear a0 a1 a2 b0 b1 b2 hgs hbs HNOW HO' HB hbw
          all_goals generalize wr.drewN nq = w0 at HO0 HB0 HNOW0 ⊢
          all_goals obtain ⟨a0, a1, a2⟩ := HNOW0.out
          all_goals have hbs := HB0.out.size
          all_goals have HL2 : Hid (z + 1 = (pr ++ [Rn.mk (qa : Int) (qb : Int) (qn : Int)]).length) := by show _ = _; rw [List.length_append, List.length_singleton, ← HZ.out]
          all_goals have ho2 := HO0.out.of HL2.out
          all_goals go_wp2_with (at_builtin; refine wpList_append_own _ rfl _ _ 45 rfl w.heap.size 30 i0 (.agg #[.int .i64 0, .int .i64 0, .int .i64 0]) 3 24 Try.underlying45 hif hz0 hz1 hz2 rfl (by decide) _ _ _ rfl (ho2.alloc _) ⟨w0.heap.size, 0, none⟩ 1 1 (Rn.cells ⟨(a : Int), (b : Int), (x : Int)⟩) rfl rfl (new_rn w0 ⟨(a : Int), (b : Int), (x : Int)⟩ _) (rn_one _) (by unfold maxLen; omega) (by omega) (by simp; omega) ?_; intro v1 w1 ho1 hg1 _; have ho1' := ROw.push HL2.out ho1; obtain ⟨q1, cap1, rfl⟩ := ho1'.shapeN (n := z + 1 + 1) (by rw [List.length_append, ← HL2.out, List.length_singleton]); have HO1 := Lib.hid ho1'; have HB1 := Lib.hid ((below_new HB0.out _).grown hg1 (by simp; omega) (fun j hj => (ho2.lt j hj).1)); clear ho1 hg1 ho1')
          all_goals go_roundw
          all_goals first
            | exact ⟨k + 1, z + 1 + 1, pr ++ [Rn.mk (qa : Int) (qb : Int) (qn : Int)] ++ [Rn.mk (a : Int) (b : Int) (x : Int)], q1, cap1, by omega, by omega, by go_num, rfl, by show _ = _; rw [List.length_append, ← HL2.out, List.length_singleton], HO1.out, HX.out, HIN.out, HB1.out⟩
            | (simp [intOf]; omega)
    · obtain rfl : k = n := by omega
      have HX : Hid (R = acc) := by show _ = _; rw [HR.out, List.drop_of_length_le (by rw [← HN.out]; omega)]; rfl
      go_wp2
      go_ret
      exact ⟨⟨_, rfl, by rw [HX.out]; exact HO.out⟩, HB.out⟩
end Go.Proofs.Ytnmebnpldacngaa
