/-
  Writing into a row of entries of the call's own: a store of an entry, clear, copy, append of new elements.
-/
import Derived.Test.YtjholoajgnpodaaDoorTrOw
import Derived.Lib.AppendZerosOnto
import Derived.Deep.MidRow
import Derived.Laws.AppendOwnNone
namespace Go.Proofs.YtjholoajgnpodaaDoor
open Go.RowKit

theorem ncells_take (l : List En) (k : Nat) : (ncells l).take (k * 3) = ncells (l.take k) := by
  by_cases h : k ≤ l.length
  · conv => lhs; rw [← List.take_append_drop k l, ncells_append]
    exact List.take_left' (by rw [ncells_len, List.length_take]; omega)
  · rw [List.take_of_length_le (by rw [ncells_len]; omega), List.take_of_length_le (by omega)]
theorem ncells_drop (l : List En) (k : Nat) : (ncells l).drop (k * 3) = ncells (l.drop k) := by
  by_cases h : k ≤ l.length
  · conv => lhs; rw [← List.take_append_drop k l, ncells_append]
    exact List.drop_left' (by rw [ncells_len, List.length_take]; omega)
  · rw [List.drop_of_length_le (by rw [ncells_len]; omega), List.drop_of_length_le (by omega)]
    rfl
/-- The list behind a writing of 'mid' at place k. -/
def wrE (l mid : List En) (k : Nat) : List En := l.take k ++ (mid ++ l.drop (k + mid.length))
theorem wrE_len {l mid : List En} {k : Nat} (hk : k ≤ l.length) : (wrE l mid k).length = max l.length (k + mid.length) := by
  unfold wrE
  simp only [List.length_append, List.length_take, List.length_drop]
  omega
theorem row_write {cur : List Value} {l mid : List En} {k : Nat} (hk : k ≤ l.length) (h : cur.take (l.length * 3) = ncells l) :
    (cur.take (k * 3) ++ ncells mid ++ cur.drop (k * 3 + (ncells mid).length)).take ((wrE l mid k).length * 3) = ncells (wrE l mid k) := by
  have e1 : cur.take (k * 3) = ncells (l.take k) := by
    rw [← ncells_take, ← h, List.take_take]
    congr 1
    omega
  obtain ⟨R, hR⟩ : ∃ R, cur.drop (k * 3 + (ncells mid).length) = ncells (l.drop (k + mid.length)) ++ R := by
    by_cases hm : k + mid.length ≤ l.length
    · refine ⟨cur.drop (l.length * 3), ?_⟩
      rw [← ncells_drop, ← h, ncells_len]
      conv => lhs; rw [← List.take_append_drop (l.length * 3) cur]
      rw [List.drop_append_of_le_length (by rw [h, ncells_len]; omega)]
      congr 2
      omega
    · exact ⟨_, by rw [List.drop_of_length_le (l := l) (by omega)]; rfl⟩
  rw [e1, hR, List.append_assoc, ← List.append_assoc (ncells mid), ← ncells_append, ← List.append_assoc, ← ncells_append]
  exact List.take_left' (ncells_len _)

theorem NOw.write {w : World} {base g n cap : Nat} {l : List En} (h : NOw w base (.slice (some ⟨g, 0, none⟩) n cap) l) (mid : List En) (k off : Nat) (hk : k ≤ l.length) (hfit : k + mid.length ≤ cap) (ho : off = k * 3) :
    ∃ w', (∀ P : Program, (storeCells ⟨g, off, none⟩ (ncells mid) 0).run P w = .ok () w') ∧ NOw w' base (.slice (some ⟨g, 0, none⟩) (wrE l mid k).length cap) (wrE l mid k) ∧ w.grownBy w' (some g) := by
  have h' : w.ownsRow base 34 3 (.slice (some ⟨g, 0, none⟩) n cap) l.length (ncells l) := h
  subst ho
  rcases h'.2 with ⟨hx, _⟩ | ⟨g', cap', cur, hv, hbg, hg, hc, hm, hs, ht⟩
  · cases hx
  · injection hv with h1 h2 h3
    injection h1 with h1
    injection h1 with h1
    subst h1 h3
    have hfit3 : k * 3 + (ncells mid).length ≤ cur.size := by rw [hs, ncells_len, ← Nat.add_mul]; exact Nat.mul_le_mul_right _ hfit
    refine ⟨_, fun P => ?_, ⟨ncells_len _, .inr ⟨g, cap, _, rfl, hbg, setRow_heap w g cur _ 34 _ hg, ?_, hm, ?_, row_write (mid := mid) hk ht⟩⟩, ⟨rfl, rfl, rfl, by simp, fun j _ hj => setRow_other w g j _ (fun e => hj (by rw [e]))⟩⟩
    · have := run_storeCells_at P g (k * 3) 34 (ncells mid) 0 cur w hg (by simpa using hfit3) (ncells_one mid)
      simpa using this
    · rw [wrE_len hk]; omega
    · simp only [List.size_toArray, List.length_append, List.length_take, List.length_drop, Array.length_toList]
      omega
theorem NOw.cut {w : World} {base g n cap : Nat} {l : List En} (h : NOw w base (.slice (some ⟨g, 0, none⟩) n cap) l) (k : Nat) (hk : k ≤ l.length) : NOw w base (.slice (some ⟨g, 0, none⟩) k cap) (l.take k) := by
  have h' : w.ownsRow base 34 3 (.slice (some ⟨g, 0, none⟩) n cap) l.length (ncells l) := h
  have hl : (l.take k).length = k := by rw [List.length_take]; omega
  rcases h'.2 with ⟨hx, _⟩ | ⟨g', cap', cur, hv, hbg, hg, hc, hm, hs, ht⟩
  · cases hx
  · injection hv with h1 h2 h3
    injection h1 with h1
    injection h1 with h1
    subst h1 h3
    show World.ownsRow _ _ _ _ _ _ _
    rw [hl]
    refine ⟨by rw [ncells_len, hl], .inr ⟨g, cap, cur, rfl, hbg, hg, by omega, hm, hs, ?_⟩⟩
    rw [← ncells_take, ← ht, List.take_take]
    congr 1
    omega
theorem NOw.len {w : World} {base g n cap : Nat} {l : List En} (h : NOw w base (.slice (some ⟨g, 0, none⟩) n cap) l) : n = l.length ∧ n ≤ cap ∧ base ≤ g ∧ g < w.heap.size := by
  have h' : w.ownsRow base 34 3 (.slice (some ⟨g, 0, none⟩) n cap) l.length (ncells l) := h
  rcases h'.2 with ⟨hx, _⟩ | ⟨g', cap', cur, hv, hbg, hg, hc, hm, hs, ht⟩
  · cases hx
  · injection hv with h1 h2 h3
    injection h1 with h1
    injection h1 with h1
    subst h1 h3
    exact ⟨h2, by omega, hbg, (Array.getElem?_eq_some_iff.mp hg).1⟩
/-- The cells from an entry on. -/
theorem NOw.src {w : World} {base g n cap : Nat} {l : List En} (h : NOw w base (.slice (some ⟨g, 0, none⟩) n cap) l) (k off : Nat) (ho : off = k * 3) : ∀ j u, (ncells (l.drop k))[j]? = some u → w.cell? ((⟨g, off, none⟩ : Addr).add j) = some u := fun j u hu => by
  have h' : w.ownsRow base 34 3 (.slice (some ⟨g, 0, none⟩) n cap) l.length (ncells l) := h
  subst ho
  rw [Addr.add_mid]
  rw [← ncells_drop, List.getElem?_drop] at hu
  have := h'.cells (g := g) rfl _ _ hu
  rwa [Addr.add_mid, Nat.zero_add] at this
theorem NOw.at {w : World} {base g n cap : Nat} {l : List En} (h : NOw w base (.slice (some ⟨g, 0, none⟩) n cap) l) (k : Nat) (hk : k < l.length) :
    w.cell? ⟨g, k * 3, none⟩ = some (.int .i64 l[k].m) ∧ w.cell? ⟨g, k * 3 + 1, none⟩ = some (.string l[k].n) ∧ w.cell? ⟨g, k * 3 + 2, none⟩ = some (.string l[k].i) := by
  obtain ⟨p, cap', hv, _, hp⟩ := h.rw
  injection hv with h1 h2 h3
  subst h1
  obtain ⟨g', o, hg', _, h0, h1, h2⟩ := hp k hk
  injection hg' with hg'
  injection hg' with hg' ho'
  subst hg' ho'
  rw [Nat.zero_add] at h0 h1 h2
  exact ⟨h0, h1, h2⟩

theorem zero_cells (m : Nat) : (Builtin.zeroCells (Value.cells (.agg #[.int .i64 0, .string ⟨#[]⟩, .string ⟨#[]⟩])) m).toList = ncells (List.replicate m En.zero) := by
  simp only [Value.cells, Builtin.zeroCells]
  apply List.ext_getElem?
  intro j
  by_cases hj : j < m * 3
  · have hq : j = j / 3 * 3 + j % 3 := by omega
    conv => rhs; rw [hq, ncells_at _ _ _ (by simp; omega) (by omega)]
    rw [List.getElem_replicate]
    have h3 : j % 3 = 0 ∨ j % 3 = 1 ∨ j % 3 = 2 := by omega
    rcases h3 with h3 | h3 | h3 <;> simp [h3, hj, En.cells, En.zero]
  · rw [List.getElem?_eq_none (by simp; omega), List.getElem?_eq_none (by rw [ncells_len]; simp; omega)]

section
variable {ops : Array Oper} {rest : List Oper} {o : Oper} {a : Act} {Q : Exit → Act → World → Prop} {w : World} {base g n cap : Nat} {l : List En}
/-- A store of an entry. -/
theorem wp_no_store (hgd : o.guard = none) (x y : Operand) (ho : o.op = .store 34 x y) (h : NOw w base (.slice (some ⟨g, 0, none⟩) n cap) l) (k off : Nat) (hk : k < l.length) (hoff : off = k * 3) (hx : a.eval x = .pointer (some ⟨g, off, none⟩))
    (m : Int) (nm id : ByteArray) (hy : a.eval y = .agg #[.int .i64 m, .string nm, .string id])
    (H : ∀ w', NOw w' base (.slice (some ⟨g, 0, none⟩) n cap) (wrE l [⟨m, nm, id⟩] k) → w.grownBy w' (some g) → wpList Tryd.prog ops Q rest (a.put o.dst undef) w') : wpList Tryd.prog ops Q (o :: rest) a w := by
  obtain ⟨i0, hi, hz0, hz1, hz2⟩ := info_parts Tryd.infoEn
  obtain ⟨hn, hc, _, _⟩ := h.len
  obtain ⟨w', hst, hown, hgr⟩ := h.write [⟨m, nm, id⟩] k off (by omega) (by simp; omega) hoff
  have hlen : (wrE l [⟨m, nm, id⟩] k).length = n := by rw [wrE_len (by omega), hn]; simp; omega
  rw [hlen] at hown
  refine wpList_plain hgd fun K hK => ?_
  have hrun : (storeVar 34 ⟨g, off, none⟩ (.agg #[.int .i64 m, .string nm, .string id])).run Tryd.prog w = .ok () w' := by
    have := hst Tryd.prog
    simp only [ncells, List.flatMap_cons, List.flatMap_nil, List.append_nil, En.cells] at this
    simp [storeVar, sizeOf, typeInfo, hi, Value.cells, hz1, this]
  unfold Oper.wp execOp
  simp only [ho, hx, hy, Instr.storeAt, Instr.sureAddr, Sem.run_bind, Sem.run_pure, Result.andThen_ok, hrun]
  exact hK _ _ (H w' hown hgr)
/-- clear of the end of a row. -/
theorem run_no_clear (h : NOw w base (.slice (some ⟨g, 0, none⟩) n cap) l) (k off m c : Nat) (hk : k + m = l.length) (hm : 0 < m) (hoff : off = k * 3) :
    ∃ w', (∀ ty, (Builtin.clear_ #[22] ty #[.slice (some ⟨g, off, none⟩) m c]).run Tryd.prog w = .ok (.tuple #[]) w') ∧ NOw w' base (.slice (some ⟨g, 0, none⟩) n cap) (wrE l (List.replicate m En.zero) k) ∧ w.grownBy w' (some g) := by
  obtain ⟨i0, hi, hz0, hz1, hz2⟩ := info_parts Tryd.infoEn
  obtain ⟨hn, hc, _, _⟩ := h.len
  obtain ⟨w', hst, hown, hgr⟩ := h.write (List.replicate m En.zero) k off (by omega) (by simp; omega) hoff
  have hlen : (wrE l (List.replicate m En.zero) k).length = n := by rw [wrE_len (by omega), hn]; simp; omega
  rw [hlen] at hown
  refine ⟨w', fun ty => ?_, hown, hgr⟩
  have hzv : ∀ w, (zeroValue 34).run Tryd.prog w = .ok (.agg #[.int .i64 0, .string ⟨#[]⟩, .string ⟨#[]⟩]) w := fun w => by simp [zeroValue, typeInfo, hi, hz0]
  have hzc := zero_cells m
  have := hst Tryd.prog
  obtain ⟨m', rfl⟩ : ∃ m', m = m' + 1 := ⟨m - 1, by omega⟩
  simp [Builtin.clear_, run_underlying Tryd.underlying22, hzv, hzc, this]
/-- copy into a row. -/
theorem wp_no_copy (hgd : o.guard = none) (d s : Operand) (ho : o.op = .call { callee := .builtin .copy, args := #[d, s], argTypes := #[22, 22] }) (h : NOw w base (.slice (some ⟨g, 0, none⟩) n cap) l) (k off dl dc : Nat) (ad : Addr) (sl sc : Nat) (mid : List En) (hk : k ≤ l.length) (hfit : k + mid.length ≤ cap)
    (hoff : off = k * 3) (hd : a.eval d = .slice (some ⟨g, off, none⟩) dl dc) (hs : a.eval s = .slice (some ad) sl sc) (hmin : Nat.min sl dl = mid.length) (hsrc : ∀ j u, (ncells mid)[j]? = some u → w.cell? (ad.add j) = some u)
    (H : ∀ w', NOw w' base (.slice (some ⟨g, 0, none⟩) (wrE l mid k).length cap) (wrE l mid k) → w.grownBy w' (some g) → wpList Tryd.prog ops Q rest (a.put o.dst (goInt mid.length)) w') : wpList Tryd.prog ops Q (o :: rest) a w := by
  obtain ⟨i0, hi, hz0, hz1, hz2⟩ := info_parts Tryd.infoEn
  obtain ⟨w', hst, hown, hgr⟩ := h.write mid k off hk hfit hoff
  refine wpList_plain hgd fun K hK => ?_
  have hl := run_loadCells_list (P := Tryd.prog) w ad (ncells mid) hsrc
  rw [ncells_len] at hl
  have hrun : (Builtin.copy_ #[22, 22] o.type #[.slice (some ⟨g, off, none⟩) dl dc, .slice (some ad) sl sc]).run Tryd.prog w = .ok (goInt mid.length) w' := by
    have := hst Tryd.prog
    simp [Builtin.copy_, run_underlying Tryd.underlying22, Builtin.lenOf, Builtin.firstCells, sizeOf, typeInfo, hi, hz1, hmin, hl, this]
  unfold Oper.wp
  simp [execOp, ho, resolve, invoke, builtin, hd, hs, hrun, Result.andThen]
  exact hK _ _ (H w' hown hgr)
/-- append of entries that lie in a row. -/
theorem wp_no_many {v : Value} (hgd : o.guard = none) (sl x : Operand) (ho : o.op = .call { callee := .builtin .append, args := #[sl, x], argTypes := #[22, 22] }) (hs : a.eval sl = v) (hown : NOw w base v l) (ad : Addr) (m c : Nat) (mid : List En) (hm : m = mid.length) (hx : a.eval x = .slice (some ad) m c)
    (hsrc : ∀ j u, (ncells mid)[j]? = some u → w.cell? (ad.add j) = some u) (hb : l.length + m ≤ 1048576) (hbase : base ≤ w.heap.size)
    (h : ∀ v' w', NOw w' base v' (l ++ mid) → w.grownBy w' v.ownBlock → (v' = .slice none 0 0 ↔ v = .slice none 0 0 ∧ m = 0) → wpList Tryd.prog ops Q rest (a.put o.dst v') w') : wpList Tryd.prog ops Q (o :: rest) a w := by
  obtain ⟨i0, hi, hz0, hz1, hz2⟩ := info_parts Tryd.infoEn
  subst hm
  exact wpList_append_own _ hgd sl x 22 ho base 34 i0 (.agg #[.int .i64 0, .string ⟨#[]⟩, .string ⟨#[]⟩]) 3 40 Tryd.underlying22 hi hz0 hz1 hz2 rfl (by decide) v l.length (ncells l) hs hown ad mid.length c (ncells mid) hx (ncells_len _) hsrc (ncells_one _) (by unfold maxLen; omega) (by omega) hbase
    (fun v' w' h1 h2 h3 => h v' w' (by
      unfold NOw
      rw [ncells_append, List.length_append]
      exact h1) h2 h3)
/-- append of nothing: of nil. -/
theorem wp_no_none {v : Value} (hgd : o.guard = none) (sl x : Operand) (ho : o.op = .call { callee := .builtin .append, args := #[sl, x], argTypes := #[22, 22] }) (hs : a.eval sl = v) (hown : NOw w base v l) (hx : a.eval x = .slice none 0 0)
    (h : wpList Tryd.prog ops Q rest (a.put o.dst v) w) : wpList Tryd.prog ops Q (o :: rest) a w := by
  obtain ⟨i0, hi, hz0, hz1, hz2⟩ := info_parts Tryd.infoEn
  exact wpList_append_own_none hgd sl x 22 ho base 34 i0 3 Tryd.underlying22 hi v l.length (ncells l) hs hown hx h
/-- append of new entries to a row without room. -/
theorem wp_no_zeros (hgd : o.guard = none) (sl x : Operand) (ho : o.op = .call { callee := .builtin .append, args := #[sl, x], argTypes := #[22, 3] }) (h : NOw w base (.slice (some ⟨g, 0, none⟩) n cap) l) (hs : a.eval sl = .slice (some ⟨g, 0, none⟩) n cap) (k z : Nat) (hz : z = n + k) (hk : 0 < k) (hx : a.eval x = .int .i64 (k : Int))
    (hc : cap < n + k) (hb : n + k ≤ 1048576) (base2 : Nat) (hb2 : base2 ≤ w.heap.size)
    (H : ∀ w' cap', NOw w' base2 (.slice (some ⟨w.heap.size, 0, none⟩) z cap') (l ++ List.replicate k En.zero) → w.grownBy w' none → wpList Tryd.prog ops Q rest (a.put o.dst (.slice (some ⟨w.heap.size, 0, none⟩) z cap')) w') : wpList Tryd.prog ops Q (o :: rest) a w := by
  subst hz
  obtain ⟨i0, hi, hz0, hz1, hz2⟩ := info_parts Tryd.infoEn
  obtain ⟨hn, hcap, _, _⟩ := h.len
  have hold := run_firstCells_some (P := Tryd.prog) w.drew i0.size n ⟨g, 0, none⟩ n cap (ncells l) (by rw [ncells_len, hz1, hn]) (fun j u hu => by
    have := h.src 0 0 rfl j u (by simpa using hu)
    simpa using this)
  have hr := Lib.run_append_grow_zeros (P := Tryd.prog) w 22 3 o.type 34 i0 (.agg #[.int .i64 0, .string ⟨#[]⟩, .string ⟨#[]⟩]) .i64 .i64 Tryd.underlying22 Tryd.underlying3 hi hz0 (some ⟨g, 0, none⟩) n cap (ncells l) hold k hk (by omega) hc (by omega) (by rw [hz2]; omega) (growslice_fits hc (by rw [hz2]; omega))
  refine Lib.wpList_append_run _ hgd sl x _ _ ho _ _ hs hx _ _ hr (H _ _ ?_ ⟨rfl, rfl, rfl, by simp, fun j hj _ => heap_alloc_old w.drew _ hj⟩)
  have hge := grownCap_ge w (n + k) cap 34
  have hcm := grownCap_le_maxLen w (n + k) cap 34 (by unfold maxLen; omega)
  show World.ownsRow _ _ _ _ _ _ _
  have hlen : (l ++ List.replicate k En.zero).length = n + k := by simp; omega
  rw [hlen]
  refine ⟨by rw [ncells_len, hlen], .inr ⟨w.heap.size, _, _, rfl, hb2, heap_alloc_new w.drew _, hge, hcm, ?_, ?_⟩⟩
  · simp only [Array.size_append, List.size_toArray, size_zeroCells, ncells_len, Value.cells]
    simp
    omega
  · simp only [Array.toList_append, zero_cells, List.append_assoc]
    rw [← List.append_assoc, ← ncells_append]
    exact List.take_left' (by rw [ncells_len, hlen])
end
end Go.Proofs.YtjholoajgnpodaaDoor
