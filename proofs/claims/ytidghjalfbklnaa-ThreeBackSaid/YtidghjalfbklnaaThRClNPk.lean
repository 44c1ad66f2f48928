/-
  The reference's clean where a new region is begun.
-/
import Derived.Test.YtidghjalfbklnaaThRSamePk
import Derived.Deep.AppendLies
namespace Go.Proofs.Ytidghjalfbklnaa
open Go.RowKit

theorem Try.infoRg : (Try.prog.info? 43).map (fun i => (i.zero, i.size, i.bytes)) = some (some (.agg #[.int .i64 0, .slice none 0 0, .slice none 0 0, .slice none 0 0, .slice none 0 0]), 5, 104) := by kernel_rfl
/-- A row behind which a region is laid down. -/
theorem GOw.snoc {w w2 : World} {base g cap : Nat} {v v0 v1 v2 v3 v4 : Value} {gs : List Rg} {xs : List Value} {r : Rg}
    (hx : xs.length = gs.length * 5)
    (hst : ∀ w', w.grownBy w' v.ownBlock → ∀ k (h : k < gs.length), ∃ v0 v1 v2 v3 v4, xs[k * 5]? = some v0 ∧ xs[k * 5 + 1]? = some v1 ∧ xs[k * 5 + 2]? = some v2 ∧ xs[k * 5 + 3]? = some v3 ∧ xs[k * 5 + 4]? = some v4 ∧ RgC w' gs[k] v0 v1 v2 v3 v4)
    (hg : w.grownBy w2 v.ownBlock) (hat : v.ownBlock = some g ∨ w.heap.size ≤ g)
    (ho : w2.ownsRow base 43 5 (.slice (some ⟨g, 0, none⟩) (gs.length + 1) cap) (gs.length + 1) (xs ++ [v0, v1, v2, v3, v4]))
    (hr : ∀ w', w2.grownBy w' (some g) → RgC w' r v0 v1 v2 v3 v4) : GOw w2 base (.slice (some ⟨g, 0, none⟩) (gs.length + 1) cap) (gs ++ [r]) := by
  refine ⟨xs ++ [v0, v1, v2, v3, v4], by simpa using ho, fun w' hw' k hk => ?_⟩
  by_cases hlt : k < gs.length
  · have hgr : w.grownBy w' v.ownBlock := grown_chain hg hw' (by
      rcases hat with h | h
      · exact .inl h.symm
      · exact .inr fun g' e => by cases e; exact h)
    obtain ⟨a0, a1, a2, a3, a4, h0, h1, h2, h3, h4, hc⟩ := hst w' hgr k hlt
    refine ⟨a0, a1, a2, a3, a4, ?_, ?_, ?_, ?_, ?_, ?_⟩
    · rw [List.getElem?_append_left (by omega)]; exact h0
    · rw [List.getElem?_append_left (by omega)]; exact h1
    · rw [List.getElem?_append_left (by omega)]; exact h2
    · rw [List.getElem?_append_left (by omega)]; exact h3
    · rw [List.getElem?_append_left (by omega)]; exact h4
    · rw [List.getElem_append_left hlt]; exact hc
  · have hke : k = gs.length := by simp at hk; omega
    subst hke
    refine ⟨v0, v1, v2, v3, v4, ?_, ?_, ?_, ?_, ?_, ?_⟩
    · rw [List.getElem?_append_right (by omega), hx, Nat.sub_self]; rfl
    · rw [List.getElem?_append_right (by omega), hx, show gs.length * 5 + 1 - gs.length * 5 = 1 by omega]; rfl
    · rw [List.getElem?_append_right (by omega), hx, show gs.length * 5 + 2 - gs.length * 5 = 2 by omega]; rfl
    · rw [List.getElem?_append_right (by omega), hx, show gs.length * 5 + 3 - gs.length * 5 = 3 by omega]; rfl
    · rw [List.getElem?_append_right (by omega), hx, show gs.length * 5 + 4 - gs.length * 5 = 4 by omega]; rfl
    · have : (gs ++ [r])[gs.length] = r := by simp
      rw [this]
      exact hr w' hw'
end Go.Proofs.Ytidghjalfbklnaa
/-
  The regions that three's functions lay down: a region laid behind them; the last one grown.
-/
namespace Go.Proofs.Ytidghjalfbklnaa
open Go.RowKit

theorem rgAt_left {w : World} {xs ys : List Value} {k : Nat} {r : Rg} (h : RgAt w xs k r) : RgAt w (xs ++ ys) k r := by
  obtain ⟨v0, v1, v2, v3, v4, x0, x1, x2, x3, x4, hr⟩ := h
  have t : ∀ {i : Nat} {v : Value}, xs[i]? = some v → (xs ++ ys)[i]? = some v := fun {i v} h => by
    rw [List.getElem?_append_left (List.getElem?_eq_some_iff.mp h).1]
    exact h
  exact ⟨v0, v1, v2, v3, v4, t x0, t x1, t x2, t x3, t x4, hr⟩
theorem slw_ch {S : Nat → Prop} {w w' : World} {v : Value} {ls : List (List UInt8)} (h : SlW w v ls) (hc : Chg S w w') (hp : ∀ g, v.ownBlock = some g → ¬ S g) : SlW w' v ls := by
  obtain ⟨p, c, rfl, hl, hs⟩ := h
  exact ⟨p, c, rfl, hl, srw_ch hs hc fun g o e => hp g (by rw [e]; rfl)⟩
theorem boxed {w : World} {base n sz R g : Nat} {e : TypeId} {v : Value} {xs : List Value} {cs : Array Value} {t : TypeId} (h : w.ownsRow base e sz v n xs) (hb : w.heap[R]? = some (.cells cs t (0, 0))) (ht : t ≠ e) (hv : v.ownBlock = some g) : g ≠ R := by
  intro hg
  subst hg
  exact own_ty h hb ht hv
/-- A region laid behind the others. -/
theorem RS.push {w wE w2 : World} {base R : Nat} {S : Nat → Prop} {gs : List Rg} {v : Value} {xs : List Value} {g cap : Nat} {r : Rg} {v0 v1 v2 v3 v4 : Value} (h : RS w base R S gs v xs) (hE : Below w.heap.size w wE)
    (ho : w2.ownsRow base 43 5 (.slice (some ⟨g, 0, none⟩) (gs.length + 1) cap) (gs.length + 1) (xs ++ [v0, v1, v2, v3, v4])) (hg : wE.grownBy w2 v.ownBlock) (hat : v.ownBlock = some g ∨ g = wE.heap.size)
    (hbase : base ≤ w.heap.size)
    (hr : (r.k ≠ 1 ∧ ∀ w', Chg (own2 (fun b => b = g) R) (w2.setCell ⟨R, 0, none⟩ (.slice (some ⟨g, 0, none⟩) (gs.length + 1) cap)) w' → RgC w' r v0 v1 v2 v3 v4) ∨ (r = ⟨1, [], [], [], []⟩ ∧ v0 = .int .i64 1 ∧ v1 = .slice none 0 0 ∧ v2 = .slice none 0 0 ∧ v3 = .slice none 0 0 ∧ v4 = .slice none 0 0)) :
    RS (w2.setCell ⟨R, 0, none⟩ (.slice (some ⟨g, 0, none⟩) (gs.length + 1) cap)) base R (fun b => b = g) (gs ++ [r]) (.slice (some ⟨g, 0, none⟩) (gs.length + 1) cap) (xs ++ [v0, v1, v2, v3, v4]) ∧
      Chg (own2 S R) w (w2.setCell ⟨R, 0, none⟩ (.slice (some ⟨g, 0, none⟩) (gs.length + 1) cap)) ∧ (S g ∨ w.heap.size ≤ g) := by
  obtain ⟨cs, t, hbox, hcs, ht1, ht2⟩ := h.box
  have hRl : R < w.heap.size := row_lt hbox
  have hown := h.own
  have hSg : S g ∨ w.heap.size ≤ g := by
    rcases hat with h' | h'
    · exact .inl (h.blk g h')
    · right
      have := hE.size
      omega
  have hboxE : wE.heap[R]? = some (.cells cs t (0, 0)) := (hE.block R hRl).trans hbox
  have hvR : v.ownBlock ≠ some R := own_ty hown hbox ht2
  have hbox2 : w2.heap[R]? = some (.cells cs t (0, 0)) := (hg.block R (row_lt hboxE) (fun e => hvR e.symm)).trans hboxE
  have hgR : g ≠ R := boxed ho hbox2 ht2 rfl
  have hch2 : Chg (own2 S R) w w2 := (Chg.below hE).trans (Chg.grown (S := own2 S R) hg fun k hk => .inl (h.blk k hk)) fun _ h => .inl h
  have hch : Chg (own2 S R) w (w2.setCell ⟨R, 0, none⟩ (.slice (some ⟨g, 0, none⟩) (gs.length + 1) cap)) := hch2.trans' (Chg.set _ (.inr rfl))
  have hgl : g < w2.heap.size := (ho.lt g rfl).2
  have hmax : ∀ b, own2 (fun b => b = g) R b → own2 S R b ∨ w.heap.size ≤ b := fun b hb => by
    rcases hb with rfl | rfl
    · exact hSg.imp (fun h => .inl h) id
    · exact .inl (.inr rfl)
  refine ⟨⟨?_, ?_, ?_, ?_, ?_, ?_, h.rb⟩, hch, hSg⟩
  · have h1 := heap_setCell_same w2 R 0 cs t (.slice (some ⟨g, 0, none⟩) (gs.length + 1) cap) hbox2
    refine ⟨_, t, h1, ?_, ht1, ht2⟩
    have hlen : 0 < cs.size := (Array.getElem?_eq_some_iff.mp hcs).1
    simp [hlen]
  · rw [List.length_append, List.length_singleton]
    exact own_set ho (by intro e; exact hgR (by simpa [Value.ownBlock] using e))
  · intro k hk
    simpa [Value.ownBlock] using hk.symm
  · intro k hk hc w' hw'
    have hall := hch.trans hw' hmax
    by_cases hlt : k < gs.length
    · have hgk : (gs ++ [r])[k] = gs[k] := List.getElem_append_left hlt
      rw [hgk]
      refine rgAt_left ?_
      by_cases hst : gs[k].k ≠ 1 ∨ k + 1 < gs.length
      · exact h.st k hlt hst w' hall
      · have h1 : gs[k].k = 1 := by
          rcases Classical.em (gs[k].k = 1) with h1 | h1
          · exact h1
          · exact absurd (.inl h1) hst
        have h2 : k + 1 = gs.length := by
          rcases Nat.lt_or_ge (k + 1) gs.length with h2 | h2
          · exact absurd (.inr h2) hst
          · omega
        obtain ⟨u1, x0, x1, x2, x3, x4, e1, e2, e3, hu, hus⟩ := h.last k hlt h2 h1
        refine ⟨_, _, _, _, _, x0, x1, x2, x3, x4, by rw [h1], ?_, by rw [e1]; exact SlW.nil _, by rw [e2]; exact SlW.nil _, by rw [e3]; exact SlW.nil _⟩
        have s0 := own_slw hu
        have huv : ∀ b, u1.ownBlock = some b → v.ownBlock ≠ some b := fun b hb => own_ne hu hown (by decide) hb
        have huR : ∀ b, u1.ownBlock = some b → b ≠ R := fun b hb => boxed hu hbox ht1 hb
        have s2 : SlW w2 u1 gs[k].l := by
          have sE := s0.below hE
          obtain ⟨p, c, rfl, hl, hs⟩ := sE
          refine ⟨p, c, rfl, hl, srw_ch (S := fun b => v.ownBlock = some b) hs (Chg.grown hg fun k hk => hk) fun b o e => ?_⟩
          exact huv b (by rw [e]; rfl)
        refine slw_ch (slw_ch s2 (Chg.set (S := fun b => b = R) _ rfl) fun b hb => huR b hb) hw' fun b hb => ?_
        rintro (e | e)
        · subst e
          have hub : b < w.heap.size := (hu.lt b hb).2
          rcases hat with h' | h'
          · exact huv b hb h'
          · have := hE.size
            omega
        · exact huR b hb e
    · have hke : k = gs.length := by simp at hk; omega
      subst hke
      have hgk : (gs ++ [r])[gs.length] = r := by simp
      rw [hgk] at hc ⊢
      have hr1 : r.k ≠ 1 := by
        rcases hc with hc | hc
        · exact hc
        · simp at hc
      rcases hr with ⟨_, hr⟩ | ⟨hr, _⟩
      · have hxl : xs.length = gs.length * 5 := hown.1
        refine ⟨v0, v1, v2, v3, v4, ?_, ?_, ?_, ?_, ?_, hr w' hw'⟩
        · rw [List.getElem?_append_right (by omega), hxl, Nat.sub_self]; rfl
        · rw [List.getElem?_append_right (by omega), hxl, show gs.length * 5 + 1 - gs.length * 5 = 1 by omega]; rfl
        · rw [List.getElem?_append_right (by omega), hxl, show gs.length * 5 + 2 - gs.length * 5 = 2 by omega]; rfl
        · rw [List.getElem?_append_right (by omega), hxl, show gs.length * 5 + 3 - gs.length * 5 = 3 by omega]; rfl
        · rw [List.getElem?_append_right (by omega), hxl, show gs.length * 5 + 4 - gs.length * 5 = 4 by omega]; rfl
      · rw [hr] at hr1
        exact absurd rfl hr1
  · intro k hk h1 h2
    have hke : k = gs.length := by simp at h1; omega
    subst hke
    have hgk : (gs ++ [r])[gs.length] = r := by simp
    rw [hgk] at h2 ⊢
    rcases hr with ⟨hr, _⟩ | ⟨hr, rfl, rfl, rfl, rfl, rfl⟩
    · exact absurd h2 hr
    · subst hr
      have hxl : xs.length = gs.length * 5 := hown.1
      refine ⟨.slice none 0 0, ?_, ?_, ?_, ?_, ?_, rfl, rfl, rfl, World.ownsRow_nil _ _ _ _, fun g hg => by cases hg⟩
      · rw [List.getElem?_append_right (by omega), hxl, Nat.sub_self]; rfl
      · rw [List.getElem?_append_right (by omega), hxl, show gs.length * 5 + 1 - gs.length * 5 = 1 by omega]; rfl
      · rw [List.getElem?_append_right (by omega), hxl, show gs.length * 5 + 2 - gs.length * 5 = 2 by omega]; rfl
      · rw [List.getElem?_append_right (by omega), hxl, show gs.length * 5 + 3 - gs.length * 5 = 3 by omega]; rfl
      · rw [List.getElem?_append_right (by omega), hxl, show gs.length * 5 + 4 - gs.length * 5 = 4 by omega]; rfl
  · rintro b rfl
    refine ⟨(ho.lt b rfl).1, ?_⟩
    simpa using hgl
end Go.Proofs.Ytidghjalfbklnaa
/-
  The regions that three's functions lay down: the last one, a clean one, grown.
-/
namespace Go.Proofs.Ytidghjalfbklnaa
open Go.RowKit

theorem rgAt_set {w : World} {xs : List Value} {k j : Nat} {u : Value} {r : Rg} (h : RgAt w xs k r) (hj : k * 5 + 4 < j) : RgAt w (xs.set j u) k r := by
  obtain ⟨v0, v1, v2, v3, v4, x0, x1, x2, x3, x4, hr⟩ := h
  have t : ∀ {i : Nat} {v : Value}, i < j → xs[i]? = some v → (xs.set j u)[i]? = some v := fun {i v} hi h => by
    rw [List.getElem?_set_ne (by omega)]
    exact h
  exact ⟨v0, v1, v2, v3, v4, t (by omega) x0, t (by omega) x1, t (by omega) x2, t (by omega) x3, t hj x4, hr⟩
theorem RS.grow {w w2 : World} {base R : Nat} {S : Nat → Prop} {pre : List Rg} {r : Rg} {xs : List Value} {G cap n : Nat} {v1 : Value} {ls : List (List UInt8)} {g1 c1 m1 : Nat}
    (h : RS w base R S (pre ++ [r]) (.slice (some ⟨G, 0, none⟩) n cap) xs) (hn : n = pre.length + 1) (hk : r.k = 1) (hv1 : xs[pre.length * 5 + 1]? = some v1) (hm1 : m1 = (r.l ++ ls).length)
    (ho : w2.ownsRow base 9 1 (.slice (some ⟨g1, 0, none⟩) m1 c1) m1 (strs (r.l ++ ls))) (hg : w.grownBy w2 v1.ownBlock) (hat : v1.ownBlock = some g1 ∨ g1 = w.heap.size) :
    RS (w2.setCell ⟨G, pre.length * 5 + 1, none⟩ (.slice (some ⟨g1, 0, none⟩) m1 c1)) base R (fun b => b = G ∨ b = g1) (pre ++ [⟨1, r.l ++ ls, [], [], []⟩]) (.slice (some ⟨G, 0, none⟩) n cap) (xs.set (pre.length * 5 + 1) (.slice (some ⟨g1, 0, none⟩) m1 c1)) ∧
      Chg (own2 S R) w (w2.setCell ⟨G, pre.length * 5 + 1, none⟩ (.slice (some ⟨g1, 0, none⟩) m1 c1)) ∧ (∀ b, b = G ∨ b = g1 → S b ∨ w.heap.size ≤ b) ∧ w2.heap[R]? = w.heap[R]? ∧ G ≠ R := by
  obtain ⟨cs, t, hbox, hcs, ht1, ht2⟩ := h.box
  have hRl : R < w.heap.size := row_lt hbox
  have hown := h.own
  have hlen : (pre ++ [r]).length = n := by rw [hn]; simp
  rw [hlen] at hown
  have hlast := h.last pre.length (by simp) (by simp) (by simpa using hk)
  have hlr : (pre ++ [r])[pre.length]'(by simp) = r := by simp
  rw [hlr] at hlast
  obtain ⟨u1, x0, x1, x2, x3, x4, e1, e2, e3, hu, hus⟩ := hlast
  have huv : u1 = v1 := by
    rw [hv1] at x1
    exact (Option.some.inj x1).symm
  subst huv
  have hGR : G ≠ R := boxed hown hbox ht2 rfl
  have huR : ∀ b, u1.ownBlock = some b → b ≠ R := fun b hb => boxed hu hbox ht1 hb
  have huG : u1.ownBlock ≠ some G := own_ne hown hu (by decide) rfl
  have hbox2 : w2.heap[R]? = w.heap[R]? := hg.block R hRl fun e => huR R e.symm rfl
  have hown2 : w2.ownsRow base 43 5 (.slice (some ⟨G, 0, none⟩) n cap) n xs := hown.kept hg (.inr fun e => huG e.symm)
  have hgG : g1 ≠ G := fun e => own_ne hown2 ho (by decide) rfl (by rw [e]; rfl)
  have hSmax : ∀ b, b = G ∨ b = g1 → S b ∨ w.heap.size ≤ b := by
    rintro b (rfl | rfl)
    · exact .inl (h.blk b rfl)
    · rcases hat with h' | h'
      · exact .inl (hus b h')
      · exact .inr (by omega)
  have hch : Chg (own2 S R) w (w2.setCell ⟨G, pre.length * 5 + 1, none⟩ (.slice (some ⟨g1, 0, none⟩) m1 c1)) :=
    (Chg.grown (S := own2 S R) hg fun b hb => .inl (hus b hb)).trans' (Chg.set _ (.inl (h.blk G rfl)))
  obtain ⟨hst, hgs⟩ := hown2.stored (pre.length * 5 + 1) (.slice (some ⟨g1, 0, none⟩) m1 c1)
  have hl2 : (pre ++ [(⟨1, r.l ++ ls, [], [], []⟩ : Rg)]).length = n := by rw [hn]; simp
  have hxl : xs.length = n * 5 := hown.1
  refine ⟨⟨?_, ?_, ?_, ?_, ?_, ?_, h.rb⟩, hch, hSmax, hbox2, hGR⟩
  · exact ⟨cs, t, (Below.heap_setCell w2 ⟨G, pre.length * 5 + 1, none⟩ _ R hGR.symm).trans (hbox2.trans hbox), hcs, ht1, ht2⟩
  · rw [hl2]
    exact hst
  · intro b hb
    left
    simpa [Value.ownBlock] using hb.symm
  · intro k hk hc w' hw'
    have hall : Chg (own2 S R) w w' := hch.trans hw' fun b hb => by
      rcases hb with hb | rfl
      · exact (hSmax b hb).imp (fun h => .inl h) id
      · exact .inl (.inr rfl)
    by_cases hlt : k < pre.length
    · have g1' : (pre ++ [(⟨1, r.l ++ ls, [], [], []⟩ : Rg)])[k] = pre[k] := List.getElem_append_left hlt
      have g2' : (pre ++ [r])[k]'(by simp; omega) = pre[k] := List.getElem_append_left hlt
      have := h.st k (by simp; omega) (.inr (by simp; omega)) w' hall
      rw [g1']
      rw [g2'] at this
      exact rgAt_set this (by omega)
    · exfalso
      have hke : k = pre.length := by simp at hk; omega
      subst hke
      rcases hc with hc | hc
      · simp at hc
      · simp at hc
  · intro k hk hk1 hk2
    have hke : k = pre.length := by simp at hk1; omega
    subst hke
    have g1' : (pre ++ [(⟨1, r.l ++ ls, [], [], []⟩ : Rg)])[pre.length] = ⟨1, r.l ++ ls, [], [], []⟩ := by simp
    rw [g1']
    refine ⟨.slice (some ⟨g1, 0, none⟩) m1 c1, ?_, ?_, ?_, ?_, ?_, rfl, rfl, rfl, ?_, fun b hb => .inr (by simpa [Value.ownBlock] using hb.symm)⟩
    · rw [List.getElem?_set_ne (by omega)]; exact x0
    · rw [List.getElem?_set_self (by omega)]
    · rw [List.getElem?_set_ne (by omega)]; exact x2
    · rw [List.getElem?_set_ne (by omega)]; exact x3
    · rw [List.getElem?_set_ne (by omega)]; exact x4
    · show World.ownsRow _ _ _ _ _ (r.l ++ ls).length _
      rw [← hm1]
      exact ho.kept hgs (.inr (by intro e; exact hgG (by simpa [Value.ownBlock] using e)))
  · rintro b (rfl | rfl)
    · exact ⟨(hown2.lt b rfl).1, by have := (hown2.lt b rfl).2; simpa using this⟩
    · exact ⟨(ho.lt b rfl).1, by have := (ho.lt b rfl).2; simpa using this⟩
end Go.Proofs.Ytidghjalfbklnaa
