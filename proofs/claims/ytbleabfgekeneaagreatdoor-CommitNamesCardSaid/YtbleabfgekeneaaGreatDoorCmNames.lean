/-
  The walk of the law CommitNames.
-/
import Derived.Test.YtbleabfgekeneaaGreatDoorCmLives
import Derived.Test.YtbleabfgekeneaaGreatDoorCmRSame
namespace Go.Proofs.YtbleabfgekeneaaGreatDoor
open Go Go.RowKit Go.Maps Go.WideMaps

theorem keepC2 {wr w1 w2 : World} {B o B' o' : Nat} {v v' : Value} (hb : Below w1.heap.size w1 w2) (h : Below wr.heap.size wr w1 ∧ w1.cell? ⟨B, o, none⟩ = some v ∧ w1.cell? ⟨B', o', none⟩ = some v') : Below wr.heap.size wr w2 ∧ w2.cell? ⟨B, o, none⟩ = some v ∧ w2.cell? ⟨B', o', none⟩ = some v' :=
  ⟨h.1.trans (hb.mono h.1.size), cell_bel h.2.1 hb, cell_bel h.2.2 hb⟩
theorem beq_decide (a b : List UInt8) : (a == b) = decide (a = b) := by
  rw [Bool.eq_iff_iff, beq_iff_eq, decide_eq_true_eq]
theorem neq_tt : ∀ w' : World, (binOp BinOp.neq 4 (.bool true) (.bool true)).run Tryz.prog w' = .ok (.bool false) w' := fun w' => by kernel_rfl
/-- The tree, and the parents that are not it. -/
def wantL (t : List UInt8) (ps : List (List UInt8)) : List (List UInt8) := t :: ps.filter fun x => !decide (x = t)
theorem wantL_take (t : List UInt8) {ps : List (List UInt8)} {k : Nat} (h : k < ps.length) : wantL t (ps.take (k + 1)) = if ps[k] = t then wantL t (ps.take k) else wantL t (ps.take k) ++ [ps[k]] := by
  unfold wantL
  rw [List.take_succ_eq_append_getElem h, List.filter_append]
  by_cases he : ps[k] = t <;> simp [he]
theorem disL_want (t : List UInt8) : ∀ ps : List (List UInt8), ps.Nodup → disL (t :: ps) = wantL t ps := fun ps => by
  induction ps using snoc_ind with
  | h0 => intro _; simp [disL, wantL]
  | h1 l s ih =>
    intro hn
    rw [List.nodup_append] at hn
    have hl := hn.1
    have hs : s ∉ l := fun h => hn.2.2 s h s (by simp) rfl
    rw [show t :: (l ++ [s]) = (t :: l) ++ [s] from rfl, disL_snoc]
    simp only [disL_mem]
    rw [ih hl]
    unfold wantL
    rw [List.filter_append]
    by_cases he : s = t
    · subst he
      simp
    · rw [if_neg (by simp [he, hs])]
      simp [he]
theorem lineL_len (wd v : List UInt8) : (lineL wd v).length = wd.length + v.length + 2 := by simp [lineL]; omega
theorem flat_len : ∀ l : List (List UInt8), allId l = true → (l.flatMap (lineL wPar)).length ≤ 48 * l.length
  | [], _ => by simp
  | y :: l, hy => by
    rw [allId, List.all_cons, Bool.and_eq_true] at hy
    have := flat_len l hy.2
    have h40 := isId_size hy.1
    rw [str_size] at h40
    rw [List.flatMap_cons, List.length_append, lineL_len, h40, List.length_cons]
    show 6 + 40 + 2 + _ ≤ _
    omega
theorem encC_len {c : Cm} (h : chkC c = 0) : (encC c).length ≤ 10000 := by
  obtain ⟨ho, hx, hn, -⟩ := chkC_ok h
  obtain ⟨i1, i2, i3, i4, -⟩ := okC_parts ho
  have h1 := isId_size i1
  have h3 := whoL_size i3
  have h4 := whoL_size i4
  have hl : ∀ (wd v : List UInt8), (lineL wd v).length = wd.length + v.length + 2 := fun wd v => by simp [lineL]; omega
  have := flat_len c.ps i2
  unfold encC
  simp only [List.length_append, hl, list_len, List.length_cons]
  show 4 + c.t.size + 2 + (_ + (6 + (whoL c.a).size + 2 + (9 + (whoL c.c).size + 2 + (c.x.size + 1)))) ≤ 10000
  omega
theorem encG_len {g : Tg} (h : chkG g = 0) : (encG g).length ≤ 10000 := by
  obtain ⟨ho, hx⟩ := chkG_ok h
  obtain ⟨i1, i2, i3, i4, -⟩ := okG_parts ho
  have h1 := isId_size i1
  have h2 := wordL_size g.k
  have h3 := tagN_size i3
  have h4 := whoL_size i4
  rw [str_size] at h2
  have hl : ∀ (wd v : List UInt8), (lineL wd v).length = wd.length + v.length + 2 := fun wd v => by simp [lineL]; omega
  unfold encG
  simp only [List.length_append, hl, list_len, List.length_cons]
  show 6 + g.o.size + 2 + (4 + (wordL g.k).length + 2 + (3 + g.n.size + 2 + (6 + (whoL g.g).size + 2 + (g.x.size + 1)))) ≤ 10000
  omega

set_option maxHeartbeats 16000000 in
set_option maxRecDepth 8000 in
theorem commitNames_walk (c d : Cm) (g : Tg) (ap bp : Option Addr) (aN ac bN bc : Nat) (W : World) (hT : StrTab W) (hO : WoTab W) (hR : TrTab W) (hna : aN = c.ps.length) (hnb : bN = d.ps.length) (hpa : SRw W ap c.ps) (hpb : SRw W bp d.ps)
    (hla : ∀ y ∈ c.ps, y.length ≤ 140737488355328) (hlb : ∀ y ∈ d.ps, y.length ≤ 140737488355328) (hka : aN ≤ 140737488355328) (hkb : bN ≤ 140737488355328)
    (hsa : c.t.size ≤ 140737488355328 ∧ c.a.n.size ≤ 140737488355328 ∧ c.a.m.size ≤ 140737488355328 ∧ c.c.n.size ≤ 140737488355328 ∧ c.c.m.size ≤ 140737488355328) (hsb : d.t.size ≤ 140737488355328 ∧ d.a.n.size ≤ 140737488355328 ∧ d.a.m.size ≤ 140737488355328 ∧ d.c.n.size ≤ 140737488355328 ∧ d.c.m.size ≤ 140737488355328)
    (hsg : g.o.size ≤ 140737488355328 ∧ g.n.size ≤ 140737488355328 ∧ g.g.n.size ≤ 140737488355328 ∧ g.g.m.size ≤ 140737488355328) :
    Calls Tryz.prog 8 #[.agg #[.string c.t, .slice ap aN ac, .string c.a.n, .string c.a.m, .int .i64 c.a.t, .int .i64 c.a.z, .string c.c.n, .string c.c.m, .int .i64 c.c.t, .int .i64 c.c.z, .string c.x], .agg #[.string d.t, .slice bp bN bc, .string d.a.n, .string d.a.m, .int .i64 d.a.t, .int .i64 d.a.z, .string d.c.n, .string d.c.m, .int .i64 d.c.t, .int .i64 d.c.z, .string d.x], .agg #[.string g.o, .int .i64 g.k, .string g.n, .string g.g.n, .string g.g.m, .int .i64 g.g.t, .int .i64 g.g.z, .string g.x]] W
      fun e W' => e = .returned (.bool true) ∧ Below W.heap.size W W' := by
  have fbA := fun w' h1 h2 => cbody_any c ap aN ac w' h1 hna h2 hla hka hsa
  have fbB := fun w' h1 h2 => cbody_any d bp bN bc w' h1 hnb h2 hlb hkb hsb
  have fbG := fun w' h1 h2 => gbody_any g w' h1 h2 hsg
  have fS := fun w' h1 h2 hl => csame_any c d ap bp aN ac bN bc w' hna hnb h1 h2 hl
  have fE := @chkC_ok c
  have fLA := fun (h : chkC c = 0) => lnk_enc h (Nat.le_trans (encC_len h) (by decide))
  have fLG := fun (h : chkG g = 0) => lnk_tag h (Nat.le_trans (encG_len h) (by decide))
  have fI := fun (h : chkC c = 0) (h' : chkC d = 0) => @encC_inj c d h h'
  have flA := fun (h : chkC c = 0) => encC_len h
  have flG := fun (h : chkG g = 0) => encG_len h
  obtain ⟨RA, hRA⟩ : ∃ R, R = str (bodyC c) := ⟨_, rfl⟩
  obtain ⟨RB, hRB⟩ : ∃ R, R = str (bodyC d) := ⟨_, rfl⟩
  obtain ⟨RG, hRG⟩ : ∃ R, R = str (bodyG g) := ⟨_, rfl⟩
  obtain ⟨EA, hEA⟩ : ∃ E, E = chkC c := ⟨_, rfl⟩
  obtain ⟨EB, hEB⟩ : ∃ E, E = chkC d := ⟨_, rfl⟩
  obtain ⟨EG, hEG⟩ : ∃ E, E = chkG g := ⟨_, rfl⟩
  rw [← hRA, ← hEA] at fbA
  rw [← hRB, ← hEB] at fbB
  rw [← hRG, ← hEG] at fbG
  rw [← hEA] at fE fLA flA
  rw [← hEG] at fLG flG
  rw [← hEA, ← hEB] at fI
  have uA : EA = 0 → RA.data.toList = encC c := fun h => by rw [hRA, str_list, bodyC, if_pos (by rw [← hEA]; exact h)]
  have uB : EB = 0 → RB.data.toList = encC d := fun h => by rw [hRB, str_list, bodyC, if_pos (by rw [← hEB]; exact h)]
  have uG : EG = 0 → RG.data.toList = encG g := fun h => by rw [hRG, str_list, bodyG, if_pos (by rw [← hEG]; exact h)]
  -- what the strings' equality tells
  have vAB : EA = 0 → EB = 0 → ((RA.toList == RB.toList) = true ↔ c = d) := fun h h' => by
    rw [beq_iff_eq, ByteArray.toList_eq, ByteArray.toList_eq, uA h, uB h']
    exact ⟨fI h h', fun e => by rw [e]⟩
  have vLA : EA = 0 → lnkL 3 RA.data.toList = (0, wantL c.t.data.toList c.ps) := fun h => by
    rw [uA h, fLA h, disL_want _ _ (fE h).2.2.2]
  have vLG : EG = 0 → lnkL 4 RG.data.toList = (0, [g.o.data.toList]) := fun h => by rw [uG h, fLG h]
  have sA : EA = 0 → RA.size ≤ 1000000 := fun h => by rw [← list_len, uA h]; exact Nat.le_trans (flA h) (by decide)
  have sG : EG = 0 → RG.size ≤ 1000000 := fun h => by rw [← list_len, uG h]; exact Nat.le_trans (flG h) (by decide)
  clear hRA hRB hRG hEA hEB hEG fE fLA fLG fI flA flG uA uB uG hsa hsb hsg hla hlb hka hkb
  obtain ⟨aat, aps, ⟨aan, aam, aaT, aaz⟩, ⟨acn, acm, acT, acz⟩, ax⟩ := c
  obtain ⟨bt, bps, ⟨ban, bam, baT, baz⟩, ⟨bcn, bcm, bcT, bcz⟩, bx⟩ := d
  obtain ⟨gt, gk, gn, ⟨gan, gam, gaT, gaz⟩, gx⟩ := g
  simp only at *
  obtain ⟨wA, hwA⟩ : ∃ wA, wA = W.alloc (.cells #[.string aat, .slice ap aN ac, .string aan, .string aam, .int .i64 aaT, .int .i64 aaz, .string acn, .string acm, .int .i64 acT, .int .i64 acz, .string ax] 26) := ⟨_, rfl⟩
  obtain ⟨wB, hwB⟩ : ∃ wB, wB = wA.alloc (.cells #[.string bt, .slice bp bN bc, .string ban, .string bam, .int .i64 baT, .int .i64 baz, .string bcn, .string bcm, .int .i64 bcT, .int .i64 bcz, .string bx] 26) := ⟨_, rfl⟩
  obtain ⟨w1, hw1⟩ : ∃ w1, w1 = wB.alloc (.cells #[.string gt, .int .i64 gk, .string gn, .string gan, .string gam, .int .i64 gaT, .int .i64 gaz, .string gx] 37) := ⟨_, rfl⟩
  obtain ⟨A, hA⟩ : ∃ A, A = W.heap.size := ⟨_, rfl⟩
  obtain ⟨B, hB⟩ : ∃ B, B = W.heap.size + 1 := ⟨_, rfl⟩
  obtain ⟨G, hG⟩ : ∃ G, G = W.heap.size + 1 + 1 := ⟨_, rfl⟩
  have hxa : wA.heap[A]? = some (.cells #[.string aat, .slice ap aN ac, .string aan, .string aam, .int .i64 aaT, .int .i64 aaz, .string acn, .string acm, .int .i64 acT, .int .i64 acz, .string ax] 26 (0, 0)) := by rw [hwA, hA]; exact heap_alloc_new W _
  have hxb : wB.heap[B]? = some (.cells #[.string bt, .slice bp bN bc, .string ban, .string bam, .int .i64 baT, .int .i64 baz, .string bcn, .string bcm, .int .i64 bcT, .int .i64 bcz, .string bx] 26 (0, 0)) := by rw [hwB, hB, show W.heap.size + 1 = wA.heap.size by rw [hwA]; simp]; exact heap_alloc_new wA _
  have hxg : w1.heap[G]? = some (.cells #[.string gt, .int .i64 gk, .string gn, .string gan, .string gam, .int .i64 gaT, .int .i64 gaz, .string gx] 37 (0, 0)) := by rw [hw1, hG, show W.heap.size + 1 + 1 = wB.heap.size by rw [hwB, hwA]; simp]; exact heap_alloc_new wB _
  have hxb1 : w1.heap[B]? = some (.cells #[.string bt, .slice bp bN bc, .string ban, .string bam, .int .i64 baT, .int .i64 baz, .string bcn, .string bcm, .int .i64 bcT, .int .i64 bcz, .string bx] 26 (0, 0)) := by rw [hw1]; exact row_alloc hxb (row_lt hxb)
  have hxa2 : wB.heap[A]? = some (.cells #[.string aat, .slice ap aN ac, .string aan, .string aam, .int .i64 aaT, .int .i64 aaz, .string acn, .string acm, .int .i64 acT, .int .i64 acz, .string ax] 26 (0, 0)) := by rw [hwB]; exact row_alloc hxa (row_lt hxa)
  have hxa1 : w1.heap[A]? = some (.cells #[.string aat, .slice ap aN ac, .string aan, .string aam, .int .i64 aaT, .int .i64 aaz, .string acn, .string acm, .int .i64 acT, .int .i64 acz, .string ax] 26 (0, 0)) := by rw [hw1]; exact row_alloc hxa2 (row_lt hxa2)
  have hbx : Below W.heap.size W w1 := by rw [hw1, hwB, hwA]; exact below_new (below_new (below_new (Below.refl _ _) _) _) _
  have tT := fun w' (hb : Below w1.heap.size w1 w') => (hT.below hbx).below hb
  have tO := fun w' (hb : Below w1.heap.size w1 w') => (hO.below hbx).below hb
  have tR := fun w' (hb : Below w1.heap.size w1 w') => (hR.below hbx).below hb
  have HPA := Lib.hid (hpa.below hbx)
  have HPB := Lib.hid (hpb.below hbx)
  have HBA : Hid (∀ w', Below w1.heap.size w1 w' → Calls Tryz.prog 10 #[.agg #[.string aat, .slice ap aN ac, .string aan, .string aam, .int .i64 aaT, .int .i64 aaz, .string acn, .string acm, .int .i64 acT, .int .i64 acz, .string ax]] w' fun e w'' => e = .returned (.tuple #[.string RA, .int .i64 (EA : Int)]) ∧ Below w1.heap.size w1 w'') := fun w' hb => (fbA w' (tT w' hb) (HPA.out.below hb)).mono fun e w'' ⟨h1, h2⟩ => ⟨h1, hb.trans (h2.mono hb.size)⟩
  have HBB : Hid (∀ w', Below w1.heap.size w1 w' → Calls Tryz.prog 10 #[.agg #[.string bt, .slice bp bN bc, .string ban, .string bam, .int .i64 baT, .int .i64 baz, .string bcn, .string bcm, .int .i64 bcT, .int .i64 bcz, .string bx]] w' fun e w'' => e = .returned (.tuple #[.string RB, .int .i64 (EB : Int)]) ∧ Below w1.heap.size w1 w'') := fun w' hb => (fbB w' (tT w' hb) (HPB.out.below hb)).mono fun e w'' ⟨h1, h2⟩ => ⟨h1, hb.trans (h2.mono hb.size)⟩
  have HTB : Hid (∀ w', Below w1.heap.size w1 w' → Calls Tryz.prog 19 #[.agg #[.string gt, .int .i64 gk, .string gn, .string gan, .string gam, .int .i64 gaT, .int .i64 gaz, .string gx]] w' fun e w'' => e = .returned (.tuple #[.string RG, .int .i64 (EG : Int)]) ∧ Below w1.heap.size w1 w'') := fun w' hb => (fbG w' (tT w' hb) (tO w' hb)).mono fun e w'' ⟨h1, h2⟩ => ⟨h1, hb.trans (h2.mono hb.size)⟩
  have HLV : Hid (∀ w', Below w1.heap.size w1 w' → Calls Tryz.prog 9 #[] w' fun e w'' => e = .returned (.bool true) ∧ Below w1.heap.size w1 w'') := fun w' hb => (clives_any w' (tT w' hb) (tO w' hb) (tR w' hb)).mono fun e w'' ⟨h1, h2⟩ => ⟨h1, hb.trans (h2.mono hb.size)⟩
  have HLV2 : Hid (∀ w', Below w1.heap.size w1 w' → Calls Tryz.prog 9 #[] w' fun e w'' => e = .returned (.bool true) ∧ Below w'.heap.size w' w'') := fun w' hb => clives_any w' (tT w' hb) (tO w' hb) (tR w' hb)
  obtain ⟨NW, hNW⟩ : ∃ N, N = (wantL aat.data.toList aps).length := ⟨_, rfl⟩
  have hNWl : NW ≤ aN + 1 := by
    rw [hNW, wantL, List.length_cons, hna]
    have := List.length_filter_le (fun x => !decide (x = aat.data.toList)) aps
    omega
  have HNW := Lib.hid hNW
  have fLC : EA = 0 → ∀ w', Below w1.heap.size w1 w' → Calls Tryz.prog 28 #[.agg #[.int .i64 3, .string RA]] w' fun e w'' => (∃ p c, e = .returned (.tuple #[.slice p NW c, .int .i64 0]) ∧ SRw w'' p (wantL aat.data.toList aps)) ∧ Below w1.heap.size w1 w'' := fun h w' hb =>
    (links_any 3 RA w' (tT w' hb) (tO w' hb) (tR w' hb) (Nat.le_trans (sA h) (by decide)) (fun _ => sA h)).mono fun e w'' ⟨⟨v, he, hv⟩, hw⟩ => by
      rw [vLA h] at he hv
      obtain ⟨p, c, rfl, hr⟩ := hv.rw
      exact ⟨⟨p, c, by rw [he, hNW]; rfl, hr⟩, hb.trans (hw.mono hb.size)⟩
  have fLG : EG = 0 → ∀ w', Below w1.heap.size w1 w' → Calls Tryz.prog 28 #[.agg #[.int .i64 4, .string RG]] w' fun e w'' => (∃ p c, e = .returned (.tuple #[.slice p 1 c, .int .i64 0]) ∧ SRw w'' p [gt.data.toList]) ∧ Below w1.heap.size w1 w'' := fun h w' hb =>
    (links_any 4 RG w' (tT w' hb) (tO w' hb) (tR w' hb) (Nat.le_trans (sG h) (by decide)) (fun _ => sG h)).mono fun e w'' ⟨⟨v, he, hv⟩, hw⟩ => by
      rw [vLG h] at he hv
      obtain ⟨p, c, rfl, hr⟩ := hv.rw
      exact ⟨⟨p, c, by rw [he]; rfl, hr⟩, hb.trans (hw.mono hb.size)⟩
  have fSS : aN ≤ 1099511627776 → ∀ w', Below w1.heap.size w1 w' → Calls Tryz.prog 15 #[.agg #[.string aat, .slice ap aN ac, .string aan, .string aam, .int .i64 aaT, .int .i64 aaz, .string acn, .string acm, .int .i64 acT, .int .i64 acz, .string ax], .agg #[.string bt, .slice bp bN bc, .string ban, .string bam, .int .i64 baT, .int .i64 baz, .string bcn, .string bcm, .int .i64 bcT, .int .i64 bcz, .string bx]] w' fun e w'' => ∃ R, e = .returned (.bool R) ∧ (R = true ↔ (⟨aat, aps, ⟨aan, aam, aaT, aaz⟩, ⟨acn, acm, acT, acz⟩, ax⟩ : Cm) = ⟨bt, bps, ⟨ban, bam, baT, baz⟩, ⟨bcn, bcm, bcT, bcz⟩, bx⟩) ∧ Below w1.heap.size w1 w'' := fun hl w' hb =>
    (fS w' (HPA.out.below hb) (HPB.out.below hb) hl).mono fun e w'' ⟨R, h1, h2, h3⟩ => ⟨R, h1, h2, hb.trans (h3.mono hb.size)⟩
  have HXA := Lib.hid hxa1
  have HXB := Lib.hid hxb1
  have HXG := Lib.hid hxg
  have HBX := Lib.hid hbx
  have HWA := Lib.hid hwA
  have HWB := Lib.hid hwB
  have HW1 := Lib.hid hw1
  have HC1 := Lib.hid hA
  have HC2 := Lib.hid hB
  have HC3 := Lib.hid hG
  have HNA := Lib.hid hna
  have HVAB := Lib.hid vAB
  have HFLC := Lib.hid fLC
  have HFLG := Lib.hid fLG
  have HFSS := Lib.hid fSS
  clear hNW fbA fbB fbG fS vAB vLA vLG sA sG hT hO hR hpa hpb hxa hxb hxg hxb1 hxa2 hxa1 hbx hwA hwB hw1 hA hB hG tT tO tR fLC fLG fSS hna hnb
  by_cases g0 : 40 < aN
  · have q0 : (40 : Int) < (aN : Int) := by omega
    have hb0 := Below.refl w1.heap.size w1
    obtain ⟨x0, x1, x2, x3, x4, x5, x6, x7, x8, x9, x10⟩ := cm_at HXA.out
    obtain ⟨y0, y1, y2, y3, y4, y5, y6, y7, y8, y9, y10⟩ := cm_at HXB.out
    obtain ⟨z0, z1, z2, z3, z4, z5, z6, z7⟩ := tg_at HXG.out
    clear g0
    go_enter Tryz.func8, Tryz.ntmps8
    go_upto_region 1 with fail
    rw [← HC3.out, ← HC2.out, ← HC1.out, ← HWA.out, ← HWB.out, ← HW1.out]
    go_wp2_with (go_at_call 9; ((with_reducible refine (HLV.out _ hb0).mono ?_); rintro e w2 ⟨rfl, hb2⟩))
    go_ret
    exact ⟨rfl, HBX.out.trans (hb2.mono HBX.out.size)⟩
  by_cases g1 : 5000 < ax.size
  · have q0 : ¬ (40 : Int) < (aN : Int) := by omega
    have q1 : (5000 : Int) < (ax.size : Int) := by omega
    have hb0 := Below.refl w1.heap.size w1
    obtain ⟨x0, x1, x2, x3, x4, x5, x6, x7, x8, x9, x10⟩ := cm_at HXA.out
    obtain ⟨y0, y1, y2, y3, y4, y5, y6, y7, y8, y9, y10⟩ := cm_at HXB.out
    obtain ⟨z0, z1, z2, z3, z4, z5, z6, z7⟩ := tg_at HXG.out
    clear g0 g1
    go_enter Tryz.func8, Tryz.ntmps8
    go_upto_region 1 with fail
    rw [← HC3.out, ← HC2.out, ← HC1.out, ← HWA.out, ← HWB.out, ← HW1.out]
    go_wp2_with (go_at_call 9; ((with_reducible refine (HLV.out _ hb0).mono ?_); rintro e w2 ⟨rfl, hb2⟩))
    go_ret
    exact ⟨rfl, HBX.out.trans (hb2.mono HBX.out.size)⟩
  by_cases g2 : 40 < bN
  · have q0 : ¬ (40 : Int) < (aN : Int) := by omega
    have q1 : ¬ (5000 : Int) < (ax.size : Int) := by omega
    have q2 : (40 : Int) < (bN : Int) := by omega
    have hb0 := Below.refl w1.heap.size w1
    obtain ⟨x0, x1, x2, x3, x4, x5, x6, x7, x8, x9, x10⟩ := cm_at HXA.out
    obtain ⟨y0, y1, y2, y3, y4, y5, y6, y7, y8, y9, y10⟩ := cm_at HXB.out
    obtain ⟨z0, z1, z2, z3, z4, z5, z6, z7⟩ := tg_at HXG.out
    clear g0 g1 g2
    go_enter Tryz.func8, Tryz.ntmps8
    go_upto_region 1 with fail
    rw [← HC3.out, ← HC2.out, ← HC1.out, ← HWA.out, ← HWB.out, ← HW1.out]
    go_wp2_with (go_at_call 9; ((with_reducible refine (HLV.out _ hb0).mono ?_); rintro e w2 ⟨rfl, hb2⟩))
    go_ret
    exact ⟨rfl, HBX.out.trans (hb2.mono HBX.out.size)⟩
  by_cases g3 : 5000 < bx.size
  · have q0 : ¬ (40 : Int) < (aN : Int) := by omega
    have q1 : ¬ (5000 : Int) < (ax.size : Int) := by omega
    have q2 : ¬ (40 : Int) < (bN : Int) := by omega
    have q3 : (5000 : Int) < (bx.size : Int) := by omega
    have hb0 := Below.refl w1.heap.size w1
    obtain ⟨x0, x1, x2, x3, x4, x5, x6, x7, x8, x9, x10⟩ := cm_at HXA.out
    obtain ⟨y0, y1, y2, y3, y4, y5, y6, y7, y8, y9, y10⟩ := cm_at HXB.out
    obtain ⟨z0, z1, z2, z3, z4, z5, z6, z7⟩ := tg_at HXG.out
    clear g0 g1 g2 g3
    go_enter Tryz.func8, Tryz.ntmps8
    go_upto_region 1 with fail
    rw [← HC3.out, ← HC2.out, ← HC1.out, ← HWA.out, ← HWB.out, ← HW1.out]
    go_wp2_with (go_at_call 9; ((with_reducible refine (HLV.out _ hb0).mono ?_); rintro e w2 ⟨rfl, hb2⟩))
    go_ret
    exact ⟨rfl, HBX.out.trans (hb2.mono HBX.out.size)⟩
  by_cases g4 : 5000 < gx.size
  · have q0 : ¬ (40 : Int) < (aN : Int) := by omega
    have q1 : ¬ (5000 : Int) < (ax.size : Int) := by omega
    have q2 : ¬ (40 : Int) < (bN : Int) := by omega
    have q3 : ¬ (5000 : Int) < (bx.size : Int) := by omega
    have q4 : (5000 : Int) < (gx.size : Int) := by omega
    have hb0 := Below.refl w1.heap.size w1
    obtain ⟨x0, x1, x2, x3, x4, x5, x6, x7, x8, x9, x10⟩ := cm_at HXA.out
    obtain ⟨y0, y1, y2, y3, y4, y5, y6, y7, y8, y9, y10⟩ := cm_at HXB.out
    obtain ⟨z0, z1, z2, z3, z4, z5, z6, z7⟩ := tg_at HXG.out
    clear g0 g1 g2 g3 g4
    go_enter Tryz.func8, Tryz.ntmps8
    go_upto_region 1 with fail
    rw [← HC3.out, ← HC2.out, ← HC1.out, ← HWA.out, ← HWB.out, ← HW1.out]
    go_wp2_with (go_at_call 9; ((with_reducible refine (HLV.out _ hb0).mono ?_); rintro e w2 ⟨rfl, hb2⟩))
    go_ret
    exact ⟨rfl, HBX.out.trans (hb2.mono HBX.out.size)⟩
  have q0 : ¬ (40 : Int) < (aN : Int) := by omega
  have q1 : ¬ (5000 : Int) < (ax.size : Int) := by omega
  have q2 : ¬ (40 : Int) < (bN : Int) := by omega
  have q3 : ¬ (5000 : Int) < (bx.size : Int) := by omega
  have q4 : ¬ (5000 : Int) < (gx.size : Int) := by omega
  by_cases hE : EA = 0
  case neg =>
    have gE : ((EA : Int) == 0) = false := by rw [beq_eq_false_iff_ne]; omega
    clear HFLC HFSS HVAB
    by_cases hK : EG = 0
    · have gK : ((EG : Int) != 0) = false := by simp [hK]
      have HLG := Lib.hid (HFLG.out hK)
      clear HFLG hK hE
      go_enter Tryz.func8, Tryz.ntmps8
      go_upto_region 1 with fail
      rw [← HC3.out, ← HC2.out, ← HC1.out, ← HWA.out, ← HWB.out, ← HW1.out]
      have hb0 := Below.refl w1.heap.size w1
      obtain ⟨x0, x1, x2, x3, x4, x5, x6, x7, x8, x9, x10⟩ := cm_at HXA.out
      obtain ⟨y0, y1, y2, y3, y4, y5, y6, y7, y8, y9, y10⟩ := cm_at HXB.out
      obtain ⟨z0, z1, z2, z3, z4, z5, z6, z7⟩ := tg_at HXG.out
      go_upto_region 4 with (go_at_call 10; ((with_reducible refine (HBA.out _ hb0).mono ?_); rintro e w2 ⟨rfl, hb2⟩))
      clear x0 x1 x2 x3 x4 x5 x6 x7 x8 x9 x10 y0 y1 y2 y3 y4 y5 y6 y7 y8 y9 y10 z0 z1 z2 z3 z4 z5 z6 z7
      obtain ⟨y0, y1, y2, y3, y4, y5, y6, y7, y8, y9, y10⟩ := cm_at ((hb2.block _ (row_lt HXB.out)).trans HXB.out)
      go_upto_region 5 with (go_at_call 10; ((with_reducible refine (HBB.out _ hb2).mono ?_); rintro e w3 ⟨rfl, hb3⟩))
      clear y0 y1 y2 y3 y4 y5 y6 y7 y8 y9 y10 hb2 hb0
      go_upto_region 17 with fail
      have hbv := hb3
      obtain ⟨z0, z1, z2, z3, z4, z5, z6, z7⟩ := tg_at ((hbv.block _ (row_lt HXG.out)).trans HXG.out)
      go_upto_region 18 with (go_at_call 19; ((with_reducible refine (HTB.out _ hbv).mono ?_); rintro e wt ⟨rfl, hbt⟩))
      clear z0 z1 z2 z3 z4 z5 z6 z7
      go_upto_region 20 with fail
      go_upto_region 21 with (go_at_call 28; ((with_reducible refine (HLG.out _ hbt).mono ?_); rintro e w9 ⟨⟨pl, cl, rfl, hr9⟩, hb9⟩))
      obtain ⟨gl, ol, rfl, -, x9⟩ := hr9 0 (by simp)
      have x9 : w9.cell? ⟨gl, ol, none⟩ = some (.string gt) := x9
      have z9 := (tg_at ((hb9.block _ (row_lt HXG.out)).trans HXG.out)).1
      have HB9 := Lib.hid hb9
      have HLW : Hid (∀ w', (Below w9.heap.size w9 w' ∧ w'.cell? ⟨gl, ol, none⟩ = some (.string gt) ∧ w'.cell? ⟨G, 0, none⟩ = some (.string gt)) → Calls Tryz.prog 9 #[] w' fun e w'' => e = .returned (.bool true) ∧ Below w'.heap.size w' w'' ∧ Below w9.heap.size w9 w'') := fun w' h => (HLV2.out w' (HB9.out.trans (h.1.mono HB9.out.size))).mono fun e w'' ⟨h1, h2⟩ => ⟨h1, h2, h.1.trans (h2.mono h.1.size)⟩
      clear hr9 hb9 HLV HLV2
      go_region_held3 (fun w' => Below w9.heap.size w9 w' ∧ w'.cell? ⟨gl, ol, none⟩ = some (.string gt) ∧ w'.cell? ⟨G, 0, none⟩ = some (.string gt)) (first
        | exact keepC2 hb5 (by assumption)
        | exact keepC2 one_drew ⟨Below.refl _ _, x9, z9⟩) (first
        | (go_at_call 9; ((with_reducible refine (HLW.out _ (by assumption)).mono ?_); rintro e v1 ⟨rfl, hb5, hd5⟩)))
      all_goals go_wp2_with fail
      all_goals go_ret
      all_goals exact ⟨rfl, HBX.out.trans ((HB9.out.trans (hd5.mono HB9.out.size)).mono HBX.out.size)⟩
    · have gK : ((EG : Int) != 0) = true := by simp; omega
      clear HFLG hK hE
      go_enter Tryz.func8, Tryz.ntmps8
      go_upto_region 1 with fail
      rw [← HC3.out, ← HC2.out, ← HC1.out, ← HWA.out, ← HWB.out, ← HW1.out]
      have hb0 := Below.refl w1.heap.size w1
      obtain ⟨x0, x1, x2, x3, x4, x5, x6, x7, x8, x9, x10⟩ := cm_at HXA.out
      obtain ⟨y0, y1, y2, y3, y4, y5, y6, y7, y8, y9, y10⟩ := cm_at HXB.out
      obtain ⟨z0, z1, z2, z3, z4, z5, z6, z7⟩ := tg_at HXG.out
      go_upto_region 4 with (go_at_call 10; ((with_reducible refine (HBA.out _ hb0).mono ?_); rintro e w2 ⟨rfl, hb2⟩))
      clear x0 x1 x2 x3 x4 x5 x6 x7 x8 x9 x10 y0 y1 y2 y3 y4 y5 y6 y7 y8 y9 y10 z0 z1 z2 z3 z4 z5 z6 z7
      obtain ⟨y0, y1, y2, y3, y4, y5, y6, y7, y8, y9, y10⟩ := cm_at ((hb2.block _ (row_lt HXB.out)).trans HXB.out)
      go_upto_region 5 with (go_at_call 10; ((with_reducible refine (HBB.out _ hb2).mono ?_); rintro e w3 ⟨rfl, hb3⟩))
      clear y0 y1 y2 y3 y4 y5 y6 y7 y8 y9 y10 hb2 hb0
      go_upto_region 17 with fail
      have hbv := hb3
      obtain ⟨z0, z1, z2, z3, z4, z5, z6, z7⟩ := tg_at ((hbv.block _ (row_lt HXG.out)).trans HXG.out)
      go_upto_region 18 with (go_at_call 19; ((with_reducible refine (HTB.out _ hbv).mono ?_); rintro e wt ⟨rfl, hbt⟩))
      clear z0 z1 z2 z3 z4 z5 z6 z7
      go_wp2_with (go_at_call 9; ((with_reducible refine (HLV.out _ hbt).mono ?_); rintro e w2 ⟨rfl, hb2⟩))
      go_ret
      exact ⟨rfl, HBX.out.trans (hb2.mono HBX.out.size)⟩
  have gE : ((EA : Int) == 0) = true := by rw [beq_iff_eq]; omega
  have HLC := Lib.hid (HFLC.out hE)
  have HSM := Lib.hid (HFSS.out (by omega))
  clear HFLC HFSS
  have HFSS := HSM
  clear HSM
  by_cases hF : EB = 0
  case neg =>
    have gF : ((EB : Int) == 0) = false := by rw [beq_eq_false_iff_ne]; omega
    clear HFSS HVAB
    by_cases hK : EG = 0
    · have gK : ((EG : Int) != 0) = false := by simp [hK]
      have HLG := Lib.hid (HFLG.out hK)
      clear HFLG hK hE hF
      go_enter Tryz.func8, Tryz.ntmps8
      go_upto_region 1 with fail
      rw [← HC3.out, ← HC2.out, ← HC1.out, ← HWA.out, ← HWB.out, ← HW1.out]
      have hb0 := Below.refl w1.heap.size w1
      obtain ⟨x0, x1, x2, x3, x4, x5, x6, x7, x8, x9, x10⟩ := cm_at HXA.out
      obtain ⟨y0, y1, y2, y3, y4, y5, y6, y7, y8, y9, y10⟩ := cm_at HXB.out
      obtain ⟨z0, z1, z2, z3, z4, z5, z6, z7⟩ := tg_at HXG.out
      go_upto_region 4 with (go_at_call 10; ((with_reducible refine (HBA.out _ hb0).mono ?_); rintro e w2 ⟨rfl, hb2⟩))
      clear x0 x1 x2 x3 x4 x5 x6 x7 x8 x9 x10 y0 y1 y2 y3 y4 y5 y6 y7 y8 y9 y10 z0 z1 z2 z3 z4 z5 z6 z7
      obtain ⟨y0, y1, y2, y3, y4, y5, y6, y7, y8, y9, y10⟩ := cm_at ((hb2.block _ (row_lt HXB.out)).trans HXB.out)
      go_upto_region 5 with (go_at_call 10; ((with_reducible refine (HBB.out _ hb2).mono ?_); rintro e w3 ⟨rfl, hb3⟩))
      clear y0 y1 y2 y3 y4 y5 y6 y7 y8 y9 y10 hb2 hb0
      go_upto_region 7 with (go_at_call 28; ((with_reducible refine (HLC.out _ hb3).mono ?_); rintro e w4 ⟨⟨pl, cl, rfl, hr4⟩, hb4⟩))
      have x0 := (cm_at ((hb4.block _ (row_lt HXA.out)).trans HXA.out)).1
      have hown : SOw (w4.alloc (.cells #[.string aat] 9)) w4.heap.size (.slice (some ⟨w4.heap.size, 0, none⟩) 1 1) [aat.data.toList] := SOw.one w4 aat (Nat.le_refl _)
      have hbn : Below w4.heap.size w4 (w4.alloc (.cells #[.string aat] 9)) := below_new (Below.refl _ _) _
      have hb5 := hb4.trans (hbn.mono hb4.size)
      obtain ⟨base, hbase⟩ : ∃ base, base = w4.heap.size := ⟨_, rfl⟩
      have hbs : base ≤ (w4.alloc (.cells #[.string aat] 9)).heap.size := by rw [hbase]; exact hbn.size
      have hr5 : ∀ w', Below base (w4.alloc (.cells #[.string aat] 9)) w' → SRw w' pl (wantL aat.data.toList aps) := fun w' hb => hr4.below (by rw [hbase] at hb; exact hbn.trans hb)
      rw [← hbase] at hown
      go_upto_region 8 with fail
      rw [← hbase]
      obtain ⟨w5, hw5⟩ : ∃ w5, w5 = w4.alloc (.cells #[.string aat] 9) := ⟨_, rfl⟩
      rw [← hw5] at hown hr5 hb5 hbs ⊢
      have HR4 := Lib.hid hr5
      have HB5 := Lib.hid hb5
      have h1b : w1.heap.size ≤ base := by rw [hbase]; exact hb4.size
      have HOW := Lib.hid hown
      clear hw5 hr4 hr5 hb5 hbase hbn x0 hb4 hb3 hown
      go_wp2_with fail
      go_loopw [13, 14] (fun ov iv wr => ∃ (k : Nat) (os : List (List UInt8)), k ≤ aN ∧ iv = .int .i64 (k : Int) ∧ SOw wr base ov os ∧ os.length ≤ k + 1 ∧ Hid (os = wantL aat.data.toList (aps.take k)) ∧ Hid (Below base w5 wr) ∧ base ≤ wr.heap.size ∧ Hid (Below w1.heap.size w1 wr)) (fun _ iv _ => aN - (intOf iv).toNat)
      case atStart => exact ⟨0, _, by omega, rfl, HOW.out, by simp, rfl, Below.refl _ _, hbs, HB5.out⟩
      case round =>
        clear HOW
        obtain ⟨k, os, hk, rfl, ho, hol, HO, HB, hs, HBW⟩ := hrel
        obtain ⟨c0, c1, -⟩ := cm_at ((HBW.out.block _ (row_lt HXA.out)).trans HXA.out)
        by_cases hlt : k < aN
        · have hkl : k < aps.length := by rw [← HNA.out]; exact hlt
          obtain ⟨x, hx⟩ : ∃ x, x = str aps[k] := ⟨_, rfl⟩
          have hxl : x.data.toList = aps[k] := by rw [hx]; rfl
          obtain ⟨gp, op, rfl, hgp, a0⟩ := HPA.out.below HBW.out k hkl
          rw [← hx] at a0
          obtain ⟨X, hX⟩ : ∃ X, X = decide (x.data.toList = aat.data.toList) := ⟨_, rfl⟩
          have hXe : (x.toList == aat.toList) = X := by rw [ByteArray.toList_eq, ByteArray.toList_eq, hX]; exact beq_decide _ _
          have HWL := Lib.hid (wantL_take aat.data.toList hkl)
          rw [← hxl] at HWL
          have k0 : ∀ y : BelW wr, y.w.cell? ⟨A, 0, none⟩ = some (.string aat) := fun y => cell_bel c0 y.h
          have k1 : ∀ y : BelW wr, y.w.cell? ⟨A, 1, none⟩ = some (.slice (some ⟨gp, op, none⟩) aN ac) := fun y => cell_bel c1 y.h
          have ka : ∀ y : BelW wr, y.w.cell? ⟨gp, op + k, none⟩ = some (.string x) := fun y => cell_bel a0 y.h
          have i0 : (0 : Int) ≤ (k : Int) := by omega
          have i1 : (k : Int) < (aN : Int) := by omega
          have hq : Nonempty (BelW wr) := ⟨⟨wr, Below.refl _ _⟩⟩
          clear hx hkl hgp hxl
          rcases X with _ | _
          · have HO2 : Hid (os ++ [x.data.toList] = wantL aat.data.toList (aps.take (k + 1))) := by show _ = _; rw [HWL.out, if_neg (of_decide_eq_false hX.symm), ← HO.out]
            clear hX
            go_upto_region 11 with fail
            clear c0 c1 a0
            refine wp_region_bel (w0 := wr) (Below.refl _ _) (by kernel_rfl) (by kernel_rfl) ?_
            repeat (go_big_quiet_step (fail))
            refine wpQuiet_nil ?_
            rintro _ ⟨z, rfl⟩
            have d0 := k0 z
            have d1 := k1 z
            have da := ka z
            have HZ := Lib.hid z.h
            have hoz := ho.below z.h
            have hsz := z.h.size
            obtain ⟨wz, hwz⟩ : ∃ wz, wz = z.w := ⟨_, rfl⟩
            rw [← hwz] at d0 d1 da HZ hoz hsz ⊢
            have hs2 : base ≤ wz.heap.size := by omega
            have HBZ := Lib.hid (HB.out.trans (HZ.out.mono hs))
            have HBV := Lib.hid (HBW.out.trans (HZ.out.mono HBW.out.size))
            clear k0 k1 ka hwz ho hq
            clear z
            go_wp2_with (at_builtin; refine wp_so_one rfl _ _ rfl rfl hoz x rfl (by omega) hs2 ?_; intro v4 w6 ho4 hg4; have hb6 := hoz.bel1 HBZ.out (Nat.le_refl _) hs2 hg4; have hb7 := hoz.bel1 HBV.out h1b HBV.out.size hg4; have hs4 := hg4.size)
            go_roundw
            case rel => exact ⟨k + 1, _, by omega, by go_num, ho4, by simp; omega, HO2.out, hb6, by simp at hs4; omega, hb7⟩
            case measure => simp [intOf]; omega
          · have HO2 : Hid (os = wantL aat.data.toList (aps.take (k + 1))) := by show _ = _; rw [HWL.out, if_pos (of_decide_eq_true hX.symm), ← HO.out]
            clear hX
            go_upto_region 11 with fail
            clear c0 c1 a0
            refine wp_region_bel (w0 := wr) (Below.refl _ _) (by kernel_rfl) (by kernel_rfl) ?_
            repeat (go_big_quiet_step (fail))
            refine wpQuiet_nil ?_
            rintro _ ⟨z, rfl⟩
            have d0 := k0 z
            have d1 := k1 z
            have da := ka z
            have HZ := Lib.hid z.h
            have hoz := ho.below z.h
            have hsz := z.h.size
            obtain ⟨wz, hwz⟩ : ∃ wz, wz = z.w := ⟨_, rfl⟩
            rw [← hwz] at d0 d1 da HZ hoz hsz ⊢
            have hs2 : base ≤ wz.heap.size := by omega
            have HBZ := Lib.hid (HB.out.trans (HZ.out.mono hs))
            have HBV := Lib.hid (HBW.out.trans (HZ.out.mono HBW.out.size))
            clear k0 k1 ka hwz ho hq
            clear z
            go_wp2_with fail
            go_roundw
            case rel => exact ⟨k + 1, _, by omega, by go_num, hoz, by omega, HO2.out, HBZ.out, hs2, HBV.out⟩
            case measure => simp [intOf]; omega
        obtain rfl : k = aN := by omega
        have HOX : Hid (os = wantL aat.data.toList aps) := by
          show _ = _
          rw [HO.out, List.take_of_length_le (by have := HNA.out; omega)]
        have hLN : os.length = NW := by rw [HOX.out, HNW.out]
        obtain ⟨po, co, hov, hro⟩ := ho.rw
        rw [hLN] at hov
        subst hov
        have HSS : Hid (Calls Tryz.prog 32 #[.slice pl NW cl, .slice po NW co] wr fun e w' => e = .returned (.bool true) ∧ Below w1.heap.size w1 w') := by
          refine (rsame6C_any (wantL aat.data.toList aps) os pl po cl co NW NW wr HNW.out hLN.symm (HR4.out wr HB.out) hro (by omega)).mono fun e w' ⟨h1, kk, h2⟩ => ⟨by rw [h1, HOX.out]; simp, by rw [h2]; exact below_drewN HBW.out kk⟩
        clear hro HOX HO HR4 ho hLN c0
        go_upto_region 15 with (go_at_call 32; ((with_reducible refine (HSS.out).mono ?_); rintro e w6 ⟨rfl, hb6⟩))
        go_upto_region 17 with fail
        have hbv := hb6
        obtain ⟨z0, z1, z2, z3, z4, z5, z6, z7⟩ := tg_at ((hbv.block _ (row_lt HXG.out)).trans HXG.out)
        go_upto_region 18 with (go_at_call 19; ((with_reducible refine (HTB.out _ hbv).mono ?_); rintro e wt ⟨rfl, hbt⟩))
        clear z0 z1 z2 z3 z4 z5 z6 z7
        go_upto_region 20 with fail
        go_upto_region 21 with (go_at_call 28; ((with_reducible refine (HLG.out _ hbt).mono ?_); rintro e w9 ⟨⟨pl, cl, rfl, hr9⟩, hb9⟩))
        obtain ⟨gl, ol, rfl, -, x9⟩ := hr9 0 (by simp)
        have x9 : w9.cell? ⟨gl, ol, none⟩ = some (.string gt) := x9
        have z9 := (tg_at ((hb9.block _ (row_lt HXG.out)).trans HXG.out)).1
        have HB9 := Lib.hid hb9
        have HLW : Hid (∀ w', (Below w9.heap.size w9 w' ∧ w'.cell? ⟨gl, ol, none⟩ = some (.string gt) ∧ w'.cell? ⟨G, 0, none⟩ = some (.string gt)) → Calls Tryz.prog 9 #[] w' fun e w'' => e = .returned (.bool true) ∧ Below w'.heap.size w' w'' ∧ Below w9.heap.size w9 w'') := fun w' h => (HLV2.out w' (HB9.out.trans (h.1.mono HB9.out.size))).mono fun e w'' ⟨h1, h2⟩ => ⟨h1, h2, h.1.trans (h2.mono h.1.size)⟩
        clear hr9 hb9 HLV HLV2
        go_region_held3 (fun w' => Below w9.heap.size w9 w' ∧ w'.cell? ⟨gl, ol, none⟩ = some (.string gt) ∧ w'.cell? ⟨G, 0, none⟩ = some (.string gt)) (first
          | exact keepC2 hb5 (by assumption)
          | exact keepC2 one_drew ⟨Below.refl _ _, x9, z9⟩) (first
          | (go_at_call 9; ((with_reducible refine (HLW.out _ (by assumption)).mono ?_); rintro e v1 ⟨rfl, hb5, hd5⟩)))
        all_goals go_wp2_with fail
        all_goals go_ret
        all_goals exact ⟨rfl, HBX.out.trans ((HB9.out.trans (hd5.mono HB9.out.size)).mono HBX.out.size)⟩
    · have gK : ((EG : Int) != 0) = true := by simp; omega
      clear HFLG hK hE hF
      go_enter Tryz.func8, Tryz.ntmps8
      go_upto_region 1 with fail
      rw [← HC3.out, ← HC2.out, ← HC1.out, ← HWA.out, ← HWB.out, ← HW1.out]
      have hb0 := Below.refl w1.heap.size w1
      obtain ⟨x0, x1, x2, x3, x4, x5, x6, x7, x8, x9, x10⟩ := cm_at HXA.out
      obtain ⟨y0, y1, y2, y3, y4, y5, y6, y7, y8, y9, y10⟩ := cm_at HXB.out
      obtain ⟨z0, z1, z2, z3, z4, z5, z6, z7⟩ := tg_at HXG.out
      go_upto_region 4 with (go_at_call 10; ((with_reducible refine (HBA.out _ hb0).mono ?_); rintro e w2 ⟨rfl, hb2⟩))
      clear x0 x1 x2 x3 x4 x5 x6 x7 x8 x9 x10 y0 y1 y2 y3 y4 y5 y6 y7 y8 y9 y10 z0 z1 z2 z3 z4 z5 z6 z7
      obtain ⟨y0, y1, y2, y3, y4, y5, y6, y7, y8, y9, y10⟩ := cm_at ((hb2.block _ (row_lt HXB.out)).trans HXB.out)
      go_upto_region 5 with (go_at_call 10; ((with_reducible refine (HBB.out _ hb2).mono ?_); rintro e w3 ⟨rfl, hb3⟩))
      clear y0 y1 y2 y3 y4 y5 y6 y7 y8 y9 y10 hb2 hb0
      go_upto_region 7 with (go_at_call 28; ((with_reducible refine (HLC.out _ hb3).mono ?_); rintro e w4 ⟨⟨pl, cl, rfl, hr4⟩, hb4⟩))
      have x0 := (cm_at ((hb4.block _ (row_lt HXA.out)).trans HXA.out)).1
      have hown : SOw (w4.alloc (.cells #[.string aat] 9)) w4.heap.size (.slice (some ⟨w4.heap.size, 0, none⟩) 1 1) [aat.data.toList] := SOw.one w4 aat (Nat.le_refl _)
      have hbn : Below w4.heap.size w4 (w4.alloc (.cells #[.string aat] 9)) := below_new (Below.refl _ _) _
      have hb5 := hb4.trans (hbn.mono hb4.size)
      obtain ⟨base, hbase⟩ : ∃ base, base = w4.heap.size := ⟨_, rfl⟩
      have hbs : base ≤ (w4.alloc (.cells #[.string aat] 9)).heap.size := by rw [hbase]; exact hbn.size
      have hr5 : ∀ w', Below base (w4.alloc (.cells #[.string aat] 9)) w' → SRw w' pl (wantL aat.data.toList aps) := fun w' hb => hr4.below (by rw [hbase] at hb; exact hbn.trans hb)
      rw [← hbase] at hown
      go_upto_region 8 with fail
      rw [← hbase]
      obtain ⟨w5, hw5⟩ : ∃ w5, w5 = w4.alloc (.cells #[.string aat] 9) := ⟨_, rfl⟩
      rw [← hw5] at hown hr5 hb5 hbs ⊢
      have HR4 := Lib.hid hr5
      have HB5 := Lib.hid hb5
      have h1b : w1.heap.size ≤ base := by rw [hbase]; exact hb4.size
      have HOW := Lib.hid hown
      clear hw5 hr4 hr5 hb5 hbase hbn x0 hb4 hb3 hown
      go_wp2_with fail
      go_loopw [13, 14] (fun ov iv wr => ∃ (k : Nat) (os : List (List UInt8)), k ≤ aN ∧ iv = .int .i64 (k : Int) ∧ SOw wr base ov os ∧ os.length ≤ k + 1 ∧ Hid (os = wantL aat.data.toList (aps.take k)) ∧ Hid (Below base w5 wr) ∧ base ≤ wr.heap.size ∧ Hid (Below w1.heap.size w1 wr)) (fun _ iv _ => aN - (intOf iv).toNat)
      case atStart => exact ⟨0, _, by omega, rfl, HOW.out, by simp, rfl, Below.refl _ _, hbs, HB5.out⟩
      case round =>
        clear HOW
        obtain ⟨k, os, hk, rfl, ho, hol, HO, HB, hs, HBW⟩ := hrel
        obtain ⟨c0, c1, -⟩ := cm_at ((HBW.out.block _ (row_lt HXA.out)).trans HXA.out)
        by_cases hlt : k < aN
        · have hkl : k < aps.length := by rw [← HNA.out]; exact hlt
          obtain ⟨x, hx⟩ : ∃ x, x = str aps[k] := ⟨_, rfl⟩
          have hxl : x.data.toList = aps[k] := by rw [hx]; rfl
          obtain ⟨gp, op, rfl, hgp, a0⟩ := HPA.out.below HBW.out k hkl
          rw [← hx] at a0
          obtain ⟨X, hX⟩ : ∃ X, X = decide (x.data.toList = aat.data.toList) := ⟨_, rfl⟩
          have hXe : (x.toList == aat.toList) = X := by rw [ByteArray.toList_eq, ByteArray.toList_eq, hX]; exact beq_decide _ _
          have HWL := Lib.hid (wantL_take aat.data.toList hkl)
          rw [← hxl] at HWL
          have k0 : ∀ y : BelW wr, y.w.cell? ⟨A, 0, none⟩ = some (.string aat) := fun y => cell_bel c0 y.h
          have k1 : ∀ y : BelW wr, y.w.cell? ⟨A, 1, none⟩ = some (.slice (some ⟨gp, op, none⟩) aN ac) := fun y => cell_bel c1 y.h
          have ka : ∀ y : BelW wr, y.w.cell? ⟨gp, op + k, none⟩ = some (.string x) := fun y => cell_bel a0 y.h
          have i0 : (0 : Int) ≤ (k : Int) := by omega
          have i1 : (k : Int) < (aN : Int) := by omega
          have hq : Nonempty (BelW wr) := ⟨⟨wr, Below.refl _ _⟩⟩
          clear hx hkl hgp hxl
          rcases X with _ | _
          · have HO2 : Hid (os ++ [x.data.toList] = wantL aat.data.toList (aps.take (k + 1))) := by show _ = _; rw [HWL.out, if_neg (of_decide_eq_false hX.symm), ← HO.out]
            clear hX
            go_upto_region 11 with fail
            clear c0 c1 a0
            refine wp_region_bel (w0 := wr) (Below.refl _ _) (by kernel_rfl) (by kernel_rfl) ?_
            repeat (go_big_quiet_step (fail))
            refine wpQuiet_nil ?_
            rintro _ ⟨z, rfl⟩
            have d0 := k0 z
            have d1 := k1 z
            have da := ka z
            have HZ := Lib.hid z.h
            have hoz := ho.below z.h
            have hsz := z.h.size
            obtain ⟨wz, hwz⟩ : ∃ wz, wz = z.w := ⟨_, rfl⟩
            rw [← hwz] at d0 d1 da HZ hoz hsz ⊢
            have hs2 : base ≤ wz.heap.size := by omega
            have HBZ := Lib.hid (HB.out.trans (HZ.out.mono hs))
            have HBV := Lib.hid (HBW.out.trans (HZ.out.mono HBW.out.size))
            clear k0 k1 ka hwz ho hq
            clear z
            go_wp2_with (at_builtin; refine wp_so_one rfl _ _ rfl rfl hoz x rfl (by omega) hs2 ?_; intro v4 w6 ho4 hg4; have hb6 := hoz.bel1 HBZ.out (Nat.le_refl _) hs2 hg4; have hb7 := hoz.bel1 HBV.out h1b HBV.out.size hg4; have hs4 := hg4.size)
            go_roundw
            case rel => exact ⟨k + 1, _, by omega, by go_num, ho4, by simp; omega, HO2.out, hb6, by simp at hs4; omega, hb7⟩
            case measure => simp [intOf]; omega
          · have HO2 : Hid (os = wantL aat.data.toList (aps.take (k + 1))) := by show _ = _; rw [HWL.out, if_pos (of_decide_eq_true hX.symm), ← HO.out]
            clear hX
            go_upto_region 11 with fail
            clear c0 c1 a0
            refine wp_region_bel (w0 := wr) (Below.refl _ _) (by kernel_rfl) (by kernel_rfl) ?_
            repeat (go_big_quiet_step (fail))
            refine wpQuiet_nil ?_
            rintro _ ⟨z, rfl⟩
            have d0 := k0 z
            have d1 := k1 z
            have da := ka z
            have HZ := Lib.hid z.h
            have hoz := ho.below z.h
            have hsz := z.h.size
            obtain ⟨wz, hwz⟩ : ∃ wz, wz = z.w := ⟨_, rfl⟩
            rw [← hwz] at d0 d1 da HZ hoz hsz ⊢
            have hs2 : base ≤ wz.heap.size := by omega
            have HBZ := Lib.hid (HB.out.trans (HZ.out.mono hs))
            have HBV := Lib.hid (HBW.out.trans (HZ.out.mono HBW.out.size))
            clear k0 k1 ka hwz ho hq
            clear z
            go_wp2_with fail
            go_roundw
            case rel => exact ⟨k + 1, _, by omega, by go_num, hoz, by omega, HO2.out, HBZ.out, hs2, HBV.out⟩
            case measure => simp [intOf]; omega
        obtain rfl : k = aN := by omega
        have HOX : Hid (os = wantL aat.data.toList aps) := by
          show _ = _
          rw [HO.out, List.take_of_length_le (by have := HNA.out; omega)]
        have hLN : os.length = NW := by rw [HOX.out, HNW.out]
        obtain ⟨po, co, hov, hro⟩ := ho.rw
        rw [hLN] at hov
        subst hov
        have HSS : Hid (Calls Tryz.prog 32 #[.slice pl NW cl, .slice po NW co] wr fun e w' => e = .returned (.bool true) ∧ Below w1.heap.size w1 w') := by
          refine (rsame6C_any (wantL aat.data.toList aps) os pl po cl co NW NW wr HNW.out hLN.symm (HR4.out wr HB.out) hro (by omega)).mono fun e w' ⟨h1, kk, h2⟩ => ⟨by rw [h1, HOX.out]; simp, by rw [h2]; exact below_drewN HBW.out kk⟩
        clear hro HOX HO HR4 ho hLN c0
        go_upto_region 15 with (go_at_call 32; ((with_reducible refine (HSS.out).mono ?_); rintro e w6 ⟨rfl, hb6⟩))
        go_upto_region 17 with fail
        have hbv := hb6
        obtain ⟨z0, z1, z2, z3, z4, z5, z6, z7⟩ := tg_at ((hbv.block _ (row_lt HXG.out)).trans HXG.out)
        go_upto_region 18 with (go_at_call 19; ((with_reducible refine (HTB.out _ hbv).mono ?_); rintro e wt ⟨rfl, hbt⟩))
        clear z0 z1 z2 z3 z4 z5 z6 z7
        go_wp2_with (go_at_call 9; ((with_reducible refine (HLV.out _ hbt).mono ?_); rintro e w2 ⟨rfl, hb2⟩))
        go_ret
        exact ⟨rfl, HBX.out.trans (hb2.mono HBX.out.size)⟩
  have gF : ((EB : Int) == 0) = true := by rw [beq_iff_eq]; omega
  have hQi := HVAB.out hE hF
  clear HVAB
  by_cases hcd : (⟨aat, aps, ⟨aan, aam, aaT, aaz⟩, ⟨acn, acm, acT, acz⟩, ax⟩ : Cm) = ⟨bt, bps, ⟨ban, bam, baT, baz⟩, ⟨bcn, bcm, bcT, bcz⟩, bx⟩
  · have HQ : Hid (∀ R : Bool, (R = true ↔ (⟨aat, aps, ⟨aan, aam, aaT, aaz⟩, ⟨acn, acm, acT, acz⟩, ax⟩ : Cm) = ⟨bt, bps, ⟨ban, bam, baT, baz⟩, ⟨bcn, bcm, bcT, bcz⟩, bx⟩) → R = true) := fun R h => h.mpr hcd
    have hab := hQi.mpr hcd
    rw [beq_iff_eq, bal] at hab
    subst hab
    have hneq := neq_tt
    clear hQi hcd
    by_cases hK : EG = 0
    · have gK : ((EG : Int) != 0) = false := by simp [hK]
      have HLG := Lib.hid (HFLG.out hK)
      clear HFLG hK hE hF
      go_enter Tryz.func8, Tryz.ntmps8
      go_upto_region 1 with fail
      rw [← HC3.out, ← HC2.out, ← HC1.out, ← HWA.out, ← HWB.out, ← HW1.out]
      have hb0 := Below.refl w1.heap.size w1
      obtain ⟨x0, x1, x2, x3, x4, x5, x6, x7, x8, x9, x10⟩ := cm_at HXA.out
      obtain ⟨y0, y1, y2, y3, y4, y5, y6, y7, y8, y9, y10⟩ := cm_at HXB.out
      obtain ⟨z0, z1, z2, z3, z4, z5, z6, z7⟩ := tg_at HXG.out
      go_upto_region 4 with (go_at_call 10; ((with_reducible refine (HBA.out _ hb0).mono ?_); rintro e w2 ⟨rfl, hb2⟩))
      clear x0 x1 x2 x3 x4 x5 x6 x7 x8 x9 x10 y0 y1 y2 y3 y4 y5 y6 y7 y8 y9 y10 z0 z1 z2 z3 z4 z5 z6 z7
      obtain ⟨y0, y1, y2, y3, y4, y5, y6, y7, y8, y9, y10⟩ := cm_at ((hb2.block _ (row_lt HXB.out)).trans HXB.out)
      go_upto_region 5 with (go_at_call 10; ((with_reducible refine (HBB.out _ hb2).mono ?_); rintro e w3 ⟨rfl, hb3⟩))
      clear y0 y1 y2 y3 y4 y5 y6 y7 y8 y9 y10 hb2 hb0
      go_upto_region 7 with (go_at_call 28; ((with_reducible refine (HLC.out _ hb3).mono ?_); rintro e w4 ⟨⟨pl, cl, rfl, hr4⟩, hb4⟩))
      have x0 := (cm_at ((hb4.block _ (row_lt HXA.out)).trans HXA.out)).1
      have hown : SOw (w4.alloc (.cells #[.string aat] 9)) w4.heap.size (.slice (some ⟨w4.heap.size, 0, none⟩) 1 1) [aat.data.toList] := SOw.one w4 aat (Nat.le_refl _)
      have hbn : Below w4.heap.size w4 (w4.alloc (.cells #[.string aat] 9)) := below_new (Below.refl _ _) _
      have hb5 := hb4.trans (hbn.mono hb4.size)
      obtain ⟨base, hbase⟩ : ∃ base, base = w4.heap.size := ⟨_, rfl⟩
      have hbs : base ≤ (w4.alloc (.cells #[.string aat] 9)).heap.size := by rw [hbase]; exact hbn.size
      have hr5 : ∀ w', Below base (w4.alloc (.cells #[.string aat] 9)) w' → SRw w' pl (wantL aat.data.toList aps) := fun w' hb => hr4.below (by rw [hbase] at hb; exact hbn.trans hb)
      rw [← hbase] at hown
      go_upto_region 8 with fail
      rw [← hbase]
      obtain ⟨w5, hw5⟩ : ∃ w5, w5 = w4.alloc (.cells #[.string aat] 9) := ⟨_, rfl⟩
      rw [← hw5] at hown hr5 hb5 hbs ⊢
      have HR4 := Lib.hid hr5
      have HB5 := Lib.hid hb5
      have h1b : w1.heap.size ≤ base := by rw [hbase]; exact hb4.size
      have HOW := Lib.hid hown
      clear hw5 hr4 hr5 hb5 hbase hbn x0 hb4 hb3 hown
      go_wp2_with fail
      go_loopw [13, 14] (fun ov iv wr => ∃ (k : Nat) (os : List (List UInt8)), k ≤ aN ∧ iv = .int .i64 (k : Int) ∧ SOw wr base ov os ∧ os.length ≤ k + 1 ∧ Hid (os = wantL aat.data.toList (aps.take k)) ∧ Hid (Below base w5 wr) ∧ base ≤ wr.heap.size ∧ Hid (Below w1.heap.size w1 wr)) (fun _ iv _ => aN - (intOf iv).toNat)
      case atStart => exact ⟨0, _, by omega, rfl, HOW.out, by simp, rfl, Below.refl _ _, hbs, HB5.out⟩
      case round =>
        clear HOW
        obtain ⟨k, os, hk, rfl, ho, hol, HO, HB, hs, HBW⟩ := hrel
        obtain ⟨c0, c1, -⟩ := cm_at ((HBW.out.block _ (row_lt HXA.out)).trans HXA.out)
        by_cases hlt : k < aN
        · have hkl : k < aps.length := by rw [← HNA.out]; exact hlt
          obtain ⟨x, hx⟩ : ∃ x, x = str aps[k] := ⟨_, rfl⟩
          have hxl : x.data.toList = aps[k] := by rw [hx]; rfl
          obtain ⟨gp, op, rfl, hgp, a0⟩ := HPA.out.below HBW.out k hkl
          rw [← hx] at a0
          obtain ⟨X, hX⟩ : ∃ X, X = decide (x.data.toList = aat.data.toList) := ⟨_, rfl⟩
          have hXe : (x.toList == aat.toList) = X := by rw [ByteArray.toList_eq, ByteArray.toList_eq, hX]; exact beq_decide _ _
          have HWL := Lib.hid (wantL_take aat.data.toList hkl)
          rw [← hxl] at HWL
          have k0 : ∀ y : BelW wr, y.w.cell? ⟨A, 0, none⟩ = some (.string aat) := fun y => cell_bel c0 y.h
          have k1 : ∀ y : BelW wr, y.w.cell? ⟨A, 1, none⟩ = some (.slice (some ⟨gp, op, none⟩) aN ac) := fun y => cell_bel c1 y.h
          have ka : ∀ y : BelW wr, y.w.cell? ⟨gp, op + k, none⟩ = some (.string x) := fun y => cell_bel a0 y.h
          have i0 : (0 : Int) ≤ (k : Int) := by omega
          have i1 : (k : Int) < (aN : Int) := by omega
          have hq : Nonempty (BelW wr) := ⟨⟨wr, Below.refl _ _⟩⟩
          clear hx hkl hgp hxl
          rcases X with _ | _
          · have HO2 : Hid (os ++ [x.data.toList] = wantL aat.data.toList (aps.take (k + 1))) := by show _ = _; rw [HWL.out, if_neg (of_decide_eq_false hX.symm), ← HO.out]
            clear hX
            go_upto_region 11 with fail
            clear c0 c1 a0
            refine wp_region_bel (w0 := wr) (Below.refl _ _) (by kernel_rfl) (by kernel_rfl) ?_
            repeat (go_big_quiet_step (fail))
            refine wpQuiet_nil ?_
            rintro _ ⟨z, rfl⟩
            have d0 := k0 z
            have d1 := k1 z
            have da := ka z
            have HZ := Lib.hid z.h
            have hoz := ho.below z.h
            have hsz := z.h.size
            obtain ⟨wz, hwz⟩ : ∃ wz, wz = z.w := ⟨_, rfl⟩
            rw [← hwz] at d0 d1 da HZ hoz hsz ⊢
            have hs2 : base ≤ wz.heap.size := by omega
            have HBZ := Lib.hid (HB.out.trans (HZ.out.mono hs))
            have HBV := Lib.hid (HBW.out.trans (HZ.out.mono HBW.out.size))
            clear k0 k1 ka hwz ho hq
            clear z
            go_wp2_with (at_builtin; refine wp_so_one rfl _ _ rfl rfl hoz x rfl (by omega) hs2 ?_; intro v4 w6 ho4 hg4; have hb6 := hoz.bel1 HBZ.out (Nat.le_refl _) hs2 hg4; have hb7 := hoz.bel1 HBV.out h1b HBV.out.size hg4; have hs4 := hg4.size)
            go_roundw
            case rel => exact ⟨k + 1, _, by omega, by go_num, ho4, by simp; omega, HO2.out, hb6, by simp at hs4; omega, hb7⟩
            case measure => simp [intOf]; omega
          · have HO2 : Hid (os = wantL aat.data.toList (aps.take (k + 1))) := by show _ = _; rw [HWL.out, if_pos (of_decide_eq_true hX.symm), ← HO.out]
            clear hX
            go_upto_region 11 with fail
            clear c0 c1 a0
            refine wp_region_bel (w0 := wr) (Below.refl _ _) (by kernel_rfl) (by kernel_rfl) ?_
            repeat (go_big_quiet_step (fail))
            refine wpQuiet_nil ?_
            rintro _ ⟨z, rfl⟩
            have d0 := k0 z
            have d1 := k1 z
            have da := ka z
            have HZ := Lib.hid z.h
            have hoz := ho.below z.h
            have hsz := z.h.size
            obtain ⟨wz, hwz⟩ : ∃ wz, wz = z.w := ⟨_, rfl⟩
            rw [← hwz] at d0 d1 da HZ hoz hsz ⊢
            have hs2 : base ≤ wz.heap.size := by omega
            have HBZ := Lib.hid (HB.out.trans (HZ.out.mono hs))
            have HBV := Lib.hid (HBW.out.trans (HZ.out.mono HBW.out.size))
            clear k0 k1 ka hwz ho hq
            clear z
            go_wp2_with fail
            go_roundw
            case rel => exact ⟨k + 1, _, by omega, by go_num, hoz, by omega, HO2.out, HBZ.out, hs2, HBV.out⟩
            case measure => simp [intOf]; omega
        obtain rfl : k = aN := by omega
        have HOX : Hid (os = wantL aat.data.toList aps) := by
          show _ = _
          rw [HO.out, List.take_of_length_le (by have := HNA.out; omega)]
        have hLN : os.length = NW := by rw [HOX.out, HNW.out]
        obtain ⟨po, co, hov, hro⟩ := ho.rw
        rw [hLN] at hov
        subst hov
        have HSS : Hid (Calls Tryz.prog 32 #[.slice pl NW cl, .slice po NW co] wr fun e w' => e = .returned (.bool true) ∧ Below w1.heap.size w1 w') := by
          refine (rsame6C_any (wantL aat.data.toList aps) os pl po cl co NW NW wr HNW.out hLN.symm (HR4.out wr HB.out) hro (by omega)).mono fun e w' ⟨h1, kk, h2⟩ => ⟨by rw [h1, HOX.out]; simp, by rw [h2]; exact below_drewN HBW.out kk⟩
        clear hro HOX HO HR4 ho hLN c0
        go_upto_region 15 with (go_at_call 32; ((with_reducible refine (HSS.out).mono ?_); rintro e w6 ⟨rfl, hb6⟩))
        obtain ⟨x0, x1, x2, x3, x4, x5, x6, x7, x8, x9, x10⟩ := cm_at ((hb6.block _ (row_lt HXA.out)).trans HXA.out)
        obtain ⟨y0, y1, y2, y3, y4, y5, y6, y7, y8, y9, y10⟩ := cm_at ((hb6.block _ (row_lt HXB.out)).trans HXB.out)
        go_upto_region 17 with (go_at_call 15; ((with_reducible refine (HFSS.out _ hb6).mono ?_); rintro e w7 ⟨R, rfl, hRR, hb7⟩; obtain rfl := HQ.out R hRR))
        have hbv := hb7
        clear x0 x1 x2 x3 x4 x5 x6 x7 x8 x9 x10 y0 y1 y2 y3 y4 y5 y6 y7 y8 y9 y10 hRR
        obtain ⟨z0, z1, z2, z3, z4, z5, z6, z7⟩ := tg_at ((hbv.block _ (row_lt HXG.out)).trans HXG.out)
        go_upto_region 18 with (go_at_call 19; ((with_reducible refine (HTB.out _ hbv).mono ?_); rintro e wt ⟨rfl, hbt⟩))
        clear z0 z1 z2 z3 z4 z5 z6 z7
        go_upto_region 20 with fail
        go_upto_region 21 with (go_at_call 28; ((with_reducible refine (HLG.out _ hbt).mono ?_); rintro e w9 ⟨⟨pl, cl, rfl, hr9⟩, hb9⟩))
        obtain ⟨gl, ol, rfl, -, x9⟩ := hr9 0 (by simp)
        have x9 : w9.cell? ⟨gl, ol, none⟩ = some (.string gt) := x9
        have z9 := (tg_at ((hb9.block _ (row_lt HXG.out)).trans HXG.out)).1
        have HB9 := Lib.hid hb9
        have HLW : Hid (∀ w', (Below w9.heap.size w9 w' ∧ w'.cell? ⟨gl, ol, none⟩ = some (.string gt) ∧ w'.cell? ⟨G, 0, none⟩ = some (.string gt)) → Calls Tryz.prog 9 #[] w' fun e w'' => e = .returned (.bool true) ∧ Below w'.heap.size w' w'' ∧ Below w9.heap.size w9 w'') := fun w' h => (HLV2.out w' (HB9.out.trans (h.1.mono HB9.out.size))).mono fun e w'' ⟨h1, h2⟩ => ⟨h1, h2, h.1.trans (h2.mono h.1.size)⟩
        clear hr9 hb9 HLV HLV2
        go_region_held3 (fun w' => Below w9.heap.size w9 w' ∧ w'.cell? ⟨gl, ol, none⟩ = some (.string gt) ∧ w'.cell? ⟨G, 0, none⟩ = some (.string gt)) (first
          | exact keepC2 hb5 (by assumption)
          | exact keepC2 one_drew ⟨Below.refl _ _, x9, z9⟩) (first
          | (go_at_call 9; ((with_reducible refine (HLW.out _ (by assumption)).mono ?_); rintro e v1 ⟨rfl, hb5, hd5⟩)))
        all_goals go_wp2_with fail
        all_goals go_ret
        all_goals exact ⟨rfl, HBX.out.trans ((HB9.out.trans (hd5.mono HB9.out.size)).mono HBX.out.size)⟩
    · have gK : ((EG : Int) != 0) = true := by simp; omega
      clear HFLG hK hE hF
      go_enter Tryz.func8, Tryz.ntmps8
      go_upto_region 1 with fail
      rw [← HC3.out, ← HC2.out, ← HC1.out, ← HWA.out, ← HWB.out, ← HW1.out]
      have hb0 := Below.refl w1.heap.size w1
      obtain ⟨x0, x1, x2, x3, x4, x5, x6, x7, x8, x9, x10⟩ := cm_at HXA.out
      obtain ⟨y0, y1, y2, y3, y4, y5, y6, y7, y8, y9, y10⟩ := cm_at HXB.out
      obtain ⟨z0, z1, z2, z3, z4, z5, z6, z7⟩ := tg_at HXG.out
      go_upto_region 4 with (go_at_call 10; ((with_reducible refine (HBA.out _ hb0).mono ?_); rintro e w2 ⟨rfl, hb2⟩))
      clear x0 x1 x2 x3 x4 x5 x6 x7 x8 x9 x10 y0 y1 y2 y3 y4 y5 y6 y7 y8 y9 y10 z0 z1 z2 z3 z4 z5 z6 z7
      obtain ⟨y0, y1, y2, y3, y4, y5, y6, y7, y8, y9, y10⟩ := cm_at ((hb2.block _ (row_lt HXB.out)).trans HXB.out)
      go_upto_region 5 with (go_at_call 10; ((with_reducible refine (HBB.out _ hb2).mono ?_); rintro e w3 ⟨rfl, hb3⟩))
      clear y0 y1 y2 y3 y4 y5 y6 y7 y8 y9 y10 hb2 hb0
      go_upto_region 7 with (go_at_call 28; ((with_reducible refine (HLC.out _ hb3).mono ?_); rintro e w4 ⟨⟨pl, cl, rfl, hr4⟩, hb4⟩))
      have x0 := (cm_at ((hb4.block _ (row_lt HXA.out)).trans HXA.out)).1
      have hown : SOw (w4.alloc (.cells #[.string aat] 9)) w4.heap.size (.slice (some ⟨w4.heap.size, 0, none⟩) 1 1) [aat.data.toList] := SOw.one w4 aat (Nat.le_refl _)
      have hbn : Below w4.heap.size w4 (w4.alloc (.cells #[.string aat] 9)) := below_new (Below.refl _ _) _
      have hb5 := hb4.trans (hbn.mono hb4.size)
      obtain ⟨base, hbase⟩ : ∃ base, base = w4.heap.size := ⟨_, rfl⟩
      have hbs : base ≤ (w4.alloc (.cells #[.string aat] 9)).heap.size := by rw [hbase]; exact hbn.size
      have hr5 : ∀ w', Below base (w4.alloc (.cells #[.string aat] 9)) w' → SRw w' pl (wantL aat.data.toList aps) := fun w' hb => hr4.below (by rw [hbase] at hb; exact hbn.trans hb)
      rw [← hbase] at hown
      go_upto_region 8 with fail
      rw [← hbase]
      obtain ⟨w5, hw5⟩ : ∃ w5, w5 = w4.alloc (.cells #[.string aat] 9) := ⟨_, rfl⟩
      rw [← hw5] at hown hr5 hb5 hbs ⊢
      have HR4 := Lib.hid hr5
      have HB5 := Lib.hid hb5
      have h1b : w1.heap.size ≤ base := by rw [hbase]; exact hb4.size
      have HOW := Lib.hid hown
      clear hw5 hr4 hr5 hb5 hbase hbn x0 hb4 hb3 hown
      go_wp2_with fail
      go_loopw [13, 14] (fun ov iv wr => ∃ (k : Nat) (os : List (List UInt8)), k ≤ aN ∧ iv = .int .i64 (k : Int) ∧ SOw wr base ov os ∧ os.length ≤ k + 1 ∧ Hid (os = wantL aat.data.toList (aps.take k)) ∧ Hid (Below base w5 wr) ∧ base ≤ wr.heap.size ∧ Hid (Below w1.heap.size w1 wr)) (fun _ iv _ => aN - (intOf iv).toNat)
      case atStart => exact ⟨0, _, by omega, rfl, HOW.out, by simp, rfl, Below.refl _ _, hbs, HB5.out⟩
      case round =>
        clear HOW
        obtain ⟨k, os, hk, rfl, ho, hol, HO, HB, hs, HBW⟩ := hrel
        obtain ⟨c0, c1, -⟩ := cm_at ((HBW.out.block _ (row_lt HXA.out)).trans HXA.out)
        by_cases hlt : k < aN
        · have hkl : k < aps.length := by rw [← HNA.out]; exact hlt
          obtain ⟨x, hx⟩ : ∃ x, x = str aps[k] := ⟨_, rfl⟩
          have hxl : x.data.toList = aps[k] := by rw [hx]; rfl
          obtain ⟨gp, op, rfl, hgp, a0⟩ := HPA.out.below HBW.out k hkl
          rw [← hx] at a0
          obtain ⟨X, hX⟩ : ∃ X, X = decide (x.data.toList = aat.data.toList) := ⟨_, rfl⟩
          have hXe : (x.toList == aat.toList) = X := by rw [ByteArray.toList_eq, ByteArray.toList_eq, hX]; exact beq_decide _ _
          have HWL := Lib.hid (wantL_take aat.data.toList hkl)
          rw [← hxl] at HWL
          have k0 : ∀ y : BelW wr, y.w.cell? ⟨A, 0, none⟩ = some (.string aat) := fun y => cell_bel c0 y.h
          have k1 : ∀ y : BelW wr, y.w.cell? ⟨A, 1, none⟩ = some (.slice (some ⟨gp, op, none⟩) aN ac) := fun y => cell_bel c1 y.h
          have ka : ∀ y : BelW wr, y.w.cell? ⟨gp, op + k, none⟩ = some (.string x) := fun y => cell_bel a0 y.h
          have i0 : (0 : Int) ≤ (k : Int) := by omega
          have i1 : (k : Int) < (aN : Int) := by omega
          have hq : Nonempty (BelW wr) := ⟨⟨wr, Below.refl _ _⟩⟩
          clear hx hkl hgp hxl
          rcases X with _ | _
          · have HO2 : Hid (os ++ [x.data.toList] = wantL aat.data.toList (aps.take (k + 1))) := by show _ = _; rw [HWL.out, if_neg (of_decide_eq_false hX.symm), ← HO.out]
            clear hX
            go_upto_region 11 with fail
            clear c0 c1 a0
            refine wp_region_bel (w0 := wr) (Below.refl _ _) (by kernel_rfl) (by kernel_rfl) ?_
            repeat (go_big_quiet_step (fail))
            refine wpQuiet_nil ?_
            rintro _ ⟨z, rfl⟩
            have d0 := k0 z
            have d1 := k1 z
            have da := ka z
            have HZ := Lib.hid z.h
            have hoz := ho.below z.h
            have hsz := z.h.size
            obtain ⟨wz, hwz⟩ : ∃ wz, wz = z.w := ⟨_, rfl⟩
            rw [← hwz] at d0 d1 da HZ hoz hsz ⊢
            have hs2 : base ≤ wz.heap.size := by omega
            have HBZ := Lib.hid (HB.out.trans (HZ.out.mono hs))
            have HBV := Lib.hid (HBW.out.trans (HZ.out.mono HBW.out.size))
            clear k0 k1 ka hwz ho hq
            clear z
            go_wp2_with (at_builtin; refine wp_so_one rfl _ _ rfl rfl hoz x rfl (by omega) hs2 ?_; intro v4 w6 ho4 hg4; have hb6 := hoz.bel1 HBZ.out (Nat.le_refl _) hs2 hg4; have hb7 := hoz.bel1 HBV.out h1b HBV.out.size hg4; have hs4 := hg4.size)
            go_roundw
            case rel => exact ⟨k + 1, _, by omega, by go_num, ho4, by simp; omega, HO2.out, hb6, by simp at hs4; omega, hb7⟩
            case measure => simp [intOf]; omega
          · have HO2 : Hid (os = wantL aat.data.toList (aps.take (k + 1))) := by show _ = _; rw [HWL.out, if_pos (of_decide_eq_true hX.symm), ← HO.out]
            clear hX
            go_upto_region 11 with fail
            clear c0 c1 a0
            refine wp_region_bel (w0 := wr) (Below.refl _ _) (by kernel_rfl) (by kernel_rfl) ?_
            repeat (go_big_quiet_step (fail))
            refine wpQuiet_nil ?_
            rintro _ ⟨z, rfl⟩
            have d0 := k0 z
            have d1 := k1 z
            have da := ka z
            have HZ := Lib.hid z.h
            have hoz := ho.below z.h
            have hsz := z.h.size
            obtain ⟨wz, hwz⟩ : ∃ wz, wz = z.w := ⟨_, rfl⟩
            rw [← hwz] at d0 d1 da HZ hoz hsz ⊢
            have hs2 : base ≤ wz.heap.size := by omega
            have HBZ := Lib.hid (HB.out.trans (HZ.out.mono hs))
            have HBV := Lib.hid (HBW.out.trans (HZ.out.mono HBW.out.size))
            clear k0 k1 ka hwz ho hq
            clear z
            go_wp2_with fail
            go_roundw
            case rel => exact ⟨k + 1, _, by omega, by go_num, hoz, by omega, HO2.out, HBZ.out, hs2, HBV.out⟩
            case measure => simp [intOf]; omega
        obtain rfl : k = aN := by omega
        have HOX : Hid (os = wantL aat.data.toList aps) := by
          show _ = _
          rw [HO.out, List.take_of_length_le (by have := HNA.out; omega)]
        have hLN : os.length = NW := by rw [HOX.out, HNW.out]
        obtain ⟨po, co, hov, hro⟩ := ho.rw
        rw [hLN] at hov
        subst hov
        have HSS : Hid (Calls Tryz.prog 32 #[.slice pl NW cl, .slice po NW co] wr fun e w' => e = .returned (.bool true) ∧ Below w1.heap.size w1 w') := by
          refine (rsame6C_any (wantL aat.data.toList aps) os pl po cl co NW NW wr HNW.out hLN.symm (HR4.out wr HB.out) hro (by omega)).mono fun e w' ⟨h1, kk, h2⟩ => ⟨by rw [h1, HOX.out]; simp, by rw [h2]; exact below_drewN HBW.out kk⟩
        clear hro HOX HO HR4 ho hLN c0
        go_upto_region 15 with (go_at_call 32; ((with_reducible refine (HSS.out).mono ?_); rintro e w6 ⟨rfl, hb6⟩))
        obtain ⟨x0, x1, x2, x3, x4, x5, x6, x7, x8, x9, x10⟩ := cm_at ((hb6.block _ (row_lt HXA.out)).trans HXA.out)
        obtain ⟨y0, y1, y2, y3, y4, y5, y6, y7, y8, y9, y10⟩ := cm_at ((hb6.block _ (row_lt HXB.out)).trans HXB.out)
        go_upto_region 17 with (go_at_call 15; ((with_reducible refine (HFSS.out _ hb6).mono ?_); rintro e w7 ⟨R, rfl, hRR, hb7⟩; obtain rfl := HQ.out R hRR))
        have hbv := hb7
        clear x0 x1 x2 x3 x4 x5 x6 x7 x8 x9 x10 y0 y1 y2 y3 y4 y5 y6 y7 y8 y9 y10 hRR
        obtain ⟨z0, z1, z2, z3, z4, z5, z6, z7⟩ := tg_at ((hbv.block _ (row_lt HXG.out)).trans HXG.out)
        go_upto_region 18 with (go_at_call 19; ((with_reducible refine (HTB.out _ hbv).mono ?_); rintro e wt ⟨rfl, hbt⟩))
        clear z0 z1 z2 z3 z4 z5 z6 z7
        go_wp2_with (go_at_call 9; ((with_reducible refine (HLV.out _ hbt).mono ?_); rintro e w2 ⟨rfl, hb2⟩))
        go_ret
        exact ⟨rfl, HBX.out.trans (hb2.mono HBX.out.size)⟩
  · have HQ : Hid (∀ R : Bool, (R = true ↔ (⟨aat, aps, ⟨aan, aam, aaT, aaz⟩, ⟨acn, acm, acT, acz⟩, ax⟩ : Cm) = ⟨bt, bps, ⟨ban, bam, baT, baz⟩, ⟨bcn, bcm, bcT, bcz⟩, bx⟩) → R = false) := fun R h => by
      rw [← Bool.not_eq_true, h]
      exact hcd
    have hab2 : (RA.toList == RB.toList) = false := by rw [← Bool.not_eq_true, hQi]; exact hcd
    have hab3 : ¬ RA.data = RB.data := fun h => hcd (hQi.mp (by rw [beq_iff_eq, ByteArray.toList_eq, ByteArray.toList_eq, h]))
    have hab4 : decide (RA.data = RB.data) = false := decide_eq_false hab3
    clear hQi hcd
    by_cases hK : EG = 0
    · have gK : ((EG : Int) != 0) = false := by simp [hK]
      have HLG := Lib.hid (HFLG.out hK)
      clear HFLG hK hE hF
      go_enter Tryz.func8, Tryz.ntmps8
      go_upto_region 1 with fail
      rw [← HC3.out, ← HC2.out, ← HC1.out, ← HWA.out, ← HWB.out, ← HW1.out]
      have hb0 := Below.refl w1.heap.size w1
      obtain ⟨x0, x1, x2, x3, x4, x5, x6, x7, x8, x9, x10⟩ := cm_at HXA.out
      obtain ⟨y0, y1, y2, y3, y4, y5, y6, y7, y8, y9, y10⟩ := cm_at HXB.out
      obtain ⟨z0, z1, z2, z3, z4, z5, z6, z7⟩ := tg_at HXG.out
      go_upto_region 4 with (go_at_call 10; ((with_reducible refine (HBA.out _ hb0).mono ?_); rintro e w2 ⟨rfl, hb2⟩))
      clear x0 x1 x2 x3 x4 x5 x6 x7 x8 x9 x10 y0 y1 y2 y3 y4 y5 y6 y7 y8 y9 y10 z0 z1 z2 z3 z4 z5 z6 z7
      obtain ⟨y0, y1, y2, y3, y4, y5, y6, y7, y8, y9, y10⟩ := cm_at ((hb2.block _ (row_lt HXB.out)).trans HXB.out)
      go_upto_region 5 with (go_at_call 10; ((with_reducible refine (HBB.out _ hb2).mono ?_); rintro e w3 ⟨rfl, hb3⟩))
      clear y0 y1 y2 y3 y4 y5 y6 y7 y8 y9 y10 hb2 hb0
      go_upto_region 7 with (go_at_call 28; ((with_reducible refine (HLC.out _ hb3).mono ?_); rintro e w4 ⟨⟨pl, cl, rfl, hr4⟩, hb4⟩))
      have x0 := (cm_at ((hb4.block _ (row_lt HXA.out)).trans HXA.out)).1
      have hown : SOw (w4.alloc (.cells #[.string aat] 9)) w4.heap.size (.slice (some ⟨w4.heap.size, 0, none⟩) 1 1) [aat.data.toList] := SOw.one w4 aat (Nat.le_refl _)
      have hbn : Below w4.heap.size w4 (w4.alloc (.cells #[.string aat] 9)) := below_new (Below.refl _ _) _
      have hb5 := hb4.trans (hbn.mono hb4.size)
      obtain ⟨base, hbase⟩ : ∃ base, base = w4.heap.size := ⟨_, rfl⟩
      have hbs : base ≤ (w4.alloc (.cells #[.string aat] 9)).heap.size := by rw [hbase]; exact hbn.size
      have hr5 : ∀ w', Below base (w4.alloc (.cells #[.string aat] 9)) w' → SRw w' pl (wantL aat.data.toList aps) := fun w' hb => hr4.below (by rw [hbase] at hb; exact hbn.trans hb)
      rw [← hbase] at hown
      go_upto_region 8 with fail
      rw [← hbase]
      obtain ⟨w5, hw5⟩ : ∃ w5, w5 = w4.alloc (.cells #[.string aat] 9) := ⟨_, rfl⟩
      rw [← hw5] at hown hr5 hb5 hbs ⊢
      have HR4 := Lib.hid hr5
      have HB5 := Lib.hid hb5
      have h1b : w1.heap.size ≤ base := by rw [hbase]; exact hb4.size
      have HOW := Lib.hid hown
      clear hw5 hr4 hr5 hb5 hbase hbn x0 hb4 hb3 hown
      go_wp2_with fail
      go_loopw [13, 14] (fun ov iv wr => ∃ (k : Nat) (os : List (List UInt8)), k ≤ aN ∧ iv = .int .i64 (k : Int) ∧ SOw wr base ov os ∧ os.length ≤ k + 1 ∧ Hid (os = wantL aat.data.toList (aps.take k)) ∧ Hid (Below base w5 wr) ∧ base ≤ wr.heap.size ∧ Hid (Below w1.heap.size w1 wr)) (fun _ iv _ => aN - (intOf iv).toNat)
      case atStart => exact ⟨0, _, by omega, rfl, HOW.out, by simp, rfl, Below.refl _ _, hbs, HB5.out⟩
      case round =>
        clear HOW
        obtain ⟨k, os, hk, rfl, ho, hol, HO, HB, hs, HBW⟩ := hrel
        obtain ⟨c0, c1, -⟩ := cm_at ((HBW.out.block _ (row_lt HXA.out)).trans HXA.out)
        by_cases hlt : k < aN
        · have hkl : k < aps.length := by rw [← HNA.out]; exact hlt
          obtain ⟨x, hx⟩ : ∃ x, x = str aps[k] := ⟨_, rfl⟩
          have hxl : x.data.toList = aps[k] := by rw [hx]; rfl
          obtain ⟨gp, op, rfl, hgp, a0⟩ := HPA.out.below HBW.out k hkl
          rw [← hx] at a0
          obtain ⟨X, hX⟩ : ∃ X, X = decide (x.data.toList = aat.data.toList) := ⟨_, rfl⟩
          have hXe : (x.toList == aat.toList) = X := by rw [ByteArray.toList_eq, ByteArray.toList_eq, hX]; exact beq_decide _ _
          have HWL := Lib.hid (wantL_take aat.data.toList hkl)
          rw [← hxl] at HWL
          have k0 : ∀ y : BelW wr, y.w.cell? ⟨A, 0, none⟩ = some (.string aat) := fun y => cell_bel c0 y.h
          have k1 : ∀ y : BelW wr, y.w.cell? ⟨A, 1, none⟩ = some (.slice (some ⟨gp, op, none⟩) aN ac) := fun y => cell_bel c1 y.h
          have ka : ∀ y : BelW wr, y.w.cell? ⟨gp, op + k, none⟩ = some (.string x) := fun y => cell_bel a0 y.h
          have i0 : (0 : Int) ≤ (k : Int) := by omega
          have i1 : (k : Int) < (aN : Int) := by omega
          have hq : Nonempty (BelW wr) := ⟨⟨wr, Below.refl _ _⟩⟩
          clear hx hkl hgp hxl
          rcases X with _ | _
          · have HO2 : Hid (os ++ [x.data.toList] = wantL aat.data.toList (aps.take (k + 1))) := by show _ = _; rw [HWL.out, if_neg (of_decide_eq_false hX.symm), ← HO.out]
            clear hX
            go_upto_region 11 with fail
            clear c0 c1 a0
            refine wp_region_bel (w0 := wr) (Below.refl _ _) (by kernel_rfl) (by kernel_rfl) ?_
            repeat (go_big_quiet_step (fail))
            refine wpQuiet_nil ?_
            rintro _ ⟨z, rfl⟩
            have d0 := k0 z
            have d1 := k1 z
            have da := ka z
            have HZ := Lib.hid z.h
            have hoz := ho.below z.h
            have hsz := z.h.size
            obtain ⟨wz, hwz⟩ : ∃ wz, wz = z.w := ⟨_, rfl⟩
            rw [← hwz] at d0 d1 da HZ hoz hsz ⊢
            have hs2 : base ≤ wz.heap.size := by omega
            have HBZ := Lib.hid (HB.out.trans (HZ.out.mono hs))
            have HBV := Lib.hid (HBW.out.trans (HZ.out.mono HBW.out.size))
            clear k0 k1 ka hwz ho hq
            clear z
            go_wp2_with (at_builtin; refine wp_so_one rfl _ _ rfl rfl hoz x rfl (by omega) hs2 ?_; intro v4 w6 ho4 hg4; have hb6 := hoz.bel1 HBZ.out (Nat.le_refl _) hs2 hg4; have hb7 := hoz.bel1 HBV.out h1b HBV.out.size hg4; have hs4 := hg4.size)
            go_roundw
            case rel => exact ⟨k + 1, _, by omega, by go_num, ho4, by simp; omega, HO2.out, hb6, by simp at hs4; omega, hb7⟩
            case measure => simp [intOf]; omega
          · have HO2 : Hid (os = wantL aat.data.toList (aps.take (k + 1))) := by show _ = _; rw [HWL.out, if_pos (of_decide_eq_true hX.symm), ← HO.out]
            clear hX
            go_upto_region 11 with fail
            clear c0 c1 a0
            refine wp_region_bel (w0 := wr) (Below.refl _ _) (by kernel_rfl) (by kernel_rfl) ?_
            repeat (go_big_quiet_step (fail))
            refine wpQuiet_nil ?_
            rintro _ ⟨z, rfl⟩
            have d0 := k0 z
            have d1 := k1 z
            have da := ka z
            have HZ := Lib.hid z.h
            have hoz := ho.below z.h
            have hsz := z.h.size
            obtain ⟨wz, hwz⟩ : ∃ wz, wz = z.w := ⟨_, rfl⟩
            rw [← hwz] at d0 d1 da HZ hoz hsz ⊢
            have hs2 : base ≤ wz.heap.size := by omega
            have HBZ := Lib.hid (HB.out.trans (HZ.out.mono hs))
            have HBV := Lib.hid (HBW.out.trans (HZ.out.mono HBW.out.size))
            clear k0 k1 ka hwz ho hq
            clear z
            go_wp2_with fail
            go_roundw
            case rel => exact ⟨k + 1, _, by omega, by go_num, hoz, by omega, HO2.out, HBZ.out, hs2, HBV.out⟩
            case measure => simp [intOf]; omega
        obtain rfl : k = aN := by omega
        have HOX : Hid (os = wantL aat.data.toList aps) := by
          show _ = _
          rw [HO.out, List.take_of_length_le (by have := HNA.out; omega)]
        have hLN : os.length = NW := by rw [HOX.out, HNW.out]
        obtain ⟨po, co, hov, hro⟩ := ho.rw
        rw [hLN] at hov
        subst hov
        have HSS : Hid (Calls Tryz.prog 32 #[.slice pl NW cl, .slice po NW co] wr fun e w' => e = .returned (.bool true) ∧ Below w1.heap.size w1 w') := by
          refine (rsame6C_any (wantL aat.data.toList aps) os pl po cl co NW NW wr HNW.out hLN.symm (HR4.out wr HB.out) hro (by omega)).mono fun e w' ⟨h1, kk, h2⟩ => ⟨by rw [h1, HOX.out]; simp, by rw [h2]; exact below_drewN HBW.out kk⟩
        clear hro HOX HO HR4 ho hLN c0
        go_upto_region 15 with (go_at_call 32; ((with_reducible refine (HSS.out).mono ?_); rintro e w6 ⟨rfl, hb6⟩))
        obtain ⟨x0, x1, x2, x3, x4, x5, x6, x7, x8, x9, x10⟩ := cm_at ((hb6.block _ (row_lt HXA.out)).trans HXA.out)
        obtain ⟨y0, y1, y2, y3, y4, y5, y6, y7, y8, y9, y10⟩ := cm_at ((hb6.block _ (row_lt HXB.out)).trans HXB.out)
        go_upto_region 17 with (go_at_call 15; ((with_reducible refine (HFSS.out _ hb6).mono ?_); rintro e w7 ⟨R, rfl, hRR, hb7⟩; obtain rfl := HQ.out R hRR))
        have hbv := hb7
        clear x0 x1 x2 x3 x4 x5 x6 x7 x8 x9 x10 y0 y1 y2 y3 y4 y5 y6 y7 y8 y9 y10 hRR
        obtain ⟨z0, z1, z2, z3, z4, z5, z6, z7⟩ := tg_at ((hbv.block _ (row_lt HXG.out)).trans HXG.out)
        go_upto_region 18 with (go_at_call 19; ((with_reducible refine (HTB.out _ hbv).mono ?_); rintro e wt ⟨rfl, hbt⟩))
        clear z0 z1 z2 z3 z4 z5 z6 z7
        go_upto_region 20 with fail
        go_upto_region 21 with (go_at_call 28; ((with_reducible refine (HLG.out _ hbt).mono ?_); rintro e w9 ⟨⟨pl, cl, rfl, hr9⟩, hb9⟩))
        obtain ⟨gl, ol, rfl, -, x9⟩ := hr9 0 (by simp)
        have x9 : w9.cell? ⟨gl, ol, none⟩ = some (.string gt) := x9
        have z9 := (tg_at ((hb9.block _ (row_lt HXG.out)).trans HXG.out)).1
        have HB9 := Lib.hid hb9
        have HLW : Hid (∀ w', (Below w9.heap.size w9 w' ∧ w'.cell? ⟨gl, ol, none⟩ = some (.string gt) ∧ w'.cell? ⟨G, 0, none⟩ = some (.string gt)) → Calls Tryz.prog 9 #[] w' fun e w'' => e = .returned (.bool true) ∧ Below w'.heap.size w' w'' ∧ Below w9.heap.size w9 w'') := fun w' h => (HLV2.out w' (HB9.out.trans (h.1.mono HB9.out.size))).mono fun e w'' ⟨h1, h2⟩ => ⟨h1, h2, h.1.trans (h2.mono h.1.size)⟩
        clear hr9 hb9 HLV HLV2
        go_region_held3 (fun w' => Below w9.heap.size w9 w' ∧ w'.cell? ⟨gl, ol, none⟩ = some (.string gt) ∧ w'.cell? ⟨G, 0, none⟩ = some (.string gt)) (first
          | exact keepC2 hb5 (by assumption)
          | exact keepC2 one_drew ⟨Below.refl _ _, x9, z9⟩) (first
          | (go_at_call 9; ((with_reducible refine (HLW.out _ (by assumption)).mono ?_); rintro e v1 ⟨rfl, hb5, hd5⟩)))
        all_goals go_wp2_with fail
        all_goals go_ret
        all_goals exact ⟨rfl, HBX.out.trans ((HB9.out.trans (hd5.mono HB9.out.size)).mono HBX.out.size)⟩
    · have gK : ((EG : Int) != 0) = true := by simp; omega
      clear HFLG hK hE hF
      go_enter Tryz.func8, Tryz.ntmps8
      go_upto_region 1 with fail
      rw [← HC3.out, ← HC2.out, ← HC1.out, ← HWA.out, ← HWB.out, ← HW1.out]
      have hb0 := Below.refl w1.heap.size w1
      obtain ⟨x0, x1, x2, x3, x4, x5, x6, x7, x8, x9, x10⟩ := cm_at HXA.out
      obtain ⟨y0, y1, y2, y3, y4, y5, y6, y7, y8, y9, y10⟩ := cm_at HXB.out
      obtain ⟨z0, z1, z2, z3, z4, z5, z6, z7⟩ := tg_at HXG.out
      go_upto_region 4 with (go_at_call 10; ((with_reducible refine (HBA.out _ hb0).mono ?_); rintro e w2 ⟨rfl, hb2⟩))
      clear x0 x1 x2 x3 x4 x5 x6 x7 x8 x9 x10 y0 y1 y2 y3 y4 y5 y6 y7 y8 y9 y10 z0 z1 z2 z3 z4 z5 z6 z7
      obtain ⟨y0, y1, y2, y3, y4, y5, y6, y7, y8, y9, y10⟩ := cm_at ((hb2.block _ (row_lt HXB.out)).trans HXB.out)
      go_upto_region 5 with (go_at_call 10; ((with_reducible refine (HBB.out _ hb2).mono ?_); rintro e w3 ⟨rfl, hb3⟩))
      clear y0 y1 y2 y3 y4 y5 y6 y7 y8 y9 y10 hb2 hb0
      go_upto_region 7 with (go_at_call 28; ((with_reducible refine (HLC.out _ hb3).mono ?_); rintro e w4 ⟨⟨pl, cl, rfl, hr4⟩, hb4⟩))
      have x0 := (cm_at ((hb4.block _ (row_lt HXA.out)).trans HXA.out)).1
      have hown : SOw (w4.alloc (.cells #[.string aat] 9)) w4.heap.size (.slice (some ⟨w4.heap.size, 0, none⟩) 1 1) [aat.data.toList] := SOw.one w4 aat (Nat.le_refl _)
      have hbn : Below w4.heap.size w4 (w4.alloc (.cells #[.string aat] 9)) := below_new (Below.refl _ _) _
      have hb5 := hb4.trans (hbn.mono hb4.size)
      obtain ⟨base, hbase⟩ : ∃ base, base = w4.heap.size := ⟨_, rfl⟩
      have hbs : base ≤ (w4.alloc (.cells #[.string aat] 9)).heap.size := by rw [hbase]; exact hbn.size
      have hr5 : ∀ w', Below base (w4.alloc (.cells #[.string aat] 9)) w' → SRw w' pl (wantL aat.data.toList aps) := fun w' hb => hr4.below (by rw [hbase] at hb; exact hbn.trans hb)
      rw [← hbase] at hown
      go_upto_region 8 with fail
      rw [← hbase]
      obtain ⟨w5, hw5⟩ : ∃ w5, w5 = w4.alloc (.cells #[.string aat] 9) := ⟨_, rfl⟩
      rw [← hw5] at hown hr5 hb5 hbs ⊢
      have HR4 := Lib.hid hr5
      have HB5 := Lib.hid hb5
      have h1b : w1.heap.size ≤ base := by rw [hbase]; exact hb4.size
      have HOW := Lib.hid hown
      clear hw5 hr4 hr5 hb5 hbase hbn x0 hb4 hb3 hown
      go_wp2_with fail
      go_loopw [13, 14] (fun ov iv wr => ∃ (k : Nat) (os : List (List UInt8)), k ≤ aN ∧ iv = .int .i64 (k : Int) ∧ SOw wr base ov os ∧ os.length ≤ k + 1 ∧ Hid (os = wantL aat.data.toList (aps.take k)) ∧ Hid (Below base w5 wr) ∧ base ≤ wr.heap.size ∧ Hid (Below w1.heap.size w1 wr)) (fun _ iv _ => aN - (intOf iv).toNat)
      case atStart => exact ⟨0, _, by omega, rfl, HOW.out, by simp, rfl, Below.refl _ _, hbs, HB5.out⟩
      case round =>
        clear HOW
        obtain ⟨k, os, hk, rfl, ho, hol, HO, HB, hs, HBW⟩ := hrel
        obtain ⟨c0, c1, -⟩ := cm_at ((HBW.out.block _ (row_lt HXA.out)).trans HXA.out)
        by_cases hlt : k < aN
        · have hkl : k < aps.length := by rw [← HNA.out]; exact hlt
          obtain ⟨x, hx⟩ : ∃ x, x = str aps[k] := ⟨_, rfl⟩
          have hxl : x.data.toList = aps[k] := by rw [hx]; rfl
          obtain ⟨gp, op, rfl, hgp, a0⟩ := HPA.out.below HBW.out k hkl
          rw [← hx] at a0
          obtain ⟨X, hX⟩ : ∃ X, X = decide (x.data.toList = aat.data.toList) := ⟨_, rfl⟩
          have hXe : (x.toList == aat.toList) = X := by rw [ByteArray.toList_eq, ByteArray.toList_eq, hX]; exact beq_decide _ _
          have HWL := Lib.hid (wantL_take aat.data.toList hkl)
          rw [← hxl] at HWL
          have k0 : ∀ y : BelW wr, y.w.cell? ⟨A, 0, none⟩ = some (.string aat) := fun y => cell_bel c0 y.h
          have k1 : ∀ y : BelW wr, y.w.cell? ⟨A, 1, none⟩ = some (.slice (some ⟨gp, op, none⟩) aN ac) := fun y => cell_bel c1 y.h
          have ka : ∀ y : BelW wr, y.w.cell? ⟨gp, op + k, none⟩ = some (.string x) := fun y => cell_bel a0 y.h
          have i0 : (0 : Int) ≤ (k : Int) := by omega
          have i1 : (k : Int) < (aN : Int) := by omega
          have hq : Nonempty (BelW wr) := ⟨⟨wr, Below.refl _ _⟩⟩
          clear hx hkl hgp hxl
          rcases X with _ | _
          · have HO2 : Hid (os ++ [x.data.toList] = wantL aat.data.toList (aps.take (k + 1))) := by show _ = _; rw [HWL.out, if_neg (of_decide_eq_false hX.symm), ← HO.out]
            clear hX
            go_upto_region 11 with fail
            clear c0 c1 a0
            refine wp_region_bel (w0 := wr) (Below.refl _ _) (by kernel_rfl) (by kernel_rfl) ?_
            repeat (go_big_quiet_step (fail))
            refine wpQuiet_nil ?_
            rintro _ ⟨z, rfl⟩
            have d0 := k0 z
            have d1 := k1 z
            have da := ka z
            have HZ := Lib.hid z.h
            have hoz := ho.below z.h
            have hsz := z.h.size
            obtain ⟨wz, hwz⟩ : ∃ wz, wz = z.w := ⟨_, rfl⟩
            rw [← hwz] at d0 d1 da HZ hoz hsz ⊢
            have hs2 : base ≤ wz.heap.size := by omega
            have HBZ := Lib.hid (HB.out.trans (HZ.out.mono hs))
            have HBV := Lib.hid (HBW.out.trans (HZ.out.mono HBW.out.size))
            clear k0 k1 ka hwz ho hq
            clear z
            go_wp2_with (at_builtin; refine wp_so_one rfl _ _ rfl rfl hoz x rfl (by omega) hs2 ?_; intro v4 w6 ho4 hg4; have hb6 := hoz.bel1 HBZ.out (Nat.le_refl _) hs2 hg4; have hb7 := hoz.bel1 HBV.out h1b HBV.out.size hg4; have hs4 := hg4.size)
            go_roundw
            case rel => exact ⟨k + 1, _, by omega, by go_num, ho4, by simp; omega, HO2.out, hb6, by simp at hs4; omega, hb7⟩
            case measure => simp [intOf]; omega
          · have HO2 : Hid (os = wantL aat.data.toList (aps.take (k + 1))) := by show _ = _; rw [HWL.out, if_pos (of_decide_eq_true hX.symm), ← HO.out]
            clear hX
            go_upto_region 11 with fail
            clear c0 c1 a0
            refine wp_region_bel (w0 := wr) (Below.refl _ _) (by kernel_rfl) (by kernel_rfl) ?_
            repeat (go_big_quiet_step (fail))
            refine wpQuiet_nil ?_
            rintro _ ⟨z, rfl⟩
            have d0 := k0 z
            have d1 := k1 z
            have da := ka z
            have HZ := Lib.hid z.h
            have hoz := ho.below z.h
            have hsz := z.h.size
            obtain ⟨wz, hwz⟩ : ∃ wz, wz = z.w := ⟨_, rfl⟩
            rw [← hwz] at d0 d1 da HZ hoz hsz ⊢
            have hs2 : base ≤ wz.heap.size := by omega
            have HBZ := Lib.hid (HB.out.trans (HZ.out.mono hs))
            have HBV := Lib.hid (HBW.out.trans (HZ.out.mono HBW.out.size))
            clear k0 k1 ka hwz ho hq
            clear z
            go_wp2_with fail
            go_roundw
            case rel => exact ⟨k + 1, _, by omega, by go_num, hoz, by omega, HO2.out, HBZ.out, hs2, HBV.out⟩
            case measure => simp [intOf]; omega
        obtain rfl : k = aN := by omega
        have HOX : Hid (os = wantL aat.data.toList aps) := by
          show _ = _
          rw [HO.out, List.take_of_length_le (by have := HNA.out; omega)]
        have hLN : os.length = NW := by rw [HOX.out, HNW.out]
        obtain ⟨po, co, hov, hro⟩ := ho.rw
        rw [hLN] at hov
        subst hov
        have HSS : Hid (Calls Tryz.prog 32 #[.slice pl NW cl, .slice po NW co] wr fun e w' => e = .returned (.bool true) ∧ Below w1.heap.size w1 w') := by
          refine (rsame6C_any (wantL aat.data.toList aps) os pl po cl co NW NW wr HNW.out hLN.symm (HR4.out wr HB.out) hro (by omega)).mono fun e w' ⟨h1, kk, h2⟩ => ⟨by rw [h1, HOX.out]; simp, by rw [h2]; exact below_drewN HBW.out kk⟩
        clear hro HOX HO HR4 ho hLN c0
        go_upto_region 15 with (go_at_call 32; ((with_reducible refine (HSS.out).mono ?_); rintro e w6 ⟨rfl, hb6⟩))
        obtain ⟨x0, x1, x2, x3, x4, x5, x6, x7, x8, x9, x10⟩ := cm_at ((hb6.block _ (row_lt HXA.out)).trans HXA.out)
        obtain ⟨y0, y1, y2, y3, y4, y5, y6, y7, y8, y9, y10⟩ := cm_at ((hb6.block _ (row_lt HXB.out)).trans HXB.out)
        go_upto_region 17 with (go_at_call 15; ((with_reducible refine (HFSS.out _ hb6).mono ?_); rintro e w7 ⟨R, rfl, hRR, hb7⟩; obtain rfl := HQ.out R hRR))
        have hbv := hb7
        clear x0 x1 x2 x3 x4 x5 x6 x7 x8 x9 x10 y0 y1 y2 y3 y4 y5 y6 y7 y8 y9 y10 hRR
        obtain ⟨z0, z1, z2, z3, z4, z5, z6, z7⟩ := tg_at ((hbv.block _ (row_lt HXG.out)).trans HXG.out)
        go_upto_region 18 with (go_at_call 19; ((with_reducible refine (HTB.out _ hbv).mono ?_); rintro e wt ⟨rfl, hbt⟩))
        clear z0 z1 z2 z3 z4 z5 z6 z7
        go_wp2_with (go_at_call 9; ((with_reducible refine (HLV.out _ hbt).mono ?_); rintro e w2 ⟨rfl, hb2⟩))
        go_ret
        exact ⟨rfl, HBX.out.trans (hb2.mono HBX.out.size)⟩
end Go.Proofs.YtbleabfgekeneaaGreatDoor
