/-
  The walk of (*regions).resolve.
-/
import Derived.Test.YtidghjalfbklnaaThConf
import Derived.Test.YtidghjalfbklnaaThKept
namespace Go.Proofs.Ytidghjalfbklnaa
open Go.RowKit

theorem pcl_drew {w : World} {z base R : Nat} {S : Nat → Prop} {gs : List Rg} {e : Ending} {w' : World} (h : PCl (w.drewN z) base R S gs e w') : PCl w base R S gs e w' := by
  obtain ⟨h1, S', v', xs', h2, h3, h4, h5⟩ := h
  exact ⟨h1, S', v', xs', h2, (Chg.below (below_drewN (Below.refl w.heap.size w) z)).trans' h3, h4, (BoxK.same rfl).trans h5⟩

set_option maxHeartbeats 4000000 in
set_option maxRecDepth 8000 in
theorem presolve_any (gs : List Rg) (b o t : List (List UInt8)) (base R nb cb no co nt ct : Nat) (pb po pt : Option Addr) (S : Nat → Prop) (v : Value) (xs : List Value) (w : World) (h : RS w base R S gs v xs) (hnb : nb = b.length) (hno : no = o.length) (hnt : nt = t.length)
    (hqb : ∀ w', Chg (own2 S R) w w' → SRw w' pb b) (hqo : ∀ w', Chg (own2 S R) w w' → SRw w' po o) (hqt : ∀ w', Chg (own2 S R) w w' → SRw w' pt t) (hco : no ≤ co) (hct : nt ≤ ct)
    (hn : gs.length ≤ 90000) (hl : lastN gs ≤ 500000) (hb1 : nb ≤ 100000) (hno1 : no ≤ 100000) (hnt1 : nt ≤ 100000) (hbase : base ≤ w.heap.size) :
    Calls Try.prog 44 #[.pointer (some ⟨R, 0, none⟩), .slice pb nb cb, .slice po no co, .slice pt nt ct] w (PCl w base R S (resL gs b o t)) := by
  have hd : ∀ z, Chg (own2 S R) w (w.drewN z) := fun z => Chg.below (below_drewN (Below.refl w.heap.size w) z)
  have hk : ∀ z, RS (w.drewN z) base R S gs v xs := fun z => h.keep (below_drewN (Below.refl w.heap.size w) z)
  have HE1 : Hid (∀ z, Calls Try.prog 76 #[.slice po no co, .slice pb nb cb] (w.drewN z) fun e w' => e = .returned (.bool (decide (o = b))) ∧ ∃ k, w' = w.drewN k) := fun z =>
    (equal_any o b po pb co cb no nb (w.drewN z) hno hnb (hqo _ (hd z)) (hqb _ (hd z)) (by omega)).mono fun e w' ⟨he, k, hw⟩ => ⟨he, _, hw.trans (World.drewN_drewN _ _ _)⟩
  have HE2 : Hid (∀ z, Calls Try.prog 76 #[.slice pt nt ct, .slice pb nb cb] (w.drewN z) fun e w' => e = .returned (.bool (decide (t = b))) ∧ ∃ k, w' = w.drewN k) := fun z =>
    (equal_any t b pt pb ct cb nt nb (w.drewN z) hnt hnb (hqt _ (hd z)) (hqb _ (hd z)) (by omega)).mono fun e w' ⟨he, k, hw⟩ => ⟨he, _, hw.trans (World.drewN_drewN _ _ _)⟩
  have HE3 : Hid (∀ z, Calls Try.prog 76 #[.slice po no co, .slice pt nt ct] (w.drewN z) fun e w' => e = .returned (.bool (decide (o = t))) ∧ ∃ k, w' = w.drewN k) := fun z =>
    (equal_any o t po pt co ct no nt (w.drewN z) hno hnt (hqo _ (hd z)) (hqt _ (hd z)) (by omega)).mono fun e w' ⟨he, k, hw⟩ => ⟨he, _, hw.trans (World.drewN_drewN _ _ _)⟩
  have HCt : Hid (∀ z, Calls Try.prog 45 #[.pointer (some ⟨R, 0, none⟩), .slice pt nt ct] (w.drewN z) (PCl w base R S (clG gs t))) := fun z =>
    (pclean_any gs t base R nt ct pt S v xs (w.drewN z) (hk z) hnt (fun w' hw' => hqt w' ((hd z).trans' hw')) (by omega) (fun r hr => by rw [lastN_of hr]; omega) (by omega) hbase).mono fun e w' hh => pcl_drew hh
  have HCo : Hid (∀ z, Calls Try.prog 45 #[.pointer (some ⟨R, 0, none⟩), .slice po no co] (w.drewN z) (PCl w base R S (clG gs o))) := fun z =>
    (pclean_any gs o base R no co po S v xs (w.drewN z) (hk z) hno (fun w' hw' => hqo w' ((hd z).trans' hw')) (by omega) (fun r hr => by rw [lastN_of hr]; omega) (by omega) hbase).mono fun e w' hh => pcl_drew hh
  have HCf : Hid (∀ z, Calls Try.prog 77 #[.pointer (some ⟨R, 0, none⟩), .slice pb nb cb, .slice po no co, .slice pt nt ct] (w.drewN z) (PCl w base R S (confL gs b o t))) := fun z =>
    (pconf_any gs b o t base R nb cb no co nt ct pb po pt S v xs (w.drewN z) (hk z) hnb hno hnt (fun w' hw' => hqb w' ((hd z).trans' hw')) (fun w' hw' => hqo w' ((hd z).trans' hw')) (fun w' hw' => hqt w' ((hd z).trans' hw')) hco hct hn hl hb1 hno1 hnt1 hbase).mono fun e w' hh => pcl_drew hh
  have hw0 : w = w.drewN 0 := rfl
  have HRES : Hid (∀ gs', gs' = resL gs b o t → ∀ e w', PCl w base R S gs' e w' → PCl w base R S (resL gs b o t) e w') := fun gs' hg e w' hh => by rw [← hg]; exact hh
  by_cases c1 : o = b
  · have hr : clG gs t = resL gs b o t := by rw [resL, if_pos c1]
    have HR := Lib.hid hr
    have HE1' : Hid (Calls Try.prog 76 #[.slice po no co, .slice pb nb cb] w fun e w' => e = .returned (.bool true) ∧ ∃ k, w' = w.drewN k) := by
      have := HE1.out 0
      rw [decide_eq_true c1] at this
      exact this
    clear h hnb hno hnt hqb hqo hqt hd hk hw0 c1 hr HE1
    go_enter Try.func44, Try.ntmps44
    go_wp2_with (first
      | (go_at_call 76; ((with_reducible refine HE1'.out.mono ?_); rintro e w1 ⟨rfl, k1, rfl⟩))
      | (go_at_call 45; ((with_reducible refine (HCt.out _).mono ?_); rintro e w2 ⟨rfl, hx⟩)))
    refine bodyPost_end (results_none rfl _ _ _) rfl ?_
    exact HRES.out _ HR.out _ _ ⟨rfl, hx⟩
  have HE1' : Hid (Calls Try.prog 76 #[.slice po no co, .slice pb nb cb] w fun e w' => e = .returned (.bool false) ∧ ∃ k, w' = w.drewN k) := by
    have := HE1.out 0
    rw [decide_eq_false c1] at this
    exact this
  by_cases c2 : t = b
  · have hr : clG gs o = resL gs b o t := by rw [resL, if_neg c1, if_pos (.inl c2)]
    have HR := Lib.hid hr
    have HE2' : Hid (∀ z, Calls Try.prog 76 #[.slice pt nt ct, .slice pb nb cb] (w.drewN z) fun e w' => e = .returned (.bool true) ∧ ∃ k, w' = w.drewN k) := fun z => by
      have := HE2.out z
      rw [decide_eq_true c2] at this
      exact this
    clear h hnb hno hnt hqb hqo hqt hd hk hw0 c1 c2 hr HE1 HE2
    go_enter Try.func44, Try.ntmps44
    go_wp2_with (first
      | (go_at_call 76; first | ((with_reducible refine HE1'.out.mono ?_); rintro e w1 ⟨rfl, k1, rfl⟩) | ((with_reducible refine (HE2'.out _).mono ?_); rintro e w1 ⟨rfl, k2, rfl⟩))
      | (go_at_call 45; ((with_reducible refine (HCo.out _).mono ?_); rintro e w2 ⟨rfl, hx⟩)))
    refine bodyPost_end (results_none rfl _ _ _) rfl ?_
    exact HRES.out _ HR.out _ _ ⟨rfl, hx⟩
  have HE2' : Hid (∀ z, Calls Try.prog 76 #[.slice pt nt ct, .slice pb nb cb] (w.drewN z) fun e w' => e = .returned (.bool false) ∧ ∃ k, w' = w.drewN k) := fun z => by
    have := HE2.out z
    rw [decide_eq_false c2] at this
    exact this
  by_cases c3 : o = t
  · have hr : clG gs o = resL gs b o t := by rw [resL, if_neg c1, if_pos (.inr c3)]
    have HR := Lib.hid hr
    have HE3' : Hid (∀ z, Calls Try.prog 76 #[.slice po no co, .slice pt nt ct] (w.drewN z) fun e w' => e = .returned (.bool true) ∧ ∃ k, w' = w.drewN k) := fun z => by
      have := HE3.out z
      rw [decide_eq_true c3] at this
      exact this
    clear h hnb hno hnt hqb hqo hqt hd hk hw0 c1 c2 c3 hr HE1 HE2 HE3
    go_enter Try.func44, Try.ntmps44
    go_wp2_with (first
      | (go_at_call 76; first | ((with_reducible refine HE1'.out.mono ?_); rintro e w1 ⟨rfl, k1, rfl⟩) | ((with_reducible refine (HE2'.out _).mono ?_); rintro e w1 ⟨rfl, k2, rfl⟩) | ((with_reducible refine (HE3'.out _).mono ?_); rintro e w1 ⟨rfl, k3, rfl⟩))
      | (go_at_call 45; ((with_reducible refine (HCo.out _).mono ?_); rintro e w2 ⟨rfl, hx⟩)))
    refine bodyPost_end (results_none rfl _ _ _) rfl ?_
    exact HRES.out _ HR.out _ _ ⟨rfl, hx⟩
  · have hr : confL gs b o t = resL gs b o t := by rw [resL, if_neg c1, if_neg (by rintro (h | h); exact c2 h; exact c3 h)]
    have HR := Lib.hid hr
    have HE3' : Hid (∀ z, Calls Try.prog 76 #[.slice po no co, .slice pt nt ct] (w.drewN z) fun e w' => e = .returned (.bool false) ∧ ∃ k, w' = w.drewN k) := fun z => by
      have := HE3.out z
      rw [decide_eq_false c3] at this
      exact this
    clear h hnb hno hnt hqb hqo hqt hd hk hw0 c1 c2 c3 hr HE1 HE2 HE3
    go_enter Try.func44, Try.ntmps44
    go_wp2_with (first
      | (go_at_call 76; first | ((with_reducible refine HE1'.out.mono ?_); rintro e w1 ⟨rfl, k1, rfl⟩) | ((with_reducible refine (HE2'.out _).mono ?_); rintro e w1 ⟨rfl, k2, rfl⟩) | ((with_reducible refine (HE3'.out _).mono ?_); rintro e w1 ⟨rfl, k3, rfl⟩))
      | (go_at_call 77; ((with_reducible refine (HCf.out _).mono ?_); rintro e w2 ⟨rfl, hx⟩)))
    refine bodyPost_end (results_none rfl _ _ _) rfl ?_
    exact HRES.out _ HR.out _ _ ⟨rfl, hx⟩
end Go.Proofs.Ytidghjalfbklnaa
/-
  The places of the lines that are kept grow from line to line; what a merge gives: plain mathematics.
-/
namespace Go.Proofs.Ytidghjalfbklnaa
open Go.RowKit

theorem setRun_get (l : List Int) (a b : Nat) : ∀ (n k : Nat), (setRun l a b n)[k]? = if a ≤ k ∧ k < a + n ∧ k < l.length then some ((b + (k - a) : Nat) : Int) else l[k]?
  | 0, k => by rw [if_neg (by omega)]; rfl
  | n + 1, k => by
    rw [setRun, List.getElem?_set]
    split
    · rename_i h
      subst h
      rw [setRun_len]
      split
      · rename_i h
        rw [if_pos ⟨by omega, by omega, h⟩]
        congr 2
        omega
      · rename_i h
        rw [if_neg (by omega), List.getElem?_eq_none (by omega)]
    · rename_i h
      rw [setRun_get l a b n k]
      by_cases hc : a ≤ k ∧ k < a + n ∧ k < l.length
      · rw [if_pos hc, if_pos (by omega)]
      · rw [if_neg hc, if_neg (by omega)]
/-- Places as they grow. -/
structure Mon (A B : List (List UInt8)) (l : List Int) (i j : Nat) : Prop where
  val : ∀ (k : Nat) (x : Int), l[k]? = some x → x = -1 ∨ (0 ≤ x ∧ x < (j : Int) ∧ k < i ∧ A[k]? = B[x.toNat]?)
  mono : ∀ (k k' : Nat) (x x' : Int), k < k' → l[k]? = some x → l[k']? = some x' → 0 ≤ x → 0 ≤ x' → x < x'
theorem mon_runs (A B : List (List UInt8)) : ∀ (rs : List Rn) (l : List Int) (i j i' j' : Nat), l.length = A.length → Mon A B l i j → Ch A B rs i j i' j' → ∃ i2 j2, Mon A B (setRuns l rs) i2 j2 ∧ j2 ≤ max j B.length
  | [], l, i, j, i', j', hl, hm, _ => ⟨i, j, hm, by omega⟩
  | r :: rs, l, i, j, i', j', hl, hm, hc => by
    obtain ⟨a, b, n, rfl, h1, h2, h3, h4, h5, h6, hc2⟩ := hc
    have heq : ∀ t, t < n → A[a + t]? = B[b + t]? := fun t ht => by
      have := congrArg (·[t]?) h6
      simp only [List.getElem?_take, List.getElem?_drop, if_pos ht] at this
      exact this
    rw [setRuns]
    simp only [Int.toNat_natCast]
    have hm2 : Mon A B (setRun l a b n) (a + n) (b + n) := by
      refine ⟨fun k x hx => ?_, fun k k' x x' hk hx hx' p p' => ?_⟩
      · rw [setRun_get] at hx
        split at hx
        · rename_i hc
          simp only [Option.some.injEq] at hx
          subst hx
          right
          refine ⟨by omega, by omega, by omega, ?_⟩
          have := heq (k - a) (by omega)
          rw [show a + (k - a) = k by omega] at this
          rw [this, Int.toNat_natCast]
        · rcases hm.val k x hx with h | ⟨p1, p2, p3, p4⟩
          · exact .inl h
          · exact .inr ⟨p1, by omega, by omega, p4⟩
      · rw [setRun_get] at hx hx'
        split at hx
        · rename_i hc
          simp only [Option.some.injEq] at hx
          split at hx'
          · simp only [Option.some.injEq] at hx'
            omega
          · rcases hm.val k' x' hx' with h | ⟨p1, p2, p3, _⟩
            · omega
            · omega
        · rename_i hc
          split at hx'
          · simp only [Option.some.injEq] at hx'
            rcases hm.val k x hx with h | ⟨p1, p2, p3, _⟩
            · omega
            · omega
          · exact hm.mono k k' x x' hk hx hx' p p'
    obtain ⟨i2, j2, q1, q2⟩ := mon_runs A B rs (setRun l a b n) (a + n) (b + n) i' j' (by rw [setRun_len]; exact hl) hm2 hc2
    exact ⟨i2, j2, q1, by omega⟩
theorem kpL_mon {X Y : List (List UInt8)} (hx : X.length ≤ 4096) (hy : Y.length ≤ 4096) : ∃ i j, Mon X Y (kpL X Y) i j ∧ j ≤ Y.length := by
  have hc := stL_ch X Y wrap64 (fun z h1 h2 => wrap_small h1 (by omega)) (leastL X Y) true 0 0 (leastL_val ⟨hx, hy⟩) (Nat.zero_le _) (Nat.zero_le _)
  have h0 : Mon X Y (List.replicate X.length (-1)) 0 0 := by
    refine ⟨fun k x h => ?_, fun k k' x x' _ h h' p => ?_⟩
    · left
      rw [List.getElem?_replicate] at h
      split at h
      · simpa using h.symm
      · cases h
    · rw [List.getElem?_replicate] at h
      split at h
      · simp at h
        omega
      · cases h
  obtain ⟨i, j, h1, h2⟩ := mon_runs X Y _ _ 0 0 _ _ (by simp) h0 hc
  exact ⟨i, j, h1, by omega⟩
theorem kpL_len (X Y : List (List UInt8)) : (kpL X Y).length = X.length := by rw [kpL, setRuns_len, List.length_replicate]

/-- The merge, from the line at on: n lines are left; b, o, t are where the stretch begins. -/
def mrg (X Y Z : List (List UInt8)) (p q : List Int) : Nat → Nat → List Rg → Nat → Nat → Nat → List Rg
  | 0, _, gs, b, o, t => resL gs (X.drop b) (Y.drop o) (Z.drop t)
  | n + 1, k, gs, b, o, t =>
    if (p[k]?.getD (-1)) < 0 ∨ (q[k]?.getD (-1)) < 0 then mrg X Y Z p q n (k + 1) gs b o t
    else mrg X Y Z p q n (k + 1) (clG (resL gs ((X.drop b).take (k - b)) ((Y.drop o).take ((p[k]?.getD (-1)).toNat - o)) ((Z.drop t).take ((q[k]?.getD (-1)).toNat - t))) ((X.drop k).take 1)) (k + 1) ((p[k]?.getD (-1)).toNat + 1) ((q[k]?.getD (-1)).toNat + 1)
/-- The regions of a merge. -/
def mergeL (X Y Z : List (List UInt8)) : List Rg := mrg X Y Z (kpL X Y) (kpL X Z) X.length 0 [] 0 0 0
theorem lastN_res (gs : List Rg) (b o t : List (List UInt8)) : lastN (resL gs b o t) ≤ lastN gs + o.length + t.length ∧ (resL gs b o t).length ≤ gs.length + 3 := by
  unfold resL
  split
  · have := lastN_cl gs t; omega
  split
  · have := lastN_cl gs o; omega
  · have := lastN_conf gs b o t; omega
end Go.Proofs.Ytidghjalfbklnaa
