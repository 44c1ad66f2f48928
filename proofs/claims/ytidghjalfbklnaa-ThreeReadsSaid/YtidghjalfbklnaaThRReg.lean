/-
  The walks of the reference's clean and region.
-/
import Derived.Test.YtidghjalfbklnaaStepGrowPk
import Derived.Deep.RegionWith
namespace Go.Proofs.Ytidghjalfbklnaa
open Go.RowKit

set_option maxHeartbeats 4000000 in
set_option maxRecDepth 8000 in
theorem rcl_any (gs : List Rg) (ls : List (List UInt8)) (p q : Option Addr) (base n cap m d : Nat) (w : World) (hn : n = gs.length) (hm : m = ls.length) (ho : GOw w base (.slice p n cap) gs) (hbase : base ≤ w.heap.size) (hq : ∀ w', w.grownBy w' (Value.slice p n cap).ownBlock → SRw w' q ls) (hl : n ≤ 100000) (hm1 : m ≤ 400000) (hlast : lastN gs ≤ 400000) :
    Calls Try.prog 48 #[.slice p n cap, .slice q m d] w (RGR w base (.slice p n cap) (clG gs ls)) := by
  by_cases h0 : m = 0
  · have hls : ls = [] := List.eq_nil_of_length_eq_zero (by omega)
    have HR : Hid (RGR w base (.slice p n cap) (clG gs ls) (.returned (.slice p n cap)) w) := by
      rw [clG, if_pos hls]
      exact ⟨p, n, cap, rfl, hn, ho, grown_refl _ _, .inl rfl⟩
    subst h0
    clear hn hm ho hq hls hlast
    go_enter Try.func48, Try.ntmps48
    go_wp2
    go_ret
    exact HR.out
  · have hls : ls ≠ [] := fun e => by rw [e] at hm; exact h0 hm
    have hnew : (∀ r, gs.getLast? = some r → r.k ≠ 1) → clG gs ls = gs ++ [⟨1, ls, [], [], []⟩] → Calls Try.prog 48 #[.slice p n cap, .slice q m d] w (RGR w base (.slice p n cap) (clG gs ls)) := fun h1 h2 => by
      rw [h2]
      exact (rclN_any gs ls p q base n cap m d w hn hm ho hbase hq hl (by omega) (by omega) h1).mono fun e w' ⟨g, cap', he, hg, hgr, hat⟩ => ⟨some ⟨g, 0, none⟩, n + 1, cap', he, by rw [List.length_append, List.length_singleton, hn], hg, hgr, by
        rcases hat with h | h
        · exact .inl h.symm
        · exact .inr fun k hk => by
            have : g = k := by simpa [Value.ownBlock] using hk
            omega⟩
    cases hg : gs.getLast? with
    | none =>
      refine hnew (fun r hr => by rw [hg] at hr; cases hr) ?_
      rw [clG, if_neg hls, hg]
      rw [List.getLast?_eq_none_iff] at hg
      rw [hg]
      rfl
    | some r =>
      by_cases hk : r.k = 1
      · have e : clG gs ls = gs.dropLast ++ [⟨1, r.l ++ ls, r.o, r.b, r.t⟩] := by
          rw [clG, if_neg hls, hg]
          show (if r.k = 1 then _ else _) = _
          rw [if_pos hk, hk]
        rw [e]
        exact rclC_any gs ls p q base n cap m d r w hn hm ho hbase hq hl (by omega) hm1 hg hk (by rw [lastN_of hg]; exact hlast)
      · refine hnew (fun s hs => by rw [hg, Option.some.injEq] at hs; rw [← hs]; exact hk) ?_
        rw [clG, if_neg hls, hg]
        show (if r.k = 1 then _ else _) = _
        rw [if_neg hk]

/-- A region laid behind regions of the call's own. -/
theorem GOw.put {w wE w6 : World} {base n cap g c6 H : Nat} {p : Option Addr} {gs : List Rg} {xs : List Value} {r : Rg} {v0 v1 v2 v3 v4 : Value} (hn : n = gs.length)
    (hst : ∀ w', w.grownBy w' (Value.slice p n cap).ownBlock → ∀ k (h : k < gs.length), ∃ v0 v1 v2 v3 v4, xs[k * 5]? = some v0 ∧ xs[k * 5 + 1]? = some v1 ∧ xs[k * 5 + 2]? = some v2 ∧ xs[k * 5 + 3]? = some v3 ∧ xs[k * 5 + 4]? = some v4 ∧ RgC w' gs[k] v0 v1 v2 v3 v4)
    (hxl : xs.length = n * 5) (hE : Below w.heap.size w wE) (hH : wE.heap.size = H) (ho : w6.ownsRow base 43 5 (.slice (some ⟨g, 0, none⟩) (n + 1) c6) (n + 1) (xs ++ [v0, v1, v2, v3, v4])) (hg : wE.grownBy w6 (Value.slice p n cap).ownBlock) (hat : (Value.slice p n cap).ownBlock = some g ∨ g = H)
    (hr : ∀ w', w.grownBy w' (Value.slice p n cap).ownBlock → RgC w' r v0 v1 v2 v3 v4) :
    GOw w6 base (.slice (some ⟨g, 0, none⟩) (n + 1) c6) (gs ++ [r]) ∧ w.grownBy w6 (Value.slice p n cap).ownBlock ∧ ((Value.slice (some ⟨g, 0, none⟩) (n + 1) c6).ownBlock = (Value.slice p n cap).ownBlock ∨ ∀ k, (Value.slice (some ⟨g, 0, none⟩) (n + 1) c6).ownBlock = some k → w.heap.size ≤ k) := by
  have hw6 : w.grownBy w6 (Value.slice p n cap).ownBlock := grown_chain (grown_any (grown_of_below hE)) hg (.inl rfl)
  have hat2 : (Value.slice p n cap).ownBlock = some g ∨ w.heap.size ≤ g := hat.imp id fun e => by have := hE.size; omega
  refine ⟨?_, hw6, hat2.imp (fun h => h.symm) fun h k hk => ?_⟩
  · subst hn
    refine GOw.snoc hxl hst hw6 hat2 ho fun w' hw' => hr w' (grown_chain hw6 hw' ?_)
    rcases hat2 with h | h
    · exact .inl h.symm
    · exact .inr fun k hk => by cases hk; exact h
  · have : g = k := by simpa [Value.ownBlock] using hk
    omega

set_option maxHeartbeats 8000000 in
set_option maxRecDepth 10000 in
theorem rconf_any (gs : List Rg) (b o t : List (List UInt8)) (p pb po pt : Option Addr) (base n cap nb cb no co nt ct : Nat) (w : World) (hn : n = gs.length) (ho : GOw w base (.slice p n cap) gs) (hbase : base ≤ w.heap.size) (hnb : nb = b.length) (hno : no = o.length) (hnt : nt = t.length)
    (hqb : ∀ w', w.grownBy w' (Value.slice p n cap).ownBlock → SRw w' pb b) (hqo : ∀ w', w.grownBy w' (Value.slice p n cap).ownBlock → SRw w' po o) (hqt : ∀ w', w.grownBy w' (Value.slice p n cap).ownBlock → SRw w' pt t) (hcb : nb ≤ cb) (hco : no ≤ co) (hct : nt ≤ ct)
    (hl : n ≤ 90000) (hlast : lastN gs ≤ 300000) (hb1 : nb ≤ 100000) (hno1 : no ≤ 100000) (hnt1 : nt ≤ 100000) (h1 : o ≠ b) (h2 : t ≠ b) (h3 : o ≠ t) :
    Calls Try.prog 47 #[.slice p n cap, .slice pb nb cb, .slice po no co, .slice pt nt ct] w (RGR w base (.slice p n cap) (confL gs b o t)) := by
  have hd : ∀ z, w.grownBy (w.drewN z) (Value.slice p n cap).ownBlock := fun z => grown_any (grown_of_below (below_drewN (Below.refl w.heap.size w) z))
  have HE1 : Hid (Calls Try.prog 27 #[.slice po no co, .slice pb nb cb] w fun e w' => e = .returned (.bool false) ∧ ∃ k, w' = w.drewN k) :=
    (rsame6_any o b po pb co cb no nb w hno hnb (hqo _ (grown_refl _ _)) (hqb _ (grown_refl _ _)) (by omega)).mono fun e w' ⟨he, k, hw⟩ => ⟨by rw [he, decide_eq_false h1], k, hw⟩
  have HE2 : Hid (∀ z, Calls Try.prog 27 #[.slice pt nt ct, .slice pb nb cb] (w.drewN z) fun e w' => e = .returned (.bool false) ∧ ∃ k, w' = w.drewN k) := fun z =>
    (rsame6_any t b pt pb ct cb nt nb (w.drewN z) hnt hnb (hqt _ (hd z)) (hqb _ (hd z)) (by omega)).mono fun e w' ⟨he, k, hw⟩ => ⟨by rw [he, decide_eq_false h2], _, hw.trans (World.drewN_drewN _ _ _)⟩
  have HE3 : Hid (∀ z, Calls Try.prog 27 #[.slice po no co, .slice pt nt ct] (w.drewN z) fun e w' => e = .returned (.bool false) ∧ ∃ k, w' = w.drewN k) := fun z =>
    (rsame6_any o t po pt co ct no nt (w.drewN z) hno hnt (hqo _ (hd z)) (hqt _ (hd z)) (by omega)).mono fun e w' ⟨he, k, hw⟩ => ⟨by rw [he, decide_eq_false h3], _, hw.trans (World.drewN_drewN _ _ _)⟩
  obtain ⟨L, hL⟩ : ∃ L, L = min no nt := ⟨_, rfl⟩
  obtain ⟨N, hN⟩ : ∃ N, N = headN o t := ⟨_, rfl⟩
  obtain ⟨M, hM⟩ : ∃ M, M = tailN o t := ⟨_, rfl⟩
  obtain ⟨LT, hLT⟩ : ∃ LT, LT = L - N := ⟨_, rfl⟩
  have hNc : N = cnt (hdF o t) L 0 := by rw [hN, headN, ← hno, ← hnt, ← hL]
  have hMc : M = cnt (tlF o t) LT 0 := by rw [hM, tailN, ← hno, ← hnt, ← hL, ← hN, ← hLT]
  have hNl := headN_le o t
  have hMl := tailN_le o t
  rw [← hno, ← hnt, ← hN] at hNl
  rw [← hno, ← hnt, ← hN, ← hM] at hMl
  have hLL : L ≤ no ∧ L ≤ nt ∧ (no ≤ L ∨ nt ≤ L) := by omega
  have hNL : N ≤ L := by omega
  have hMLT : M ≤ LT := by omega
  have HNC := Lib.hid hNc
  have HMC := Lib.hid hMc
  have HCF : Hid (confL gs b o t = clG (clG gs (o.take N) ++ [⟨2, [], midL o N M, b, midL t N M⟩]) (o.drop (no - M))) := by show _ = _; rw [confL, ← hN, ← hM, ← hno]
  have HNO := Lib.hid hno
  have HNT := Lib.hid hnt
  have HNB := Lib.hid hnb
  have HQB := Lib.hid hqb
  have HQO := Lib.hid hqo
  have HQT := Lib.hid hqt
  have hqo0 := hqo w (grown_refl _ _)
  have hqt0 := hqt w (grown_refl _ _)
  have HO0 := Lib.hid hqo0
  have HT0 := Lib.hid hqt0
  have HLN := Lib.hid hlast
  have HGN := Lib.hid hn
  have HC1 : Hid (∀ z, Calls Try.prog 48 #[.slice p n cap, .slice po N co] (w.drewN z) (RGR w base (.slice p n cap) (clG gs (o.take N)))) := fun z =>
    (rcl_any gs (o.take N) p po base n cap N co (w.drewN z) hn (by rw [List.length_take]; omega) (ho.keep (below_drewN (Below.refl w.heap.size w) z)) hbase (fun w' hw' => srw_take (hqo w' (grown_chain (hd z) hw' (.inl rfl))) N) (by omega) (by omega) (by omega)).mono fun e w' h => h.step (hd z) (.inl rfl)
  clear ho hnb hno hnt hqb hqo hqt hqo0 hqt0 hlast hn hN hM hL hNc hMc hd h1 h2 h3
  go_enter Try.func47, Try.ntmps47
  go_upto_region 5 with (go_at_call 27; first
    | ((with_reducible refine HE1.out.mono ?_); rintro e w1 ⟨rfl, z1, rfl⟩)
    | ((with_reducible refine (HE2.out _).mono ?_); rintro e w2 ⟨rfl, z2, rfl⟩)
    | ((with_reducible refine (HE3.out _).mono ?_); rintro e w3 ⟨rfl, z3, rfl⟩))
  clear HE1 HE2 HE3
  go_wp2_with fail
  go_loopw [9] (fun kv wr => ∃ k z : Nat, k ≤ N ∧ kv = .int .i64 (k : Int) ∧ Hid (N = cnt (hdF o t) L k) ∧ wr = w.drewN z) (fun kv _ => N - (intOf kv).toNat)
  case atStart => exact ⟨0, z3, Nat.zero_le _, rfl, HNC.out, rfl⟩
  case round =>
    clear HNC
    obtain ⟨k, z, hk, rfl, HN, rfl⟩ := hrel
    go_upto_region 6 with fail
    go_cut [48] from 28 to 48 (fun c wx => c = .bool (decide (k < N)) ∧ ∃ z2, wx = w.drewN z2)
    case first =>
      have hlt0 : decide (k < N) = (decide (k < L) && hdF o t k) := by rw [HN.out]; exact cnt_lt
      by_cases hlo : k < no
      · have x1 : decide ((k : Int) < (no : Int)) = true := decide_eq_true (by omega)
        have x1n : decide (k < no) = true := decide_eq_true hlo
        by_cases hlt' : k < nt
        · have hlt : k < L := by omega
          have hko : k < o.length := by rw [← HNO.out]; omega
          have hkt : k < t.length := by rw [← HNT.out]; omega
          obtain ⟨g, o', rfl, hg, a0⟩ := HO0.out k hko
          obtain ⟨g2, o2, rfl, hg2, b0⟩ := HT0.out k hkt
          rw [decide_eq_true hlt, Bool.true_and, hdF_at hko hkt] at hlt0
          have x2 : decide ((k : Int) < (nt : Int)) = true := decide_eq_true (by omega)
          have x2n : decide (k < nt) = true := decide_eq_true hlt'
          have x3 : (k : Int) < (no : Int) := by omega
          have x4 : (k : Int) < (nt : Int) := by omega
          by_cases he : o[k] = t[k]
          · rw [decide_eq_true he] at hlt0
            have HX := Lib.hid hlt0
            obtain ⟨u, hu⟩ : ∃ u, u = str o[k] := ⟨_, rfl⟩
            rw [← he, ← hu] at b0
            rw [← hu] at a0
            clear hu hg hg2 he hlt0 hlt HN
            go_quiet (fail)
            go_wp2_with fail
            go_meet
            exact ⟨by rw [HX.out], z + nq, by rw [World.drewN_drewN]⟩
          · rw [decide_eq_false he] at hlt0
            have HX := Lib.hid hlt0
            have hne := str_neB he
            obtain ⟨u, hu⟩ : ∃ u, u = str o[k] := ⟨_, rfl⟩
            obtain ⟨u2, hu2⟩ : ∃ u2, u2 = str t[k] := ⟨_, rfl⟩
            rw [← hu2] at b0 hne
            rw [← hu] at a0 hne
            clear hu hu2 hg hg2 he hlt0 hlt HN
            go_quiet (fail)
            go_wp2_with fail
            go_meet
            exact ⟨by rw [HX.out], z + nq, by rw [World.drewN_drewN]⟩
        · rw [decide_eq_false (show ¬ k < L by omega), Bool.false_and] at hlt0
          have HX := Lib.hid hlt0
          have x2 : decide ((k : Int) < (nt : Int)) = false := decide_eq_false (by omega)
          have x2n : decide (k < nt) = false := decide_eq_false hlt'
          clear hlt0 HN
          go_quiet (fail)
          go_wp2_with fail
          go_meet
          exact ⟨by rw [HX.out], z + nq, by rw [World.drewN_drewN]⟩
      · rw [decide_eq_false (show ¬ k < L by omega), Bool.false_and] at hlt0
        have HX := Lib.hid hlt0
        have x1 : decide ((k : Int) < (no : Int)) = false := decide_eq_false (by omega)
        have x1n : decide (k < no) = false := decide_eq_false hlo
        clear hlt0 HN
        go_quiet (fail)
        go_wp2_with fail
        go_meet
        exact ⟨by rw [HX.out], z + nq, by rw [World.drewN_drewN]⟩
    case rest =>
      obtain ⟨rfl, z2, rfl⟩ := hcut
      by_cases hkN : k < N
      · have HN2 : Hid (N = cnt (hdF o t) L (k + 1)) := by
          show _ = _
          have h1 := HN.out
          by_cases h2 : k < L
          · cases hf : hdF o t k with
            | true => rwa [cnt_yes h2 hf] at h1
            | false => rw [cnt_no h2 hf] at h1; omega
          · rw [cnt_end h2] at h1; omega
        clear HN
        go_wp2
        go_roundw
        case rel => exact ⟨k + 1, z2, by omega, by go_num, HN2.out, rfl⟩
        case measure => simp [intOf]; omega
      · obtain rfl : N = k := by omega
        clear HN hkN hk
        obtain ⟨AO, hAO⟩ : ∃ AO, AO = no - N := ⟨_, rfl⟩
        obtain ⟨AT, hAT⟩ : ∃ AT, AT = nt - N := ⟨_, rfl⟩
        have j1 : IntKind.i64.wrap ((no : Int) - (N : Int)) = (AO : Int) := by rw [IntWalk.i64_in _ (by omega)]; omega
        have j2 : (no : Int) - (N : Int) = (AO : Int) := by omega
        have j3 : IntKind.i64.wrap ((nt : Int) - (N : Int)) = (AT : Int) := by rw [IntWalk.i64_in _ (by omega)]; omega
        have j4 : (nt : Int) - (N : Int) = (AT : Int) := by omega
        have j5 : IntKind.i64.wrap (AO : Int) = (AO : Int) := IntWalk.i64_in _ (by omega)
        have j6 : IntKind.i64.wrap (AT : Int) = (AT : Int) := IntWalk.i64_in _ (by omega)
        have hALT : LT ≤ AO ∧ LT ≤ AT ∧ (AO ≤ LT ∨ AT ≤ LT) := by omega
        have hAOn : AO + N = no ∧ AT + N = nt := by omega
        clear hLT hAO hAT
        go_wp2_with fail
        go_loopw [10] (fun kv wr => ∃ k z : Nat, k ≤ M ∧ kv = .int .i64 (k : Int) ∧ Hid (M = cnt (tlF o t) LT k) ∧ wr = w.drewN z) (fun kv _ => M - (intOf kv).toNat)
        case atStart => exact ⟨0, z2, Nat.zero_le _, rfl, HMC.out, rfl⟩
        case round =>
          clear HMC
          obtain ⟨k, z, hk, rfl, HM, rfl⟩ := hrel
          go_upto_region 9 with fail
          go_cut [83] from 51 to 83 (fun c wx => c = .bool (decide (k < M)) ∧ ∃ z2, wx = w.drewN z2)
          case first =>
            have hlt0 : decide (k < M) = (decide (k < LT) && tlF o t k) := by rw [HM.out]; exact cnt_lt
            by_cases hlo : k < AO
            · have x1 : decide ((k : Int) < (AO : Int)) = true := decide_eq_true (by omega)
              have x1n : decide (k < AO) = true := decide_eq_true hlo
              by_cases hlt' : k < AT
              · have hlt : k < LT := by omega
                obtain ⟨n1, hn1⟩ : ∃ n1, n1 = no - 1 := ⟨_, rfl⟩
                obtain ⟨m1, hm1⟩ : ∃ m1, m1 = nt - 1 := ⟨_, rfl⟩
                obtain ⟨xa, hxa⟩ : ∃ xa, xa = n1 - k := ⟨_, rfl⟩
                obtain ⟨ya, hya⟩ : ∃ ya, ya = m1 - k := ⟨_, rfl⟩
                have hko : xa < o.length := by rw [← HNO.out]; omega
                have hkt : ya < t.length := by rw [← HNT.out]; omega
                obtain ⟨g, o', rfl, hg, a0⟩ := HO0.out xa hko
                obtain ⟨g2, o2, rfl, hg2, b0⟩ := HT0.out ya hkt
                rw [decide_eq_true hlt, Bool.true_and, tlF_at (a := xa) (b := ya) (by rw [← HNO.out]; omega) (by rw [← HNT.out]; omega) hko hkt] at hlt0
                have r1 : (no : Int) - 1 = (n1 : Int) := by omega
                have r2 : (nt : Int) - 1 = (m1 : Int) := by omega
                have r3 : (n1 : Int) - (k : Int) = (xa : Int) := by omega
                have r4 : (m1 : Int) - (k : Int) = (ya : Int) := by omega
                have r5 : IntKind.i64.wrap (n1 : Int) = (n1 : Int) := IntWalk.i64_in _ (by omega)
                have r6 : IntKind.i64.wrap (m1 : Int) = (m1 : Int) := IntWalk.i64_in _ (by omega)
                have r7 : IntKind.i64.wrap (xa : Int) = (xa : Int) := IntWalk.i64_in _ (by omega)
                have r8 : IntKind.i64.wrap (ya : Int) = (ya : Int) := IntWalk.i64_in _ (by omega)
                have x2 : decide ((k : Int) < (AT : Int)) = true := decide_eq_true (by omega)
                have x2n : decide (k < AT) = true := decide_eq_true hlt'
                have x3 : (xa : Int) < (no : Int) := by omega
                have x4 : (ya : Int) < (nt : Int) := by omega
                have x5 : xa < no := by omega
                have x6 : ya < nt := by omega
                by_cases he : o[xa] = t[ya]
                · rw [decide_eq_true he] at hlt0
                  have HX := Lib.hid hlt0
                  obtain ⟨u, hu⟩ : ∃ u, u = str o[xa] := ⟨_, rfl⟩
                  rw [← he, ← hu] at b0
                  rw [← hu] at a0
                  clear hu hg hg2 he hlt0 hlt HM hn1 hm1 hxa hya
                  go_quiet (fail)
                  go_wp2_with fail
                  go_meet
                  exact ⟨by rw [HX.out], z + nq, by rw [World.drewN_drewN]⟩
                · rw [decide_eq_false he] at hlt0
                  have HX := Lib.hid hlt0
                  have hne := str_neB he
                  obtain ⟨u, hu⟩ : ∃ u, u = str o[xa] := ⟨_, rfl⟩
                  obtain ⟨u2, hu2⟩ : ∃ u2, u2 = str t[ya] := ⟨_, rfl⟩
                  rw [← hu2] at b0 hne
                  rw [← hu] at a0 hne
                  clear hu hu2 hg hg2 he hlt0 hlt HM hn1 hm1 hxa hya
                  go_quiet (fail)
                  go_wp2_with fail
                  go_meet
                  exact ⟨by rw [HX.out], z + nq, by rw [World.drewN_drewN]⟩
              · rw [decide_eq_false (show ¬ k < LT by omega), Bool.false_and] at hlt0
                have HX := Lib.hid hlt0
                have x2 : decide ((k : Int) < (AT : Int)) = false := decide_eq_false (by omega)
                have x2n : decide (k < AT) = false := decide_eq_false hlt'
                clear hlt0 HM
                go_quiet (fail)
                go_wp2_with fail
                go_meet
                exact ⟨by rw [HX.out], z + nq, by rw [World.drewN_drewN]⟩
            · rw [decide_eq_false (show ¬ k < LT by omega), Bool.false_and] at hlt0
              have HX := Lib.hid hlt0
              have x1 : decide ((k : Int) < (AO : Int)) = false := decide_eq_false (by omega)
              have x1n : decide (k < AO) = false := decide_eq_false hlo
              clear hlt0 HM
              go_quiet (fail)
              go_wp2_with fail
              go_meet
              exact ⟨by rw [HX.out], z + nq, by rw [World.drewN_drewN]⟩
          case rest =>
            obtain ⟨rfl, z3, rfl⟩ := hcut
            by_cases hkM : k < M
            · have HM2 : Hid (M = cnt (tlF o t) LT (k + 1)) := by
                show _ = _
                have h1 := HM.out
                by_cases h2 : k < LT
                · cases hf : tlF o t k with
                  | true => rwa [cnt_yes h2 hf] at h1
                  | false => rw [cnt_no h2 hf] at h1; omega
                · rw [cnt_end h2] at h1; omega
              clear HM
              go_wp2
              go_roundw
              case rel => exact ⟨k + 1, z3, by omega, by go_num, HM2.out, rfl⟩
              case measure => simp [intOf]; omega
            · obtain rfl : M = k := by omega
              clear HM hkM hk j1 j2 j3 j4 j5 j6
              have c1 : N ≤ co := by omega
              have hN0 : (0 : Int) ≤ (N : Int) := by omega
              go_upto_region 12 with (go_at_call 48; ((with_reducible refine (HC1.out _).mono ?_); rintro e w2 ⟨p2, n2, c2, rfl, hn2, ho2, hg2, hat2⟩; have HN2 := Lib.hid hn2; clear hn2))
              obtain ⟨A, hA⟩ : ∃ A, A = no - M := ⟨_, rfl⟩
              obtain ⟨B, hB⟩ : ∃ B, B = nt - M := ⟨_, rfl⟩
              obtain ⟨Po, hPo⟩ : ∃ P, (if co = N then po else po.map (·.add N)) = P := ⟨_, rfl⟩
              obtain ⟨Pt, hPt⟩ : ∃ P, (if ct = N then pt else pt.map (·.add N)) = P := ⟨_, rfl⟩
              have r1 : (no : Int) - (M : Int) = (A : Int) := by omega
              have r2 : (nt : Int) - (M : Int) = (B : Int) := by omega
              have r3 : IntKind.i64.wrap (A : Int) = (A : Int) := IntWalk.i64_in _ (by omega)
              have r4 : IntKind.i64.wrap (B : Int) = (B : Int) := IntWalk.i64_in _ (by omega)
              have r5 : N ≤ A := by omega
              have r6 : N ≤ B := by omega
              have r7 : A ≤ co := by omega
              have r8 : B ≤ ct := by omega
              have hAM : A ≤ no ∧ B ≤ nt ∧ no - M = A := by omega
              have HPO := Lib.hid hPo
              have HPT := Lib.hid hPt
              have HAM := Lib.hid hAM
              have HA := Lib.hid hA
              have HB := Lib.hid hB
              obtain ⟨i0, hi, hz0, hz1, hz2⟩ := info_parts Try.infoRg
              have HW2 : Hid (∀ w', w2.grownBy w' (Value.slice p2 n2 c2).ownBlock → w.grownBy w' (Value.slice p n cap).ownBlock) := fun w' hw' => grown_chain hg2 hw' hat2
              have EA : Hid (A - N = (midL o N M).length) := by show _ = _; unfold midL; rw [List.length_take, List.length_drop, ← HNO.out]; omega
              have EB : Hid (B - N = (midL t N M).length) := by show _ = _; unfold midL; rw [List.length_take, List.length_drop, ← HNT.out]; omega
              have HRG : Hid (∀ w', w2.grownBy w' (Value.slice p2 n2 c2).ownBlock → RgC w' ⟨2, [], midL o N M, b, midL t N M⟩ (.int .i64 2) (.slice none 0 0) (.slice Po (A - N) (co - N)) (.slice pb nb cb) (.slice Pt (B - N) (ct - N))) := fun w' hw' => by
                have hww := HW2.out w' hw'
                have s1 := srw_cut (c := co) (n := no) (HQO.out w' hww) N A HNO.out hco r5 (by omega)
                have s2 := srw_cut (c := ct) (n := nt) (HQT.out w' hww) N B HNT.out hct r6 (by omega)
                rw [hPo, show (o.drop N).take (A - N) = midL o N M by unfold midL; rw [← HNO.out, show A - N = no - M - N by omega]] at s1
                rw [hPt, show (t.drop N).take (B - N) = midL t N M by unfold midL; rw [← HNT.out, show B - N = nt - M - N by omega]] at s2
                exact ⟨rfl, SlW.nil _, ⟨Po, co - N, by rw [EA.out], by have := EA.out; simp only; omega, s1⟩, ⟨pb, cb, by rw [HNB.out], by have := HNB.out; simp only; omega, HQB.out w' hww⟩, ⟨Pt, ct - N, by rw [EB.out], by have := EB.out; simp only; omega, s2⟩⟩
              obtain ⟨xs2, hown2, hst2⟩ := ho2
              rw [← HN2.out] at hown2
              have hxl2 : xs2.length = n2 * 5 := hown2.1
              have HOW2 := Lib.hid hown2
              have HST2 := Lib.hid hst2
              have HXL2 := Lib.hid hxl2
              have HG2 := Lib.hid hg2
              have HAT2 := Lib.hid hat2
              have hn2l : n2 ≤ 90001 := by rw [HN2.out]; have := (lastN_cl gs (o.take N)).2; have := HGN.out; omega
              have hb2 : base ≤ w2.heap.size := Nat.le_trans hbase hg2.size
              clear hA hB hown2 hst2 hxl2 hg2 hat2 hAM hAOn hALT hLL hMLT hNL hNl hMl
              go_region_law ((refine step_append_lies _ (by rfl) _ _ _ (by rfl) base 43 i0 (.agg #[.int .i64 0, .slice none 0 0, .slice none 0 0, .slice none 0 0, .slice none 0 0]) 5 104 Try.underlying33 hi hz0 hz1 hz2 rfl (by omega) _ n2 xs2 (by rfl) (own_below HOW2.out (below_new (Below.refl _ _) _).drew) ⟨w2.heap.size, 0, none⟩ 1 1 [.int .i64 2, .slice none 0 0, .slice Po (A - N) (co - N), .slice pb nb cb, .slice Pt (B - N) (ct - N)] (by rfl) (by rfl) (World.news_of_block (heap_alloc_new w2 _)) (by simp [Value.oneCell']) (by omega) (by unfold maxLen; omega) (by omega) (by simp; omega) (w2.heap.size + 1) (by simp) ?_; intro g6 c6 w6 ho6 hg6 hat6 hlt6))
              all_goals
                obtain ⟨q1, q2, q3⟩ := GOw.put HN2.out HST2.out HXL2.out (below_new (Below.refl w2.heap.size w2) _).drew (by simp) ho6 hg6 hat6 HRG.out
                have HQ1 := Lib.hid q1
                have hwg : w.grownBy w6 (Value.slice p n cap).ownBlock := HW2.out w6 q2
                have hwat : (Value.slice (some ⟨g6, 0, none⟩) (n2 + 1) c6).ownBlock = (Value.slice p n cap).ownBlock ∨ ∀ k, (Value.slice (some ⟨g6, 0, none⟩) (n2 + 1) c6).ownBlock = some k → w.heap.size ≤ k := by
                  rcases q3 with h | h
                  · rw [h]; exact HAT2.out
                  · exact .inr fun k hk => Nat.le_trans HG2.out.size (h k hk)
                have HWG := Lib.hid hwg
                have HWAT := Lib.hid hwat
                clear q1 q2 q3 ho6 hg6 hat6 hlt6 hPo hPt hwg hwat hi hz0 hz1 hz2 HOW2 HST2 r2 r4 r6 r8
                obtain ⟨Pq, hPq⟩ : ∃ P, (if co = A then po else po.map (·.add A)) = P := ⟨_, rfl⟩
                have HPQ := Lib.hid hPq
                have HCL : Hid (Calls Try.prog 48 #[.slice (some ⟨g6, 0, none⟩) (n2 + 1) c6, .slice Pq (no - A) (co - A)] w6 (RGR w base (.slice p n cap) (confL gs b o t))) := by
                  rw [HCF.out, HAM.out.2.2]
                  refine (rcl_any _ (o.drop A) (some ⟨g6, 0, none⟩) Pq base (n2 + 1) c6 (no - A) (co - A) w6 (by rw [List.length_append, List.length_singleton, ← HN2.out]) (by rw [List.length_drop, ← HNO.out]) HQ1.out (Nat.le_trans hbase HWG.out.size) (fun w' hw' => ?_) (by omega) (by omega) (by simp [lastN])).mono fun e w' h => h.step HWG.out HWAT.out
                  rw [← HPQ.out]
                  exact (HQO.out w' (grown_chain HWG.out hw' HWAT.out)).cut A (by rw [← HNO.out]; exact hco) (by rw [← HNO.out]; exact HAM.out.1)
                go_wp2_with (go_at_call 48; ((with_reducible refine HCL.out.mono ?_); rintro e w9 ⟨p9, n9, c9, rfl, hn9, ho9, hg9, hat9⟩; have HN9 := Lib.hid hn9; clear hn9))
                go_ret
                exact ⟨p9, n9, c9, rfl, HN9.out, ho9, hg9, hat9⟩
end Go.Proofs.Ytidghjalfbklnaa
