/-
  The walk of the law IdentShorts.
-/
import Derived.Test.YtgdeefcgjaklhabDoorIdInv
import Derived.Test.YtgdeefcgjaklhabDoorIdRoundPlain
import Derived.Laws.AppendOwnNone
import Derived.Deep.AppendLies
import Derived.Deep.RegionLaw
namespace Go.Proofs.YtgdeefcgjaklhabDoor
open Go.RowKit

theorem Tryd.infoStr : (Tryd.prog.info? 9).map (fun i => (i.zero, i.size, i.bytes)) = some (some (.string ⟨#[]⟩), 1, 16) := by kernel_rfl
def scells (L : List ByteArray) : List Value := L.map Value.string
theorem scells_len (L : List ByteArray) : (scells L).length = L.length := by simp [scells]
theorem scells_one (L : List ByteArray) : ∀ u ∈ scells L, u.oneCell' = true := by
  intro u hu; simp only [scells, List.mem_map] at hu; obtain ⟨b, _, rfl⟩ := hu; rfl
theorem SCells.at {w : World} {a : Addr} {L : List ByteArray} (h : SCells w a L) (j : Nat) (u : Value) (hj : (scells L)[j]? = some u) : w.cell? (a.add j) = some u := by
  rw [scells, List.getElem?_map] at hj
  cases hx : L[j]? with
  | none => rw [hx] at hj; cases hj
  | some s =>
    rw [hx] at hj
    obtain rfl := Option.some.inj hj
    have hl := (List.getElem?_eq_some_iff.1 hx).1
    rw [h j hl, List.getD_eq_getElem?_getD, hx]; rfl
theorem SCells.inv {w0 w : World} {a : Addr} {L : List ByteArray} (h : SCells w0 a L) (hb : Below w0.heap.size w0 w) : SCells w a L := fun k hk => by
  have h1 := h k hk
  exact (hb.cell (p := a.add k) (World.block_lt_of_cell? w0 _ h1)).trans h1
theorem one_row (w : World) (p : ByteArray) : (w.alloc (.cells #[.string p] 9)).ownsRow w.heap.size 9 1 (.slice (some ⟨w.heap.size, 0, none⟩) 1 1) 1 (scells [p]) :=
  World.ownsRow_lit w #[.string p] 1 (Nat.le_refl _) (by decide) rfl
theorem sval_owned {w : World} {base g n cap : Nat} {e : TypeId} {L : List ByteArray} (h : w.ownsRow base e 1 (.slice (some ⟨g, 0, none⟩) n cap) n (scells L)) : SVal w (.slice (some ⟨g, 0, none⟩) n cap) L := by
  have hn : L.length = n := by have := h.1; rw [scells_len] at this; omega
  refine .inr ⟨⟨g, 0, none⟩, cap, by rw [hn], fun k hk => ?_⟩
  have h1 := h.cells (g := g) rfl k (.string (L.getD k ⟨#[]⟩)) (by simp [scells, List.getD_eq_getElem?_getD, List.getElem?_eq_getElem hk])
  exact h1

set_option maxHeartbeats 2000000 in
set_option maxRecDepth 10000 in
theorem shorts_no (v : Value) (L : List ByteArray) (p : ByteArray) (w : World) (hv : SVal w v L) (hL : L.length ≤ 140737488355328) (hsz : ∀ s ∈ L, s.size ≤ 140737488355328) (hp : p.size ≤ 140737488355328) (ht : KTab w) (hi : isId p = false) :
    Calls Tryd.prog 6 #[v, .string p] w fun e w' => e = .returned (.bool true) ∧ Below w.heap.size w w' := by
  have h0 := IdInv.self ht
  have HR : Hid (shortS L p = ⟨#[]⟩) := by show _ = _; exact shortS_no hi
  have HV : Hid (SVal w v L) := hv
  have HS : Hid (∀ s ∈ L, s.size ≤ 140737488355328) := hsz
  have HI : Hid (isId p = false) := hi
  clear ht hv hsz hi
  go_enter Tryd.func6, Tryd.ntmps6
  go_wp2_with (first
    | (go_at_call 7; ((with_reducible refine (lives_inv (by assumption)).mono ?_); rintro e w' ⟨rfl, hi⟩))
    | (go_at_call 22; ((with_reducible refine (short_inv0 (by assumption) v L p HV.out hL HS.out hp _ HR.out).mono ?_); rintro e w' ⟨rfl, hi⟩))
    | (go_at_call 23; ((with_reducible refine (rshort_inv0 (by assumption) v L p HV.out hL HS.out hp _ HR.out).mono ?_); rintro e w' ⟨rfl, hi⟩))
    | (go_at_call 18; ((with_reducible refine (ris_inv (by assumption) p hp false HI.out).mono ?_); rintro e w' ⟨rfl, hi⟩)))
  go_ret
  exact ⟨rfl, (‹IdInv w _›).1⟩

set_option maxHeartbeats 2000000 in
set_option maxRecDepth 10000 in
theorem shorts_nil (p : ByteArray) (w : World) (hp : p.size ≤ 140737488355328) (ht : KTab w) (hi : isId p = true) :
    Calls Tryd.prog 6 #[.slice none 0 0, .string p] w fun e w' => e = .returned (.bool true) ∧ Below w.heap.size w w' := by
  have h0 := IdInv.self ht
  obtain ⟨i0, hi0, hz0, hz1, hz2⟩ := info_parts Tryd.infoStr
  obtain ⟨S, hS⟩ : ∃ S, S = p.extract 0 7 := ⟨_, rfl⟩
  have hSl : S.size = 7 := by rw [hS, ByteArray.size_extract, isId_size hi]; rfl
  have HR : Hid (shortS [] p = S) := by show _ = _; rw [hS]; exact shortS_yes hi
  have HF : Hid (findS S [p] = (p, 0)) := by show _ = _; rw [hS]; exact short_finds (L := []) hi
  have HI : Hid (isId p = true) := hi
  have HV : Hid (SVal w (.slice none 0 0) []) := .inl ⟨rfl, rfl⟩
  have s1 : ((S.size : Int) == 7) = true := by rw [hSl]; rfl
  have s2 : decide ((S.size : Int) < 7) = false := by rw [hSl]; rfl
  have s3 : S.size ≤ 140737488355328 := by omega
  have e2 := ba_eq p
  clear ht hi hS hSl
  go_enter Tryd.func6, Tryd.ntmps6
  go_wp2_with (first
    | (go_at_call 7; ((with_reducible refine (lives_inv (by assumption)).mono ?_); rintro e w' ⟨rfl, hi⟩))
    | (go_at_call 22; ((with_reducible refine (short_inv0 (by assumption) _ [] p HV.out (by decide) (by simp) hp _ HR.out).mono ?_); rintro e w' ⟨rfl, hi⟩))
    | (go_at_call 23; ((with_reducible refine (rshort_inv0 (by assumption) _ [] p HV.out (by decide) (by simp) hp _ HR.out).mono ?_); rintro e w' ⟨rfl, hi⟩))
    | (go_at_call 18; ((with_reducible refine (ris_inv (by assumption) p hp true HI.out).mono ?_); rintro e w' ⟨rfl, hi5⟩))
    | (at_builtin; refine wpList_append_own_none rfl _ _ 29 rfl _ 9 i0 1 Tryd.underlying29 hi0 _ 1 (scells [p]) rfl (World.ownsRow_lit (base := 0) _ #[.string p] 1 (Nat.zero_le _) (by decide) rfl) rfl ?_)
    | (go_at_call 20; ((with_reducible refine (find_inv (hi5.alloc _) _ [p] S (sval_owned (World.ownsRow_lit (base := 0) _ #[.string p] 1 (Nat.zero_le _) (by decide) rfl)) (by simp) (by simpa using hp) s3 p 0 HF.out).mono ?_); rintro e w' ⟨rfl, hi⟩)))
  go_ret
  exact ⟨rfl, (‹IdInv w _›).1⟩

set_option maxHeartbeats 4000000 in
set_option maxRecDepth 10000 in
theorem shorts_some (a : Addr) (cap : Nat) (L : List ByteArray) (p : ByteArray) (w : World) (hc : SCells w a L) (hL : (L.length + 1) * 16 ≤ 140737488355328) (hsz : ∀ s ∈ L, s.size ≤ 140737488355328) (hp : p.size ≤ 140737488355328) (ht : KTab w) (hi : isId p = true) :
    Calls Tryd.prog 6 #[.slice (some a) L.length cap, .string p] w fun e w' => e = .returned (.bool true) ∧ Below w.heap.size w w' := by
  have h0 := IdInv.self ht
  obtain ⟨i0, hi0, hz0, hz1, hz2⟩ := info_parts Tryd.infoStr
  have hk := keptL_le hi L 7 (by omega)
  have HF : Hid (findS (p.extract 0 (keptL p L 7)) (p :: L) = (p, 0)) := short_finds hi
  have HR0 : Hid (shortS L p = p.extract 0 (keptL p L 7)) := shortS_yes hi
  have HG : Hid (keptL p L 7 ≠ 7 → findS (p.extract 0 (keptL p L 7 - 1)) (p :: L) = (⟨#[]⟩, 401) ∧ 0 < L.length) := fun h7 => ⟨short_less hi h7, by
    cases L with
    | nil => exact absurd rfl h7
    | cons a l => simp⟩
  obtain ⟨K, hK⟩ : ∃ K, K = keptL p L 7 := ⟨_, rfl⟩
  rw [← hK] at hk HF HR0 HG
  obtain ⟨S, hS⟩ : ∃ S, S = p.extract 0 K := ⟨_, rfl⟩
  rw [← hS] at HF HR0
  have hSl : S.size = K := by rw [hS, ByteArray.size_extract, isId_size hi]; omega
  have HSE : Hid (S = p.extract 0 K) := hS
  have HI : Hid (isId p = true) := hi
  obtain ⟨n, hn⟩ : ∃ n, n = L.length := ⟨_, rfl⟩
  have HV : Hid (SVal w (.slice (some a) n cap) L) := .inr ⟨a, cap, by rw [hn], hc⟩
  have HS : Hid (∀ s ∈ L, s.size ≤ 140737488355328) := hsz
  have HSP : Hid (∀ s ∈ p :: L, s.size ≤ 140737488355328) := by
    intro s hs
    rcases List.mem_cons.1 hs with rfl | hs
    · exact hp
    · exact hsz s hs
  have HN : Hid (n = L.length) := hn
  have HPL : Hid ((p :: L).length ≤ 140737488355328) := by show _ ≤ _; simp; omega
  rw [← hn] at hL ⊢
  have hLn : Hid (L.length ≤ 140737488355328) := by show _ ≤ _; omega
  have HC : Hid (SCells w a L) := hc
  have HSCL : Hid ((scells L).length = n * 1) := by show _ = _; rw [scells_len, hn]; omega
  have HKS : Hid (S.size = K) := hSl
  have s2 : decide ((S.size : Int) < 7) = false := by rw [hSl]; simp; omega
  have s3 : S.size ≤ 140737488355328 := by omega
  have e2 := ba_eq p
  clear ht hi hS hc hsz hn hK
  by_cases h7 : K = 7
  · have s1 : ((S.size : Int) == 7) = true := by rw [hSl, h7]; rfl
    clear hSl h7 hk
    go_enter Tryd.func6, Tryd.ntmps6
    go_wp2_with (first
      | (go_at_call 7; ((with_reducible refine (lives_inv (by assumption)).mono ?_); rintro e w' ⟨rfl, hi⟩))
      | (go_at_call 22; ((with_reducible refine (short_inv0 (by assumption) _ L p HV.out hLn.out HS.out hp _ HR0.out).mono ?_); rintro e w' ⟨rfl, hi⟩))
      | (go_at_call 23; ((with_reducible refine (rshort_inv0 (by assumption) _ L p HV.out hLn.out HS.out hp _ HR0.out).mono ?_); rintro e w' ⟨rfl, hi⟩))
      | (go_at_call 18; ((with_reducible refine (ris_inv (by assumption) p hp true HI.out).mono ?_); rintro e w5 ⟨rfl, hi5⟩))
      | (at_builtin; refine wpList_append_own _ rfl _ _ 29 rfl w5.heap.size 9 i0 (.string ⟨#[]⟩) 1 16 Tryd.underlying29 hi0 hz0 hz1 hz2 rfl (by decide) _ 1 (scells [p]) rfl (one_row w5 p) a n cap (scells L) rfl HSCL.out (fun j u hj => (HC.out.inv (hi5.alloc _).1).at j u hj) (scells_one _) (by unfold maxLen; omega) (by omega) (by simp) ?_; intro v6 w6 ho6 hg6 _; obtain ⟨g6, c6, rfl, _, _⟩ := ho6.form (by omega); have hb6 := app_step0 ((Below.refl w5.heap.size w5).alloc (Nat.le_refl _) _) (one_row w5 p) hg6 (Nat.le_refl _) (by simp); have hi6 := hi5.step hb6; have hv6 := sval_owned (L := p :: L) ho6)
      | (go_at_call 20; ((with_reducible refine (find_inv hi6 _ (p :: L) S hv6 HPL.out HSP.out s3 p 0 HF.out).mono ?_); rintro e w7 ⟨rfl, hi7⟩)))
    go_ret
    exact ⟨rfl, hi7.1⟩
  · have s1 : ((S.size : Int) == 7) = false := by rw [hSl]; simp; omega
    have hG2 := HG.out h7
    have hn0 : 0 < n := by rw [HN.out]; exact hG2.2
    obtain ⟨q, hq⟩ : ∃ q, q = K - 1 := ⟨_, rfl⟩
    have i1 : IntKind.i64.wrap ((S.size : Int) - 1) = (q : Int) := by rw [IntWalk.i64_in _ (by omega)]; omega
    have q0 : (0 : Int) ≤ q := by omega
    have q1 : (q : Int) ≤ S.size := by omega
    have q2 : q ≤ S.size := by omega
    obtain ⟨T, hT⟩ : ∃ T, T = S.extract 0 q := ⟨_, rfl⟩
    have HT : Hid (S.extract 0 q = T) := hT.symm
    have HTF : Hid (findS T (p :: L) = (⟨#[]⟩, 401)) := by
      show _ = _
      rw [hT, HSE.out, show (p.extract 0 K).extract 0 q = p.extract 0 (K - 1) by
        apply ba_ext
        rw [ext_data, ext_data, ext_data, List.take_take, hq, Nat.min_eq_left (by omega)]]
      exact hG2.1
    have s4 : T.size ≤ 140737488355328 := by rw [hT, ByteArray.size_extract]; omega
    clear hSl h7 hk hG2 hq hT
    go_enter Tryd.func6, Tryd.ntmps6
    go_wp2_with (first
      | (go_at_call 7; ((with_reducible refine (lives_inv (by assumption)).mono ?_); rintro e w' ⟨rfl, hi⟩))
      | (go_at_call 22; ((with_reducible refine (short_inv0 (by assumption) _ L p HV.out hLn.out HS.out hp _ HR0.out).mono ?_); rintro e w' ⟨rfl, hi⟩))
      | (go_at_call 23; ((with_reducible refine (rshort_inv0 (by assumption) _ L p HV.out hLn.out HS.out hp _ HR0.out).mono ?_); rintro e w' ⟨rfl, hi⟩))
      | (go_at_call 18; ((with_reducible refine (ris_inv (by assumption) p hp true HI.out).mono ?_); rintro e w5 ⟨rfl, hi5⟩))
      | (at_builtin; refine wpList_append_own _ rfl _ _ 29 rfl w5.heap.size 9 i0 (.string ⟨#[]⟩) 1 16 Tryd.underlying29 hi0 hz0 hz1 hz2 rfl (by decide) _ 1 (scells [p]) rfl (one_row w5 p) a n cap (scells L) rfl HSCL.out (fun j u hj => (HC.out.inv (hi5.alloc _).1).at j u hj) (scells_one _) (by unfold maxLen; omega) (by omega) (by simp) ?_; intro v6 w6 ho6 hg6 _; obtain ⟨g6, c6, rfl, _, _⟩ := ho6.form (by omega); have hb6 := app_step0 ((Below.refl w5.heap.size w5).alloc (Nat.le_refl _) _) (one_row w5 p) hg6 (Nat.le_refl _) (by simp); have hi6 := hi5.step hb6; have hv6 := sval_owned (L := p :: L) ho6)
      | (go_at_call 20; ((with_reducible refine (find_inv hi6 _ (p :: L) S hv6 HPL.out HSP.out s3 p 0 HF.out).mono ?_); rintro e w7 ⟨rfl, hi7⟩)))
    have hi7d := hi7.step (w' := w7.drew) ((Below.refl _ _).drew)
    clear hi6 hv6 ho6 hg6 hb6
    go_region_law (first
      | (refine step_append_lies _ rfl (.tmp 53) (.tmp 54) 29 rfl w7.heap.size 9 i0 (.string ⟨#[]⟩) 1 16 Tryd.underlying29 hi0 hz0 hz1 hz2 rfl (by decide) _ 1 (scells [p]) rfl (one_row w7.drew p) a n cap (scells L) rfl HSCL.out (fun j u hj => (HC.out.inv (hi7d.alloc _).1).at j u hj) (scells_one _) hn0 (by unfold maxLen; omega) (by omega) (by simp) _ rfl ?_; intro g8 c8 w8 ho8 hg8 _ _; have hb8 := app_step0 ((Below.refl w7.drew.heap.size w7.drew).alloc (Nat.le_refl _) _) (one_row w7.drew p) hg8 (Nat.le_refl _) (by simp); have hi8 := hi7d.step hb8; have hv8 := sval_owned (L := p :: L) ho8)
      | (go_simp; go_at_call 20; rw [HT.out]; ((with_reducible refine (find_inv hi8 _ (p :: L) T hv8 HPL.out HSP.out s4 _ 401 HTF.out).mono ?_); rintro e w9 ⟨rfl, hi9⟩)))
    all_goals
      go_wp2
      go_ret
      exact ⟨rfl, hi9.1⟩

theorem shorts_walk (v : Value) (L : List ByteArray) (p : ByteArray) (w : World) (hv : SVal w v L) (hL : (L.length + 1) * 16 ≤ 140737488355328) (hsz : ∀ s ∈ L, s.size ≤ 140737488355328) (hp : p.size ≤ 140737488355328) (ht : KTab w) :
    Calls Tryd.prog 6 #[v, .string p] w fun e w' => e = .returned (.bool true) ∧ Below w.heap.size w w' := by
  cases hi : isId p with
  | false => exact shorts_no v L p w hv (by omega) hsz hp ht hi
  | true =>
    rcases hv with ⟨rfl, rfl⟩ | ⟨a, cap, rfl, hc⟩
    · exact shorts_nil p w hp ht hi
    · exact shorts_some a cap L p w hc hL hsz hp ht hi
end Go.Proofs.YtgdeefcgjaklhabDoor
