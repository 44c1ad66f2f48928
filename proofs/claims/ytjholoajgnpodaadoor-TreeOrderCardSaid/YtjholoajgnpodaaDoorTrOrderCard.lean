/-
  For every two entries the law TreeOrder returns true: entries are totally ordered by their sort keys. Conditions: the package-level variables unicode/utf8.acceptRanges, graftage/tree.modeWords, unicode/utf8.first start as the program's text and Go's lay them (the card ties them).
-/
import Derived.Test.YtjholoajgnpodaaDoorFrame
import Derived.Test.YtjholoajgnpodaaDoorTrRows
namespace Go.Proofs.YtjholoajgnpodaaDoor
open Go.ChangeShapes Go.WideShapes Go.ChangeAt Go.RowKit
open Go.WideMaps Go.WideElems
open Go.ChangeMaps (open_string shut_string)

namespace trOrder
theorem contract (H : Type) (enc : TypeId × Value → H) (W : World) (base : Nat) (args : Array Value) (ds gs : List (DataW H)) (before : List MemPlace)
    (hval : ∀ (j : Nat) t v, Tryd.f8.params[j]? = some t → args[j]? = some v → Value.okWide Tryd.prog W .any base t v)
    (hW : DataW.Whole enc Tryd.prog Tryd.f8.params.toList Rows.treeOrderSpec.vars false W args.toList ds gs before) (hT : TrTab W)
    (hsz0 : (DataW.weightsEach Tryd.prog (Tryd.f8.params.toList ++ (OpenSpec.ofChange Rows.treeOrderSpec).bare.plain.varTypes Tryd.prog) (ds ++ gs)).all (· ≤ reachBytes) = true) :
    Calls Tryd.prog 8 args W fun e W' => ∃ v, e = .returned v ∧ Rows.treeOrderSpec.post enc Tryd.prog Tryd.f8 false true false false W args v W' := by
  have hW' := hW
  obtain ⟨p, q, hA0, hV, rfl, hfz, hnd⟩ := hW
  have hA : DataW.TrodAll enc Tryd.prog W 0 (fun _ => true) true Tryd.f8.params.toList args.toList ds p := hA0
  rw [Tryd.params8] at hA hval hsz0
  obtain ⟨v0, vs0, d0, ds0, p0, q0, hargs, rfl, rfl, h0, tr0⟩ := trodAll_cons hA
  obtain ⟨v1, vs1, d1, ds1, p1, q1, rfl, rfl, rfl, h1, tr1⟩ := trodAll_cons tr0
  obtain ⟨rfl, rfl, rfl⟩ := trodAll_nil tr1
  obtain rfl : args = #[v0, v1] := by cases args; simp_all
  obtain ⟨rfl, rfl⟩ := trodVars_none hV
  obtain ⟨c0, e0, f0, x0, y0, z0, n0, rfl, rfl, rfl, hx0, hy0, hz0⟩ := Go.Joins.open_agg3 Tryd.underlying34 (by kernel_rfl) Tryd.cellsEn (hval 0 34 v0 rfl rfl) h0
  obtain ⟨m0, em0, rfl, wm0⟩ := DataW.trod_int Tryd.underlying3 hx0
  obtain ⟨a0, ea0, rfl, wa0⟩ := DataW.trod_string Tryd.underlying9 hy0
  obtain ⟨b0, eb0, rfl, wb0⟩ := DataW.trod_string Tryd.underlying9 hz0
  simp only [List.cons.injEq, and_true] at em0 ea0 eb0
  subst em0 ea0 eb0
  obtain ⟨c1, e1, f1, x1, y1, z1, n1, rfl, rfl, rfl, hx1, hy1, hz1⟩ := Go.Joins.open_agg3 Tryd.underlying34 (by kernel_rfl) Tryd.cellsEn (hval 1 34 v1 rfl rfl) h1
  obtain ⟨m1, em1, rfl, wm1⟩ := DataW.trod_int Tryd.underlying3 hx1
  obtain ⟨a1, ea1, rfl, wa1⟩ := DataW.trod_string Tryd.underlying9 hy1
  obtain ⟨b1, eb1, rfl, wb1⟩ := DataW.trod_string Tryd.underlying9 hz1
  simp only [List.cons.injEq, and_true] at em1 ea1 eb1
  subst em1 ea1 eb1
  clear hA0
  simp only [List.append_nil] at hW'
  have r0 : a0.size ≤ 140737488355328 ∧ b0.size ≤ 140737488355328 := by
    have h1 := List.all_eq_true.1 hsz0 _ (DataW.weights_mem_each (j := 0) (t := 34) rfl rfl a0.size (by simp [DataW.weights, DataW.weightsEach, Tryd.underlying34]))
    have h2 := List.all_eq_true.1 hsz0 _ (DataW.weights_mem_each (j := 0) (t := 34) rfl rfl b0.size (by simp [DataW.weights, DataW.weightsEach, Tryd.underlying34]))
    unfold reachBytes at h1 h2
    simp only [decide_eq_true_eq] at h1 h2
    omega
  have r1 : a1.size ≤ 140737488355328 ∧ b1.size ≤ 140737488355328 := by
    have h1 := List.all_eq_true.1 hsz0 _ (DataW.weights_mem_each (j := 1) (t := 34) rfl rfl a1.size (by simp [DataW.weights, DataW.weightsEach, Tryd.underlying34]))
    have h2 := List.all_eq_true.1 hsz0 _ (DataW.weights_mem_each (j := 1) (t := 34) rfl rfl b1.size (by simp [DataW.weights, DataW.weightsEach, Tryd.underlying34]))
    unfold reachBytes at h1 h2
    simp only [decide_eq_true_eq] at h1 h2
    omega
  refine (treeOrder_walk ⟨m0, a0, b0⟩ ⟨m1, a1, b1⟩ hT r0 r1).mono fun e W' ⟨he, hb⟩ => ?_
  subst he
  exact ⟨_, rfl, law_post Tryd.laidOut (by kernel_rfl) rfl rfl Tryd.underlying4 rfl rfl rfl hW' hb⟩

theorem laid_met (os : Os) : laidMet Tryd.prog Rows.treeOrderRow.laid ((trWorld os).forCall (fun _ _ => 0) ⟨#[], #[.agg #[.int .i64 0, .string ⟨#[]⟩, .string ⟨#[]⟩], .agg #[.int .i64 0, .string ⟨#[]⟩, .string ⟨#[]⟩]], []⟩).memory :=
  laidMet_of_run' 8 (by kernel_rfl) (by kernel_rfl)
theorem reads (os : Os) {H : Type} (enc : TypeId × Value → H) : ∃ places, DataW.whole enc Tryd.prog ((trWorld os).forCall (fun _ _ => 0) ⟨#[], #[.agg #[.int .i64 0, .string ⟨#[]⟩, .string ⟨#[]⟩], .agg #[.int .i64 0, .string ⟨#[]⟩, .string ⟨#[]⟩]], []⟩).memory Tryd.f8.params.toList Rows.treeOrderSpec.vars false (#[.agg #[.int .i64 0, .string ⟨#[]⟩, .string ⟨#[]⟩], .agg #[.int .i64 0, .string ⟨#[]⟩, .string ⟨#[]⟩]] : Array Value).toList 8 = some ([.agg [.lit (.int .i64 0), .lit (.string []), .lit (.string [])], .agg [.lit (.int .i64 0), .lit (.string []), .lit (.string [])]], [], places) :=
  ⟨[], by kernel_rfl⟩

set_option maxRecDepth 100000 in
theorem lifted (os : Os) (started : os.Started) (H : Type) (enc : TypeId × Value → H) (F : Stop.Interp) :
    ReturnsInHanded {} Tryd.checked os 8 .any ((OpenSpec.ofChange Rows.treeOrderSpec).preRow enc Tryd.prog Tryd.f8 Rows.treeOrderRow.domain false Rows.treeOrderRow.laid) (((OpenSpec.ofChange Rows.treeOrderSpec).at F).post enc Tryd.prog Tryd.f8 false true false false) := by
  obtain ⟨places, hx⟩ := reads os enc
  refine returnsInHanded_of_row (C := Tryd.checked) (s := (OpenSpec.ofChange Rows.treeOrderSpec)) Tryd.own started (by kernel_rfl) Tryd.func8
    (witness_row_at (enc := enc) (C := Tryd.checked) false (trWorld os) #[.agg #[.int .i64 0, .string ⟨#[]⟩, .string ⟨#[]⟩], .agg #[.int .i64 0, .string ⟨#[]⟩, .string ⟨#[]⟩]] rfl (by kernel_rfl) (by kernel_rfl) (by kernel_rfl)
      (OpenSpec.preRow_of_cond 8 hx (by kernel_rfl) (fun k hk => by cases hk) (by kernel_rfl) (laid_met os))) ?_
  intro W base args ds gs before hval hW _ _ hsz hL hsh _
  exact contract H enc W base args ds gs before hval hW (trtab_of hL hsh) hsz

theorem said : Rows.TreeOrderSaid :=
  OpenClaim.holds_of_cond 8 Tryd.f8 rfl rfl rfl rfl rfl rfl rfl ⟨rfl, rfl, rfl, rfl, rfl⟩ rfl rfl rfl rfl rfl (by kernel_rfl) Tryd.func8 (by kernel_rfl)
    (of_decide_eq_true (by kernel_rfl)) (by unfold Func.isWrapper; first | (rw [if_pos (by decide +kernel)]; kernel_rfl) | (rw [if_neg (by decide +kernel)]; exact ⟨rfl, rfl⟩))
    (fun os started H enc _ F => by rw [OpenClaim.pre_eq_preRow]; exact lifted os started H enc F)

theorem plain (f : FuncId) (fn : Func) (hf : Tryd.pinned.checked.prog.funcNamed "graftage/graftagelaw15.TreeOrder" = some f) (hfn : Tryd.pinned.checked.prog.funcs[f]? = some fn) :
    false = Tryd.pinned.checked.prog.looks [] ∧ ∀ (j : Nat) t, fn.params[j]? = some t → Tryd.pinned.checked.prog.wantsStandIn t = false := by
  obtain rfl : f = 8 := Option.some.inj ((show Tryd.prog.funcNamed "graftage/graftagelaw15.TreeOrder" = some 8 by kernel_rfl).symm.trans hf) |>.symm
  obtain rfl : fn = Tryd.f8 := (Option.some.inj (Tryd.func8.symm.trans hfn)).symm
  refine ⟨by kernel_rfl, fun j t ht => ?_⟩
  rw [Tryd.params8] at ht
  obtain rfl : t = 34 := by simpa using Array.mem_of_getElem? ht
  exact (show Tryd.prog.wantsStandIn 34 = false by kernel_rfl)
end trOrder

/-- The card. -/
theorem trOrder_card : Rows.TreeOrderCardSaid :=
  Claim7.holds_tied_plain_at .later [] _ _ _ _ trOrder.said (fun _ h => by cases h) (by kernel_rfl) (fun _ h => by cases h) treeOrder_row_tie rfl ⟨rfl, rfl⟩ (by kernel_rfl) rfl trOrder.plain (by kernel_rfl)
end Go.Proofs.YtjholoajgnpodaaDoor
