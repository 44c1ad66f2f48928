/-
  For every list of entries, every entry and every string the law TreePut returns true: an entry that was inserted is found and can be removed again, and the others stay what they are. Conditions: the package-level variables unicode/utf8.acceptRanges, graftage/tree.modeWords, unicode/utf8.first start as the program's text and Go's lay them (the card ties them).
-/
import Derived.Test.YtjholoajgnpodaaDoorLawPostPk
import Derived.Test.YtjholoajgnpodaaDoorTrRows
import Derived.Test.YtjholoajgnpodaaDoorTrLawE
namespace Go.Proofs.YtjholoajgnpodaaDoor
open Go.ChangeShapes Go.WideShapes Go.ChangeAt Go.RowKit
open Go.WideMaps Go.WideElems
open Go.ChangeMaps (open_string shut_string)

namespace trPut
theorem contract (H : Type) (enc : TypeId × Value → H) (W : World) (base : Nat) (args : Array Value) (ds gs : List (DataW H)) (before : List MemPlace)
    (hval : ∀ (j : Nat) t v, Tryd.f7.params[j]? = some t → args[j]? = some v → Value.okWide Tryd.prog W .any base t v)
    (hW : DataW.Whole enc Tryd.prog Tryd.f7.params.toList Rows.treePutSpec.vars false W args.toList ds gs before) (hT : TrTab W)
    (hsz0 : (DataW.weightsEach Tryd.prog (Tryd.f7.params.toList ++ (OpenSpec.ofChange Rows.treePutSpec).bare.plain.varTypes Tryd.prog) (ds ++ gs)).all (· ≤ reachBytes) = true) :
    Calls Tryd.prog 7 args W fun e W' => ∃ v, e = .returned v ∧ Rows.treePutSpec.post enc Tryd.prog Tryd.f7 false true false false W args v W' := by
  have hW' := hW
  obtain ⟨p, q, hA0, hV, rfl, hfz, hnd⟩ := hW
  have hA : DataW.TrodAll enc Tryd.prog W 0 (fun _ => true) true Tryd.f7.params.toList args.toList ds p := hA0
  rw [Tryd.params7] at hA hval hsz0
  obtain ⟨v0, vs0, d0, ds0, p0, q0, hargs, rfl, rfl, h0, tr0⟩ := trodAll_cons hA
  obtain ⟨v1, vs1, d1, ds1, p1, q1, rfl, rfl, rfl, h1, tr1⟩ := trodAll_cons tr0
  obtain ⟨v2, vs2, d2, ds2, p2, q2, rfl, rfl, rfl, h2, tr2⟩ := trodAll_cons tr1
  obtain ⟨rfl, rfl, rfl⟩ := trodAll_nil tr2
  obtain rfl : args = #[v0, v1, v2] := by cases args; simp_all
  obtain ⟨rfl, rfl⟩ := trodVars_none hV
  have hlt0 : ∀ x ∈ p0, x.block < W.heap.size := fun x hx => hW'.lt x (by simp [hx])
  obtain ⟨a0, cap0, es0, rfl, hcap0, A0⟩ := entries_arg (hval 0 22 v0 rfl rfl) h0 hlt0 (fun n hn => by
    have := List.all_eq_true.1 hsz0 n (DataW.weights_mem_each (j := 0) (t := 22) (d := d0) rfl rfl n hn)
    simpa using this)
  obtain ⟨c1, e1, f1, x1, y1, z1, n1, rfl, rfl, rfl, hx1, hy1, hz1⟩ := Go.Joins.open_agg3 Tryd.underlying34 (by kernel_rfl) Tryd.cellsEn (hval 1 34 v1 rfl rfl) h1
  obtain ⟨m1, em1, rfl, wm1⟩ := DataW.trod_int Tryd.underlying3 hx1
  obtain ⟨a1, ea1, rfl, wa1⟩ := DataW.trod_string Tryd.underlying9 hy1
  obtain ⟨b1, eb1, rfl, wb1⟩ := DataW.trod_string Tryd.underlying9 hz1
  simp only [List.cons.injEq, and_true] at em1 ea1 eb1
  subst em1 ea1 eb1
  obtain ⟨a2, rfl, rfl, rfl, wa2⟩ := open_string Tryd.underlying9 (hval 2 9 v2 rfl rfl) h2
  clear hA0
  simp only [List.append_nil] at hW'
  have r1 : a1.size ≤ 140737488355328 ∧ b1.size ≤ 140737488355328 := by
    have h1 := List.all_eq_true.1 hsz0 _ (DataW.weights_mem_each (j := 1) (t := 34) rfl rfl a1.size (by simp [DataW.weights, DataW.weightsEach, Tryd.underlying34]))
    have h2 := List.all_eq_true.1 hsz0 _ (DataW.weights_mem_each (j := 1) (t := 34) rfl rfl b1.size (by simp [DataW.weights, DataW.weightsEach, Tryd.underlying34]))
    unfold reachBytes at h1 h2
    simp only [decide_eq_true_eq] at h1 h2
    omega
  have r2 : a2.size ≤ 140737488355328 := by
    have := sized_string hsz0 (j := 2) (t := 9) (bytes := a2.data.toList) rfl rfl
    rw [list_len] at this
    unfold reachBytes at this
    omega
  refine (treePut_walk ⟨m1, a1, b1⟩ a2 A0 hT r1 r2).mono fun e W' ⟨he, hb⟩ => ?_
  subst he
  exact ⟨_, rfl, law_post Tryd.laidOut (by kernel_rfl) rfl rfl Tryd.underlying4 rfl rfl rfl hW' hb⟩

theorem laid_met (os : Os) : laidMet Tryd.prog Rows.treePutRow.laid ((trWorld os).forCall (fun _ _ => 0) ⟨#[], #[.slice none 0 0, .agg #[.int .i64 0, .string ⟨#[]⟩, .string ⟨#[]⟩], .string ⟨#[]⟩], []⟩).memory :=
  laidMet_of_run' 8 (by kernel_rfl) (by kernel_rfl)
theorem reads (os : Os) {H : Type} (enc : TypeId × Value → H) : ∃ places, DataW.whole enc Tryd.prog ((trWorld os).forCall (fun _ _ => 0) ⟨#[], #[.slice none 0 0, .agg #[.int .i64 0, .string ⟨#[]⟩, .string ⟨#[]⟩], .string ⟨#[]⟩], []⟩).memory Tryd.f7.params.toList Rows.treePutSpec.vars false (#[.slice none 0 0, .agg #[.int .i64 0, .string ⟨#[]⟩, .string ⟨#[]⟩], .string ⟨#[]⟩] : Array Value).toList 8 = some ([.nil, .agg [.lit (.int .i64 0), .lit (.string []), .lit (.string [])], .lit (.string [])], [], places) :=
  ⟨[], by kernel_rfl⟩

set_option maxRecDepth 100000 in
theorem lifted (os : Os) (started : os.Started) (H : Type) (enc : TypeId × Value → H) (F : Stop.Interp) :
    ReturnsInHanded {} Tryd.checked os 7 .any ((OpenSpec.ofChange Rows.treePutSpec).preRow enc Tryd.prog Tryd.f7 Rows.treePutRow.domain false Rows.treePutRow.laid) (((OpenSpec.ofChange Rows.treePutSpec).at F).post enc Tryd.prog Tryd.f7 false true false false) := by
  obtain ⟨places, hx⟩ := reads os enc
  refine returnsInHanded_of_row (C := Tryd.checked) (s := (OpenSpec.ofChange Rows.treePutSpec)) Tryd.own started (by kernel_rfl) Tryd.func7
    (witness_row_at (enc := enc) (C := Tryd.checked) false (trWorld os) #[.slice none 0 0, .agg #[.int .i64 0, .string ⟨#[]⟩, .string ⟨#[]⟩], .string ⟨#[]⟩] rfl (by kernel_rfl) (by kernel_rfl) (by kernel_rfl)
      (OpenSpec.preRow_of_cond 8 hx (by kernel_rfl) (fun k hk => by cases hk) (by kernel_rfl) (laid_met os))) ?_
  intro W base args ds gs before hval hW _ _ hsz hL hsh _
  exact contract H enc W base args ds gs before hval hW (trtab_of hL hsh) hsz

theorem said : Rows.TreePutSaid :=
  OpenClaim.holds_of_cond 7 Tryd.f7 rfl rfl rfl rfl rfl rfl rfl ⟨rfl, rfl, rfl, rfl, rfl⟩ rfl rfl rfl rfl rfl (by kernel_rfl) Tryd.func7 (by kernel_rfl)
    (of_decide_eq_true (by kernel_rfl)) (by unfold Func.isWrapper; first | (rw [if_pos (by decide +kernel)]; kernel_rfl) | (rw [if_neg (by decide +kernel)]; exact ⟨rfl, rfl⟩))
    (fun os started H enc _ F => by rw [OpenClaim.pre_eq_preRow]; exact lifted os started H enc F)

theorem plain (f : FuncId) (fn : Func) (hf : Tryd.pinned.checked.prog.funcNamed "graftage/graftagelaw15.TreePut" = some f) (hfn : Tryd.pinned.checked.prog.funcs[f]? = some fn) :
    false = Tryd.pinned.checked.prog.looks [] ∧ ∀ (j : Nat) t, fn.params[j]? = some t → Tryd.pinned.checked.prog.wantsStandIn t = false := by
  obtain rfl : f = 7 := Option.some.inj ((show Tryd.prog.funcNamed "graftage/graftagelaw15.TreePut" = some 7 by kernel_rfl).symm.trans hf) |>.symm
  obtain rfl : fn = Tryd.f7 := (Option.some.inj (Tryd.func7.symm.trans hfn)).symm
  refine ⟨by kernel_rfl, fun j t ht => ?_⟩
  rw [Tryd.params7] at ht
  rcases (show t = 22 ∨ t = 34 ∨ t = 9 by simpa using Array.mem_of_getElem? ht) with rfl | rfl | rfl
  · exact (show Tryd.prog.wantsStandIn 22 = false by kernel_rfl)
  · exact (show Tryd.prog.wantsStandIn 34 = false by kernel_rfl)
  · exact (show Tryd.prog.wantsStandIn 9 = false by kernel_rfl)
end trPut

/-- The card. -/
theorem trPut_card : Rows.TreePutCardSaid :=
  Claim7.holds_tied_plain_at .later [] _ _ _ _ trPut.said (fun _ h => by cases h) (by kernel_rfl) (fun _ h => by cases h) treePut_row_tie rfl ⟨rfl, rfl⟩ (by kernel_rfl) rfl trPut.plain (by kernel_rfl)
end Go.Proofs.YtjholoajgnpodaaDoor
