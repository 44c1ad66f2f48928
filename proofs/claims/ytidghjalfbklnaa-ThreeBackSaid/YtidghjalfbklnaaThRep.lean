/-
  The walk of slices.Repeat of one number.
-/
import Derived.Test.YtidghjalfbklnaaSpSplitPk
import Derived.Test.YtidghjalfbklnaaShelf
import Derived.Laws.CopyOwn
import Derived.Deep.RegionLaw
import Derived.Deep.CutRange
import Derived.Deep.DeepCutAuto
import Derived.Deep.RegionWith
import Derived.Deep.RegionHeld3
import Derived.RegionTactic
import Derived.BigRegion
namespace Go.Proofs.Ytidghjalfbklnaa
open Go.RowKit

theorem Try.infoIntT : (Try.prog.info? 3).map (fun i => (i.zero, i.size, i.bytes)) = some (some (.int .i64 0), 1, 8) := by kernel_rfl
theorem Try.infoIntST : (Try.prog.info? 3).map (·.size) = some 1 := by kernel_rfl
theorem make_intsT (M : Nat) (hM : M ≤ 8192) (w : World) : (Instr.makeSlice 57 (.int .i64 (M : Int)) (.int .i64 (M : Int))).run Try.prog w = .ok (.slice (some ⟨w.heap.size, 0, none⟩) M M) (w.alloc (.cells (madeCells #[.int .i64 0] M) 3)) := by
  obtain ⟨i0, hi, hz0, hz1, hz2⟩ := info_parts Try.infoIntT
  have h := run_makeSlice (P := Try.prog) w 57 3 i0 (.int .i64 0) Try.underlying57 hi hz0 .i64 .i64 (M : Int) (M : Int) (by omega) (by omega) (by rw [hz1]; omega) (by rw [hz2]; omega) (by omega)
  rw [hz1] at h
  simp only [Int.toNat_natCast, Nat.mul_one] at h
  exact h
/-- A row of m numbers x, and noughts behind them. -/
def fillV (x : Value) (m n : Nat) : List Value := List.replicate m x ++ List.replicate (n - m) (.int .i64 0)
theorem fill_len (x : Value) {m n : Nat} (h : m ≤ n) : (fillV x m n).length = n := by simp [fillV]; omega
theorem fill_splice (x : Value) {m n c : Nat} (h : m + c ≤ n) : splice (fillV x m n) m (List.replicate c x) = fillV x (m + c) n := by
  unfold splice fillV
  rw [List.take_left' (by simp), List.length_replicate, List.drop_append, List.drop_of_length_le (by simp), List.nil_append, List.length_replicate, show m + c - m = c by omega, List.drop_replicate, ← List.append_assoc, List.replicate_append_replicate, show n - m - c = n - (m + c) by omega]
theorem made_fill (n : Nat) : madeCells #[.int .i64 0] n = (fillV (.int .i64 (-1)) 0 n).toArray := by
  apply Array.ext'
  rw [toList_madeCells_one]
  simp [fillV]

set_option maxHeartbeats 2000000 in
set_option maxRecDepth 4000 in
theorem repeat_any (n g o c : Nat) (w : World) (hn : n ≤ 5000) (hc : w.cell? ⟨g, o, none⟩ = some (.int .i64 (-1))) :
    Calls Try.prog 74 #[.slice (some ⟨g, o, none⟩) 1 c, .int .i64 (n : Int)] w fun e w' => e = .returned (.slice (some ⟨w.heap.size, 0, none⟩) n n) ∧ w'.heap[w.heap.size]? = some (.cells (List.replicate n (.int .i64 (-1))).toArray 3 (0, 0)) ∧ Below w.heap.size w w' := by
  have hmk := make_intsT n (by omega)
  have HMU : Hid (∀ w, Calls Try.prog 95 #[.int .u64 1, .int .u64 (n : Int)] w fun e w' => e = .returned (.tuple #[.int .u64 0, .int .u64 (n : Int)]) ∧ w' = w) := fun w => by
    have h := Try.bits_Mul 1 n (by omega) (by omega) w
    rw [show (1 * n / 18446744073709551616 : Nat) = 0 by omega, show (1 * n % 18446744073709551616 : Nat) = n by omega] at h
    exact h
  have d1 : decide ((n : Int) < 0) = false := decide_eq_false (by omega)
  have d2 : decide ((9223372036854775807 : Int) < (n : Int)) = false := decide_eq_false (by omega)
  have s1 : IntKind.u64.wrap (n : Int) = (n : Int) := by rw [IntKind.wrap]; simp [IntKind.bits, IntKind.signed]; omega
  have s2 : IntKind.i64.wrap (n : Int) = (n : Int) := IntWalk.i64_in _ (by omega)
  go_enter Try.func74, Try.ntmps74
  go_upto_region 7 with (go_at_call 95; ((with_reducible refine (HMU.out _).mono ?_); rintro e w1 ⟨rfl, rfl⟩))
  obtain ⟨G, hG⟩ : ∃ G, G = w1.heap.size := ⟨_, rfl⟩
  obtain ⟨w2, hw2⟩ : ∃ w2, w2 = w1.alloc (.cells (madeCells #[.int .i64 0] n) 3) := ⟨_, rfl⟩
  have hrow : w2.heap[G]? = some (.cells (fillV (.int .i64 (-1)) 0 n).toArray 3 (0, 0)) := by rw [hw2, hG, ← made_fill]; exact heap_alloc_new _ _
  have hb2 : Below w1.heap.size w1 w2 := by rw [hw2]; exact below_new (Below.refl _ _) _
  have hcb := (hb2.cell (p := ⟨g, o, none⟩) (World.block_lt_of_cell? w1 _ hc)).trans hc
  rw [← hw2, ← hG]
  have HG := Lib.hid hG
  clear hw2 hG hmk
  obtain ⟨C0, hC0⟩ : ∃ C0, C0 = min 1 n := ⟨_, rfl⟩
  obtain ⟨cs, hcs⟩ : ∃ cs, cs = List.replicate C0 (Value.int .i64 (-1)) := ⟨_, rfl⟩
  have hcl : cs.length = C0 := by rw [hcs]; simp
  have HX : Hid (splice (fillV (.int .i64 (-1)) 0 n) 0 cs = fillV (.int .i64 (-1)) C0 n) := by
    show _ = _
    rw [hcs, fill_splice _ (by omega), Nat.zero_add]
  have HP : Hid (∀ j v, cs[j]? = some v → w2.cell? ((⟨g, o, none⟩ : Addr).add j) = some v) := fun j v hj => by
    have hlt := (List.getElem?_eq_some_iff.mp hj).1
    have hj0 : j = 0 := by omega
    subst hj0
    rw [hcs, List.getElem?_replicate, if_pos (by omega)] at hj
    rw [Addr.add_lit, Nat.add_zero, hcb, ← Option.some.inj hj]
  have H1 : Hid (∀ v ∈ cs, v.oneCell' = true) := fun v hv => by rw [hcs] at hv; rw [(List.mem_replicate.1 hv).2]; rfl
  have HC : Hid (C0 = min 1 n) := hC0
  have HCL := Lib.hid hcl
  have HFL : Hid ((fillV (.int .i64 (-1)) 0 n).length = n) := fill_len _ (Nat.zero_le _)
  clear hC0 hcs hcl
  go_upto_region 8 with ((refine wpList_copy_splice rfl _ _ _ _ rfl 3 Try.underlying57 Try.infoIntST _ _ _ _ _ _ rfl rfl G 0 _ 3 hrow cs (by rw [HCL.out, HC.out]) (fun _ => ⟨rfl, _, rfl, HP.out⟩) (by rw [HCL.out, HFL.out, HC.out]; omega) H1.out w1.heap.size w1 hb2 (by rw [HG.out]; exact Nat.le_refl _) ?_; intro w3 hr3 hb3))
  have HR3 := Lib.hid hr3.out
  rw [HX.out] at HR3
  have HB3 := Lib.hid hb3
  clear hr3 hrow hb2 hcb hb3
  go_loopw [8] (fun mv wr => ∃ m : Nat, m ≤ n ∧ (0 < n → 0 < m) ∧ mv = .int .i64 (m : Int) ∧ Hid (wr.heap[G]? = some (.cells (fillV (.int .i64 (-1)) m n).toArray 3 (0, 0))) ∧ Hid (Below w1.heap.size w1 wr)) (fun mv _ => n - (intOf mv).toNat)
  case atStart => exact ⟨C0, by have := HC.out; omega, by have := HC.out; omega, by rw [HCL.out], HR3.out, HB3.out⟩
  case round =>
    clear HR3 HB3
    obtain ⟨m, hm, hm0, rfl, HR, HB⟩ := hrel
    by_cases hlt : m < n
    · have hm1 : 0 < m := hm0 (by omega)
      obtain ⟨z, hz⟩ : ∃ z, z = min m (n - m) := ⟨_, rfl⟩
      obtain ⟨ds, hds⟩ : ∃ ds, ds = List.replicate z (Value.int .i64 (-1)) := ⟨_, rfl⟩
      have hdl : ds.length = z := by rw [hds]; simp
      have HX2 : Hid (splice (fillV (.int .i64 (-1)) m n) m ds = fillV (.int .i64 (-1)) (m + z) n) := by
        show _ = _
        rw [hds, fill_splice _ (by omega)]
      have HP2 : Hid (∀ w' : World, w'.heap[G]? = some (.cells (fillV (.int .i64 (-1)) m n).toArray 3 (0, 0)) → ∀ j v, ds[j]? = some v → w'.cell? ((⟨G, 0, none⟩ : Addr).add j) = some v) := fun w' hr j v hj => by
        have hlt2 := (List.getElem?_eq_some_iff.mp hj).1
        rw [hds, List.getElem?_replicate, if_pos (by omega)] at hj
        rw [Addr.add_lit, Nat.zero_add, cell_of_row w' G j _ _ _ hr, ← Option.some.inj hj]
        simp only [List.getElem?_toArray, fillV]
        rw [List.getElem?_append_left (by simp; omega), List.getElem?_replicate, if_pos (by omega)]
      have H2 : Hid (∀ v ∈ ds, v.oneCell' = true) := fun v hv => by rw [hds] at hv; rw [(List.mem_replicate.1 hv).2]; rfl
      have HFL2 : Hid ((fillV (.int .i64 (-1)) m n).length = n) := fill_len _ (by omega)
      have HZ : Hid (z = min m (n - m)) := hz
      have HDL := Lib.hid hdl
      have hne : ¬ n = m := by omega
      have hmi : (m : Int) ≤ (n : Int) := by omega
      have HM := Lib.hid hm0
      obtain ⟨q, hq⟩ : ∃ q, q = m + z := ⟨_, rfl⟩
      have hq1 : (m : Int) + (z : Int) = (q : Int) := by omega
      have hq2 : IntKind.i64.wrap (q : Int) = (q : Int) := IntWalk.i64_in _ (by omega)
      have hqn : q ≤ n := by omega
      have hqm : m < q := by omega
      rw [← hq] at HX2
      clear hds hdl hz hq hm0
      go_wp2
      go_region_held3 (fun _ => True) (trivial)
        ((refine step_copy_splice (by rfl) _ _ _ _ (by rfl) 3 Try.underlying57 Try.infoIntST _ _ _ _ _ _ (by rfl) (by rfl) G m _ 3 (by exact HR.out) ds (by rw [HDL.out, HZ.out]) (fun _ => ⟨rfl, _, rfl, HP2.out _ HR.out⟩) (by rw [HDL.out, HFL2.out]; omega) H2.out w1.heap.size w1 HB.out.drew (by rw [HG.out]; exact Nat.le_refl _) ?_; intro w5 hr5 hb5))
      have HR5 := Lib.hid hr5.out
      rw [HX2.out] at HR5
      have HB5 := Lib.hid hb5
      clear hr5 hb5
      go_wp2
      go_roundw
      case rel => exact ⟨q, hqn, fun _ => by omega, by rw [HDL.out, hq1, hq2], HR5.out, HB5.out⟩
      case measure => rw [HDL.out, hq1, hq2]; simp [intOf]; omega
    · obtain rfl : m = n := by omega
      have hr := HR.out
      rw [show fillV (.int .i64 (-1)) m m = List.replicate m (.int .i64 (-1)) by simp [fillV]] at hr
      have HRE := Lib.hid hr
      clear hr hm0 HFL HX HP H1
      go_wp2
      go_ret
      exact ⟨by rw [← HG.out]; rfl, by rw [← HG.out]; exact HRE.out, HB.out⟩
end Go.Proofs.Ytidghjalfbklnaa
