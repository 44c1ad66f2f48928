/-
  The walk of ParseTag.
-/
import Derived.Test.YtddmnibioacelaaGreatDoorCmTag
import Derived.Test.YtddmnibioacelaaGreatDoorCmBodyPk
namespace Go.Proofs.YtddmnibioacelaaGreatDoor
open Go Go.RowKit Go.Maps Go.WideMaps

/-- ParseTag under way. -/
structure GSt (w0 w : World) (A E b : Nat) (cs : Array Value) (r : ByteArray) (B : Bool) : Prop where
  rd : Rd w b r B
  e : w.heap[E]? = some (.cells cs 37 (0, 0))
  a : w.heap[A]? = some (.cells #[.string ⟨#[]⟩, .int .i64 0, .string ⟨#[]⟩, .string ⟨#[]⟩, .string ⟨#[]⟩, .int .i64 0, .int .i64 0, .string ⟨#[]⟩] 37 (0, 0))
  bel : Below w0.heap.size w0 w
  o1 : w0.heap.size ≤ A
  o2 : A < E
  o3 : E < b
theorem GSt.call {w0 w w' : World} {A E b : Nat} {cs : Array Value} {r r' : ByteArray} {B B' : Bool} (h : GSt w0 w A E b cs r B) (hg : w.grownBy w' (some b)) (hr : Rd w' b r' B') : GSt w0 w' A E b cs r' B' :=
  ⟨hr, (hg.block E (row_lt h.e) (by have := h.o3; simp; omega)).trans h.e, (hg.block A (row_lt h.a) (by have := h.o2; have := h.o3; simp; omega)).trans h.a,
   h.bel.grown hg (by have := h.o1; have := row_lt h.a; omega) (fun j hj => by cases hj; have := h.o1; have := h.o2; have := h.o3; omega), h.o1, h.o2, h.o3⟩
theorem GSt.below {w0 w w' : World} {A E b : Nat} {cs : Array Value} {r : ByteArray} {B : Bool} (h : GSt w0 w A E b cs r B) (hb : Below w.heap.size w w') : GSt w0 w' A E b cs r B :=
  h.call (gb_below b hb) (h.rd.below hb)
theorem GSt.store {w0 w : World} {A E b : Nat} {cs cs' : Array Value} {r : ByteArray} {B : Bool} (h : GSt w0 w A E b cs r B) (k : Nat) (v : Value) (hc : cs.setIfInBounds k v = cs') : GSt w0 (w.setCell ⟨E, k, none⟩ v) A E b cs' r B :=
  ⟨(Below.heap_setCell _ ⟨E, k, none⟩ v b (by show b ≠ E; have := h.o3; omega)).trans h.rd, by rw [← hc]; exact heap_setCell_same w E k cs 37 v h.e,
   (Below.heap_setCell _ ⟨E, k, none⟩ v A (by show A ≠ E; have := h.o2; omega)).trans h.a, h.bel.setCell (p := ⟨E, k, none⟩) (by show _ ≤ E; have := h.o1; have := h.o2; omega) v, h.o1, h.o2, h.o3⟩
/-- What ParseTag answers. -/
def ParGR (R : Nat × Tg) (w : World) (e : Ending) (w' : World) : Prop :=
  e = .returned (.tuple #[.agg #[.string R.2.o, .int .i64 R.2.k, .string R.2.n, .string R.2.g.n, .string R.2.g.m, .int .i64 R.2.g.t, .int .i64 R.2.g.z, .string R.2.x], .int .i64 (R.1 : Int)]) ∧ Below w.heap.size w w'
theorem parGR_bad {R : Nat × Tg} {w w' : World} {c : Nat} (h : R = (c, Tg.zero)) (hb : Below w.heap.size w w') :
    ParGR R w (.returned (.tuple #[.agg #[.string ⟨#[]⟩, .int .i64 0, .string ⟨#[]⟩, .string ⟨#[]⟩, .string ⟨#[]⟩, .int .i64 0, .int .i64 0, .string ⟨#[]⟩], .int .i64 (c : Int)])) w' := by
  subst h
  exact ⟨rfl, hb⟩

set_option maxHeartbeats 8000000 in
set_option maxRecDepth 8000 in
theorem gparse_any (s : ByteArray) (w : World) (hT : StrTab w) (hO : WoTab w) (hs : s.size ≤ 1048576) : Calls Tryz.prog 17 #[.string s] w (ParGR (parG s.data.toList) w) := by
  obtain ⟨R, hR⟩ : ∃ R, R = parG s.data.toList := ⟨_, rfl⟩
  rw [← hR]
  obtain ⟨l, hl⟩ : ∃ l, l = s.data.toList := ⟨_, rfl⟩
  have hll : l.length ≤ 1048576 := by rw [hl, list_len]; exact hs
  obtain ⟨T, hTT⟩ : ∃ T, T = str (valV l wObj) := ⟨_, rfl⟩
  obtain ⟨r1, hr1⟩ : ∃ r1, r1 = valR l := ⟨_, rfl⟩
  obtain ⟨B1, hB1⟩ : ∃ B1, B1 = ((false || !(valO l wObj)) || !(isId (str (valV l wObj)))) := ⟨_, rfl⟩
  obtain ⟨k, hk⟩ : ∃ k, k = kindL (valV r1 wTyp) := ⟨_, rfl⟩
  obtain ⟨B2, hB2⟩ : ∃ B2, B2 = ((B1 || !(valO r1 wTyp)) || !(((k : Nat) : Int) != 0)) := ⟨_, rfl⟩
  obtain ⟨r2, hr2⟩ : ∃ r2, r2 = valR r1 := ⟨_, rfl⟩
  obtain ⟨N, hN⟩ : ∃ N, N = str (valV r2 wTag) := ⟨_, rfl⟩
  obtain ⟨B3, hB3⟩ : ∃ B3, B3 = (B2 || !(valO r2 wTag)) := ⟨_, rfl⟩
  obtain ⟨r3, hr3⟩ : ∃ r3, r3 = valR r2 := ⟨_, rfl⟩
  obtain ⟨⟨ac, ⟨an, am, aT, az⟩⟩, hA⟩ : ∃ q, q = whoR (valV r3 wTgr) := ⟨_, rfl⟩
  obtain ⟨B4, hB4⟩ : ∃ B4, B4 = ((B3 || !(valO r3 wTgr)) || !(((ac : Nat) : Int) != 2)) := ⟨_, rfl⟩
  obtain ⟨r4, hr4⟩ : ∃ r4, r4 = valR r3 := ⟨_, rfl⟩
  obtain ⟨X, hX⟩ : ∃ X, X = str (cutP r4 [10]) := ⟨_, rfl⟩
  obtain ⟨B5, hB5⟩ : ∃ B5, B5 = (B4 || !(Lib.hasPrefix r4 [10])) := ⟨_, rfl⟩
  have HR : Hid (R = if B5 = true then (2, Tg.zero) else if chkG ⟨T, (k : Int), N, ⟨an, am, aT, az⟩, X⟩ = 0 then (0, ⟨T, (k : Int), N, ⟨an, am, aT, az⟩, X⟩) else (chkG ⟨T, (k : Int), N, ⟨an, am, aT, az⟩, X⟩, Tg.zero)) := by
    show _ = _
    rw [hR, parG, ← hl]
    have hp : pcG l = ⟨valV l wObj, k, valV r2 wTag, (ac, ⟨an, am, aT, az⟩), cutP r4 [10], B5⟩ := by
      simp only [pcG]
      rw [← hB1, ← hr1, ← hk, ← hr2, ← hB2, ← hr3, ← hB3, ← hA, ← hr4]
      simp only
      rw [← hB4, ← hB5]
    rw [hp]
    subst hTT hX hN
    rfl
  have k1 : r1.length ≤ 1048576 := by rw [hr1]; have := valR_len l; omega
  have k2 : r2.length ≤ 1048576 := by rw [hr2]; have := valR_len r1; omega
  have k3 : r3.length ≤ 1048576 := by rw [hr3]; have := valR_len r2; omega
  have k4 : r4.length ≤ 1048576 := by rw [hr4]; have := valR_len r3; omega
  have kT : T.size ≤ 1048576 := by rw [hTT, str_size]; have := valV_len l wObj; omega
  have kN : N.size ≤ 1048576 := by rw [hN, str_size]; have := valV_len r2 wTag; omega
  have kA := whoR_len (valV r3 wTgr)
  rw [← hA] at kA
  simp only at kA
  have kv3 := valV_len r3 wTgr
  have HSZ : Hid (T.size ≤ 140737488355328 ∧ N.size ≤ 140737488355328 ∧ an.size ≤ 140737488355328 ∧ am.size ≤ 140737488355328) := ⟨by omega, by omega, by omega, by omega⟩
  obtain ⟨wA, hwA⟩ : ∃ wA, wA = w.alloc (.cells #[.string ⟨#[]⟩, .int .i64 0, .string ⟨#[]⟩, .string ⟨#[]⟩, .string ⟨#[]⟩, .int .i64 0, .int .i64 0, .string ⟨#[]⟩] 37) := ⟨_, rfl⟩
  obtain ⟨wE, hwE⟩ : ∃ wE, wE = wA.alloc (.cells #[.string ⟨#[]⟩, .int .i64 0, .string ⟨#[]⟩, .string ⟨#[]⟩, .string ⟨#[]⟩, .int .i64 0, .int .i64 0, .string ⟨#[]⟩] 37) := ⟨_, rfl⟩
  obtain ⟨wb, hwb⟩ : ∃ wb, wb = wE.alloc (.cells #[.string s, .bool false] 63) := ⟨_, rfl⟩
  obtain ⟨A, hAA⟩ : ∃ A, A = w.heap.size := ⟨_, rfl⟩
  obtain ⟨E, hEE⟩ : ∃ E, E = wA.heap.size := ⟨_, rfl⟩
  obtain ⟨b, hbb⟩ : ∃ b, b = wE.heap.size := ⟨_, rfl⟩
  have hAE : Below wA.heap.size wA wE := by rw [hwE]; exact below_new (Below.refl _ _) _
  have hEb : Below wE.heap.size wE wb := by rw [hwb]; exact below_new (Below.refl _ _) _
  have hwa1 : wA.heap[A]? = some (.cells #[.string ⟨#[]⟩, .int .i64 0, .string ⟨#[]⟩, .string ⟨#[]⟩, .string ⟨#[]⟩, .int .i64 0, .int .i64 0, .string ⟨#[]⟩] 37 (0, 0)) := by rw [hwA, hAA]; exact heap_alloc_new w _
  have hwe1 : wE.heap[E]? = some (.cells #[.string ⟨#[]⟩, .int .i64 0, .string ⟨#[]⟩, .string ⟨#[]⟩, .string ⟨#[]⟩, .int .i64 0, .int .i64 0, .string ⟨#[]⟩] 37 (0, 0)) := by rw [hwE, hEE]; exact heap_alloc_new wA _
  have hS0 : GSt w wb A E b #[.string ⟨#[]⟩, .int .i64 0, .string ⟨#[]⟩, .string ⟨#[]⟩, .string ⟨#[]⟩, .int .i64 0, .int .i64 0, .string ⟨#[]⟩] s false := by
    refine ⟨by rw [hwb, hbb]; exact heap_alloc_new wE _, (hEb.block E (row_lt hwe1)).trans hwe1, (hEb.block A ?_).trans ((hAE.block A (row_lt hwa1)).trans hwa1), ?_, by omega, ?_, ?_⟩
    · exact Nat.lt_of_lt_of_le (row_lt hwa1) hAE.size
    · have h1 : Below w.heap.size w wA := by rw [hwA]; exact below_new (Below.refl _ _) _
      exact (h1.trans (hAE.mono h1.size)).trans (hEb.mono (Nat.le_trans h1.size hAE.size))
    · have := row_lt hwa1; omega
    · have := row_lt hwe1; omega
  have HS0 := Lib.hid hS0
  have HWA := Lib.hid hwA
  have HWE := Lib.hid hwE
  have HWB := Lib.hid hwb
  have HAA := Lib.hid hAA
  have HEE := Lib.hid hEE
  have HBB := Lib.hid hbb
  have HWO := Lib.hid hO
  have hWb : ∀ w' cs r B, GSt w w' A E b cs r B → w.heap.size ≤ b := fun w' cs r B h => by have := h.o1; have := h.o2; have := h.o3; omega
  have C1 : Hid (Calls Tryz.prog 42 #[.pointer (some ⟨b, 0, none⟩), .string ⟨#[111, 98, 106, 101, 99, 116]⟩] wb fun e w' => e = .returned (.string T) ∧ wb.grownBy w' (some b) ∧ Rd w' b (str r1) B1) := by
    have := rdId_any b s ⟨#[111, 98, 106, 101, 99, 116]⟩ false wb hS0.rd (hT.below hS0.bel) hs (by decide)
    rw [← hl] at this
    rw [hTT, hr1, hB1]
    exact this
  have C2 : Hid (∀ w' cs, GSt w w' A E b cs (str r1) B1 → Calls Tryz.prog 48 #[.pointer (some ⟨b, 0, none⟩), .string ⟨#[116, 121, 112, 101]⟩] w' fun e w'' => e = .returned (.int .i64 (k : Int)) ∧ w'.grownBy w'' (some b) ∧ Rd w'' b (str r2) B2) := fun w' cs h => by
    have := rdKind_any b (str r1) ⟨#[116, 121, 112, 101]⟩ B1 w w' h.rd hT hO h.bel (hWb _ _ _ _ h) (by rw [str_size]; exact k1) (by decide)
    rw [show (str r1).data.toList = r1 from rfl, show (⟨#[116, 121, 112, 101]⟩ : ByteArray).data.toList = wTyp from rfl, ← hk, ← hr2, ← hB2] at this
    exact this
  have C3 : Hid (∀ w' cs, GSt w w' A E b cs (str r2) B2 → Calls Tryz.prog 49 #[.pointer (some ⟨b, 0, none⟩), .string ⟨#[116, 97, 103]⟩] w' fun e w'' => e = .returned (.string N) ∧ w'.grownBy w'' (some b) ∧ Rd w'' b (str r3) B3) := fun w' cs h => by
    have := value_any b (str r2) ⟨#[116, 97, 103]⟩ B2 w' h.rd (hT.below h.bel) (by rw [str_size]; exact k2) (by decide)
    rw [hN, hr3, hB3]
    exact this
  have C4 : Hid (∀ w' cs, GSt w w' A E b cs (str r3) B3 → Calls Tryz.prog 44 #[.pointer (some ⟨b, 0, none⟩), .string ⟨#[116, 97, 103, 103, 101, 114]⟩] w' fun e w'' => e = .returned (.agg #[.string an, .string am, .int .i64 aT, .int .i64 az]) ∧ w'.grownBy w'' (some b) ∧ Rd w'' b (str r4) B4) := fun w' cs h => by
    have := rwho_any b (str r3) ⟨#[116, 97, 103, 103, 101, 114]⟩ B3 w w' h.rd hT h.bel (hWb _ _ _ _ h) (by rw [str_size]; exact k3) (by decide)
    rw [show (str r3).data.toList = r3 from rfl, show (⟨#[116, 97, 103, 103, 101, 114]⟩ : ByteArray).data.toList = wTgr from rfl, ← hA, ← hr4] at this
    simp only at this
    rw [hB4]
    exact this
  have C6 : Hid (∀ w' cs, GSt w w' A E b cs (str r4) B4 → Calls Tryz.prog 45 #[.pointer (some ⟨b, 0, none⟩)] w' fun e w'' => e = .returned (.string X) ∧ w'.grownBy w'' (some b) ∧ Rd w'' b (str r4) B5) := fun w' cs h => by
    have := rtext_any b (str r4) B4 w' h.rd (by rw [str_size]; exact k4)
    rw [hX, hB5]
    exact this
  clear hR hl hll hTT hr1 hB1 hk hB2 hr2 hN hB3 hr3 hA hB4 hr4 hX hB5 k1 k2 k3 k4 kT kN kA kv3 hwA hwE hwb hAA hEE hbb hAE hEb hwa1 hwe1 hS0 hT hO hs hWb
  go_enter Tryz.func17, Tryz.ntmps17
  go_upto_region 1 with fail
  rw [← HWA.out, ← HAA.out]
  go_upto_region 2 with fail
  rw [← HWE.out, ← HEE.out]
  go_upto_region 3 with fail
  rw [← HWB.out, ← HBB.out]
  go_upto_region 4 with (go_at_call 42; ((with_reducible refine (C1.out).mono ?_); rintro e w1 ⟨rfl, hg4, hr4⟩; have hS4 := HS0.out.call hg4 hr4; have c4 := (tg_at hS4.e).1; have f4 := (tg_frz hS4.e).1))
  have hS5 := hS4.store 0 (.string T) (cs' := #[.string T, .int .i64 0, .string ⟨#[]⟩, .string ⟨#[]⟩, .string ⟨#[]⟩, .int .i64 0, .int .i64 0, .string ⟨#[]⟩]) (by simp)
  obtain ⟨w2, hw2⟩ : ∃ w2, w2 = w1.setCell ⟨E, 0, none⟩ (.string T) := ⟨_, rfl⟩
  rw [← hw2] at hS5 ⊢
  have HS5 := Lib.hid hS5
  clear hS5 hw2 c4 f4 hS4 hg4 hr4 C1 HWA HWE HWB HAA HEE HBB HS0
  go_upto_region 5 with (go_at_call 48; ((with_reducible refine (C2.out _ _ HS5.out).mono ?_); rintro e w3 ⟨rfl, hg4, hr4⟩; have hS4 := HS5.out.call hg4 hr4; have c4 := (tg_at hS4.e).2.1; have f4 := (tg_frz hS4.e).2.1))
  have hS6 := hS4.store 1 (.int .i64 (k : Int)) (cs' := #[.string T, .int .i64 (k : Int), .string ⟨#[]⟩, .string ⟨#[]⟩, .string ⟨#[]⟩, .int .i64 0, .int .i64 0, .string ⟨#[]⟩]) (by simp)
  obtain ⟨w4, hw4⟩ : ∃ w4, w4 = w3.setCell ⟨E, 1, none⟩ (.int .i64 (k : Int)) := ⟨_, rfl⟩
  rw [← hw4] at hS6 ⊢
  have HS6 := Lib.hid hS6
  clear hS6 hw4 c4 f4 hS4 hg4 hr4 C2 HS5
  go_upto_region 6 with (go_at_call 49; ((with_reducible refine (C3.out _ _ HS6.out).mono ?_); rintro e w5 ⟨rfl, hg4, hr4⟩; have hS4 := HS6.out.call hg4 hr4; have c4 := (tg_at hS4.e).2.2.1; have f4 := (tg_frz hS4.e).2.2.1))
  have hS7 := hS4.store 2 (.string N) (cs' := #[.string T, .int .i64 (k : Int), .string N, .string ⟨#[]⟩, .string ⟨#[]⟩, .int .i64 0, .int .i64 0, .string ⟨#[]⟩]) (by simp)
  obtain ⟨w6, hw6⟩ : ∃ w6, w6 = w5.setCell ⟨E, 2, none⟩ (.string N) := ⟨_, rfl⟩
  rw [← hw6] at hS7 ⊢
  have HS7 := Lib.hid hS7
  clear hS7 hw6 c4 f4 hS4 hg4 hr4 C3 HS6
  go_upto_region 7 with (go_at_call 44; ((with_reducible refine (C4.out _ _ HS7.out).mono ?_); rintro e w7 ⟨rfl, hg4, hr4⟩; have hS4 := HS7.out.call hg4 hr4; obtain ⟨-, -, -, c2, c3, c4, c5, -⟩ := tg_at hS4.e; obtain ⟨-, -, -, f2, f3, f4, f5, -⟩ := tg_frz hS4.e))
  have hS8 := (((hS4.store 3 (.string an) (cs' := #[.string T, .int .i64 (k : Int), .string N, .string an, .string ⟨#[]⟩, .int .i64 0, .int .i64 0, .string ⟨#[]⟩]) (by simp)).store 4 (.string am) (cs' := #[.string T, .int .i64 (k : Int), .string N, .string an, .string am, .int .i64 0, .int .i64 0, .string ⟨#[]⟩]) (by simp)).store 5 (.int .i64 aT) (cs' := #[.string T, .int .i64 (k : Int), .string N, .string an, .string am, .int .i64 aT, .int .i64 0, .string ⟨#[]⟩]) (by simp)).store 6 (.int .i64 az) (cs' := #[.string T, .int .i64 (k : Int), .string N, .string an, .string am, .int .i64 aT, .int .i64 az, .string ⟨#[]⟩]) (by simp)
  obtain ⟨w8, hw8⟩ : ∃ w8, w8 = (((w7.setCell ⟨E, 3, none⟩ (.string an)).setCell ⟨E, 4, none⟩ (.string am)).setCell ⟨E, 5, none⟩ (.int .i64 aT)).setCell ⟨E, 6, none⟩ (.int .i64 az) := ⟨_, rfl⟩
  rw [← hw8] at hS8 ⊢
  have HS8 := Lib.hid hS8
  clear hS8 hw8 c2 c3 c4 c5 f2 f3 f4 f5 hS4 hg4 hr4 C4 HS7
  go_upto_region 8 with (go_at_call 45; ((with_reducible refine (C6.out _ _ HS8.out).mono ?_); rintro e w9 ⟨rfl, hg4, hr4⟩; have hS4 := HS8.out.call hg4 hr4; obtain ⟨-, -, -, -, -, -, -, c2⟩ := tg_at hS4.e; obtain ⟨-, -, -, -, -, -, -, f2⟩ := tg_frz hS4.e))
  have hS9 := hS4.store 7 (.string X) (cs' := #[.string T, .int .i64 (k : Int), .string N, .string an, .string am, .int .i64 aT, .int .i64 az, .string X]) (by simp)
  obtain ⟨wy, hwy⟩ : ∃ wy, wy = w9.setCell ⟨E, 7, none⟩ (.string X) := ⟨_, rfl⟩
  rw [← hwy] at hS9 ⊢
  have HS9 := Lib.hid hS9
  obtain ⟨-, b1, -, -⟩ := hS9.rd.at
  clear hS9 hwy c2 f2 hS4 hg4 hr4 HS8 C6
  rcases B5 with _ | _
  case true =>
    have HQ : Hid (R = (2, Tg.zero)) := by show _ = _; rw [HR.out, if_pos rfl]
    obtain ⟨u0, u1, u2, u3, u4, u5, u6, u7⟩ := tg_at HS9.out.a
    obtain ⟨f0, f1, f2, f3, f4, f5, f6, f7⟩ := tg_frz HS9.out.a
    clear HR
    go_wp2
    obtain ⟨d0, d1, d2, d3, d4, d5, d6, d7⟩ := tg_at (tg_row (v0 := .string ⟨#[]⟩) (v1 := .int .i64 0) (v2 := .string ⟨#[]⟩) (v3 := .string ⟨#[]⟩) (v4 := .string ⟨#[]⟩) (v5 := .int .i64 0) (v6 := .int .i64 0) (v7 := .string ⟨#[]⟩) HS9.out.a)
    refine bodyPost_ret (v := .tuple #[.agg #[.string ⟨#[]⟩, .int .i64 0, .string ⟨#[]⟩, .string ⟨#[]⟩, .string ⟨#[]⟩, .int .i64 0, .int .i64 0, .string ⟨#[]⟩], .int .i64 2]) (by simp [results, Tryz.results17, go_sem, d0, d1, d2, d3, d4, d5, d6, d7]) rfl (parGR_bad HQ.out (set8_below HS9.out.bel HS9.out.o1))
  have HR2 : Hid (R = if chkG ⟨T, (k : Int), N, ⟨an, am, aT, az⟩, X⟩ = 0 then (0, ⟨T, (k : Int), N, ⟨an, am, aT, az⟩, X⟩) else (chkG ⟨T, (k : Int), N, ⟨an, am, aT, az⟩, X⟩, Tg.zero)) := by show _ = _; rw [HR.out, if_neg (by decide)]
  clear HR
  have HCK := Lib.hid (gcheck_any ⟨T, (k : Int), N, ⟨an, am, aT, az⟩, X⟩ wy (HWO.out.below HS9.out.bel) HSZ.out)
  simp only at HCK
  obtain ⟨K, hK⟩ : ∃ K, K = chkG ⟨T, (k : Int), N, ⟨an, am, aT, az⟩, X⟩ := ⟨_, rfl⟩
  rw [← hK] at HCK HR2
  obtain ⟨u0, u1, u2, u3, u4, u5, u6, u7⟩ := tg_at HS9.out.e
  clear hK HSZ
  by_cases h0 : K = 0
  · have HQ : Hid (R = (0, ⟨T, (k : Int), N, ⟨an, am, aT, az⟩, X⟩)) := by show _ = _; rw [HR2.out, if_pos h0]
    have g0 : ((K : Int) != 0) = false := by simp [h0]
    clear HR2 h0
    go_upto_region 13 with (go_at_call 21; ((with_reducible refine (HCK.out).mono ?_); rintro e wx ⟨rfl, hb5⟩; have hS5 := HS9.out.below hb5; obtain ⟨p0, p1, p2, p3, p4, p5, p6, p7⟩ := tg_at hS5.a; obtain ⟨f0, f1, f2, f3, f4, f5, f6, f7⟩ := tg_frz hS5.a; obtain ⟨q0, q1, q2, q3, q4, q5, q6, q7⟩ := tg_at hS5.e))
    have HSX := Lib.hid hS5
    clear hS5 hb5 HCK u0 u1 u2 u3 u4 u5 u6 u7
    go_wp2
    obtain ⟨d0, d1, d2, d3, d4, d5, d6, d7⟩ := tg_at (tg_row (v0 := .string T) (v1 := .int .i64 (k : Int)) (v2 := .string N) (v3 := .string an) (v4 := .string am) (v5 := .int .i64 aT) (v6 := .int .i64 az) (v7 := .string X) HSX.out.a)
    refine bodyPost_ret (v := .tuple #[.agg #[.string T, .int .i64 (k : Int), .string N, .string an, .string am, .int .i64 aT, .int .i64 az, .string X], .int .i64 0]) (by simp [results, Tryz.results17, go_sem, d0, d1, d2, d3, d4, d5, d6, d7]) rfl ?_
    rw [HQ.out]
    exact ⟨rfl, set8_below HSX.out.bel HSX.out.o1⟩
  · have HQ : Hid (R = (K, Tg.zero)) := by show _ = _; rw [HR2.out, if_neg h0]
    have g0 : ((K : Int) != 0) = true := by simp; omega
    clear HR2 h0
    go_upto_region 12 with (go_at_call 21; ((with_reducible refine (HCK.out).mono ?_); rintro e wx ⟨rfl, hb5⟩; have hS5 := HS9.out.below hb5; obtain ⟨p0, p1, p2, p3, p4, p5, p6, p7⟩ := tg_at hS5.a; obtain ⟨f0, f1, f2, f3, f4, f5, f6, f7⟩ := tg_frz hS5.a))
    have HSX := Lib.hid hS5
    clear hS5 hb5 HCK u0 u1 u2 u3 u4 u5 u6 u7
    go_wp2
    obtain ⟨d0, d1, d2, d3, d4, d5, d6, d7⟩ := tg_at (tg_row (v0 := .string ⟨#[]⟩) (v1 := .int .i64 0) (v2 := .string ⟨#[]⟩) (v3 := .string ⟨#[]⟩) (v4 := .string ⟨#[]⟩) (v5 := .int .i64 0) (v6 := .int .i64 0) (v7 := .string ⟨#[]⟩) HSX.out.a)
    refine bodyPost_ret (v := .tuple #[.agg #[.string ⟨#[]⟩, .int .i64 0, .string ⟨#[]⟩, .string ⟨#[]⟩, .string ⟨#[]⟩, .int .i64 0, .int .i64 0, .string ⟨#[]⟩], .int .i64 (K : Int)]) (by simp [results, Tryz.results17, go_sem, d0, d1, d2, d3, d4, d5, d6, d7]) rfl (parGR_bad HQ.out (set8_below HSX.out.bel HSX.out.o1))
end Go.Proofs.YtddmnibioacelaaGreatDoor
