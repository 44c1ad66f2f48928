/-
  What strings.IndexAny and ContainsAny answer for any string and the two angles.
-/
import Derived.Test.YtnoopcenogbjiaaGreatDoorObWordPk
import Derived.Test.YtnoopcenogbjiaaGreatDoorRow
import Derived.Lib.OthersKept
import Derived.Laws.RangeAny
import Derived.WalkMore
import Derived.Deep.WholeRow
set_option linter.unusedVariables false
set_option linter.unusedSimpArgs false
namespace Go.Proofs.YtnoopcenogbjiaaGreatDoor
open Go.RowKit Go.Lib
theorem get_list (s : ByteArray) (j : Nat) (b : UInt8) (h : s.data.toList[j]? = some b) : s.get! j = b:=by
  have hj : j < s.size:=by
    have:=(List.getElem?_eq_some_iff.mp h).1
    rw [list_len] at this
    exact this
  have h2 : s[j]'hj = b:=by
    have:=(List.getElem?_eq_some_iff.mp h).2
    rw [← this]
    rfl
  have h3 : s.get! (j + 0) = s[j]'hj:=get_at s j hj
  rw [← h2,← h3,Nat.add_zero]
theorem dec_hi (s : ByteArray) (i : Nat) (h : i < s.size) (ha : 128 ≤ (s[i]'h).toNat) :
    ∃ c k,Utf8.decode s i = (c,k + 1) ∧ 128 ≤ c ∧ Utf8.valid (c : Int) = true ∧ i + k < s.size ∧ ∀ j,j ≤ k → 128 ≤ (s.get! (i + j)).toNat:=by
  have hn : ¬ (s[i]'h).toNat < 128:=by omega
  have h0 : s.get! (i + 0) = s[i]'h:=get_at s i h
  have hb : ∀ k,(s.get! (i + k)).toNat < 256:=fun k => (s.get! (i + k)).toNat_lt
  have b1:=hb 1;have b2:=hb 2;have b3:=hb 3
  have hbad : ∃ c k,(Utf8.runeError,1) = (c,k + 1) ∧ 128 ≤ c ∧ Utf8.valid (c : Int) = true ∧ i + k < s.size ∧ ∀ j,j ≤ k → 128 ≤ (s.get! (i + j)).toNat :=
    ⟨65533, 0, rfl, by decide, by decide, by omega, fun j hj => by obtain rfl : j = 0 := by omega
                                                                   rw [h0];exact ha⟩
  simp only [Utf8.decode,h0,hn,if_false]
  split
  · rename_i h1
    rw [Bool.and_eq_true,Bool.and_eq_true,decide_eq_true_eq,beq_iff_eq,beq_iff_eq] at h1
    split
    · rename_i h2
      refine ⟨_,1,rfl,h2,?_,h1.2.1,fun j hj => ?_⟩
      · rw [Utf8.valid]
        have : ((s[i]'h).toNat % 32 * 64 + (s.get! (i + 1)).toNat % 64) < 55296:=by omega
        simp only [Bool.or_eq_true,Bool.and_eq_true,decide_eq_true_eq]
        left
        omega
      · rcases j with _ | _ | j
        · rw [h0];exact ha
        · show 128 ≤ (s.get! (i + 1)).toNat
          omega
        · omega
    · exact hbad
  · split
    · rename_i h1
      rw [Bool.and_eq_true,Bool.and_eq_true,Bool.and_eq_true,Bool.and_eq_true,decide_eq_true_eq,decide_eq_true_eq,beq_iff_eq,beq_iff_eq,beq_iff_eq] at h1
      split
      · rename_i h2
        rw [Bool.and_eq_true,decide_eq_true_eq] at h2
        refine ⟨_,2,rfl,by omega,h2.2,h1.2.1,fun j hj => ?_⟩
        rcases j with _ | _ | _ | j
        · rw [h0];exact ha
        · show 128 ≤ (s.get! (i + 1)).toNat
          omega
        · show 128 ≤ (s.get! (i + 2)).toNat
          omega
        · omega
      · exact hbad
    · split
      · rename_i h1
        rw [Bool.and_eq_true,Bool.and_eq_true,Bool.and_eq_true,Bool.and_eq_true,Bool.and_eq_true,Bool.and_eq_true,decide_eq_true_eq,decide_eq_true_eq,decide_eq_true_eq,beq_iff_eq,beq_iff_eq,beq_iff_eq,beq_iff_eq] at h1
        split
        · rename_i h2
          rw [Bool.and_eq_true,decide_eq_true_eq] at h2
          refine ⟨_,3,rfl,by omega,h2.2,h1.2.1,fun j hj => ?_⟩
          rcases j with _ | _ | _ | _ | j
          · rw [h0];exact ha
          · show 128 ≤ (s.get! (i + 1)).toNat
            omega
          · show 128 ≤ (s.get! (i + 2)).toNat
            omega
          · show 128 ≤ (s.get! (i + 3)).toNat
            omega
          · omega
        · exact hbad
      · exact hbad
theorem u8_hi (n : Nat) : 128 ≤ (UInt8.ofNat (128 + n % 64)).toNat:=by
  rw [UInt8.toNat_ofNat']
  omega
theorem enc_hi (c : Nat) (hv : Utf8.valid (c : Int) = true) (h : 128 ≤ c) :
    (∃ a b,Utf8.encode c = ⟨#[a,b]⟩ ∧ 128 ≤ b.toNat) ∨ (∃ a a2 b,Utf8.encode c = ⟨#[a,a2,b]⟩ ∧ 128 ≤ b.toNat) ∨ (∃ a a2 a3 b,Utf8.encode c = ⟨#[a,a2,a3,b]⟩ ∧ 128 ≤ b.toNat):=by
  simp only [Utf8.encode,hv,if_true,Int.toNat_natCast]
  rw [if_neg (by omega)]
  split
  · exact .inl ⟨_,_,rfl,u8_hi c⟩
  · split
    · exact .inr (.inl ⟨_,_,_,rfl,u8_hi c⟩)
    · exact .inr (.inr ⟨_,_,_,_,rfl,u8_hi c⟩)
theorem met_bytes (a b : Nat) (x : UInt8) (h : x ∈ ((⟨#[60,62]⟩ : ByteArray).extract a b).data.toList) : x.toNat < 128:=by
  rw [ext_bytes] at h
  have h2 : x ∈ ([60,62] : List UInt8):=List.mem_of_mem_drop (List.mem_of_mem_take h)
  simp only [List.mem_cons,List.not_mem_nil,or_false] at h2
  rcases h2 with rfl | rfl <;> decide
theorem met_no (a b : Nat) (y : UInt8) (hy : 128 ≤ y.toNat) : Lib.indexByte ((⟨#[60,62]⟩ : ByteArray).extract a b).data.toList y = -1:=by
  have hm:=met_bytes a b y
  obtain ⟨l,hl⟩ : ∃ l,l = ((⟨#[60,62]⟩ : ByteArray).extract a b).data.toList:=⟨_,rfl⟩
  rw [← hl] at hm ⊢
  have hge:=Lib.indexByte_ge l y
  refine Decidable.byContradiction fun hne => ?_
  obtain ⟨o,ho⟩ : ∃ o : Nat,Lib.indexByte l y = o:=⟨(Lib.indexByte l y).toNat,by omega⟩
  obtain ⟨h2,_⟩:=Lib.indexByte_some ho
  have:=hm (List.mem_of_getElem? h2)
  omega
set_option maxHeartbeats 2000000 in
set_option maxRecDepth 4000 in
theorem rune_err (w : World) : Calls Tryz.prog 228 #[.string ⟨#[60,62]⟩,.int .i32 65533] w fun e w' => e = .returned (.int .i64 (-1)) ∧ Below w.heap.size w w':=by
  go_enter Tryz.func228,Tryz.ntmps228
  go_wp2
  go_loopg [5,6] 2 (fun g _ _ wx => ∃ i : Nat,i + g = 2 ∧ wx = w.iter ⟨#[60,62]⟩ i)
  case atStart => exact ⟨0,by omega,rfl⟩
  case round =>
    obtain ⟨i,hig,rfl⟩:=hrel
    cases gk with
    | zero =>
      obtain rfl : i = 2:=by omega
      have hnx:=run_next_end (P:=Tryz.prog) w ⟨#[60,62]⟩ 2
      go_wp2
      go_ret
      exact ⟨rfl,(Below.refl _ _).alloc (Nat.le_refl _) _⟩
    | succ g =>
      have hi : i < (⟨#[60,62]⟩ : ByteArray).size:=by show i < 2;omega
      obtain ⟨x,hx⟩ : ∃ x : UInt8,(⟨#[60,62]⟩ : ByteArray)[i]'hi = x:=⟨_,rfl⟩
      have hx128 : x.toNat < 128:=by
        rw [← hx]
        rcases i with _ | _ | i
        · show (60 : UInt8).toNat < 128
          decide
        · show (62 : UInt8).toNat < 128
          decide
        · exact absurd hi (by show ¬ (i + 1 + 1 < 2);omega)
      have hnx:=fun ty => run_next_ascii (P:=Tryz.prog) w ⟨#[60,62]⟩ i ty hi (by rw [hx];exact hx128)
      rw [hx] at hnx
      have hne : ((x.toNat : Int) == 65533) = false:=beq_eq_false_iff_ne.mpr (by omega)
      clear hx
      go_wp2
      go_roundg g
      case measure => omega
      case rel => exact ⟨i + 1,by omega,rfl⟩
theorem ne_hi {n : Int} (b : UInt8) (h : 128 ≤ b.toNat) (hn : n < 128) : (n != (b.toNat : Int)) = true:=bne_iff_ne.mpr (by omega)
set_option maxHeartbeats 4000000 in
set_option maxRecDepth 4000 in
theorem rune_hi2 (r : Int) (hr : 128 ≤ r) (h65 : (r == 65533) = false) (hv : Lib.validRune r = true) (a b : UInt8) (hE : Utf8.encode r = ⟨#[a,b]⟩) (hb : 128 ≤ b.toNat) (w : World) :
    Calls Tryz.prog 228 #[.string ⟨#[60,62]⟩,.int .i32 r] w fun e w' => e = .returned (.int .i64 (-1)) ∧ Below w.heap.size w w':=by
  have HV : Hid (∀ w,Calls Tryz.prog 244 #[.int .i32 r] w fun e w' => e = .returned (.bool true) ∧ w' = w):=fun w => by rw [← hv];exact Tryz.utf8_ValidRune _ w
  have HI : Hid (∀ w,Calls Tryz.prog 243 #[.string ⟨#[]⟩,.int .u8 (((⟨#[a,b]⟩ : ByteArray)[1]'(by show 1 < 2;decide)).toNat : Int)] w fun e w' => e = .returned (.int .i64 (-1)) ∧ w' = w):=fun w =>
    (Tryz.strings_IndexByte _ (b.toNat : Int) w).mono fun _ _ z => ⟨by rw [z.1];rfl,z.2⟩
  have hne:=ne_hi (n:=62) b hb (by decide)
  have hne2 : (((((⟨#[60,62]⟩ : ByteArray)[1]'(by decide)).toNat : Nat) : Int) != (((⟨#[a,b]⟩ : ByteArray)[1]'(by show 1 < 2;decide)).toNat : Int)) = true:=hne
  have hsl : ∀ w,(Instr.slice 9 (.string ⟨#[60,62]⟩) (some (.int .i64 2)) none none).run Tryz.prog w = .ok (.string ⟨#[]⟩) w:=fun w => by kernel_rfl
  have HE:=Lib.hid hE
  clear hv hb hE
  go_enter Tryz.func228,Tryz.ntmps228
  go_upto_region 1 with (go_at_call 244;((with_reducible refine (HV.out _).mono ?_);rintro e w1 ⟨rfl,rfl⟩))
  go_step3
  go_upto_region 2 with (fail)
  rw [HE.out]
  go_wp2
  go_loopw [9,10] (fun i f wr => i = .int .i64 1 ∧ f = .int .i64 0 ∧ wr = w1) (fun _ _ _ => 0)
  case atStart => exact ⟨rfl,rfl,rfl⟩
  case round =>
    obtain ⟨rfl,rfl,rfl⟩:=hrel
    go_wp2
    go_step3
    go_wp2
    go_quiet (fail)
    go_wp2
    go_quiet ((go_at_call 243;go_loud (exact (HI.out _).mono fun e w' h => ⟨h.1,_,h.2⟩)))
    go_wp2
    rw [Exit.noGoto_ret]
    show bodyPost Tryz.prog Tryz.f228 (fun e w' => e = .returned (.int .i64 (-1)) ∧ Below wr.heap.size wr w') .ret _ _
    go_ret
    exact ⟨rfl,below_drewN (Below.refl _ _) _⟩
set_option maxHeartbeats 4000000 in
set_option maxRecDepth 4000 in
theorem rune_hi3 (r : Int) (hr : 128 ≤ r) (h65 : (r == 65533) = false) (hv : Lib.validRune r = true) (a a2 b : UInt8) (hE : Utf8.encode r = ⟨#[a,a2,b]⟩) (w : World) :
    Calls Tryz.prog 228 #[.string ⟨#[60,62]⟩,.int .i32 r] w fun e w' => e = .returned (.int .i64 (-1)) ∧ Below w.heap.size w w':=by
  have HV : Hid (∀ w,Calls Tryz.prog 244 #[.int .i32 r] w fun e w' => e = .returned (.bool true) ∧ w' = w):=fun w => by rw [← hv];exact Tryz.utf8_ValidRune _ w
  have HE:=Lib.hid hE
  clear hv hE
  go_enter Tryz.func228,Tryz.ntmps228
  go_upto_region 1 with (go_at_call 244;((with_reducible refine (HV.out _).mono ?_);rintro e w1 ⟨rfl,rfl⟩))
  go_step3
  go_upto_region 2 with (fail)
  rw [HE.out]
  go_wp2
  go_loopw [9,10] (fun i f wr => i = .int .i64 2 ∧ f = .int .i64 0 ∧ wr = w1) (fun _ _ _ => 0)
  case atStart => exact ⟨rfl,rfl,rfl⟩
  case round =>
    obtain ⟨rfl,rfl,rfl⟩:=hrel
    go_wp2
    rw [Exit.noGoto_ret]
    show bodyPost Tryz.prog Tryz.f228 (fun e w' => e = .returned (.int .i64 (-1)) ∧ Below wr.heap.size wr w') .ret _ _
    go_ret
    exact ⟨rfl,Below.refl _ _⟩
set_option maxHeartbeats 4000000 in
set_option maxRecDepth 4000 in
theorem rune_hi4 (r : Int) (hr : 128 ≤ r) (h65 : (r == 65533) = false) (hv : Lib.validRune r = true) (a a2 a3 b : UInt8) (hE : Utf8.encode r = ⟨#[a,a2,a3,b]⟩) (w : World) :
    Calls Tryz.prog 228 #[.string ⟨#[60,62]⟩,.int .i32 r] w fun e w' => e = .returned (.int .i64 (-1)) ∧ Below w.heap.size w w':=by
  have HV : Hid (∀ w,Calls Tryz.prog 244 #[.int .i32 r] w fun e w' => e = .returned (.bool true) ∧ w' = w):=fun w => by rw [← hv];exact Tryz.utf8_ValidRune _ w
  have HE:=Lib.hid hE
  clear hv hE
  go_enter Tryz.func228,Tryz.ntmps228
  go_upto_region 1 with (go_at_call 244;((with_reducible refine (HV.out _).mono ?_);rintro e w1 ⟨rfl,rfl⟩))
  go_step3
  go_upto_region 2 with (fail)
  rw [HE.out]
  go_wp2
  go_loopw [9,10] (fun i f wr => i = .int .i64 3 ∧ f = .int .i64 0 ∧ wr = w1) (fun _ _ _ => 0)
  case atStart => exact ⟨rfl,rfl,rfl⟩
  case round =>
    obtain ⟨rfl,rfl,rfl⟩:=hrel
    go_wp2
    rw [Exit.noGoto_ret]
    show bodyPost Tryz.prog Tryz.f228 (fun e w' => e = .returned (.int .i64 (-1)) ∧ Below wr.heap.size wr w') .ret _ _
    go_ret
    exact ⟨rfl,Below.refl _ _⟩
theorem rune_any (c : Nat) (hc : 128 ≤ c) (hv : Utf8.valid (c : Int) = true) (w : World) :
    Calls Tryz.prog 228 #[.string ⟨#[60,62]⟩,.int .i32 (c : Int)] w fun e w' => e = .returned (.int .i64 (-1)) ∧ Below w.heap.size w w':=by
  by_cases he : c = 65533
  · subst he
    exact rune_err w
  · have h65 : ((c : Int) == 65533) = false:=beq_eq_false_iff_ne.mpr (by omega)
    have hR : Lib.validRune (c : Int) = true:=by
      rw [Utf8.valid] at hv
      simp only [Bool.or_eq_true,Bool.and_eq_true,decide_eq_true_eq] at hv
      exact decide_eq_true (by omega)
    rcases enc_hi c hv hc with ⟨a,b,hE,hb⟩ | ⟨a,a2,b,hE,hb⟩ | ⟨a,a2,a3,b,hE,hb⟩
    · exact rune_hi2 c (by omega) h65 hR a b hE hb w
    · exact rune_hi3 c (by omega) h65 hR a a2 b hE w
    · exact rune_hi4 c (by omega) h65 hR a a2 a3 b hE w
theorem met_noc (x : UInt8) (h : 128 ≤ x.toNat) : ([60,62] : List UInt8).contains x = false:=by
  rw [Bool.eq_false_iff]
  intro e
  rw [List.contains_iff_mem] at e
  simp only [List.mem_cons,List.not_mem_nil,or_false] at e
  rcases e with rfl | rfl <;> revert h <;> decide
theorem noAny_skip {s : ByteArray} {i k : Nat} (h : Lib.NoAny s.data.toList [60,62] i) (hb : ∀ j,j ≤ k → 128 ≤ (s.get! (i + j)).toNat) : Lib.NoAny s.data.toList [60,62] (i + k + 1):=fun j b hj hjb => by
  by_cases h1 : j < i
  · exact h j b h1 hjb
  · have h2:=hb (j - i) (by omega)
    rw [show i + (j - i) = j by omega,get_list s j b hjb] at h2
    exact met_noc b h2
set_option maxHeartbeats 8000000 in
set_option maxRecDepth 4000 in
theorem idx_short (s : ByteArray) (w : World) (h8 : s.size ≤ 8) :
    Calls Tryz.prog 218 #[.string s,.string ⟨#[60,62]⟩] w fun e w' => e = .returned (.int .i64 (Lib.indexAny s.data.toList [60,62])) ∧ Below w.heap.size w w':=by
  have h8z : decide ((8 : Int) < (s.size : Int)) = false:=decide_eq_false (by omega)
  have HS : Hid (∀ w,Calls Tryz.prog 229 #[.int .i64 (s.size : Int)] w fun e w' => e = .returned (.bool false) ∧ w' = w):=fun w => (Tryz.strings_shouldUseASCIISet _ w).mono fun _ _ z => ⟨by rw [z.1,h8z],z.2⟩
  have HR : Hid (∀ (c : Nat) (w : World),128 ≤ c → Utf8.valid (c : Int) = true → Calls Tryz.prog 228 #[.string ⟨#[60,62]⟩,.int .i32 (c : Int)] w fun e w' => e = .returned (.int .i64 (-1)) ∧ Below w.heap.size w w'):=fun c w h1 h2 => rune_any c h1 h2 w
  clear h8z
  go_enter Tryz.func218,Tryz.ntmps218
  go_wp2_with (go_at_call 229;((with_reducible refine (HS.out _).mono ?_);rintro e w1 ⟨rfl,rfl⟩))
  go_loopg [9,10] s.size (fun g _ _ wx => ∃ i : Nat,i + g = s.size ∧ wx.heap[w1.heap.size]? = some (.stringIter s i) ∧ Below w1.heap.size w1 wx ∧ Hid (Lib.NoAny s.data.toList [60,62] i))
  case atStart => exact ⟨0,by omega,World.iter_heap _ _ _,(Below.refl _ _).alloc (Nat.le_refl _) _,Lib.NoAny.zero _ _⟩
  case round =>
    obtain ⟨i,hig,hk,hb,HN⟩:=hrel
    have HK:=Lib.hid hk
    cases gk with
    | zero =>
      obtain rfl : i = s.size:=by omega
      have hnx:=fun ty => run_next_end_at (P:=Tryz.prog) _ _ s s.size ty hk (by omega)
      clear hk
      go_wp2
      go_ret
      exact ⟨by rw [Lib.indexAny_none (by rw [list_len];exact HN.out)];rfl,hb⟩
    | succ g =>
      have hi : i < s.size:=by omega
      obtain ⟨x,hx⟩ : ∃ x : UInt8,s[i]'hi = x:=⟨_,rfl⟩
      have hxl : s.data.toList[i]? = some x:=by rw [← hx];exact Lib.data_getElem? s i hi
      by_cases hx8 : x.toNat < 128
      · have hnx:=fun ty => run_next_ascii_at (P:=Tryz.prog) _ _ s i ty hk hi (by rw [hx];exact hx8)
        rw [hx] at hnx
        have Hx : Hid (s.data.toList[i]? = some x):=hxl
        have hcon:=Lib.contains_iff_indexByte [60,62] x
        have HA : Hid (∀ w,Calls Tryz.prog 228 #[.string ⟨#[60,62]⟩,.int .i32 (x.toNat : Int)] w fun e w' => e = .returned (.int .i64 (Lib.indexByte [60,62] x)) ∧ w' = w):=fun w => (Tryz.strings_IndexRune_ascii _ _ w (by omega) (by omega)).mono fun _ _ z => ⟨by rw [z.1,show ((x.toNat : Int)).toNat.toUInt8 = x by simp],z.2⟩
        obtain ⟨o,ho⟩ : ∃ o,o = Lib.indexByte [60,62] x:=⟨_,rfl⟩
        rw [← ho] at hcon HA
        have hb2:=below_iterAt hb (Nat.le_refl _) s (i + 1)
        have hk2:=iterAt_heap _ _ s i (i + 1) hk
        clear hxl hx hx8 ho hk
        cases hin : ([60,62] : List UInt8).contains x
        · rw [hin] at hcon
          have HIN:=Lib.hid hin
          have hlt : ¬ ((0 : Int) ≤ o):=of_decide_eq_false hcon.symm
          clear hcon hin
          go_wp2_with (go_at_call 228;((with_reducible refine (HA.out _).mono ?_);rintro e w2 ⟨rfl,rfl⟩))
          go_roundg g
          case measure => omega
          case rel => exact ⟨i + 1,by omega,hk2,hb2,HN.out.succ Hx.out HIN.out⟩
        · rw [hin] at hcon
          have HIN:=Lib.hid hin
          have hge : (0 : Int) ≤ o:=of_decide_eq_true hcon.symm
          clear hcon hin
          go_wp2_with (go_at_call 228;((with_reducible refine (HA.out _).mono ?_);rintro e w2 ⟨rfl,rfl⟩))
          go_ret
          exact ⟨by rw [Lib.indexAny_hit HN.out Hx.out HIN.out];rfl,hb2⟩
      · obtain ⟨c,k,hd,hc,hv,hik,hby⟩:=dec_hi s i hi (by rw [hx];omega)
        have hnx:=fun ty => run_next_any_at (P:=Tryz.prog) _ _ s i ty hk hi
        rw [hd] at hnx
        simp only at hnx
        have hb2:=below_iterAt hb (Nat.le_refl _) s (i + (k + 1))
        have hk2:=iterAt_heap _ _ s i (i + (k + 1)) hk
        have HN2 : Hid (Lib.NoAny s.data.toList [60,62] (i + (k + 1))):=noAny_skip HN.out hby
        have HC : Hid (∀ w,Calls Tryz.prog 228 #[.string ⟨#[60,62]⟩,.int .i32 (c : Int)] w fun e w' => e = .returned (.int .i64 (-1)) ∧ Below w.heap.size w w'):=fun w => HR.out c w hc hv
        clear hxl hx hx8 hd hc hv hby hk
        go_wp2_with (go_at_call 228;((with_reducible refine (HC.out _).mono ?_);rintro e w2 ⟨rfl,hb3⟩))
        go_roundg (g - k)
        case measure => omega
        case rel => exact ⟨i + (k + 1),by omega,(hb3.block _ (Array.getElem?_eq_some_iff.mp hk2).1).trans hk2,hb2.trans (hb3.mono hb2.size),HN2⟩
theorem idx_any (s : ByteArray) (w : World) (hs : s.size ≤ 1048576) :
    Calls Tryz.prog 218 #[.string s,.string ⟨#[60,62]⟩] w fun e w' => e = .returned (.int .i64 (Lib.indexAny s.data.toList [60,62])) ∧ Below w.heap.size w w':=by
  by_cases h8 : s.size ≤ 8
  · exact idx_short s w h8
  · refine (Tryz.strings_IndexAny_long (zero_of_info (P:=Tryz.prog) (n:=256) (by kernel_rfl)).1 s ⟨#[60,62]⟩ w (by decide) (by omega) (by omega) (by decide) (fun j b hb => ?_)).mono fun e w' z => ⟨z.1,?_⟩
    · rcases j with _ | _ | j <;> simp at hb <;> subst hb <;> decide
    · rw [z.2]
      exact below_new (below_new (Below.refl _ _) _) _
set_option maxHeartbeats 1000000 in
set_option maxRecDepth 4000 in
theorem cany (s : ByteArray) (B : Bool) (w : World) (hs : s.size ≤ 1048576) (hB : B = s.data.toList.any (fun b => ([60,62] : List UInt8).contains b)) :
    Calls Tryz.prog 199 #[.string s,.string ⟨#[60,62]⟩] w fun e w' => e = .returned (.bool B) ∧ Below w.heap.size w w':=by
  have h:=idx_any s w hs
  obtain ⟨o,ho⟩ : ∃ o,o = Lib.indexAny s.data.toList [60,62]:=⟨_,rfl⟩
  have hBo : B = decide ((0 : Int) ≤ o):=by
    rw [hB,ho]
    clear hB ho h hs
    induction s.data.toList with
    | nil => rfl
    | cons b l ih =>
      rw [List.any_cons,Lib.indexAny]
      have hge:=Lib.indexAny_ge [60,62] l
      cases hc : ([60,62] : List UInt8).contains b
      · rw [Bool.false_or,ih]
        simp only [Bool.false_eq_true,if_false]
        split
        · rename_i h1
          rw [beq_iff_eq] at h1
          rw [h1]
        · rename_i h1
          rw [beq_iff_eq] at h1
          rw [decide_eq_true (by omega),decide_eq_true (by omega)]
      · simp
  rw [← ho] at h
  have HI:=Lib.hid h
  have HB:=Lib.hid hBo
  clear hB ho h hBo
  go_enter Tryz.func199,Tryz.ntmps199
  go_wp2_with (go_at_call 218;((with_reducible refine (HI.out).mono ?_);rintro e w1 ⟨rfl,hb⟩))
  go_ret
  exact ⟨by rw [HB.out];rfl,hb⟩
end Go.Proofs.YtnoopcenogbjiaaGreatDoor
