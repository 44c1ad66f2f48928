/-
 The walk of the reference's Union.
-/
import Derived.Test.YtpkgiojicbdcfaaGreatDoorSoUni
import Derived.Test.YtpkgiojicbdcfaaGreatDoorSoValPk
import Derived.Test.YtpkgiojicbdcfaaGreatDoorSoReachPk
set_option linter.unusedVariables false
set_option linter.unusedSimpArgs false
namespace Go.Proofs.YtpkgiojicbdcfaaGreatDoor
open Go Go.RowKit Go.Maps Go.WideMaps
section
variable {a b acc : List It} {i k : Nat}
theorem mrg_l (hi : i < a.length) (hk : b.length ≤ k) : (mrgI (a.drop i) (b.drop k)).map (acc ++ ·) = (mrgI (a.drop (i + 1)) (b.drop k)).map ((acc ++ [a[i]]) ++ ·):=by
 rw [List.drop_eq_getElem_cons hi,List.drop_eq_nil_of_le hk,mrgI_nil2,mrgI_nil2]
 simp
theorem mrg_r (hi : a.length ≤ i) (hk : k < b.length) : (mrgI (a.drop i) (b.drop k)).map (acc ++ ·) = (mrgI (a.drop i) (b.drop (k + 1))).map ((acc ++ [b[k]]) ++ ·):=by
 rw [List.drop_eq_getElem_cons hk,List.drop_eq_nil_of_le hi,mrgI_nil,mrgI_nil]
 simp
end
set_option maxHeartbeats 16000000 in
set_option maxRecDepth 8000 in
theorem runion_any (a b : List It) (p q : Option Addr) (n c m d : Nat) (w : World) (hn : n = a.length) (hm : m = b.length) (hnc : n ≤ c) (hmd : m ≤ d) (hpc : p = none → c = 0) (hqd : q = none → d = 0) (hp : ItRw w p a) (hq : ItRw w q b) (hn2 : n ≤ 1000) (hm2 : m ≤ 1000) :
  Calls Tryz.prog 26 #[.agg #[.slice p n c],.agg #[.slice q m d]] w fun e w' => ∃ v',e = .returned (.tuple #[.agg #[v'],.int .i64 (unE a b : Int)]) ∧ ItOw w' w.heap.size v' (unL a b) ∧ Below w.heap.size w w':=by
 obtain ⟨w1,hw1⟩ : ∃ w1,w1 = w.alloc (.cells #[.slice p n c] 24):=⟨_,rfl⟩
 obtain ⟨w2,hw2⟩ : ∃ w2,w2 = w1.alloc (.cells #[.slice q m d] 24):=⟨_,rfl⟩
 obtain ⟨w3,hw3⟩ : ∃ w3,w3 = w2.alloc (.cells #[.slice none 0 0] 24):=⟨_,rfl⟩
 obtain ⟨I,hI⟩ : ∃ I,I = w.heap.size:=⟨_,rfl⟩
 obtain ⟨O,hO'⟩ : ∃ O,O = w.heap.size + 1:=⟨_,rfl⟩
 obtain ⟨P,hP'⟩ : ∃ P,P = w.heap.size + 1 + 1:=⟨_,rfl⟩
 have h1 : w1.heap[I]? = some (.cells #[.slice p n c] 24 (0,0)):=by rw [hw1,hI];exact heap_alloc_new _ _
 have h2 : w2.heap[O]? = some (.cells #[.slice q m d] 24 (0,0)):=by rw [hw2,hO',show w.heap.size + 1 = w1.heap.size by rw [hw1];simp];exact heap_alloc_new _ _
 have h3 : w3.heap[P]? = some (.cells #[.slice none 0 0] 24 (0,0)):=by rw [hw3,hP',show w.heap.size + 1 + 1 = w2.heap.size by rw [hw2,hw1];simp];exact heap_alloc_new _ _
 have hbx : Below w.heap.size w w3:=by rw [hw3,hw2,hw1];exact below_new (below_new (below_new (Below.refl _ _) _) _) _
 have x0 : w3.cell? ⟨I,0,none⟩ = some (.slice p n c):=(st_at (by rw [hw3,hw2];exact row_alloc (row_alloc h1 (row_lt h1)) (row_lt (row_alloc h1 (row_lt h1))))).1
 have y0 : w3.cell? ⟨O,0,none⟩ = some (.slice q m d):=(st_at (by rw [hw3];exact row_alloc h2 (row_lt h2))).1
 obtain ⟨L,hL⟩ : ∃ L,L = w3.heap.size:=⟨_,rfl⟩
 obtain ⟨R,hR⟩ : ∃ R,R = mrgI a b:=⟨_,rfl⟩
 have HE : Hid (unE a b = if R = none then 170 else 0):=by show unE a b = _;rw [hR];rfl
 have HLI : Hid (unL a b = R.getD []):=by show unL a b = _;rw [hR];rfl
 obtain ⟨E,hE⟩ : ∃ E,E = unE a b:=⟨_,rfl⟩
 obtain ⟨U,hU⟩ : ∃ U,U = unL a b:=⟨_,rfl⟩
 rw [← hE,← hU]
 rw [← hE] at HE
 rw [← hU] at HLI
 have HR:=Lib.hid hR
 have HN:=Lib.hid hn
 have HM:=Lib.hid hm
 have HP:=Lib.hid (hp.below hbx)
 have HQ:=Lib.hid (hq.below hbx)
 have HPC:=Lib.hid hpc
 have HQD:=Lib.hid hqd
 have HW1:=Lib.hid hw1
 have HW2:=Lib.hid hw2
 have HW3:=Lib.hid hw3
 have HI:=Lib.hid hI
 have HO':=Lib.hid hO'
 have HP':=Lib.hid hP'
 have HL:=Lib.hid hL
 have H3:=Lib.hid h3
 have HBX:=Lib.hid hbx
 have HPL : Hid (w.heap.size ≤ P):=by show _ ≤ P;omega
 have HLB : Hid (w.heap.size ≤ L):=by show _ ≤ L;rw [hL];exact hbx.size
 have HPLT : Hid (P < L):=by show P < L;rw [hL];exact row_lt h3
 have HLL : Hid (w3.heap.size ≤ L):=by show _ ≤ L;rw [hL];exact Nat.le_refl _
 clear hn hm hp hq hpc hqd hw1 hw2 hw3 hI hO' hP' h1 h2 h3 hbx hL hR hE hU
 go_enter Tryz.func26,Tryz.ntmps26
 go_upto_region 1 with fail
 rw [← HW1.out,← HW2.out,← HW3.out,← HP'.out,← HO'.out,← HI.out]
 go_wp2_with fail
 go_loopw [6,7,8] (fun v iv kv wr => ∃ (acc : List It) (i k : Nat),i ≤ n ∧ k ≤ m ∧ iv = .int .i64 (i : Int) ∧ kv = .int .i64 (k : Int) ∧ Hid (ItOw wr L v acc) ∧ Hid (acc.length ≤ i + k) ∧ Hid (R = (mrgI (a.drop i) (b.drop k)).map (acc ++ ·)) ∧ Hid (Below w3.heap.size w3 wr)) (fun _ iv kv _ => (n - (intOf iv).toNat) + (m - (intOf kv).toNat))
 case atStart => exact ⟨[],0,0,by omega,by omega,rfl,rfl,ItOw.nil _ _,Nat.zero_le _,by show R = _;rw [HR.out];simp,Below.refl _ _⟩
 case round =>
  clear HR
  obtain ⟨acc,i,k,hi,hk,rfl,rfl,HO,HAL,HRR,HB⟩:=hrel
  rename World => wa
  have c0:=cell_bel x0 HB.out
  have d0:=cell_bel y0 HB.out
  have HLA : Hid (acc.length + 1 ≤ 1048576):=by have:=HAL.out;show _ ≤ _;omega
  by_cases hin : i < n
  ·have q1 : (i : Int) < (n : Int):=by omega
   have q1d : decide ((i : Int) < (n : Int)) = true:=decide_eq_true q1
   have hia : i < a.length:=by rw [← HN.out];exact hin
   obtain ⟨g1,o1,hpe,hg1,a0,a1,a2⟩:=HP.out.below HB.out i hia
   subst hpe
   obtain ⟨x,hx⟩ : ∃ x,x = a[i]:=⟨_,rfl⟩
   rw [← hx] at a0 a1 a2
   by_cases hkm : k < m
   ·have q2 : (k : Int) < (m : Int):=by omega
    have hkb : k < b.length:=by rw [← HM.out];exact hkm
    obtain ⟨g2,o2,hqe,hg2,b0,b1,b2⟩:=HQ.out.below HB.out k hkb
    subst hqe
    obtain ⟨y,hy⟩ : ∃ y,y = b[k]:=⟨_,rfl⟩
    rw [← hy] at b0 b1 b2
    have HLT : Hid (ltB x.i y.i = true → R = (mrgI (a.drop (i + 1)) (b.drop k)).map ((acc ++ [x]) ++ ·)):=fun h => by rw [HRR.out,hx];exact mrg_lt hia hkb (by rw [← hx,← hy];exact h)
    have HGT : Hid (ltB y.i x.i = true → R = (mrgI (a.drop i) (b.drop (k + 1))).map ((acc ++ [y]) ++ ·)):=fun h => by rw [HRR.out,hy];exact mrg_gt hia hkb (by rw [← hx,← hy];exact h)
    have HEQ : Hid (x = y → R = (mrgI (a.drop (i + 1)) (b.drop (k + 1))).map ((acc ++ [x]) ++ ·)):=fun h => by rw [HRR.out,hx];exact mrg_eq hia hkb (by rw [← hx,← hy];exact h)
    have HNE : Hid (x.i = y.i → x ≠ y → R = none):=fun h h2 => by rw [HRR.out];exact mrg_ne hia hkb (by rw [← hx,← hy];exact h) (by rw [← hx,← hy];exact h2)
    obtain ⟨xi,xk,xb⟩:=x
    simp only at a0 a1 a2
    obtain ⟨yi,yk,yb⟩:=y
    simp only at b0 b1 b2
    simp only at HLT HGT HNE
    have e1 : ((k : Int) == (m : Int)) = false:=by simp;omega
    have e2 : ((i : Int) == (n : Int)) = false:=by simp;omega
    clear hx hy hg1 hg2 hia hkb
    have k0 : ∀ z : BelW wa,z.w.cell? ⟨I,0,none⟩ = some (.slice (some ⟨g1,o1,none⟩) n c):=fun z => cell_bel c0 z.h
    have k1 : ∀ z : BelW wa,z.w.cell? ⟨O,0,none⟩ = some (.slice (some ⟨g2,o2,none⟩) m d):=fun z => cell_bel d0 z.h
    have ka0 : ∀ z : BelW wa,z.w.cell? ⟨g1,o1 + i * 3,none⟩ = some (.string xi):=fun z => cell_bel a0 z.h
    have ka1 : ∀ z : BelW wa,z.w.cell? ⟨g1,o1 + i * 3 + 1,none⟩ = some (.int .i64 xk):=fun z => cell_bel a1 z.h
    have ka2 : ∀ z : BelW wa,z.w.cell? ⟨g1,o1 + i * 3 + 2,none⟩ = some (.string xb):=fun z => cell_bel a2 z.h
    have kb0 : ∀ z : BelW wa,z.w.cell? ⟨g2,o2 + k * 3,none⟩ = some (.string yi):=fun z => cell_bel b0 z.h
    have kb1 : ∀ z : BelW wa,z.w.cell? ⟨g2,o2 + k * 3 + 1,none⟩ = some (.int .i64 yk):=fun z => cell_bel b1 z.h
    have kb2 : ∀ z : BelW wa,z.w.cell? ⟨g2,o2 + k * 3 + 2,none⟩ = some (.string yb):=fun z => cell_bel b2 z.h
    have hqn : Nonempty (BelW wa):=⟨⟨wa,Below.refl _ _⟩⟩
    by_cases h1 : ltB xi yi = true
    ·have l1 : Op.bytesLess xi.toList yi.toList = true:=h1
     have HRN:=Lib.hid (HLT.out h1)
     clear h1
     go_upto_region 9 with fail
     refine wp_region_bel (w0:=wa) (Below.refl _ _) (by kernel_rfl) (by kernel_rfl) ?_
     repeat (go_big_quiet_step (fail))
     refine wpQuiet_nil ?_
     rintro _ ⟨zz,rfl⟩
     have hz:=zz.h
     have HO5:=Lib.hid (HO.out.below hz)
     have HB5:=Lib.hid (HB.out.trans (hz.mono HB.out.size))
     have HBS5 : Hid (L ≤ zz.w.heap.size):=by show L ≤ _;rw [HL.out];exact HB5.out.size
     replace c0:=cell_bel c0 hz
     replace d0:=cell_bel d0 hz
     replace a0:=cell_bel a0 hz
     replace a1:=cell_bel a1 hz
     replace a2:=cell_bel a2 hz
     replace b0:=cell_bel b0 hz
     replace b1:=cell_bel b1 hz
     replace b2:=cell_bel b2 hz
     obtain ⟨w5,hw5⟩ : ∃ w5,w5 = zz.w:=⟨_,rfl⟩
     rw [← hw5] at HO5 HB5 HBS5 c0 d0 a0 a1 a2 b0 b1 b2 ⊢
     clear k0 k1 hqn ka0 ka1 ka2 kb0 kb1 kb2
     clear hz hw5 zz HO HB
     go_wp2_with (at_builtin;refine wp_it_one rfl _ _ rfl rfl HO5.out xi xk xb rfl HLA.out HBS5.out ?_;intro v7 w7 h7 g7;have HO7:=Lib.hid h7;have HB7:=Lib.hid (HO5.out.bel1 HB5.out HLL.out HB5.out.size g7);clear h7 g7)
     go_roundw
     case rel => exact ⟨acc ++ [It.mk xi xk xb],i + 1,k,by omega,by omega,by go_num,rfl,HO7.out,by have:=HAL.out;show _ ≤ _;simp;omega,HRN.out,HB7.out⟩
     case measure => simp [intOf];omega
    ·have l1 : Op.bytesLess xi.toList yi.toList = false:=Bool.eq_false_iff.mpr h1
     go_upto_region 9 with fail
     refine wp_region_bel (w0:=wa) (Below.refl _ _) (by kernel_rfl) (by kernel_rfl) ?_
     repeat (go_big_quiet_step (fail))
     refine wpQuiet_nil ?_
     rintro _ ⟨zz,rfl⟩
     have hz:=zz.h
     have HO5:=Lib.hid (HO.out.below hz)
     have HB5:=Lib.hid (HB.out.trans (hz.mono HB.out.size))
     have HBS5 : Hid (L ≤ zz.w.heap.size):=by show L ≤ _;rw [HL.out];exact HB5.out.size
     replace c0:=cell_bel c0 hz
     replace d0:=cell_bel d0 hz
     replace a0:=cell_bel a0 hz
     replace a1:=cell_bel a1 hz
     replace a2:=cell_bel a2 hz
     replace b0:=cell_bel b0 hz
     replace b1:=cell_bel b1 hz
     replace b2:=cell_bel b2 hz
     obtain ⟨w5,hw5⟩ : ∃ w5,w5 = zz.w:=⟨_,rfl⟩
     rw [← hw5] at HO5 HB5 HBS5 c0 d0 a0 a1 a2 b0 b1 b2 ⊢
     clear k0 k1 hqn ka0 ka1 ka2 kb0 kb1 kb2
     clear hz hw5 zz HO HB
     have k0 : ∀ z : BelW w5,z.w.cell? ⟨I,0,none⟩ = some (.slice (some ⟨g1,o1,none⟩) n c):=fun z => cell_bel c0 z.h
     have k1 : ∀ z : BelW w5,z.w.cell? ⟨O,0,none⟩ = some (.slice (some ⟨g2,o2,none⟩) m d):=fun z => cell_bel d0 z.h
     have ka0 : ∀ z : BelW w5,z.w.cell? ⟨g1,o1 + i * 3,none⟩ = some (.string xi):=fun z => cell_bel a0 z.h
     have ka1 : ∀ z : BelW w5,z.w.cell? ⟨g1,o1 + i * 3 + 1,none⟩ = some (.int .i64 xk):=fun z => cell_bel a1 z.h
     have ka2 : ∀ z : BelW w5,z.w.cell? ⟨g1,o1 + i * 3 + 2,none⟩ = some (.string xb):=fun z => cell_bel a2 z.h
     have kb0 : ∀ z : BelW w5,z.w.cell? ⟨g2,o2 + k * 3,none⟩ = some (.string yi):=fun z => cell_bel b0 z.h
     have kb1 : ∀ z : BelW w5,z.w.cell? ⟨g2,o2 + k * 3 + 1,none⟩ = some (.int .i64 yk):=fun z => cell_bel b1 z.h
     have kb2 : ∀ z : BelW w5,z.w.cell? ⟨g2,o2 + k * 3 + 2,none⟩ = some (.string yb):=fun z => cell_bel b2 z.h
     have hqn : Nonempty (BelW w5):=⟨⟨w5,Below.refl _ _⟩⟩
     by_cases h2 : ltB yi xi = true
     ·have l2 : Op.bytesLess yi.toList xi.toList = true:=h2
      have HRN:=Lib.hid (HGT.out h2)
      clear h1 h2
      go_upto_region 12 with fail
      refine wp_region_bel (w0:=w5) (Below.refl _ _) (by kernel_rfl) (by kernel_rfl) ?_
      repeat (go_big_quiet_step (fail))
      refine wpQuiet_nil ?_
      rintro _ ⟨zz,rfl⟩
      have hz2:=zz.h
      replace HO5:=Lib.hid (HO5.out.below hz2)
      replace HBS5 : Hid (L ≤ zz.w.heap.size):=Nat.le_trans HBS5.out hz2.size
      replace HB5:=Lib.hid (HB5.out.trans (hz2.mono HB5.out.size))
      replace c0:=cell_bel c0 hz2
      replace d0:=cell_bel d0 hz2
      replace a0:=cell_bel a0 hz2
      replace a1:=cell_bel a1 hz2
      replace a2:=cell_bel a2 hz2
      replace b0:=cell_bel b0 hz2
      replace b1:=cell_bel b1 hz2
      replace b2:=cell_bel b2 hz2
      obtain ⟨w6,hw6⟩ : ∃ w6,w6 = zz.w:=⟨_,rfl⟩
      rw [← hw6] at HO5 HB5 HBS5 c0 d0 a0 a1 a2 b0 b1 b2 ⊢
      clear hw6 zz hz2
      clear k0 k1 hqn ka0 ka1 ka2 kb0 kb1 kb2
      go_wp2_with (at_builtin;refine wp_it_one rfl _ _ rfl rfl HO5.out yi yk yb rfl HLA.out HBS5.out ?_;intro v7 w7 h7 g7;have HO7:=Lib.hid h7;have HB7:=Lib.hid (HO5.out.bel1 HB5.out HLL.out HB5.out.size g7);clear h7 g7)
      go_roundw
      case rel => exact ⟨acc ++ [It.mk yi yk yb],i,k + 1,by omega,by omega,rfl,by go_num,HO7.out,by have:=HAL.out;show _ ≤ _;simp;omega,HRN.out,HB7.out⟩
      case measure => simp [intOf];omega
     ·have l2 : Op.bytesLess yi.toList xi.toList = false:=Bool.eq_false_iff.mpr h2
      have hxy : xi = yi:=by
       by_cases e : xi = yi
       ·exact e
       ·rcases ltB_total e with h | h
        ·exact absurd h h1
        ·exact absurd h h2
      have HXY:=Lib.hid hxy
      clear h1 h2 hxy
      go_upto_region 12 with fail
      refine wp_region_bel (w0:=w5) (Below.refl _ _) (by kernel_rfl) (by kernel_rfl) ?_
      repeat (go_big_quiet_step (fail))
      refine wpQuiet_nil ?_
      rintro _ ⟨zz,rfl⟩
      have hz2:=zz.h
      replace HO5:=Lib.hid (HO5.out.below hz2)
      replace HBS5 : Hid (L ≤ zz.w.heap.size):=Nat.le_trans HBS5.out hz2.size
      replace HB5:=Lib.hid (HB5.out.trans (hz2.mono HB5.out.size))
      replace c0:=cell_bel c0 hz2
      replace d0:=cell_bel d0 hz2
      replace a0:=cell_bel a0 hz2
      replace a1:=cell_bel a1 hz2
      replace a2:=cell_bel a2 hz2
      replace b0:=cell_bel b0 hz2
      replace b1:=cell_bel b1 hz2
      replace b2:=cell_bel b2 hz2
      obtain ⟨w6,hw6⟩ : ∃ w6,w6 = zz.w:=⟨_,rfl⟩
      rw [← hw6] at HO5 HB5 HBS5 c0 d0 a0 a1 a2 b0 b1 b2 ⊢
      clear hw6 zz hz2
      clear k0 k1 hqn ka0 ka1 ka2 kb0 kb1 kb2
      have k0 : ∀ z : BelW w6,z.w.cell? ⟨I,0,none⟩ = some (.slice (some ⟨g1,o1,none⟩) n c):=fun z => cell_bel c0 z.h
      have k1 : ∀ z : BelW w6,z.w.cell? ⟨O,0,none⟩ = some (.slice (some ⟨g2,o2,none⟩) m d):=fun z => cell_bel d0 z.h
      have ka0 : ∀ z : BelW w6,z.w.cell? ⟨g1,o1 + i * 3,none⟩ = some (.string xi):=fun z => cell_bel a0 z.h
      have ka1 : ∀ z : BelW w6,z.w.cell? ⟨g1,o1 + i * 3 + 1,none⟩ = some (.int .i64 xk):=fun z => cell_bel a1 z.h
      have ka2 : ∀ z : BelW w6,z.w.cell? ⟨g1,o1 + i * 3 + 2,none⟩ = some (.string xb):=fun z => cell_bel a2 z.h
      have kb0 : ∀ z : BelW w6,z.w.cell? ⟨g2,o2 + k * 3,none⟩ = some (.string yi):=fun z => cell_bel b0 z.h
      have kb1 : ∀ z : BelW w6,z.w.cell? ⟨g2,o2 + k * 3 + 1,none⟩ = some (.int .i64 yk):=fun z => cell_bel b1 z.h
      have kb2 : ∀ z : BelW w6,z.w.cell? ⟨g2,o2 + k * 3 + 2,none⟩ = some (.string yb):=fun z => cell_bel b2 z.h
      have hqn : Nonempty (BelW w6):=⟨⟨w6,Below.refl _ _⟩⟩
      have f0 : (xi.toList == yi.toList) = true:=by rw [str_dec];exact decide_eq_true HXY.out
      by_cases h3 : xk = yk ∧ xb = yb
      ·have HRN : Hid (R = (mrgI (a.drop (i + 1)) (b.drop (k + 1))).map ((acc ++ [⟨xi,xk,xb⟩]) ++ ·)):=HEQ.out (by rw [HXY.out,h3.1,h3.2])
       have f1 : (xk == yk) = true:=by simp [h3.1]
       have f2 : (xb.toList == yb.toList) = true:=by rw [str_dec];exact decide_eq_true h3.2
       clear h3
       go_upto_region 4 with fail
       refine wp_region_bel (w0:=w6) (Below.refl _ _) (by kernel_rfl) (by kernel_rfl) ?_
       repeat (go_big_quiet_step (fail))
       refine wpQuiet_nil ?_
       rintro _ ⟨zz,rfl⟩
       have hz2:=zz.h
       replace HO5:=Lib.hid (HO5.out.below hz2)
       replace HBS5 : Hid (L ≤ zz.w.heap.size):=Nat.le_trans HBS5.out hz2.size
       replace HB5:=Lib.hid (HB5.out.trans (hz2.mono HB5.out.size))
       replace c0:=cell_bel c0 hz2
       replace d0:=cell_bel d0 hz2
       replace a0:=cell_bel a0 hz2
       replace a1:=cell_bel a1 hz2
       replace a2:=cell_bel a2 hz2
       replace b0:=cell_bel b0 hz2
       replace b1:=cell_bel b1 hz2
       replace b2:=cell_bel b2 hz2
       obtain ⟨w8,hw8⟩ : ∃ w8,w8 = zz.w:=⟨_,rfl⟩
       rw [← hw8] at HO5 HB5 HBS5 c0 d0 a0 a1 a2 b0 b1 b2 ⊢
       clear hw8 zz hz2
       clear k0 k1 hqn ka0 ka1 ka2 kb0 kb1 kb2
       clear l1 l2 f0 f1 f2
       go_wp2_with (at_builtin;refine wp_it_one rfl _ _ rfl rfl HO5.out xi xk xb rfl HLA.out HBS5.out ?_;intro v7 w7 h7 g7;have HO7:=Lib.hid h7;have HB7:=Lib.hid (HO5.out.bel1 HB5.out HLL.out HB5.out.size g7);clear h7 g7)
       go_roundw
       case rel => exact ⟨acc ++ [It.mk xi xk xb],i + 1,k + 1,by omega,by omega,by go_num,by go_num,HO7.out,by have:=HAL.out;show _ ≤ _;simp;omega,HRN.out,HB7.out⟩
       case measure => simp [intOf];omega
      ·have HRN : Hid (R = none):=HNE.out HXY.out fun e => by
        simp only [It.mk.injEq] at e
        exact h3 ⟨e.2.1,e.2.2⟩
       have HEN : Hid (E = 170):=by show E = _;rw [HE.out,HRN.out];rfl
       have HUN : Hid (U = []):=by show U = _;rw [HLI.out,HRN.out];rfl
       have HCUT : Hid ((xk == yk) = false ∨ (xk == yk) = true ∧ (xb.toList == yb.toList) = false):=by
        by_cases e1 : xk = yk
        ·refine .inr ⟨by simp [e1],?_⟩
         rw [str_dec]
         exact decide_eq_false fun e2 => h3 ⟨e1,e2⟩
        ·exact .inl (by simp [e1])
       clear h3
       go_upto_region 4 with fail
       rcases HCUT.out with f1 | ⟨f1,f2⟩
       ·refine wp_region_bel (w0:=w6) (Below.refl _ _) (by kernel_rfl) (by kernel_rfl) ?_
        repeat (go_big_quiet_step (fail))
        refine wpQuiet_nil ?_
        rintro _ ⟨zz,rfl⟩
        have hz2:=zz.h
        replace HO5:=Lib.hid (HO5.out.below hz2)
        replace HBS5 : Hid (L ≤ zz.w.heap.size):=Nat.le_trans HBS5.out hz2.size
        replace HB5:=Lib.hid (HB5.out.trans (hz2.mono HB5.out.size))
        replace c0:=cell_bel c0 hz2
        replace d0:=cell_bel d0 hz2
        replace a0:=cell_bel a0 hz2
        replace a1:=cell_bel a1 hz2
        replace a2:=cell_bel a2 hz2
        replace b0:=cell_bel b0 hz2
        replace b1:=cell_bel b1 hz2
        replace b2:=cell_bel b2 hz2
        obtain ⟨w8,hw8⟩ : ∃ w8,w8 = zz.w:=⟨_,rfl⟩
        rw [← hw8] at HO5 HB5 HBS5 c0 d0 a0 a1 a2 b0 b1 b2 ⊢
        clear hw8 zz hz2
        clear k0 k1 hqn ka0 ka1 ka2 kb0 kb1 kb2
        have H6:=Lib.hid ((HB5.out.block _ (row_lt H3.out)).trans H3.out)
        obtain ⟨o0,z0⟩:=st_at H6.out
        obtain ⟨r0,-⟩:=st_at (st_set (v:=.slice none 0 0) H6.out)
        clear c0 d0 a0 a1 a2 b0 b1 b2
        go_wp2_with fail
        refine bodyPost_ret (v:=.tuple #[.agg #[.slice none 0 0],.int .i64 170]) (by simp [results,Tryz.results26,go_sem,r0]) rfl ⟨_,by rw [HEN.out];rfl,?_,(HBX.out.trans (HB5.out.mono HBX.out.size)).setCell (p:=⟨P,0,none⟩) HPL.out _⟩
        rw [HUN.out]
        exact ItOw.nil _ _
       ·refine wp_region_bel (w0:=w6) (Below.refl _ _) (by kernel_rfl) (by kernel_rfl) ?_
        repeat (go_big_quiet_step (fail))
        refine wpQuiet_nil ?_
        rintro _ ⟨zz,rfl⟩
        have hz2:=zz.h
        replace HO5:=Lib.hid (HO5.out.below hz2)
        replace HBS5 : Hid (L ≤ zz.w.heap.size):=Nat.le_trans HBS5.out hz2.size
        replace HB5:=Lib.hid (HB5.out.trans (hz2.mono HB5.out.size))
        replace c0:=cell_bel c0 hz2
        replace d0:=cell_bel d0 hz2
        replace a0:=cell_bel a0 hz2
        replace a1:=cell_bel a1 hz2
        replace a2:=cell_bel a2 hz2
        replace b0:=cell_bel b0 hz2
        replace b1:=cell_bel b1 hz2
        replace b2:=cell_bel b2 hz2
        obtain ⟨w8,hw8⟩ : ∃ w8,w8 = zz.w:=⟨_,rfl⟩
        rw [← hw8] at HO5 HB5 HBS5 c0 d0 a0 a1 a2 b0 b1 b2 ⊢
        clear hw8 zz hz2
        clear k0 k1 hqn ka0 ka1 ka2 kb0 kb1 kb2
        have H6:=Lib.hid ((HB5.out.block _ (row_lt H3.out)).trans H3.out)
        obtain ⟨o0,z0⟩:=st_at H6.out
        obtain ⟨r0,-⟩:=st_at (st_set (v:=.slice none 0 0) H6.out)
        clear c0 d0 a0 a1 a2 b0 b1 b2
        go_wp2_with fail
        refine bodyPost_ret (v:=.tuple #[.agg #[.slice none 0 0],.int .i64 170]) (by simp [results,Tryz.results26,go_sem,r0]) rfl ⟨_,by rw [HEN.out];rfl,?_,(HBX.out.trans (HB5.out.mono HBX.out.size)).setCell (p:=⟨P,0,none⟩) HPL.out _⟩
        rw [HUN.out]
        exact ItOw.nil _ _
   ·have q2 : ¬ (k : Int) < (m : Int):=by omega
    have e1 : ((k : Int) == (m : Int)) = true:=by simp;omega
    have HRN : Hid (R = (mrgI (a.drop (i + 1)) (b.drop k)).map ((acc ++ [x]) ++ ·)):=by show R = _;rw [HRR.out,hx];exact mrg_l hia (by have:=HM.out;omega)
    obtain ⟨xi,xk,xb⟩:=x
    simp only at a0 a1 a2
    clear hx hg1 hia
    have k0 : ∀ z : BelW wa,z.w.cell? ⟨I,0,none⟩ = some (.slice (some ⟨g1,o1,none⟩) n c):=fun z => cell_bel c0 z.h
    have k1 : ∀ z : BelW wa,z.w.cell? ⟨O,0,none⟩ = some (.slice q m d):=fun z => cell_bel d0 z.h
    have ka0 : ∀ z : BelW wa,z.w.cell? ⟨g1,o1 + i * 3,none⟩ = some (.string xi):=fun z => cell_bel a0 z.h
    have ka1 : ∀ z : BelW wa,z.w.cell? ⟨g1,o1 + i * 3 + 1,none⟩ = some (.int .i64 xk):=fun z => cell_bel a1 z.h
    have ka2 : ∀ z : BelW wa,z.w.cell? ⟨g1,o1 + i * 3 + 2,none⟩ = some (.string xb):=fun z => cell_bel a2 z.h
    have hqn : Nonempty (BelW wa):=⟨⟨wa,Below.refl _ _⟩⟩
    go_upto_region 9 with fail
    refine wp_region_bel (w0:=wa) (Below.refl _ _) (by kernel_rfl) (by kernel_rfl) ?_
    repeat (go_big_quiet_step (fail))
    refine wpQuiet_nil ?_
    rintro _ ⟨zz,rfl⟩
    have hz:=zz.h
    have HO5:=Lib.hid (HO.out.below hz)
    have HB5:=Lib.hid (HB.out.trans (hz.mono HB.out.size))
    have HBS5 : Hid (L ≤ zz.w.heap.size):=by show L ≤ _;rw [HL.out];exact HB5.out.size
    replace c0:=cell_bel c0 hz
    replace d0:=cell_bel d0 hz
    replace a0:=cell_bel a0 hz
    replace a1:=cell_bel a1 hz
    replace a2:=cell_bel a2 hz
    obtain ⟨w5,hw5⟩ : ∃ w5,w5 = zz.w:=⟨_,rfl⟩
    rw [← hw5] at HO5 HB5 HBS5 c0 d0 a0 a1 a2 ⊢
    clear k0 k1 hqn ka0 ka1 ka2
    clear hz hw5 zz HO HB
    go_wp2_with (at_builtin;refine wp_it_one rfl _ _ rfl rfl HO5.out xi xk xb rfl HLA.out HBS5.out ?_;intro v7 w7 h7 g7;have HO7:=Lib.hid h7;have HB7:=Lib.hid (HO5.out.bel1 HB5.out HLL.out HB5.out.size g7);clear h7 g7)
    go_roundw
    case rel => exact ⟨acc ++ [It.mk xi xk xb],i + 1,k,by omega,by omega,by go_num,rfl,HO7.out,by have:=HAL.out;show _ ≤ _;simp;omega,HRN.out,HB7.out⟩
    case measure => simp [intOf];omega
  ·have q1 : ¬ (i : Int) < (n : Int):=by omega
   have q1d : decide ((i : Int) < (n : Int)) = false:=decide_eq_false q1
   by_cases hkm : k < m
   ·have q2 : (k : Int) < (m : Int):=by omega
    have hkb : k < b.length:=by rw [← HM.out];exact hkm
    have e1 : ((k : Int) == (m : Int)) = false:=by simp;omega
    have e2 : ((i : Int) == (n : Int)) = true:=by simp;omega
    obtain ⟨g2,o2,hqe,hg2,b0,b1,b2⟩:=HQ.out.below HB.out k hkb
    subst hqe
    obtain ⟨y,hy⟩ : ∃ y,y = b[k]:=⟨_,rfl⟩
    rw [← hy] at b0 b1 b2
    have HRN : Hid (R = (mrgI (a.drop i) (b.drop (k + 1))).map ((acc ++ [y]) ++ ·)):=by show R = _;rw [HRR.out,hy];exact mrg_r (by have:=HN.out;omega) hkb
    obtain ⟨yi,yk,yb⟩:=y
    simp only at b0 b1 b2
    clear hy hg2 hkb
    have k0 : ∀ z : BelW wa,z.w.cell? ⟨I,0,none⟩ = some (.slice p n c):=fun z => cell_bel c0 z.h
    have k1 : ∀ z : BelW wa,z.w.cell? ⟨O,0,none⟩ = some (.slice (some ⟨g2,o2,none⟩) m d):=fun z => cell_bel d0 z.h
    have kb0 : ∀ z : BelW wa,z.w.cell? ⟨g2,o2 + k * 3,none⟩ = some (.string yi):=fun z => cell_bel b0 z.h
    have kb1 : ∀ z : BelW wa,z.w.cell? ⟨g2,o2 + k * 3 + 1,none⟩ = some (.int .i64 yk):=fun z => cell_bel b1 z.h
    have kb2 : ∀ z : BelW wa,z.w.cell? ⟨g2,o2 + k * 3 + 2,none⟩ = some (.string yb):=fun z => cell_bel b2 z.h
    have hqn : Nonempty (BelW wa):=⟨⟨wa,Below.refl _ _⟩⟩
    go_upto_region 9 with fail
    refine wp_region_bel (w0:=wa) (Below.refl _ _) (by kernel_rfl) (by kernel_rfl) ?_
    repeat (go_big_quiet_step (fail))
    refine wpQuiet_nil ?_
    rintro _ ⟨zz,rfl⟩
    have hz:=zz.h
    have HO5:=Lib.hid (HO.out.below hz)
    have HB5:=Lib.hid (HB.out.trans (hz.mono HB.out.size))
    have HBS5 : Hid (L ≤ zz.w.heap.size):=by show L ≤ _;rw [HL.out];exact HB5.out.size
    replace c0:=cell_bel c0 hz
    replace d0:=cell_bel d0 hz
    replace b0:=cell_bel b0 hz
    replace b1:=cell_bel b1 hz
    replace b2:=cell_bel b2 hz
    obtain ⟨w5,hw5⟩ : ∃ w5,w5 = zz.w:=⟨_,rfl⟩
    rw [← hw5] at HO5 HB5 HBS5 c0 d0 b0 b1 b2 ⊢
    clear k0 k1 hqn kb0 kb1 kb2
    clear hz hw5 zz HO HB
    have k0 : ∀ z : BelW w5,z.w.cell? ⟨I,0,none⟩ = some (.slice p n c):=fun z => cell_bel c0 z.h
    have k1 : ∀ z : BelW w5,z.w.cell? ⟨O,0,none⟩ = some (.slice (some ⟨g2,o2,none⟩) m d):=fun z => cell_bel d0 z.h
    have kb0 : ∀ z : BelW w5,z.w.cell? ⟨g2,o2 + k * 3,none⟩ = some (.string yi):=fun z => cell_bel b0 z.h
    have kb1 : ∀ z : BelW w5,z.w.cell? ⟨g2,o2 + k * 3 + 1,none⟩ = some (.int .i64 yk):=fun z => cell_bel b1 z.h
    have kb2 : ∀ z : BelW w5,z.w.cell? ⟨g2,o2 + k * 3 + 2,none⟩ = some (.string yb):=fun z => cell_bel b2 z.h
    have hqn : Nonempty (BelW w5):=⟨⟨w5,Below.refl _ _⟩⟩
    go_upto_region 12 with fail
    refine wp_region_bel (w0:=w5) (Below.refl _ _) (by kernel_rfl) (by kernel_rfl) ?_
    repeat (go_big_quiet_step (fail))
    refine wpQuiet_nil ?_
    rintro _ ⟨zz,rfl⟩
    have hz2:=zz.h
    replace HO5:=Lib.hid (HO5.out.below hz2)
    replace HBS5 : Hid (L ≤ zz.w.heap.size):=Nat.le_trans HBS5.out hz2.size
    replace HB5:=Lib.hid (HB5.out.trans (hz2.mono HB5.out.size))
    replace c0:=cell_bel c0 hz2
    replace d0:=cell_bel d0 hz2
    replace b0:=cell_bel b0 hz2
    replace b1:=cell_bel b1 hz2
    replace b2:=cell_bel b2 hz2
    obtain ⟨w6,hw6⟩ : ∃ w6,w6 = zz.w:=⟨_,rfl⟩
    rw [← hw6] at HO5 HB5 HBS5 c0 d0 b0 b1 b2 ⊢
    clear hw6 zz hz2
    clear k0 k1 hqn kb0 kb1 kb2
    go_wp2_with (at_builtin;refine wp_it_one rfl _ _ rfl rfl HO5.out yi yk yb rfl HLA.out HBS5.out ?_;intro v7 w7 h7 g7;have HO7:=Lib.hid h7;have HB7:=Lib.hid (HO5.out.bel1 HB5.out HLL.out HB5.out.size g7);clear h7 g7)
    go_roundw
    case rel => exact ⟨acc ++ [It.mk yi yk yb],i,k + 1,by omega,by omega,rfl,by go_num,HO7.out,by have:=HAL.out;show _ ≤ _;simp;omega,HRN.out,HB7.out⟩
    case measure => simp [intOf];omega
   ·have q2 : ¬ (k : Int) < (m : Int):=by omega
    have HRE : Hid (R = some acc):=by
     show R = _
     rw [HRR.out,mrg_end (.inl (by have:=HN.out;omega)),List.drop_eq_nil_of_le (by have:=HN.out;omega),List.drop_eq_nil_of_le (by have:=HM.out;omega),List.append_nil,List.append_nil]
    have HEN : Hid (E = 0):=by show E = _;rw [HE.out,HRE.out];simp
    have HUN : Hid (U = acc):=by show U = _;rw [HLI.out,HRE.out];rfl
    obtain ⟨pv,cv,rfl,-,-⟩:=HO.out.rw
    have HAP:=Lib.hid (HO.out.apart (b:=P) HPLT.out)
    obtain ⟨z,hz⟩ : ∃ z,z = acc.length:=⟨_,rfl⟩
    have HZL : Hid (z ≤ 2000):=by have:=HAL.out;show z ≤ _;omega
    rw [← hz] at HO HAP ⊢
    have g9 : ¬ (65536 : Int) < (z : Int):=by have:=HZL.out;omega
    have H6:=Lib.hid ((HB.out.block _ (row_lt H3.out)).trans H3.out)
    obtain ⟨o0,f0⟩:=st_at H6.out
    obtain ⟨r0,-⟩:=st_at (st_set (v:=.slice pv z cv) H6.out)
    clear hz
    go_wp2_with fail
    refine bodyPost_ret (v:=.tuple #[.agg #[.slice pv z cv],.int .i64 0]) (by simp [results,Tryz.results26,go_sem,r0]) rfl ⟨_,by rw [HEN.out];rfl,?_,(HBX.out.trans (HB.out.mono HBX.out.size)).setCell (p:=⟨P,0,none⟩) HPL.out _⟩
    rw [HUN.out]
    exact (HO.out.mono HLB.out).put (x:=.slice pv z cv) HAP.out
end Go.Proofs.YtpkgiojicbdcfaaGreatDoor
/-
 The reference's sorted lists of strings, plain.
-/
namespace Go.Proofs.YtpkgiojicbdcfaaGreatDoor
open Go Go.RowKit
end Go.Proofs.YtpkgiojicbdcfaaGreatDoor
/-
 The walks of the reference's Holds, Insert and Sorted.
-/
namespace Go.Proofs.YtpkgiojicbdcfaaGreatDoor
open Go Go.RowKit Go.Maps Go.WideMaps
theorem SOw.empty (w : World) {base : Nat} (hb : base ≤ w.heap.size) : SOw (w.alloc (.cells #[] 9)) base (.slice (some ⟨w.heap.size,0,none⟩) 0 0) [] :=
 ⟨rfl,.inr ⟨w.heap.size,0,#[],rfl,hb,heap_alloc_new _ _,Nat.le_refl _,Nat.zero_le _,rfl,rfl⟩⟩
theorem SOw.rw2 {w : World} {base : Nat} {v : Value} {l : List (List UInt8)} (h : SOw w base v l) : ∃ p n cap,v = .slice p n cap ∧ n = l.length ∧ n ≤ cap ∧ (p = none → cap = 0) ∧ SRw w p l:=by
 obtain ⟨p,cap,hv,hr⟩:=h.rw
 refine ⟨p,l.length,cap,hv,rfl,?_,?_,hr⟩
 ·rcases h.2 with ⟨hx,h0⟩ | ⟨g,cap',cur,hx,_,_,hc,_⟩
  ·omega
  ·rw [hv] at hx
   injection hx with _ _ h3
   omega
 ·intro hp
  rcases h.2 with ⟨hx,_⟩ | ⟨g,cap',cur,hx,_⟩
  ·rw [hv] at hx;injection hx
  ·rw [hv,hp] at hx;cases hx
set_option maxHeartbeats 4000000 in
set_option maxRecDepth 8000 in
theorem rless_any (a b : List It) (p q : Option Addr) (n c m d : Nat) (w : World) (hn : n = a.length) (hm : m = b.length) (hp : ItRw w p a) (hq : ItRw w q b) (hn2 : n ≤ 1000000) (hm2 : m ≤ 1000000) :
  Calls Tryz.prog 28 #[.agg #[.slice p n c],.agg #[.slice q m d]] w fun e w' => ∃ v',e = .returned (.agg #[v']) ∧ ItOw w' w.heap.size v' (lessI a b) ∧ Below w.heap.size w w':=by
 unfold lessI
 obtain ⟨w1,hw1⟩ : ∃ w1,w1 = w.alloc (.cells #[.slice p n c] 24):=⟨_,rfl⟩
 obtain ⟨w2,hw2⟩ : ∃ w2,w2 = w1.alloc (.cells #[.slice q m d] 24):=⟨_,rfl⟩
 obtain ⟨w3,hw3⟩ : ∃ w3,w3 = w2.alloc (.cells #[.slice none 0 0] 24):=⟨_,rfl⟩
 obtain ⟨I,hI⟩ : ∃ I,I = w.heap.size:=⟨_,rfl⟩
 obtain ⟨O,hO'⟩ : ∃ O,O = w.heap.size + 1:=⟨_,rfl⟩
 obtain ⟨P,hP'⟩ : ∃ P,P = w.heap.size + 1 + 1:=⟨_,rfl⟩
 have h1 : w1.heap[I]? = some (.cells #[.slice p n c] 24 (0,0)):=by rw [hw1,hI];exact heap_alloc_new _ _
 have h2 : w2.heap[O]? = some (.cells #[.slice q m d] 24 (0,0)):=by rw [hw2,hO',show w.heap.size + 1 = w1.heap.size by rw [hw1];simp];exact heap_alloc_new _ _
 have h3 : w3.heap[P]? = some (.cells #[.slice none 0 0] 24 (0,0)):=by rw [hw3,hP',show w.heap.size + 1 + 1 = w2.heap.size by rw [hw2,hw1];simp];exact heap_alloc_new _ _
 have hbx : Below w.heap.size w w3:=by rw [hw3,hw2,hw1];exact below_new (below_new (below_new (Below.refl _ _) _) _) _
 have x0 : w3.cell? ⟨I,0,none⟩ = some (.slice p n c):=(st_at (by rw [hw3,hw2];exact row_alloc (row_alloc h1 (row_lt h1)) (row_lt (row_alloc h1 (row_lt h1))))).1
 have y0 : w3.cell? ⟨O,0,none⟩ = some (.slice q m d):=(st_at (by rw [hw3];exact row_alloc h2 (row_lt h2))).1
 have HN:=Lib.hid hn
 have HM:=Lib.hid hm
 have HP:=Lib.hid (hp.below hbx)
 have HQ:=Lib.hid (hq.below hbx)
 have HW1:=Lib.hid hw1
 have HW2:=Lib.hid hw2
 have HW3:=Lib.hid hw3
 have HI:=Lib.hid hI
 have HO':=Lib.hid hO'
 have HP':=Lib.hid hP'
 have H3:=Lib.hid h3
 have HBX:=Lib.hid hbx
 have HPL : Hid (w.heap.size ≤ P):=by show _ ≤ P;omega
 clear hn hm hp hq hw1 hw2 hw3 hI hO' hP' h1 h2 h3 hbx
 go_enter Tryz.func28,Tryz.ntmps28
 go_upto_region 1 with fail
 rw [← HW1.out,← HW2.out,← HW3.out,← HP'.out,← HO'.out,← HI.out]
 go_wp2
 go_loopw [5,6] (fun v iv wr => ∃ k : Nat,k ≤ n ∧ iv = .int .i64 (k : Int) ∧ Hid (ItOw wr w3.heap.size v ((a.take k).filter (fun e => !(hasI b e.i)))) ∧ Hid (Below w3.heap.size w3 wr)) (fun _ iv _ => n - (intOf iv).toNat)
 case atStart => exact ⟨0,by omega,rfl,ItOw.nil _ _,Below.refl _ _⟩
 case round =>
  obtain ⟨k,hk,rfl,HO,HB⟩:=hrel
  have c0:=cell_bel x0 HB.out
  have c1:=cell_bel y0 HB.out
  by_cases hlt : k < n
  ·have hkl : k < a.length:=by rw [← HN.out];exact hlt
   obtain ⟨g',o,hpe,hg,a0,a1,a2⟩:=HP.out.below HB.out k hkl
   subst hpe
   obtain ⟨e,he⟩ : ∃ e,e = a[k]:=⟨_,rfl⟩
   rw [← he] at a0 a1 a2
   have hfm:=filter_more (f:=fun i => !(hasI b i)) hkl
   rw [← he] at hfm
   obtain ⟨H,hH⟩ : ∃ H,H = hasI b e.i:=⟨_,rfl⟩
   have HC : Hid (∀ y : BelW wr,Calls Tryz.prog 59 #[.agg #[.slice q m d],.string e.i] y.w fun r w'' => r = .returned (.bool H) ∧ ∃ z : BelW wr,w'' = z.w):=fun y => by
    rw [hH]
    exact Calls.bel_class (rhasI_any b e.i q m d y.w HM.out ((HQ.out.below HB.out).below y.h) (by omega))
   simp only [← hH] at hfm
   have HFM:=Lib.hid hfm
   have hll : ((a.take k).filter (fun e => !(hasI b e.i))).length ≤ k:=Nat.le_trans (List.length_filter_le _ _) (by simp;omega)
   have HLL : Hid (((a.take k).filter (fun e => !(hasI b e.i))).length + 1 ≤ 1048576):=by show _ ≤ _;omega
   have q1 : (k : Int) < (n : Int):=by omega
   obtain ⟨id,kd,bd⟩:=e
   simp only at a0 a1 a2 HC
   have k0 : ∀ y : BelW wr,y.w.cell? ⟨I,0,none⟩ = some (.slice (some ⟨g',o,none⟩) n c):=fun y => cell_bel c0 y.h
   have k1 : ∀ y : BelW wr,y.w.cell? ⟨O,0,none⟩ = some (.slice q m d):=fun y => cell_bel c1 y.h
   have k2 : ∀ y : BelW wr,y.w.cell? ⟨g',o + k * 3,none⟩ = some (.string id):=fun y => cell_bel a0 y.h
   have hqn : Nonempty (BelW wr):=⟨⟨wr,Below.refl _ _⟩⟩
   clear hll hfm he hH hkl hg
   go_upto_region 5 with fail
   refine wp_region_bel (w0:=wr) (Below.refl _ _) (by kernel_rfl) (by kernel_rfl) ?_
   repeat (go_big_quiet_step (first
    | (go_at_call 59;(with_reducible exact HC.out _))))
   refine wpQuiet_nil ?_
   rintro _ ⟨zz,rfl⟩
   have hbk:=zz.h
   have HO5:=Lib.hid (HO.out.below hbk)
   have HB5:=Lib.hid (HB.out.trans (hbk.mono HB.out.size))
   replace a0:=cell_bel a0 hbk
   replace a1:=cell_bel a1 hbk
   replace a2:=cell_bel a2 hbk
   replace c0:=cell_bel c0 hbk
   obtain ⟨w5,hw5⟩ : ∃ w5,w5 = zz.w:=⟨_,rfl⟩
   rw [← hw5] at HO5 HB5 a0 a1 a2 c0 ⊢
   clear k0 k1 k2 hqn HC c1 hbk hw5 HO HB zz
   rcases H with _ | _
   ·have hls : (a.take (k + 1)).filter (fun e => !(hasI b e.i)) = (a.take k).filter (fun e => !(hasI b e.i)) ++ [⟨id,kd,bd⟩]:=by rw [HFM.out];simp
    have HLS:=Lib.hid hls
    clear hls
    go_wp2_with (at_builtin;refine wp_it_one rfl _ _ rfl rfl HO5.out id kd bd rfl HLL.out HB5.out.size ?_;intro v4 w4 h4 g4;have HO4:=Lib.hid h4;have HB4:=Lib.hid (HO5.out.bel1 HB5.out (Nat.le_refl _) HB5.out.size g4);clear h4 g4)
    go_roundw
    case rel => exact ⟨k + 1,by omega,by go_num,by show ItOw _ _ _ _;rw [HLS.out];exact HO4.out,HB4.out⟩
    case measure => simp [intOf];omega
   ·have hls : (a.take (k + 1)).filter (fun e => !(hasI b e.i)) = (a.take k).filter (fun e => !(hasI b e.i)):=by rw [HFM.out];simp
    have HLS:=Lib.hid hls
    clear hls
    go_wp2_with fail
    go_roundw
    case rel => exact ⟨k + 1,by omega,by go_num,by show ItOw _ _ _ _;rw [HLS.out];exact HO5.out,HB5.out⟩
    case measure => simp [intOf];omega
  ·have HX : Hid (a.take k = a):=by show _ = _;rw [List.take_of_length_le (by have:=HN.out;omega)]
   obtain ⟨pv,nv,cv,rfl⟩:=HO.out.form
   have H6:=Lib.hid ((HB.out.block _ (row_lt H3.out)).trans H3.out)
   obtain ⟨o0,f0⟩:=st_at H6.out
   obtain ⟨d0,-⟩:=st_at (st_set (v:=.slice pv nv cv) H6.out)
   have hap:=HO.out.apart (b:=P) (row_lt H3.out)
   go_wp2_with fail
   refine bodyPost_ret (v:=.agg #[.slice pv nv cv]) (by simp [results,Tryz.results28,go_sem,d0]) rfl ⟨_,rfl,?_,(HBX.out.trans (HB.out.mono HBX.out.size)).setCell (p:=⟨P,0,none⟩) HPL.out _⟩
   have h:=(HO.out.mono HBX.out.size).put (x:=.slice pv nv cv) hap
   rw [HX.out] at h
   exact h
end Go.Proofs.YtpkgiojicbdcfaaGreatDoor
