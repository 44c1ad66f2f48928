/-
 The walk of Union.
-/
import Derived.Test.YtpkgiojicbdcfaaGreatDoorSoCalmPk
import Derived.Test.YtpkgiojicbdcfaaGreatDoorSoValPk
import Derived.Test.YtpkgiojicbdcfaaGreatDoorSoRowsPk
set_option linter.unusedVariables false
set_option linter.unusedSimpArgs false
namespace Go.Proofs.YtpkgiojicbdcfaaGreatDoor
open Go Go.RowKit Go.Maps Go.WideMaps
section
variable {a b acc : List It} {i k : Nat}
theorem mrg_lt (hi : i < a.length) (hk : k < b.length) (h : ltB a[i].i b[k].i = true) : (mrgI (a.drop i) (b.drop k)).map (acc ++ ·) = (mrgI (a.drop (i + 1)) (b.drop k)).map ((acc ++ [a[i]]) ++ ·):=by
 rw [List.drop_eq_getElem_cons hi,List.drop_eq_getElem_cons hk,mrgI_lt h,Option.map_map]
 congr 1
 funext l
 simp
theorem mrg_gt (hi : i < a.length) (hk : k < b.length) (h : ltB b[k].i a[i].i = true) : (mrgI (a.drop i) (b.drop k)).map (acc ++ ·) = (mrgI (a.drop i) (b.drop (k + 1))).map ((acc ++ [b[k]]) ++ ·):=by
 rw [List.drop_eq_getElem_cons hi,List.drop_eq_getElem_cons hk,mrgI_gt h,Option.map_map]
 congr 1
 funext l
 simp
theorem mrg_eq (hi : i < a.length) (hk : k < b.length) (h : a[i] = b[k]) : (mrgI (a.drop i) (b.drop k)).map (acc ++ ·) = (mrgI (a.drop (i + 1)) (b.drop (k + 1))).map ((acc ++ [a[i]]) ++ ·):=by
 rw [List.drop_eq_getElem_cons hi,List.drop_eq_getElem_cons hk,h,mrgI_eq,Option.map_map]
 congr 1
 funext l
 simp
theorem mrg_ne (hi : i < a.length) (hk : k < b.length) (h : a[i].i = b[k].i) (hne : a[i] ≠ b[k]) : (mrgI (a.drop i) (b.drop k)).map (acc ++ ·) = none:=by
 rw [List.drop_eq_getElem_cons hi,List.drop_eq_getElem_cons hk,mrgI_ne (by rw [h];exact ltB_irr _) (by rw [h];exact ltB_irr _) hne]
 rfl
theorem mrg_end (h : a.length ≤ i ∨ b.length ≤ k) : (mrgI (a.drop i) (b.drop k)).map (acc ++ ·) = some (acc ++ a.drop i ++ b.drop k):=by
 rcases h with h | h
 ·rw [List.drop_eq_nil_of_le h,mrgI_nil,Option.map_some,List.append_nil]
 ·rw [List.drop_eq_nil_of_le h,mrgI_nil2,Option.map_some,List.append_nil]
end
theorem make_its (N : Nat) (hN : N ≤ 100000) (w : World) : ∃ cs,(Instr.makeSlice 22 (.int .i64 0) (.int .i64 (N : Int))).run Tryz.prog w = .ok (.slice (some ⟨w.heap.size,0,none⟩) 0 N) (w.alloc (.cells cs 39)) ∧ ItOw (w.alloc (.cells cs 39)) w.heap.size (.slice (some ⟨w.heap.size,0,none⟩) 0 N) []:=by
 obtain ⟨i0,hi,hz0,hz1,hz2⟩:=info_parts Tryz.infoIt
 have h:=run_makeSlice (P:=Tryz.prog) w 22 39 i0 (.agg #[.string ⟨#[]⟩,.int .i64 0,.string ⟨#[]⟩]) Tryz.underlying22 hi hz0 .i64 .i64 0 (N : Int) (by omega) (by omega) (by rw [hz1];omega) (by rw [hz2];omega) (by omega)
 rw [hz1] at h
 simp only [Int.toNat_natCast,Int.toNat_zero] at h
 exact ⟨_,h,World.ownsRow_made w _ N (Nat.le_refl _) (by unfold maxLen;omega) (size_madeCells _ _)⟩
theorem cmp_pos {a b : List UInt8} (h : Op.bytesLess b a = true) : 0 < Lib.compareBytes a b:=by
 have h1 : ¬ Lib.compareBytes a b < 0:=fun e => by
  have h2:=bl_asym _ _ ((cmp_neg a b).mp e)
  rw [h] at h2
  cases h2
 have h3 : Lib.compareBytes a b ≠ 0:=fun e => by
  rw [(cmp_zero a b).mp e,bl_irr] at h
  cases h
 omega
def unE (a b : List It) : Nat:=if mrgI a b = none then 170 else 0
def unL (a b : List It) : List It:=(mrgI a b).getD []
theorem two_new (w : World) (o1 o2 : Obj) : ((w.alloc o1).alloc o2).heap[w.heap.size]? = some o1 ∧ ((w.alloc o1).alloc o2).heap[w.heap.size + 1]? = some o2 :=
 ⟨row_alloc (heap_alloc_new w o1) (row_lt (heap_alloc_new w o1)),by rw [show w.heap.size + 1 = (w.alloc o1).heap.size by simp];exact heap_alloc_new _ _⟩
theorem keepG_new {wC w : World} {S : World → Prop} {o : Obj} (hG : ∀ w',Below wC.heap.size wC w' → Below wC.heap.size wC w' ∧ S w') (h : Below wC.heap.size wC w ∧ S w) : Below wC.heap.size wC (w.alloc o) ∧ S (w.alloc o):=hG _ (below_new h.1 o)
theorem keepG_set3 {wC w : World} {S : World → Prop} {E : Nat} {x y z : Value} (hG : ∀ w',Below wC.heap.size wC w' → Below wC.heap.size wC w' ∧ S w') (h : Below wC.heap.size wC w ∧ S w) (hE : wC.heap.size ≤ E) : Below wC.heap.size wC (((w.setCell ⟨E,0,none⟩ x).setCell ⟨E,1,none⟩ y).setCell ⟨E,2,none⟩ z) ∧ S (((w.setCell ⟨E,0,none⟩ x).setCell ⟨E,1,none⟩ y).setCell ⟨E,2,none⟩ z) :=
 hG _ (((h.1.setCell (p:=⟨E,0,none⟩) hE _).setCell (p:=⟨E,1,none⟩) hE _).setCell (p:=⟨E,2,none⟩) hE _)
set_option maxHeartbeats 16000000 in
set_option maxRecDepth 8000 in
theorem sunion_any (a b : List It) (p q : Option Addr) (n c m d : Nat) (w : World) (hn : n = a.length) (hm : m = b.length) (hnc : n ≤ c) (hmd : m ≤ d) (hpc : p = none → c = 0) (hqd : q = none → d = 0) (hp : ItRw w p a) (hq : ItRw w q b) (hn2 : n ≤ 1000) (hm2 : m ≤ 1000) :
  Calls Tryz.prog 25 #[.agg #[.slice p n c],.agg #[.slice q m d]] w fun e w' => ∃ v',e = .returned (.tuple #[.agg #[v'],.int .i64 (unE a b : Int)]) ∧ ItOw w' w.heap.size v' (unL a b) ∧ Below w.heap.size w w':=by
 obtain ⟨w1,hw1⟩ : ∃ w1,w1 = w.alloc (.cells #[.slice p n c] 24):=⟨_,rfl⟩
 obtain ⟨w2,hw2⟩ : ∃ w2,w2 = w1.alloc (.cells #[.slice q m d] 24):=⟨_,rfl⟩
 obtain ⟨w3,hw3⟩ : ∃ w3,w3 = w2.alloc (.cells #[.slice none 0 0] 24):=⟨_,rfl⟩
 obtain ⟨I,hI⟩ : ∃ I,I = w.heap.size:=⟨_,rfl⟩
 obtain ⟨O,hO'⟩ : ∃ O,O = w.heap.size + 1:=⟨_,rfl⟩
 obtain ⟨P,hP'⟩ : ∃ P,P = w.heap.size + 1 + 1:=⟨_,rfl⟩
 have h1 : w1.heap[I]? = some (.cells #[.slice p n c] 24 (0,0)):=by rw [hw1,hI];exact heap_alloc_new _ _
 have h2 : w2.heap[O]? = some (.cells #[.slice q m d] 24 (0,0)):=by rw [hw2,hO',show w.heap.size + 1 = w1.heap.size by rw [hw1];simp];exact heap_alloc_new _ _
 have h3 : w3.heap[P]? = some (.cells #[.slice none 0 0] 24 (0,0)):=by rw [hw3,hP',show w.heap.size + 1 + 1 = w2.heap.size by rw [hw2,hw1];simp];exact heap_alloc_new _ _
 have hbx : Below w.heap.size w w3:=by rw [hw3,hw2,hw1];exact below_new (below_new (below_new (Below.refl _ _) _) _) _
 have x0 : w3.cell? ⟨I,0,none⟩ = some (.slice p n c):=(st_at (by rw [hw3,hw2];exact row_alloc (row_alloc h1 (row_lt h1)) (row_lt (row_alloc h1 (row_lt h1))))).1
 have y0 : w3.cell? ⟨O,0,none⟩ = some (.slice q m d):=(st_at (by rw [hw3];exact row_alloc h2 (row_lt h2))).1
 obtain ⟨N,hN⟩ : ∃ N,N = n + m:=⟨_,rfl⟩
 have es : (n : Int) + (m : Int) = (N : Int):=by omega
 obtain ⟨cs,hmk,hmo⟩:=make_its N (by omega) w3
 obtain ⟨L,hL⟩ : ∃ L,L = w3.heap.size:=⟨_,rfl⟩
 obtain ⟨w4,hw4⟩ : ∃ w4,w4 = w3.alloc (.cells cs 39):=⟨_,rfl⟩
 rw [← hL,← hw4] at hmo
 have hb4 : Below w3.heap.size w3 w4:=by rw [hw4];exact below_new (Below.refl _ _) _
 obtain ⟨R,hR⟩ : ∃ R,R = mrgI a b:=⟨_,rfl⟩
 have HE : Hid (unE a b = if R = none then 170 else 0):=by show unE a b = _;rw [hR];rfl
 have HLI : Hid (unL a b = R.getD []):=by show unL a b = _;rw [hR];rfl
 obtain ⟨E,hE⟩ : ∃ E,E = unE a b:=⟨_,rfl⟩
 obtain ⟨U,hU⟩ : ∃ U,U = unL a b:=⟨_,rfl⟩
 rw [← hE,← hU]
 rw [← hE] at HE
 rw [← hU] at HLI
 have HR:=Lib.hid hR
 have HN:=Lib.hid hn
 have HM:=Lib.hid hm
 have HP:=Lib.hid (hp.below hbx)
 have HQ:=Lib.hid (hq.below hbx)
 have HPC:=Lib.hid hpc
 have HQD:=Lib.hid hqd
 have HMK:=Lib.hid hmk
 have HMO:=Lib.hid hmo
 have HB4:=Lib.hid hb4
 have HW1:=Lib.hid hw1
 have HW2:=Lib.hid hw2
 have HW3:=Lib.hid hw3
 have HW4:=Lib.hid hw4
 have HI:=Lib.hid hI
 have HO':=Lib.hid hO'
 have HP':=Lib.hid hP'
 have HL:=Lib.hid hL
 have H3:=Lib.hid h3
 have HBX:=Lib.hid hbx
 have HPL : Hid (w.heap.size ≤ P):=by show _ ≤ P;omega
 have HLB : Hid (w.heap.size ≤ L):=by show _ ≤ L;rw [hL];exact hbx.size
 have HPLT : Hid (P < L):=by show P < L;rw [hL];exact row_lt h3
 have HLL : Hid (w3.heap.size ≤ L):=by show _ ≤ L;rw [hL];exact Nat.le_refl _
 clear hn hm hp hq hpc hqd hw1 hw2 hw3 hw4 hI hO' hP' h1 h2 h3 hbx hmk hmo hb4 hL hN hR hE hU
 go_enter Tryz.func25,Tryz.ntmps25
 go_upto_region 1 with fail
 rw [← HW1.out,← HW2.out,← HW3.out,← HP'.out,← HO'.out,← HI.out]
 have hmk:=HMK.out
 go_upto_region 2 with fail
 rw [← HW4.out,← HL.out]
 clear hmk HMK
 go_wp2_with fail
 go_loopw [6,7,8] (fun v iv kv wr => ∃ (acc : List It) (i k : Nat),i ≤ n ∧ k ≤ m ∧ iv = .int .i64 (i : Int) ∧ kv = .int .i64 (k : Int) ∧ Hid (ItOw wr L v acc) ∧ Hid (acc.length ≤ i + k) ∧ Hid (R = (mrgI (a.drop i) (b.drop k)).map (acc ++ ·)) ∧ Hid (Below w3.heap.size w3 wr)) (fun _ iv kv _ => (n - (intOf iv).toNat) + (m - (intOf kv).toNat))
 case atStart => exact ⟨[],0,0,by omega,by omega,rfl,rfl,HMO.out,Nat.zero_le _,by show R = _;rw [HR.out];simp,HB4.out⟩
 case round =>
  clear HMO HB4 HR
  obtain ⟨acc,i,k,hi,hk,rfl,rfl,HO,HAL,HRR,HB⟩:=hrel
  rename World => wa
  have c0:=cell_bel x0 HB.out
  have d0:=cell_bel y0 HB.out
  by_cases hin : i < n
  ·have q1 : (i : Int) < (n : Int):=by omega
   by_cases hkm : k < m
   ·have q2 : (k : Int) < (m : Int):=by omega
    have hia : i < a.length:=by rw [← HN.out];exact hin
    have hkb : k < b.length:=by rw [← HM.out];exact hkm
    obtain ⟨g1,o1,hpe,hg1,a0,a1,a2⟩:=HP.out.below HB.out i hia
    obtain ⟨g2,o2,hqe,hg2,b0,b1,b2⟩:=HQ.out.below HB.out k hkb
    subst hpe
    subst hqe
    obtain ⟨x,hx⟩ : ∃ x,x = a[i]:=⟨_,rfl⟩
    obtain ⟨y,hy⟩ : ∃ y,y = b[k]:=⟨_,rfl⟩
    rw [← hx] at a0 a1 a2
    rw [← hy] at b0 b1 b2
    have HLT : Hid (ltB x.i y.i = true → R = (mrgI (a.drop (i + 1)) (b.drop k)).map ((acc ++ [x]) ++ ·)):=fun h => by rw [HRR.out,hx];exact mrg_lt hia hkb (by rw [← hx,← hy];exact h)
    have HGT : Hid (ltB y.i x.i = true → R = (mrgI (a.drop i) (b.drop (k + 1))).map ((acc ++ [y]) ++ ·)):=fun h => by rw [HRR.out,hy];exact mrg_gt hia hkb (by rw [← hx,← hy];exact h)
    have HEQ : Hid (x = y → R = (mrgI (a.drop (i + 1)) (b.drop (k + 1))).map ((acc ++ [x]) ++ ·)):=fun h => by rw [HRR.out,hx];exact mrg_eq hia hkb (by rw [← hx,← hy];exact h)
    have HNE : Hid (x.i = y.i → x ≠ y → R = none):=fun h h2 => by rw [HRR.out];exact mrg_ne hia hkb (by rw [← hx,← hy];exact h) (by rw [← hx,← hy];exact h2)
    obtain ⟨xi,xk,xb⟩:=x
    obtain ⟨yi,yk,yb⟩:=y
    simp only at a0 a1 a2 b0 b1 b2 HLT HGT HNE
    obtain ⟨C,hC⟩ : ∃ C,C = Lib.compareBytes xi.data.toList yi.data.toList:=⟨_,rfl⟩
    have HCM : Hid (∀ w',Calls Tryz.prog 57 #[.string xi,.string yi] w' fun e w'' => e = .returned (.int .i64 C) ∧ w' = w''):=fun w' => (Tryz.strings_Compare xi yi w').mono fun e w'' ⟨h1,h2⟩ => ⟨by rw [h1,hC],h2.symm⟩
    have HCC:=Lib.hid hC
    have HLA : Hid (acc.length + 1 ≤ 1048576):=by have:=HAL.out;show _ ≤ _;omega
    clear hx hy hC hg1 hg2 hia hkb
    go_upto_region 4 with fail
    go_cut [9,10] from 32 to 41 (fun xv yv wx => ∃ X Y,xv = .pointer (some ⟨X,0,none⟩) ∧ yv = .pointer (some ⟨Y,0,none⟩) ∧ Hid (wx.heap[X]? = some (.cells #[.string xi,.int .i64 xk,.string xb] 39 (0,0))) ∧ Hid (wx.heap[Y]? = some (.cells #[.string yi,.int .i64 yk,.string yb] 39 (0,0))) ∧ Hid (Below wa.heap.size wa wx))
    case first =>
     have G1 : Hid (∀ w',Below wa.heap.size wa w' → Below wa.heap.size wa w' ∧ w'.cell? ⟨I,0,none⟩ = some (.slice (some ⟨g1,o1,none⟩) n c) ∧ w'.cell? ⟨O,0,none⟩ = some (.slice (some ⟨g2,o2,none⟩) m d) ∧ w'.cell? ⟨g1,o1 + i * 3,none⟩ = some (.string xi) ∧ w'.cell? ⟨g1,o1 + i * 3 + 1,none⟩ = some (.int .i64 xk) ∧ w'.cell? ⟨g1,o1 + i * 3 + 2,none⟩ = some (.string xb) ∧ w'.cell? ⟨g2,o2 + k * 3,none⟩ = some (.string yi) ∧ w'.cell? ⟨g2,o2 + k * 3 + 1,none⟩ = some (.int .i64 yk) ∧ w'.cell? ⟨g2,o2 + k * 3 + 2,none⟩ = some (.string yb)):=fun w' h => ⟨h,cell_bel c0 h,cell_bel d0 h,cell_bel a0 h,cell_bel a1 h,cell_bel a2 h,cell_bel b0 h,cell_bel b1 h,cell_bel b2 h⟩
     clear c0 d0 a0 a1 a2 b0 b1 b2
     go_region_held3 (fun w' => Below wa.heap.size wa w' ∧ w'.cell? ⟨I,0,none⟩ = some (.slice (some ⟨g1,o1,none⟩) n c) ∧ w'.cell? ⟨O,0,none⟩ = some (.slice (some ⟨g2,o2,none⟩) m d) ∧ w'.cell? ⟨g1,o1 + i * 3,none⟩ = some (.string xi) ∧ w'.cell? ⟨g1,o1 + i * 3 + 1,none⟩ = some (.int .i64 xk) ∧ w'.cell? ⟨g1,o1 + i * 3 + 2,none⟩ = some (.string xb) ∧ w'.cell? ⟨g2,o2 + k * 3,none⟩ = some (.string yi) ∧ w'.cell? ⟨g2,o2 + k * 3 + 1,none⟩ = some (.int .i64 yk) ∧ w'.cell? ⟨g2,o2 + k * 3 + 2,none⟩ = some (.string yb))
      (first
       | exact G1.out _ (Below.refl _ _).drew
       | exact keepG_new G1.out (by assumption)
       | exact G1.out _ (below_new (below_new (Below.refl _ _) _) _)
       | exact G1.out _ (below_new (below_new (Below.refl _ _).drew _) _)
       | exact G1.out _ (below_new (below_new (Below.refl _ _) _) _).drew
       | exact G1.out _ (below_new (Below.refl _ _) _)
       | exact G1.out _ (below_new (Below.refl _ _) _).drew
       | exact keepG_set3 G1.out (by assumption) (by first | omega | (simp;done) | (simp;omega))) (fail)
     all_goals go_wp2_with fail
     all_goals go_meet
     all_goals first
      | exact ⟨_,_,rfl,rfl,(two_new wa _ _).1,(two_new wa _ _).2,(below_new (below_new (Below.refl _ _) _) _).drew⟩
      | exact ⟨_,_,rfl,rfl,(two_new wa _ _).2,(two_new wa _ _).1,(below_new (below_new (Below.refl _ _) _) _).drew⟩
      | exact ⟨_,_,rfl,rfl,(two_new wa _ _).1,(two_new wa _ _).2,below_new (below_new (Below.refl _ _) _) _⟩
      | exact ⟨_,_,rfl,rfl,(two_new wa _ _).2,(two_new wa _ _).1,below_new (below_new (Below.refl _ _) _) _⟩
      | exact ⟨_,_,rfl,rfl,(two_new wa.drew _ _).1,(two_new wa.drew _ _).2,below_new (below_new (Below.refl _ _).drew _) _⟩
      | exact ⟨_,_,rfl,rfl,(two_new wa.drew _ _).2,(two_new wa.drew _ _).1,below_new (below_new (Below.refl _ _).drew _) _⟩
    case rest =>
    obtain ⟨X,Y,rfl,rfl,HX,HY,HBC⟩:=hcut
    rename World => wc
    obtain ⟨u0,u1,u2⟩:=it_at HX.out
    obtain ⟨v0,v1,v2⟩:=it_at HY.out
    have HO5:=Lib.hid (HO.out.below HBC.out)
    have HB5:=Lib.hid (HB.out.trans (HBC.out.mono HB.out.size))
    have HBS : Hid (L ≤ wc.heap.size):=by show L ≤ _;rw [HL.out];exact HB5.out.size
    clear c0 d0 a0 a1 a2 b0 b1 b2 HO HB HBC
    by_cases h1 : ltB xi yi = true
    ·have hC1 : C < 0:=by
      rw [HCC.out]
      refine (cmp_neg _ _).mpr ?_
      rw [← ByteArray.toList_eq,← ByteArray.toList_eq]
      exact h1
     have HRN:=Lib.hid (HLT.out h1)
     clear h1
     go_wp2_with (first
      | (go_at_call 57;((with_reducible refine (HCM.out _).mono ?_);rintro e w6 ⟨rfl,rfl⟩))
      | (at_builtin;refine wp_it_one rfl _ _ rfl rfl HO5.out xi xk xb rfl HLA.out HBS.out ?_;intro v7 w7 h7 g7;have HO7:=Lib.hid h7;have HB7:=Lib.hid (HO5.out.bel1 HB5.out HLL.out HB5.out.size g7);clear h7 g7))
     go_roundw
     case rel => exact ⟨acc ++ [It.mk xi xk xb],i + 1,k,by omega,hk,by go_num,rfl,HO7.out,by have:=HAL.out;show _ ≤ _;simp;omega,HRN.out,HB7.out⟩
     case measure => simp [intOf];omega
    ·by_cases h2 : ltB yi xi = true
     ·have hC1 : ¬ C < 0:=by
       have : 0 < C:=by
        rw [HCC.out]
        refine cmp_pos ?_
        rw [← ByteArray.toList_eq,← ByteArray.toList_eq]
        exact h2
       omega
      have hC2 : 0 < C:=by
       rw [HCC.out]
       refine cmp_pos ?_
       rw [← ByteArray.toList_eq,← ByteArray.toList_eq]
       exact h2
      have HRN:=Lib.hid (HGT.out h2)
      clear h1 h2
      go_wp2_with (first
       | (go_at_call 57;((with_reducible refine (HCM.out _).mono ?_);rintro e w6 ⟨rfl,rfl⟩))
       | (at_builtin;refine wp_it_one rfl _ _ rfl rfl HO5.out yi yk yb rfl HLA.out HBS.out ?_;intro v7 w7 h7 g7;have HO7:=Lib.hid h7;have HB7:=Lib.hid (HO5.out.bel1 HB5.out HLL.out HB5.out.size g7);clear h7 g7))
      go_roundw
      case rel => exact ⟨acc ++ [It.mk yi yk yb],i,k + 1,hi,by omega,rfl,by go_num,HO7.out,by have:=HAL.out;show _ ≤ _;simp;omega,HRN.out,HB7.out⟩
      case measure => simp [intOf];omega
     ·have hxy : xi = yi:=by
       by_cases e : xi = yi
       ·exact e
       ·rcases ltB_total e with h | h
        ·exact absurd h h1
        ·exact absurd h h2
      obtain rfl : C = 0:=by rw [HCC.out];exact (cmp_zero _ _).mpr (by rw [hxy])
      obtain ⟨Sm,hSm⟩ : ∃ Sm,Sm = decide (xk = yk ∧ xb = yb):=⟨_,rfl⟩
      have HC1 : Hid (∀ z : BelW wc,Calls Tryz.prog 39 #[.agg #[.string xi,.int .i64 xk,.string xb]] z.w fun e w'' => e = .returned (.agg #[.int .i64 xk,.string xb]) ∧ ∃ y : BelW wc,w'' = y.w):=fun z => Calls.bel_class (content_any xi xk xb z.w)
      have HC2 : Hid (∀ z : BelW wc,Calls Tryz.prog 39 #[.agg #[.string yi,.int .i64 yk,.string yb]] z.w fun e w'' => e = .returned (.agg #[.int .i64 yk,.string yb]) ∧ ∃ y : BelW wc,w'' = y.w):=fun z => Calls.bel_class (content_any yi yk yb z.w)
      have HC3 : Hid (∀ z : BelW wc,Calls Tryz.prog 44 #[.agg #[.int .i64 xk,.string xb],.agg #[.int .i64 yk,.string yb]] z.w fun e w'' => e = .returned (.bool Sm) ∧ ∃ y : BelW wc,w'' = y.w):=fun z => Calls.bel_class (obsame_any xk yk xb yb Sm z.w hSm)
      have k0 : ∀ z : BelW wc,z.w.cell? ⟨X,0,none⟩ = some (.string xi):=fun z => cell_bel u0 z.h
      have k1 : ∀ z : BelW wc,z.w.cell? ⟨X,1,none⟩ = some (.int .i64 xk):=fun z => cell_bel u1 z.h
      have k2 : ∀ z : BelW wc,z.w.cell? ⟨X,2,none⟩ = some (.string xb):=fun z => cell_bel u2 z.h
      have k3 : ∀ z : BelW wc,z.w.cell? ⟨Y,0,none⟩ = some (.string yi):=fun z => cell_bel v0 z.h
      have k4 : ∀ z : BelW wc,z.w.cell? ⟨Y,1,none⟩ = some (.int .i64 yk):=fun z => cell_bel v1 z.h
      have k5 : ∀ z : BelW wc,z.w.cell? ⟨Y,2,none⟩ = some (.string yb):=fun z => cell_bel v2 z.h
      have hqn : Nonempty (BelW wc):=⟨⟨wc,Below.refl _ _⟩⟩
      have HSM:=Lib.hid hSm
      have HXY:=Lib.hid hxy
      clear h1 h2 hSm hxy HCC
      go_upto_region 13 with (go_at_call 57;((with_reducible refine (HCM.out _).mono ?_);rintro e w6 ⟨rfl,rfl⟩))
      clear u0 u1 u2 v0 v1 v2
      refine wp_region_bel (w0:=wc) (Below.refl _ _) (by kernel_rfl) (by kernel_rfl) ?_
      repeat (go_big_quiet_step (first
       | (go_at_call 39;(with_reducible first | exact HC1.out _ | exact HC2.out _))
       | (go_at_call 44;(with_reducible exact HC3.out _))))
      refine wpQuiet_nil ?_
      rintro _ ⟨zz,rfl⟩
      have hz:=zz.h
      have HO6:=Lib.hid (HO5.out.below hz)
      have HB6:=Lib.hid (HB5.out.trans (hz.mono HB5.out.size))
      have HX6:=Lib.hid ((hz.block _ (row_lt HX.out)).trans HX.out)
      have HBS6 : Hid (L ≤ zz.w.heap.size):=Nat.le_trans HBS.out hz.size
      obtain ⟨w6,hw6⟩ : ∃ w6,w6 = zz.w:=⟨_,rfl⟩
      rw [← hw6] at HO6 HB6 HX6 HBS6 ⊢
      clear k0 k1 k2 k3 k4 k5 hqn HC1 HC2 HC3 hz hw6 zz HO5 HB5 HX HY HBS
      rcases Sm with _ | _
      ·have HRN : Hid (R = none):=HNE.out HXY.out fun e => by
        have h:=HSM.out
        simp only [It.mk.injEq] at e
        rw [decide_eq_true ⟨e.2.1,e.2.2⟩] at h
        cases h
       have HEN : Hid (E = 170):=by show E = _;rw [HE.out,HRN.out];rfl
       have HUN : Hid (U = []):=by show U = _;rw [HLI.out,HRN.out];rfl
       have H6:=Lib.hid ((HB6.out.block _ (row_lt H3.out)).trans H3.out)
       obtain ⟨o0,f0⟩:=st_at H6.out
       obtain ⟨r0,-⟩:=st_at (st_set (v:=.slice none 0 0) H6.out)
       go_wp2_with fail
       refine bodyPost_ret (v:=.tuple #[.agg #[.slice none 0 0],.int .i64 170]) (by simp [results,Tryz.results25,go_sem,r0]) rfl ⟨_,by rw [HEN.out];rfl,?_,(HBX.out.trans (HB6.out.mono HBX.out.size)).setCell (p:=⟨P,0,none⟩) HPL.out _⟩
       rw [HUN.out]
       exact ItOw.nil _ _
      ·have HRN : Hid (R = (mrgI (a.drop (i + 1)) (b.drop (k + 1))).map ((acc ++ [⟨xi,xk,xb⟩]) ++ ·)):=HEQ.out (by
        have h:=of_decide_eq_true HSM.out.symm
        rw [HXY.out,h.1,h.2])
       obtain ⟨u0,u1,u2⟩:=it_at HX6.out
       go_wp2_with (at_builtin;refine wp_it_one rfl _ _ rfl rfl HO6.out xi xk xb rfl HLA.out HBS6.out ?_;intro v7 w7 h7 g7;have HO7:=Lib.hid h7;have HB7:=Lib.hid (HO6.out.bel1 HB6.out HLL.out HB6.out.size g7);clear h7 g7)
       go_roundw
       case rel => exact ⟨acc ++ [It.mk xi xk xb],i + 1,k + 1,by omega,by omega,by go_num,by go_num,HO7.out,by have:=HAL.out;show _ ≤ _;simp;omega,HRN.out,HB7.out⟩
       case measure => simp [intOf];omega
   ·have q2 : ¬ (k : Int) < (m : Int):=by omega
    have HRE : Hid (R = some (acc ++ a.drop i ++ b.drop k)):=by show R = _;rw [HRR.out];exact mrg_end (.inr (by have:=HM.out;omega))
    have HBS : Hid (L ≤ wa.heap.size):=by show L ≤ _;rw [HL.out];exact HB.out.size
    have HLA : Hid (acc.length + (n - i) ≤ 1048576):=by have:=HAL.out;show _ ≤ _;omega
    have HLA2 : Hid ((acc ++ a.drop i).length + (m - k) ≤ 1048576):=by have:=HAL.out;have:=HN.out;show _ ≤ _;simp;omega
    have HAL2 : Hid ((acc ++ a.drop i ++ b.drop k).length ≤ 65536):=by have:=HAL.out;have:=HN.out;have:=HM.out;show _ ≤ _;simp;omega
    have HDA:=Lib.hid ((HP.out.below HB.out).dropTo i HN.out hnc hi)
    have HDB : Hid (∀ w',Below w3.heap.size w3 w' → ItRw w' (if d = k then q else q.map (·.add (k * 3))) (b.drop k)):=fun w' h => (HQ.out.below h).dropTo k HM.out hmd hk
    have HMA : Hid (n - i = (a.drop i).length):=by show _ = _;rw [List.length_drop,← HN.out]
    have HMB : Hid (m - k = (b.drop k).length):=by show _ = _;rw [List.length_drop,← HM.out]
    have hic : i ≤ c:=by omega
    have hkd : k ≤ d:=by omega
    have HAE : Hid (c = i → ∀ w' p',ItRw w' p' (a.drop i) ∧ 0 = (a.drop i).length):=fun h w' p' => by
     rw [List.drop_eq_nil_of_le (by have:=HN.out;omega)]
     exact ⟨ItRw.nil _ _,rfl⟩
    have HBE : Hid (d = k → ∀ w' p',ItRw w' p' (b.drop k) ∧ 0 = (b.drop k).length):=fun h w' p' => by
     rw [List.drop_eq_nil_of_le (by have:=HM.out;omega)]
     exact ⟨ItRw.nil _ _,rfl⟩
    go_upto_region 17 with fail
    go_cut [6] from 80 to 85 (fun v wx => Hid (ItOw wx L v (acc ++ a.drop i)) ∧ Hid (Below w3.heap.size w3 wx))
    case first =>
     rcases p with _ | ad
     ·obtain rfl : c = 0:=HPC.out rfl
      exact absurd hin (by omega)
     ·by_cases hci : c = i
      ·exact absurd hin (by omega)
      ·rw [if_neg hci,Option.map_some] at HDA
       have hci2 : ¬ (c : Int) = (i : Int):=by omega
       go_wp2_with (at_builtin;refine wp_it_rw rfl _ _ rfl rfl HO.out _ (n - i) _ (a.drop i) HMA.out rfl HDA.out HLA.out HBS.out ?_;intro v7 w7 h7 g7;have HO7:=Lib.hid h7;have HB7:=Lib.hid (app_step0 HB.out HO.out g7 HLL.out HB.out.size);clear h7 g7)
       go_meet
       exact ⟨HO7.out,HB7.out⟩
    case rest =>
    obtain ⟨HO7,HB7⟩:=hcut
    rename World => w7
    have e0:=cell_bel y0 HB7.out
    have HBS7 : Hid (L ≤ w7.heap.size):=by show L ≤ _;rw [HL.out];exact HB7.out.size
    clear c0 d0 HO HB HBS HDA HLA HAE
    go_upto_region 18 with fail
    go_cut [6] from 86 to 91 (fun v wx => Hid (ItOw wx L v (acc ++ a.drop i ++ b.drop k)) ∧ Hid (Below w3.heap.size w3 wx))
    case first =>
     rcases q with _ | ad
     ·have hd0 : d = 0:=HQD.out rfl
      have hm0 : m = 0:=by omega
      have hk0 : k = 0:=by omega
      have HBB:=Lib.hid (HBE.out (by omega))
      clear q2
      subst hd0 hm0 hk0
      go_wp2_with (at_builtin;refine wp_it_rw rfl _ _ rfl rfl HO7.out _ 0 _ (b.drop 0) (HBB.out w7 none).2 rfl (HBB.out w7 _).1 (by have:=HLA2.out;omega) HBS7.out ?_;intro v8 w8 h8 g8;have HO8:=Lib.hid h8;have HB8:=Lib.hid (app_step0 HB7.out HO7.out g8 HLL.out HB7.out.size);clear h8 g8)
      go_meet
      exact ⟨HO8.out,HB8.out⟩
     ·by_cases hdk : d = k
      ·have HA:=Lib.hid (HBE.out hdk)
       obtain rfl : k = d:=hdk.symm
       go_wp2_with (at_builtin;refine wp_it_rw rfl _ _ rfl rfl HO7.out _ 0 _ (b.drop k) (HA.out w7 none).2 rfl (HA.out w7 _).1 (by have:=HLA2.out;omega) HBS7.out ?_;intro v8 w8 h8 g8;have HO8:=Lib.hid h8;have HB8:=Lib.hid (app_step0 HB7.out HO7.out g8 HLL.out HB7.out.size);clear h8 g8)
       go_meet
       exact ⟨HO8.out,HB8.out⟩
      ·have HDC:=Lib.hid (HDB.out w7 HB7.out)
       rw [if_neg hdk,Option.map_some] at HDC
       have hdk2 : ¬ (d : Int) = (k : Int):=by omega
       go_wp2_with (at_builtin;refine wp_it_rw rfl _ _ rfl rfl HO7.out _ (m - k) _ (b.drop k) HMB.out rfl HDC.out HLA2.out HBS7.out ?_;intro v8 w8 h8 g8;have HO8:=Lib.hid h8;have HB8:=Lib.hid (app_step0 HB7.out HO7.out g8 HLL.out HB7.out.size);clear h8 g8)
       go_meet
       exact ⟨HO8.out,HB8.out⟩
    case rest =>
    obtain ⟨HO8,HB8⟩:=hcut
    rename World => w8
    have HEN : Hid (E = 0):=by show E = _;rw [HE.out,HRE.out];simp
    have HUN : Hid (U = acc ++ a.drop i ++ b.drop k):=by show U = _;rw [HLI.out,HRE.out];rfl
    obtain ⟨Z,hZ⟩ : ∃ Z,Z = acc ++ a.drop i ++ b.drop k:=⟨_,rfl⟩
    rw [← hZ] at HO8 HUN HAL2
    clear hZ
    obtain ⟨pv,cv,rfl,-,-⟩:=HO8.out.rw
    have hap:=HO8.out.apart (b:=P) HPLT.out
    have HAP:=Lib.hid hap
    obtain ⟨z,hz⟩ : ∃ z,z = Z.length:=⟨_,rfl⟩
    rw [← hz] at HO8 HAP HAL2 ⊢
    have g9 : ¬ (65536 : Int) < (z : Int):=by have:=HAL2.out;omega
    have H6:=Lib.hid ((HB8.out.block _ (row_lt H3.out)).trans H3.out)
    obtain ⟨o0,f0⟩:=st_at H6.out
    obtain ⟨r0,-⟩:=st_at (st_set (v:=.slice pv z cv) H6.out)
    clear hap hz e0
    go_wp2_with fail
    refine bodyPost_ret (v:=.tuple #[.agg #[.slice pv z cv],.int .i64 0]) (by simp [results,Tryz.results25,go_sem,r0]) rfl ⟨_,by rw [HEN.out];rfl,?_,(HBX.out.trans (HB8.out.mono HBX.out.size)).setCell (p:=⟨P,0,none⟩) HPL.out _⟩
    rw [HUN.out]
    exact (HO8.out.mono HLB.out).put (x:=.slice pv z cv) HAP.out
  ·have q1 : ¬ (i : Int) < (n : Int):=by omega
   have HRE : Hid (R = some (acc ++ a.drop i ++ b.drop k)):=by show R = _;rw [HRR.out];exact mrg_end (.inl (by have:=HN.out;omega))
   have HBS : Hid (L ≤ wa.heap.size):=by show L ≤ _;rw [HL.out];exact HB.out.size
   have HLA : Hid (acc.length + (n - i) ≤ 1048576):=by have:=HAL.out;show _ ≤ _;omega
   have HLA2 : Hid ((acc ++ a.drop i).length + (m - k) ≤ 1048576):=by have:=HAL.out;have:=HN.out;show _ ≤ _;simp;omega
   have HAL2 : Hid ((acc ++ a.drop i ++ b.drop k).length ≤ 65536):=by have:=HAL.out;have:=HN.out;have:=HM.out;show _ ≤ _;simp;omega
   have HDA:=Lib.hid ((HP.out.below HB.out).dropTo i HN.out hnc hi)
   have HDB : Hid (∀ w',Below w3.heap.size w3 w' → ItRw w' (if d = k then q else q.map (·.add (k * 3))) (b.drop k)):=fun w' h => (HQ.out.below h).dropTo k HM.out hmd hk
   have HMA : Hid (n - i = (a.drop i).length):=by show _ = _;rw [List.length_drop,← HN.out]
   have HMB : Hid (m - k = (b.drop k).length):=by show _ = _;rw [List.length_drop,← HM.out]
   have hic : i ≤ c:=by omega
   have hkd : k ≤ d:=by omega
   have HAE : Hid (c = i → ∀ w' p',ItRw w' p' (a.drop i) ∧ 0 = (a.drop i).length):=fun h w' p' => by
    rw [List.drop_eq_nil_of_le (by have:=HN.out;omega)]
    exact ⟨ItRw.nil _ _,rfl⟩
   have HBE : Hid (d = k → ∀ w' p',ItRw w' p' (b.drop k) ∧ 0 = (b.drop k).length):=fun h w' p' => by
    rw [List.drop_eq_nil_of_le (by have:=HM.out;omega)]
    exact ⟨ItRw.nil _ _,rfl⟩
   go_upto_region 17 with fail
   go_cut [6] from 80 to 85 (fun v wx => Hid (ItOw wx L v (acc ++ a.drop i)) ∧ Hid (Below w3.heap.size w3 wx))
   case first =>
    rcases p with _ | ad
    ·obtain rfl : c = 0:=HPC.out rfl
     obtain rfl : n = 0:=by omega
     obtain rfl : i = 0:=by omega
     go_wp2_with (at_builtin;refine wp_it_rw rfl _ _ rfl rfl HO.out _ 0 _ (a.drop 0) (HAE.out rfl wa none).2 rfl (HAE.out rfl wa _).1 (by have:=HLA.out;omega) HBS.out ?_;intro v7 w7 h7 g7;have HO7:=Lib.hid h7;have HB7:=Lib.hid (app_step0 HB.out HO.out g7 HLL.out HB.out.size);clear h7 g7)
     go_meet
     exact ⟨HO7.out,HB7.out⟩
    ·by_cases hci : c = i
     ·have HA:=Lib.hid (HAE.out hci)
      obtain rfl : i = c:=hci.symm
      go_wp2_with (at_builtin;refine wp_it_rw rfl _ _ rfl rfl HO.out _ 0 _ (a.drop i) (HA.out wa none).2 rfl (HA.out wa _).1 (by have:=HLA.out;omega) HBS.out ?_;intro v7 w7 h7 g7;have HO7:=Lib.hid h7;have HB7:=Lib.hid (app_step0 HB.out HO.out g7 HLL.out HB.out.size);clear h7 g7)
      go_meet
      exact ⟨HO7.out,HB7.out⟩
     ·rw [if_neg hci,Option.map_some] at HDA
      have hci2 : ¬ (c : Int) = (i : Int):=by omega
      go_wp2_with (at_builtin;refine wp_it_rw rfl _ _ rfl rfl HO.out _ (n - i) _ (a.drop i) HMA.out rfl HDA.out HLA.out HBS.out ?_;intro v7 w7 h7 g7;have HO7:=Lib.hid h7;have HB7:=Lib.hid (app_step0 HB.out HO.out g7 HLL.out HB.out.size);clear h7 g7)
      go_meet
      exact ⟨HO7.out,HB7.out⟩
   case rest =>
   obtain ⟨HO7,HB7⟩:=hcut
   rename World => w7
   have e0:=cell_bel y0 HB7.out
   have HBS7 : Hid (L ≤ w7.heap.size):=by show L ≤ _;rw [HL.out];exact HB7.out.size
   clear c0 d0 HO HB HBS HDA HLA HAE
   go_upto_region 18 with fail
   go_cut [6] from 86 to 91 (fun v wx => Hid (ItOw wx L v (acc ++ a.drop i ++ b.drop k)) ∧ Hid (Below w3.heap.size w3 wx))
   case first =>
    rcases q with _ | ad
    ·have hd0 : d = 0:=HQD.out rfl
     have hm0 : m = 0:=by omega
     have hk0 : k = 0:=by omega
     have HBB:=Lib.hid (HBE.out (by omega))
     skip
     subst hd0 hm0 hk0
     go_wp2_with (at_builtin;refine wp_it_rw rfl _ _ rfl rfl HO7.out _ 0 _ (b.drop 0) (HBB.out w7 none).2 rfl (HBB.out w7 _).1 (by have:=HLA2.out;omega) HBS7.out ?_;intro v8 w8 h8 g8;have HO8:=Lib.hid h8;have HB8:=Lib.hid (app_step0 HB7.out HO7.out g8 HLL.out HB7.out.size);clear h8 g8)
     go_meet
     exact ⟨HO8.out,HB8.out⟩
    ·by_cases hdk : d = k
     ·have HA:=Lib.hid (HBE.out hdk)
      obtain rfl : k = d:=hdk.symm
      go_wp2_with (at_builtin;refine wp_it_rw rfl _ _ rfl rfl HO7.out _ 0 _ (b.drop k) (HA.out w7 none).2 rfl (HA.out w7 _).1 (by have:=HLA2.out;omega) HBS7.out ?_;intro v8 w8 h8 g8;have HO8:=Lib.hid h8;have HB8:=Lib.hid (app_step0 HB7.out HO7.out g8 HLL.out HB7.out.size);clear h8 g8)
      go_meet
      exact ⟨HO8.out,HB8.out⟩
     ·have HDC:=Lib.hid (HDB.out w7 HB7.out)
      rw [if_neg hdk,Option.map_some] at HDC
      have hdk2 : ¬ (d : Int) = (k : Int):=by omega
      go_wp2_with (at_builtin;refine wp_it_rw rfl _ _ rfl rfl HO7.out _ (m - k) _ (b.drop k) HMB.out rfl HDC.out HLA2.out HBS7.out ?_;intro v8 w8 h8 g8;have HO8:=Lib.hid h8;have HB8:=Lib.hid (app_step0 HB7.out HO7.out g8 HLL.out HB7.out.size);clear h8 g8)
      go_meet
      exact ⟨HO8.out,HB8.out⟩
   case rest =>
   obtain ⟨HO8,HB8⟩:=hcut
   rename World => w8
   have HEN : Hid (E = 0):=by show E = _;rw [HE.out,HRE.out];simp
   have HUN : Hid (U = acc ++ a.drop i ++ b.drop k):=by show U = _;rw [HLI.out,HRE.out];rfl
   obtain ⟨Z,hZ⟩ : ∃ Z,Z = acc ++ a.drop i ++ b.drop k:=⟨_,rfl⟩
   rw [← hZ] at HO8 HUN HAL2
   clear hZ
   obtain ⟨pv,cv,rfl,-,-⟩:=HO8.out.rw
   have hap:=HO8.out.apart (b:=P) HPLT.out
   have HAP:=Lib.hid hap
   obtain ⟨z,hz⟩ : ∃ z,z = Z.length:=⟨_,rfl⟩
   rw [← hz] at HO8 HAP HAL2 ⊢
   have g9 : ¬ (65536 : Int) < (z : Int):=by have:=HAL2.out;omega
   have H6:=Lib.hid ((HB8.out.block _ (row_lt H3.out)).trans H3.out)
   obtain ⟨o0,f0⟩:=st_at H6.out
   obtain ⟨r0,-⟩:=st_at (st_set (v:=.slice pv z cv) H6.out)
   clear hap hz e0
   go_wp2_with fail
   refine bodyPost_ret (v:=.tuple #[.agg #[.slice pv z cv],.int .i64 0]) (by simp [results,Tryz.results25,go_sem,r0]) rfl ⟨_,by rw [HEN.out];rfl,?_,(HBX.out.trans (HB8.out.mono HBX.out.size)).setCell (p:=⟨P,0,none⟩) HPL.out _⟩
   rw [HUN.out]
   exact (HO8.out.mono HLB.out).put (x:=.slice pv z cv) HAP.out
end Go.Proofs.YtpkgiojicbdcfaaGreatDoor
