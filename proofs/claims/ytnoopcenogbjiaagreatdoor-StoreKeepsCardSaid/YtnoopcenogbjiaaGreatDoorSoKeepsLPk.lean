/-
 The walk of the law StoreKeeps.
-/
import Derived.Test.YtnoopcenogbjiaaGreatDoorSoLivesPk
import Derived.Test.YtnoopcenogbjiaaGreatDoorSoRingPk
import Derived.Test.YtnoopcenogbjiaaGreatDoorSoItRwPk
import Derived.Test.YtnoopcenogbjiaaGreatDoorSoReachPk
import Derived.Test.YtnoopcenogbjiaaGreatDoorSoLkoPk
import Derived.Test.YtnoopcenogbjiaaGreatDoorSoRowsPk
set_option linter.unusedVariables false
set_option linter.unusedSimpArgs false
namespace Go.Proofs.YtnoopcenogbjiaaGreatDoor
open Go Go.RowKit Go.Maps Go.WideMaps
def ObRw (w : World) (p : Option Addr) (es : List Ob) : Prop:=∀ k (h : k < es.length),∃ g o,p = some ⟨g,o,none⟩ ∧ g < w.heap.size ∧ w.cell? ⟨g,o + k * 2,none⟩ = some (.int .i64 es[k].k) ∧ w.cell? ⟨g,o + k * 2 + 1,none⟩ = some (.string es[k].b)
theorem ObRw.below {w w' : World} {p : Option Addr} {es : List Ob} (h : ObRw w p es) (hb : Below w.heap.size w w') : ObRw w' p es:=fun k hk => by
 obtain ⟨g,o,rfl,hg,h0,h1⟩:=h k hk
 exact ⟨g,o,rfl,Nat.lt_of_lt_of_le hg hb.size,(hb.cell (p:=⟨g,_,none⟩) hg).trans h0,(hb.cell (p:=⟨g,_,none⟩) hg).trans h1⟩
structure KS (W wr : World) (I F : Nat) (p : Option Addr) (n c : Nat) (first s : List It) (ps : Option Addr) (ns cs : Nat) (l : List Ob) (k : Nat) : Prop where
 i : wr.heap[I]? = some (.cells #[.slice ps ns cs] 24 (0,0))
 f : wr.heap[F]? = some (.cells #[.slice p n c] 24 (0,0))
 n : ns = s.length
 nc : ns ≤ cs
 pc : ps = none → cs = 0
 r : ItRw wr ps s
 k : KeepI first s l k
 b : Below W.heap.size W wr
 hI : W.heap.size ≤ I
 hF : I ≠ F
theorem KS.below {W wr w' : World} {I F : Nat} {p : Option Addr} {n c : Nat} {first s : List It} {ps : Option Addr} {ns cs : Nat} {l : List Ob} {k : Nat} (h : KS W wr I F p n c first s ps ns cs l k) (hb : Below wr.heap.size wr w') : KS W w' I F p n c first s ps ns cs l k :=
 ⟨(hb.block _ (row_lt h.i)).trans h.i,(hb.block _ (row_lt h.f)).trans h.f,h.n,h.nc,h.pc,h.r.below hb,h.k,h.b.trans (hb.mono h.b.size),h.hI,h.hF⟩
theorem KS.put {W wr : World} {I F : Nat} {p : Option Addr} {n c : Nat} {first s s' : List It} {ps ps' : Option Addr} {ns cs ns' cs' : Nat} {l : List Ob} {k k' : Nat} (h : KS W wr I F p n c first s ps ns cs l k) (hn : ns' = s'.length) (hc : ns' ≤ cs') (hp : ps' = none → cs' = 0) (hr : ItRw wr ps' s') (hk : KeepI first s' l k') :
  KS W (wr.setCell ⟨I,0,none⟩ (.slice ps' ns' cs')) I F p n c first s' ps' ns' cs' l k' :=
 ⟨st_set h.i,(Below.heap_setCell wr ⟨I,0,none⟩ _ F (Ne.symm h.hF)).trans h.f,hn,hc,hp,hr.apart (st_row h.i),hk,h.b.setCell (p:=⟨I,0,none⟩) h.hI _,h.hI,h.hF⟩
theorem KS.step {W wr : World} {I F : Nat} {p : Option Addr} {n c : Nat} {first s : List It} {ps : Option Addr} {ns cs : Nat} {l : List Ob} {k k' : Nat} (h : KS W wr I F p n c first s ps ns cs l k) (hk : KeepI first s l k') : KS W wr I F p n c first s ps ns cs l k':=⟨h.i,h.f,h.n,h.nc,h.pc,h.r,hk,h.b,h.hI,h.hF⟩
theorem keepK {w0 wa wb : World} {a1 a2 : Nat} {x : Value} (hb : Below wa.heap.size wa wb) (h : Below w0.heap.size w0 wa ∧ wa.cell? ⟨a1,a2,none⟩ = some x) : Below w0.heap.size w0 wb ∧ wb.cell? ⟨a1,a2,none⟩ = some x :=
 ⟨h.1.trans (hb.mono h.1.size),cell_bel h.2 hb⟩
set_option maxHeartbeats 16000000 in
set_option maxRecDepth 8000 in
theorem storeKeeps_walk (a : List It) (l : List Ob) (p q : Option Addr) (n c m d : Nat) (W : World) (hT : StrTab W) (hO : WoTab W) (hTr : TrTab W) (hK : KTab W) (hn : n = a.length) (hm : m = l.length) (hnc : n ≤ c) (hpc : p = none → c = 0) (hr : ItRw W p a) (hq : ObRw W q l)
  (hs : ∀ x ∈ a,x.b.size ≤ 140737488355328) (hn2 : n ≤ 140737488355328) (hm2 : m ≤ 140737488355328) :
  Calls Tryz.prog 4 #[.agg #[.slice p n c],.slice q m d] W fun e W' => e = .returned (.bool true) ∧ Below W.heap.size W W':=by
 obtain ⟨w1,hw1⟩ : ∃ w1,w1 = W.alloc (.cells #[.slice p n c] 24):=⟨_,rfl⟩
 obtain ⟨I,hI⟩ : ∃ I,I = W.heap.size:=⟨_,rfl⟩
 have hx : w1.heap[I]? = some (.cells #[.slice p n c] 24 (0,0)):=by rw [hw1,hI];exact heap_alloc_new W _
 have hbx : Below W.heap.size W w1:=by rw [hw1];exact below_new (Below.refl _ _) _
 have HTT : Hid (∀ w',Below W.heap.size W w' → StrTab w' ∧ WoTab w' ∧ TrTab w' ∧ KTab w'):=fun w' h => ⟨hT.below h,hO.below h,hTr.below h,hK.below h⟩
 have HLV : Hid (∀ w',Below W.heap.size W w' → Calls Tryz.prog 8 #[] w' fun e w'' => e = .returned (.bool true) ∧ Below w'.heap.size w' w''):=fun w' h => lives_any w' (HTT.out w' h).1 (HTT.out w' h).2.1 (HTT.out w' h).2.2.1 (HTT.out w' h).2.2.2
 have HSM:=Lib.hid (small_any a p n c w1 hn (hr.below hbx) hs hn2)
 have x0:=(st_at hx).1
 have HN:=Lib.hid hn
 have HM:=Lib.hid hm
 have HR:=Lib.hid hr
 have HQ:=Lib.hid hq
 have HPC:=Lib.hid hpc
 have HBX:=Lib.hid hbx
 have HW1:=Lib.hid hw1
 have HI:=Lib.hid hI
 have HX:=Lib.hid hx
 clear hT hO hTr hK hn hm hr hq hs hpc hbx hw1 hI hx hn2
 go_enter Tryz.func4,Tryz.ntmps4
 go_upto_region 1 with fail
 rw [← HW1.out,← HI.out]
 go_cut [26] from 19 to 26 (fun v wx => (∃ b,v = .bool b ∧ Hid (b = false → SmI a ∧ m ≤ 20)) ∧ Hid (Below w1.heap.size w1 wx))
 case first =>
  by_cases k1 : 20 < m
  ·have g1 : (20 : Int) < (m : Int):=by omega
   clear k1
   go_wp2_with (go_at_call 11;((with_reducible refine HSM.out.mono ?_);rintro e w2 ⟨⟨b,rfl,hb⟩,hb2⟩;have HB:=Lib.hid hb;clear hb;rcases b with _ | _))
   all_goals go_meet
   all_goals exact ⟨⟨_,rfl,fun h => by cases h⟩,hb2⟩
  ·have g1 : ¬ (20 : Int) < (m : Int):=by omega
   have HM4 : Hid (m ≤ 20):=by show m ≤ 20;omega
   clear k1
   go_wp2_with (go_at_call 11;((with_reducible refine HSM.out.mono ?_);rintro e w2 ⟨⟨b,rfl,hb⟩,hb2⟩;have HB:=Lib.hid hb;clear hb;rcases b with _ | _))
   ·go_meet
    exact ⟨⟨_,rfl,fun h => by cases h⟩,hb2⟩
   ·go_meet
    exact ⟨⟨_,rfl,fun _ => ⟨HB.out (by first | rfl | trivial),HM4.out⟩⟩,hb2⟩
 case rest =>
  obtain ⟨⟨b,rfl,HB⟩,HB1⟩:=hcut
  rename World => w2
  clear HSM
  have HB2:=Lib.hid (HBX.out.trans (HB1.out.mono HBX.out.size))
  rcases b with _ | _
  case true =>
   go_wp2_with (go_at_call 8;((with_reducible refine (HLV.out _ HB2.out).mono ?_);rintro e w3 ⟨rfl,hb3⟩))
   go_ret
   exact ⟨rfl,HB2.out.trans (hb3.mono HB2.out.size)⟩
  obtain ⟨hsm,hm4⟩:=HB.out rfl
  have HSI:=Lib.hid hsm
  have hn80 : n ≤ 80:=by rw [HN.out];exact hsm.2.1
  have hx2:=Lib.hid ((HB1.out.block _ (row_lt HX.out)).trans HX.out)
  clear hsm HB hm2 x0
  go_upto_region 5 with (go_at_call 8;((with_reducible refine (HLV.out _ HB2.out).mono ?_);rintro e w3 ⟨rfl,hb3⟩))
  have HX3:=Lib.hid ((hb3.block _ (row_lt hx2.out)).trans hx2.out)
  have HB3:=Lib.hid (HB2.out.trans (hb3.mono HB2.out.size))
  have x0:=(st_at HX3.out).1
  obtain ⟨w4,hw4⟩ : ∃ w4,w4 = w3.alloc (.cells #[.slice p n c] 24):=⟨_,rfl⟩
  obtain ⟨F,hF⟩ : ∃ F,F = w3.heap.size:=⟨_,rfl⟩
  have hbn : Below w3.heap.size w3 w4:=by rw [hw4];exact below_new (Below.refl _ _) _
  have HKS : Hid (KS W w4 I F p n c a a p n c l 0):=⟨(hbn.block _ (row_lt HX3.out)).trans HX3.out,by rw [hw4,hF];exact heap_alloc_new _ _,HN.out,hnc,HPC.out,HR.out.below (HB3.out.trans (hbn.mono HB3.out.size)),KeepI.start HSI.out l,HB3.out.trans (hbn.mono HB3.out.size),by rw [HI.out];exact Nat.le_refl _,by have:=row_lt HX3.out;omega⟩
  have HW4:=Lib.hid hw4
  have HF:=Lib.hid hF
  clear hw4 hF hbn hb3 hx2 HX HB1
  go_upto_region 6 with fail
  rw [← HW4.out,← HF.out]
  clear x0
  go_wp2_with fail
  go_loopw [6] (fun iv wr => ∃ (k : Nat) (s : List It) (ps : Option Addr) (ns cs : Nat),k ≤ m ∧ iv = .int .i64 (k : Int) ∧ Hid (KS W wr I F p n c a s ps ns cs l k)) (fun iv _ => m - (intOf iv).toNat)
  case atStart => exact ⟨0,a,p,n,c,by omega,rfl,HKS.out⟩
  case round =>
   clear HKS
   obtain ⟨k,s,ps,ns,cs,hk,rfl,HS⟩:=hrel
   rename World => wa
   have c0:=(st_at HS.out.i).1
   have hns : ns ≤ 100:=by have h1:=HS.out.n;have h2:=HS.out.k.len;omega
   by_cases hlt : k < m
   ·have hkl : k < l.length:=by rw [← HM.out];exact hlt
    have q1 : (k : Int) < (m : Int):=by omega
    obtain ⟨g,o,hqe,hg,a0,a1⟩:=HQ.out.below HS.out.b k hkl
    subst hqe
    obtain ⟨e,he⟩ : ∃ e,e = l[k]:=⟨_,rfl⟩
    have HKP : Hid (e.b.size ≤ 4000 → putC s e.k e.b = 0 → KeepI a (putI s e.k e.b) l (k + 1)):=fun hb h => by rw [he] at h hb ⊢;exact HS.out.k.put hkl (by omega) hb h
    have HKK : Hid (e.b.size ≤ 4000 → (lnkL e.k e.b.data.toList).1 ≠ 0 → KeepI a s l (k + 1)):=fun hb h => by rw [he] at h hb;exact HS.out.k.skip hkl hb h
    rw [← he] at a0 a1
    obtain ⟨ok,ob⟩:=e
    simp only at a0 a1 HKP HKK
    clear he hg hkl
    by_cases hbig : 4000 < ob.size
    ·have g1 : (4000 : Int) < (ob.size : Int):=by omega
     clear hbig
     go_wp2_with (go_at_call 8;((with_reducible refine (HLV.out _ HS.out.b).mono ?_);rintro e w5 ⟨rfl,hb5⟩))
     go_ret
     exact ⟨rfl,HS.out.b.trans (hb5.mono HS.out.b.size)⟩
    have g1 : ¬ (4000 : Int) < (ob.size : Int):=by omega
    obtain ⟨PI,hPI⟩ : ∃ PI,PI = putI s ok ob:=⟨_,rfl⟩
    obtain ⟨PC,hPC⟩ : ∃ PC,PC = putC s ok ob:=⟨_,rfl⟩
    obtain ⟨PS,hPS⟩ : ∃ PS,PS = putS s ok ob:=⟨_,rfl⟩
    obtain ⟨z,hz⟩ : ∃ z,z = PI.length:=⟨_,rfl⟩
    have HP1 : Hid (∀ w',Below wa.heap.size wa w' → Calls Tryz.prog 12 #[.agg #[.slice ps ns cs],.agg #[.int .i64 ok,.string ob]] w' fun e w'' => (∃ pt ct,e = .returned (.tuple #[.agg #[.slice pt z ct],.string PS,.int .i64 (PC : Int)]) ∧ z ≤ ct ∧ (pt = none → ct = 0) ∧ ItRw w'' pt PI) ∧ Below w'.heap.size w' w'' ∧ Below wa.heap.size wa w''):=fun w' h => by
     have hw:=HS.out.b.trans (h.mono HS.out.b.size)
     refine (sput_any s ok ob ps ns cs w' (HTT.out w' hw).1 (HTT.out w' hw).2.1 (HTT.out w' hw).2.2.1 (HTT.out w' hw).2.2.2 HS.out.n HS.out.nc HS.out.pc (HS.out.r.below h) (by omega) (by omega)).mono ?_
     rintro e w'' ⟨v,h1,h2,h3⟩
     rw [← hPS,← hPC] at h1
     rw [← hPI] at h2
     obtain ⟨pt,ct,rfl,h4,h5,h6⟩:=h2.rw2 hz
     exact ⟨⟨pt,ct,h1,h4,h5,h6⟩,h3,h.trans (h3.mono h.size)⟩
    have HP2 : Hid (∀ w0 w',Below wa.heap.size wa w0 → Below w0.heap.size w0 w' → Calls Tryz.prog 13 #[.agg #[.slice ps ns cs],.agg #[.int .i64 ok,.string ob]] w' fun e w'' => (∃ pt ct,e = .returned (.tuple #[.agg #[.slice pt z ct],.string PS,.int .i64 (PC : Int)]) ∧ z ≤ ct ∧ (pt = none → ct = 0) ∧ ItRw w'' pt PI) ∧ Below w'.heap.size w' w'' ∧ Below w0.heap.size w0 w''):=fun w0 w' h0 h => by
     refine (rsput_any s ok ob ps ns cs w' HS.out.n HS.out.nc HS.out.pc (HS.out.r.below (h0.trans (h.mono h0.size))) (by omega) (by omega)).mono ?_
     rintro e w'' ⟨⟨pt,m',ct,h1,h2,h4,h5,h6⟩,h3⟩
     rw [← hPS,← hPC] at h1
     rw [← hPI] at h2 h6
     obtain rfl : m' = z:=by rw [h2,hz]
     exact ⟨⟨pt,ct,h1,h4,h5,h6⟩,h3,h.trans (h3.mono h.size)⟩
    have HCC : Hid (PC = 0 ∨ PC = 170 ∨ PC ≠ 0 ∧ PC ≠ 170 ∧ (lnkL ok ob.data.toList).1 ≠ 0):=by
     rw [hPC]
     rcases putC_cases (l:=s) (k:=ok) (b:=ob) (by have h1:=HS.out.n;omega) with h | h | h
     ·exact .inl h.1
     ·exact .inr (.inl h.1)
     ·by_cases h3 : putC s ok ob = 170
      ·exact .inr (.inl h3)
      ·exact .inr (.inr ⟨by rw [h.1];exact h.2,h3,h.2⟩)
    have hob4 : ob.size ≤ 4000:=by omega
    have HKP2 : Hid (PC = 0 → KeepI a PI l (k + 1)):=by rw [hPC,hPI];exact HKP.out hob4
    have HKK2 : Hid ((lnkL ok ob.data.toList).1 ≠ 0 → KeepI a s l (k + 1)):=HKK.out hob4
    have HZB : Hid (z ≤ 200):=by
     show z ≤ 200
     rw [hz]
     by_cases h0 : PC = 0
     ·have:=(HKP2.out h0).len;omega
     ·rw [hPI,putI,if_neg (by rw [← hPC];exact h0)];simp
    have HZ:=Lib.hid hz
    clear hPI hPC hPS hz HKP HKK hob4 hbig
    go_upto_region 11 with fail
    go_cut [7,8,9] from 46 to 54 (fun tv iv ev wx => (∃ X pt ct,tv = .pointer (some ⟨X,0,none⟩) ∧ iv = .string PS ∧ ev = .int .i64 (PC : Int) ∧ Hid (wx.heap[X]? = some (.cells #[.slice pt z ct] 24 (0,0))) ∧ Hid (z ≤ ct ∧ (pt = none → ct = 0) ∧ ItRw wx pt PI)) ∧ Hid (Below wa.heap.size wa wx))
    case first =>
     have za:=fun ob => cell_bel a0 (below_new (Below.refl wa.heap.size wa) ob)
     have zb:=fun ob => cell_bel a1 (below_new (Below.refl wa.heap.size wa) ob)
     have zc:=fun ob => cell_bel c0 (below_new (Below.refl wa.heap.size wa) ob)
     have zd:=fun ob => cell_bel (w':=wa.drew.alloc ob) a0 (below_new (Below.refl wa.heap.size wa).drew ob)
     have ze:=fun ob => cell_bel (w':=wa.drew.alloc ob) a1 (below_new (Below.refl wa.heap.size wa).drew ob)
     have zf:=fun ob => cell_bel (w':=wa.drew.alloc ob) c0 (below_new (Below.refl wa.heap.size wa).drew ob)
     go_region_law (go_simp;go_at_call 12;((with_reducible refine (HP1.out _ (by first | exact Below.refl _ _ | exact (Below.refl _ _).drew | exact below_new (Below.refl _ _) _ | exact (below_new (Below.refl _ _) _).drew | exact below_new (Below.refl _ _).drew _)).mono ?_);rintro e w5 ⟨⟨pt,ct,rfl,ht1,ht2,ht3⟩,hb5,hd5⟩;first
      | (have hy:=(hb5.block _ (by simp)).trans (heap_alloc_new wa (.cells #[.slice none 0 0] 24));obtain ⟨o0,f0⟩:=st_at hy)
      | (have hy:=(hb5.block _ (by simp)).trans (heap_alloc_new wa.drew (.cells #[.slice none 0 0] 24));obtain ⟨o0,f0⟩:=st_at hy)
      | skip))
     all_goals go_wp2_with fail
     all_goals go_meet
     all_goals first
      | exact ⟨⟨_,_,_,rfl,rfl,rfl,heap_alloc_new _ _,ht1,ht2,ht3.below (below_new (Below.refl _ _) _)⟩,below_new hd5 _⟩
      | exact ⟨⟨_,_,_,rfl,rfl,rfl,st_set hy,ht1,ht2,ht3.apart (st_row hy)⟩,hd5.setCell (p:=⟨_,0,none⟩) (Nat.le_refl _) _⟩
    case rest =>
    obtain ⟨⟨X1,pt,ct,rfl,rfl,rfl,HX1,HT1⟩,HB5⟩:=hcut
    rename World => wb
    have HSB:=Lib.hid (HS.out.below HB5.out)
    replace a0:=cell_bel a0 HB5.out
    replace a1:=cell_bel a1 HB5.out
    replace c0:=cell_bel c0 HB5.out
    have HP3:=Lib.hid (fun w' (h : Below wb.heap.size wb w') => HP2.out wb w' HB5.out h)
    clear HP1 HP2 HS
    go_upto_region 12 with fail
    go_cut [10,11,12] from 56 to 64 (fun tv iv ev wx => (∃ X pt ct,tv = .pointer (some ⟨X,0,none⟩) ∧ iv = .string PS ∧ ev = .int .i64 (PC : Int) ∧ Hid (wx.heap[X]? = some (.cells #[.slice pt z ct] 24 (0,0))) ∧ Hid (z ≤ ct ∧ (pt = none → ct = 0) ∧ ItRw wx pt PI)) ∧ Hid (Below wb.heap.size wb wx))
    case first =>
     have za:=fun ob => cell_bel a0 (below_new (Below.refl wb.heap.size wb) ob)
     have zb:=fun ob => cell_bel a1 (below_new (Below.refl wb.heap.size wb) ob)
     have zc:=fun ob => cell_bel c0 (below_new (Below.refl wb.heap.size wb) ob)
     have zd:=fun ob => cell_bel (w':=wb.drew.alloc ob) a0 (below_new (Below.refl wb.heap.size wb).drew ob)
     have ze:=fun ob => cell_bel (w':=wb.drew.alloc ob) a1 (below_new (Below.refl wb.heap.size wb).drew ob)
     have zf:=fun ob => cell_bel (w':=wb.drew.alloc ob) c0 (below_new (Below.refl wb.heap.size wb).drew ob)
     go_region_law (go_simp;go_at_call 13;((with_reducible refine (HP3.out _ (by first | exact Below.refl _ _ | exact (Below.refl _ _).drew | exact below_new (Below.refl _ _) _ | exact (below_new (Below.refl _ _) _).drew | exact below_new (Below.refl _ _).drew _)).mono ?_);rintro e w5 ⟨⟨pt,ct,rfl,ht1,ht2,ht3⟩,hb5,hd5⟩;first
      | (have hy:=(hb5.block _ (by simp)).trans (heap_alloc_new wb (.cells #[.slice none 0 0] 24));obtain ⟨o0,f0⟩:=st_at hy)
      | (have hy:=(hb5.block _ (by simp)).trans (heap_alloc_new wb.drew (.cells #[.slice none 0 0] 24));obtain ⟨o0,f0⟩:=st_at hy)
      | skip))
     all_goals go_wp2_with fail
     all_goals go_meet
     all_goals first
      | exact ⟨⟨_,_,_,rfl,rfl,rfl,heap_alloc_new _ _,ht1,ht2,ht3.below (below_new (Below.refl _ _) _)⟩,below_new hd5 _⟩
      | exact ⟨⟨_,_,_,rfl,rfl,rfl,st_set hy,ht1,ht2,ht3.apart (st_row hy)⟩,hd5.setCell (p:=⟨_,0,none⟩) (Nat.le_refl _) _⟩
    case rest =>
    obtain ⟨⟨X2,pu,cu,rfl,rfl,rfl,HX2,HT2⟩,HB6⟩:=hcut
    rename World => wc
    have HSC:=Lib.hid (HSB.out.below HB6.out)
    have HX3:=Lib.hid ((HB6.out.block _ (row_lt HX1.out)).trans HX1.out)
    have HT3:=Lib.hid (HT1.out.2.2.below HB6.out)
    have HTC : Hid (z ≤ ct ∧ (pt = none → ct = 0)):=⟨HT1.out.1,HT1.out.2.1⟩
    have x1:=(st_at HX3.out).1
    have x2:=(st_at HX2.out).1
    have hzb : z ≤ 140737488355328:=Nat.le_trans HZB.out (by decide)
    have HSS : Hid (Calls Tryz.prog 14 #[.agg #[.slice pt z ct],.agg #[.slice pu z cu]] wc fun e w'' => e = .returned (.bool true) ∧ Below wc.heap.size wc w''):=stsame_any PI PI pt pu ct cu z z true wc HZ.out HZ.out HT3.out HT2.out.2.2 hzb hzb (by simp)
    have e1 : ((PC : Int) != (PC : Int)) = false:=by simp
    have e2 : (PS.toList != PS.toList) = false:=by simp
    have e3 : (PS.toList == PS.toList) = true:=beq_self_eq_true _
    clear a0 a1 c0 HSB HX1 HT1 HP3 hzb
    go_upto_region 15 with (go_at_call 14;((with_reducible refine HSS.out.mono ?_);rintro e w7 ⟨rfl,hb7⟩;have x1:=cell_bel x1 hb7))
    have HSD:=Lib.hid (HSC.out.below hb7)
    have HT4:=Lib.hid (HT3.out.below hb7)
    obtain ⟨o0,f0⟩:=st_at HSD.out.i
    rcases HCC.out with h0 | h0 | ⟨h0,h1,h2⟩
    ·have HKN:=Lib.hid (HKP2.out h0)
     subst h0
     clear e1
     go_wp2_with fail
     go_roundw
     case rel => exact ⟨k + 1,PI,pt,z,ct,by omega,by go_num,HSD.out.put HZ.out HTC.out.1 HTC.out.2 HT4.out HKN.out⟩
     case measure => simp [intOf];omega
    ·subst h0
     clear e1
     go_wp2_with (go_at_call 8;((with_reducible refine (HLV.out _ HSD.out.b).mono ?_);rintro e w8 ⟨rfl,hb8⟩))
     go_ret
     exact ⟨rfl,HSD.out.b.trans (hb8.mono HSD.out.b.size)⟩
    ·have HKN:=Lib.hid (HKK2.out h2)
     have g2 : ((PC : Int) == 170) = false:=by simp;omega
     have g3 : ((PC : Int) == 0) = false:=by simp;omega
     clear e1 h0 h1 h2
     go_wp2_with fail
     go_roundw
     case rel => exact ⟨k + 1,s,ps,ns,cs,by omega,by go_num,HSD.out.step HKN.out⟩
     case measure => simp [intOf];omega
   ·obtain rfl : m = k:=by omega
    have hss : ∀ x ∈ s,x.b.size ≤ 140737488355328:=fun x hx => Nat.le_trans (HS.out.k.sz x hx) (by decide)
    have hri:=rright_any s ps ns cs wa HS.out.n HS.out.r hss (by omega)
    rw [HS.out.k.r] at hri
    have HRI:=Lib.hid hri
    clear hri hss
    go_wp2_with (go_at_call 10;((with_reducible refine HRI.out.mono ?_);rintro e w5 ⟨rfl,hb5⟩))
    have HS5:=Lib.hid (HS.out.below hb5)
    clear HS hb5 HRI c0 hlt
    go_loopw [13] (fun iv wr => ∃ j : Nat,j ≤ m ∧ iv = .int .i64 (j : Int) ∧ Hid (KS W wr I F p n c a s ps ns cs l m)) (fun iv _ => m - (intOf iv).toNat)
    case atStart => exact ⟨0,by omega,rfl,HS5.out⟩
    case round =>
     clear HS5
     obtain ⟨j,hj,rfl,HT⟩:=hrel
     rename World => wd
     have c0:=(st_at HT.out.i).1
     by_cases hlt : j < m
     ·have hjl : j < l.length:=by rw [← HM.out];exact hlt
      have q1 : (j : Int) < (m : Int):=by omega
      obtain ⟨g,o,hqe,hg,a0,a1⟩:=HQ.out.below HT.out.b j hjl
      subst hqe
      obtain ⟨e,he⟩ : ∃ e,e = l[j]:=⟨_,rfl⟩
      have HNW : Hid ((lnkL e.k e.b.data.toList).1 = 0 → getI s (putD e.k e.b) = ⟨putD e.k e.b,e.k,e.b⟩ ∧ getE s (putD e.k e.b) = 0):=fun h => by
       rw [he] at h ⊢
       exact getI_found (rightI_srt HT.out.k.r) (HT.out.k.new j hjl hlt h)
      have hsz : e.b.size ≤ 140737488355328:=by rw [he];exact Nat.le_trans (HT.out.k.ob j hjl hlt) (by decide)
      rw [← he] at a0 a1
      obtain ⟨ok,ob⟩:=e
      simp only at a0 a1 HNW hsz
      obtain ⟨D,hD⟩ : ∃ D,D = putD ok ob:=⟨_,rfl⟩
      obtain ⟨⟨xi,xk,xb⟩,hX⟩ : ∃ X,X = getI s D:=⟨_,rfl⟩
      obtain ⟨E,hE⟩ : ∃ E,E = getE s D:=⟨_,rfl⟩
      obtain ⟨V,hV⟩ : ∃ V,V = (lnkL ok ob.data.toList).1:=⟨_,rfl⟩
      have HID : Hid (∀ w',Below wd.heap.size wd w' → Calls Tryz.prog 16 #[.agg #[.int .i64 ok,.string ob]] w' fun e w'' => e = .returned (.string D) ∧ Below w'.heap.size w' w'' ∧ Below wd.heap.size wd w''):=fun w' h => by
       rw [hD]
       exact (rid_any ok ob w' hsz).mono fun e w'' ⟨h1,h2⟩ => ⟨h1,h2,h.trans (h2.mono h.size)⟩
      have HG : Hid (∀ w',Below wd.heap.size wd w' → Calls Tryz.prog 15 #[.agg #[.slice ps ns cs],.string D] w' fun e w'' => e = .returned (.tuple #[.agg #[.int .i64 xk,.string xb],.int .i64 (E : Int)]) ∧ Below w'.heap.size w' w'' ∧ Below wd.heap.size wd w''):=fun w' h => by
       have h0:=sget_any s D ps ns cs w' HT.out.n (HT.out.r.below h) (by omega)
       rw [← hX,← hE] at h0
       exact h0.mono fun e w'' ⟨h1,h2⟩ => ⟨h1,h2,h.trans (h2.mono h.size)⟩
      have HWH : Hid (∀ w0,∀ y : BelW w0,Calls Tryz.prog 17 #[.agg #[.int .i64 ok,.string ob]] y.w fun e w'' => e = .returned (.int .i64 (V : Int)) ∧ ∃ z : BelW w0,w'' = z.w):=fun w0 y => by
       rw [hV]
       exact Calls.bel_class (rwhole_any ok ob y.w hsz)
      have HVV : Hid (V = 0 → xk = ok ∧ xb = ob ∧ E = 0):=fun h => by
       obtain ⟨h1,h2⟩:=HNW.out (by rw [← hV];exact h)
       rw [← hD,← hX] at h1
       rw [← hD,← hE] at h2
       simp only [It.mk.injEq] at h1
       exact ⟨h1.2.1,h1.2.2,h2⟩
      clear hD hX hE hV HNW hsz he hg hjl
      go_upto_region 24 with fail
      go_cut [14,15] from 95 to 103 (fun pv ev wx => ∃ O,pv = .pointer (some ⟨O,0,none⟩) ∧ ev = .int .i64 (E : Int) ∧ Hid (wx.heap[O]? = some (.cells #[.int .i64 xk,.string xb] 29 (0,0))) ∧ Hid (Below wd.heap.size wd wx))
      case first =>
       have za0:=fun ob => cell_bel a0 (below_new (Below.refl wd.heap.size wd) ob)
       have zb0:=fun ob => cell_bel (w':=wd.drew.alloc ob) a0 (below_new (Below.refl wd.heap.size wd).drew ob)
       have za1:=fun ob => cell_bel a1 (below_new (Below.refl wd.heap.size wd) ob)
       have zb1:=fun ob => cell_bel (w':=wd.drew.alloc ob) a1 (below_new (Below.refl wd.heap.size wd).drew ob)
       have za2:=fun ob => cell_bel c0 (below_new (Below.refl wd.heap.size wd) ob)
       have zb2:=fun ob => cell_bel (w':=wd.drew.alloc ob) c0 (below_new (Below.refl wd.heap.size wd).drew ob)
       go_region_law (first
        | (go_simp;go_at_call 16;((with_reducible refine (HID.out _ (by first | exact Below.refl _ _ | exact (Below.refl _ _).drew | exact below_new (Below.refl _ _) _ | exact (below_new (Below.refl _ _) _).drew | exact below_new (Below.refl _ _).drew _)).mono ?_);rintro e v4 ⟨rfl,hb4,hd4⟩;have zc4:=cell_bel c0 hd4;have zc5:=(fun ob => cell_bel c0 (below_new hd4 ob));first
         | (have hy4:=(hb4.block _ (by simp)).trans (heap_alloc_new wd (.cells #[.int .i64 0,.string ⟨#[]⟩] 29)))
         | (have hy4:=(hb4.block _ (by simp)).trans (heap_alloc_new wd.drew (.cells #[.int .i64 0,.string ⟨#[]⟩] 29)))
         | skip))
        | (go_simp;go_at_call 15;((with_reducible refine (HG.out _ (by first | exact hd4 | exact below_new hd4 _)).mono ?_);rintro e w5 ⟨rfl,hb5,hd5⟩;first
         | (have hy:=(hb5.block _ (row_lt hy4)).trans hy4;obtain ⟨o0,o1,f0,f1⟩:=ob_at hy)
         | (have hy:=(hb5.block _ (by simp)).trans (heap_alloc_new v4 (.cells #[.int .i64 0,.string ⟨#[]⟩] 29));obtain ⟨o0,o1,f0,f1⟩:=ob_at hy)
         | skip)))
       all_goals go_wp2_with fail
       all_goals go_meet
       all_goals first
        | exact ⟨_,rfl,rfl,heap_alloc_new _ _,below_new hd5 _⟩
        | exact ⟨_,rfl,rfl,ob_row hy,set2_below hd5 (by first | exact Nat.le_refl _ | exact hd4.size)⟩
      case rest =>
      obtain ⟨O1,rfl,rfl,HO1,HB6⟩:=hcut
      rename World => we
      have HT6:=Lib.hid (HT.out.below HB6.out)
      replace a0:=cell_bel a0 HB6.out
      replace a1:=cell_bel a1 HB6.out
      obtain ⟨p0,p1,-,-⟩:=ob_at HO1.out
      have k1 : ∀ y : BelW we,y.w.cell? ⟨g,o + j * 2,none⟩ = some (.int .i64 ok):=fun y => cell_bel a0 y.h
      have k2 : ∀ y : BelW we,y.w.cell? ⟨g,o + j * 2 + 1,none⟩ = some (.string ob):=fun y => cell_bel a1 y.h
      have k3 : ∀ y : BelW we,y.w.cell? ⟨O1,0,none⟩ = some (.int .i64 xk):=fun y => cell_bel p0 y.h
      have k4 : ∀ y : BelW we,y.w.cell? ⟨O1,1,none⟩ = some (.string xb):=fun y => cell_bel p1 y.h
      have hqn : Nonempty (BelW we):=⟨⟨we,Below.refl _ _⟩⟩
      have HWC:=Lib.hid (HWH.out we)
      clear a0 a1 p0 p1 c0 HT HID HG HWH
      go_upto_region 25 with fail
      by_cases hv0 : V = 0
      ·obtain ⟨h1,h2,h3⟩:=HVV.out hv0
       have g1 : ((V : Int) == 0) = true:=by simp [hv0]
       have g2 : ((E : Int) != 0) = false:=by simp [h3]
       have g4 : (xk == ok) = true:=by simp [h1]
       have g5 : (xb.toList == ob.toList) = true:=by rw [str_dec];exact decide_eq_true h2
       clear hv0 h1 h2 h3
       refine wp_region_bel (w0:=we) (Below.refl _ _) (by kernel_rfl) (by kernel_rfl) ?_
       repeat (go_big_quiet_step (first
        | (go_at_call 17;(with_reducible exact HWC.out _))))
       refine wpQuiet_nil ?_
       rintro _ ⟨zz,rfl⟩
       have HZZ:=Lib.hid (HT6.out.below zz.h)
       obtain ⟨w6,hw6⟩ : ∃ w6,w6 = zz.w:=⟨_,rfl⟩
       rw [← hw6] at HZZ ⊢
       clear k1 k2 k3 k4 hqn HWC hw6 zz
       go_wp2_with fail
       go_roundw
       case rel => exact ⟨j + 1,by omega,by go_num,HZZ.out⟩
       case measure => simp [intOf];omega
      ·have g1 : ((V : Int) == 0) = false:=by simp;omega
       clear hv0
       refine wp_region_bel (w0:=we) (Below.refl _ _) (by kernel_rfl) (by kernel_rfl) ?_
       repeat (go_big_quiet_step (first
        | (go_at_call 17;(with_reducible exact HWC.out _))))
       refine wpQuiet_nil ?_
       rintro _ ⟨zz,rfl⟩
       have HZZ:=Lib.hid (HT6.out.below zz.h)
       obtain ⟨w6,hw6⟩ : ∃ w6,w6 = zz.w:=⟨_,rfl⟩
       rw [← hw6] at HZZ ⊢
       clear k1 k2 k3 k4 hqn HWC hw6 zz
       go_wp2_with fail
       go_roundw
       case rel => exact ⟨j + 1,by omega,by go_num,HZZ.out⟩
       case measure => simp [intOf];omega
     ·obtain rfl : m = j:=by omega
      clear hlt c0
      go_wp2_with fail
      go_loopw [16] (fun iv wr => ∃ j : Nat,j ≤ n ∧ iv = .int .i64 (j : Int) ∧ Hid (KS W wr I F p n c a s ps ns cs l m)) (fun iv _ => n - (intOf iv).toNat)
      case atStart => exact ⟨0,by omega,rfl,HT.out⟩
      case round =>
       clear HT
       obtain ⟨j,hj,rfl,HT⟩:=hrel
       rename World => wf
       have c0:=(st_at HT.out.i).1
       have d0:=(st_at HT.out.f).1
       by_cases hlt : j < n
       ·have hjl : j < a.length:=by rw [← HN.out];exact hlt
        have q1 : (j : Int) < (n : Int):=by omega
        obtain ⟨g,o,hpe,hg,a0,a1,a2⟩:=HR.out.below HT.out.b j hjl
        subst hpe
        obtain ⟨e,he⟩ : ∃ e,e = a[j]:=⟨_,rfl⟩
        have hfo : getI s e.i = e ∧ getE s e.i = 0:=by
         rw [he]
         exact getI_found (rightI_srt HT.out.k.r) (HT.out.k.old _ (List.getElem_mem hjl))
        rw [← he] at a0 a1 a2
        obtain ⟨ei,xk,xb⟩:=e
        simp only at a0 a1 a2 hfo
        obtain ⟨E,hE⟩ : ∃ E : Nat,E = 0:=⟨_,rfl⟩
        have HG : Hid (∀ w',Below wf.heap.size wf w' → Calls Tryz.prog 15 #[.agg #[.slice ps ns cs],.string ei] w' fun e w'' => e = .returned (.tuple #[.agg #[.int .i64 xk,.string xb],.int .i64 (E : Int)]) ∧ Below w'.heap.size w' w'' ∧ Below wf.heap.size wf w''):=fun w' h => by
         have h0:=sget_any s ei ps ns cs w' HT.out.n (HT.out.r.below h) (by omega)
         rw [hfo.1,hfo.2] at h0
         rw [hE]
         exact h0.mono fun e w'' ⟨h1,h2⟩ => ⟨h1,h2,h.trans (h2.mono h.size)⟩
        have g1 : ((E : Int) != 0) = false:=by simp [hE]
        have HEE:=Lib.hid hE
        clear hfo he hg hjl hE
        go_upto_region 30 with fail
        go_cut [17,18] from 130 to 139 (fun pv ev wx => ∃ O,pv = .pointer (some ⟨O,0,none⟩) ∧ ev = .int .i64 (E : Int) ∧ Hid (wx.heap[O]? = some (.cells #[.int .i64 xk,.string xb] 29 (0,0))) ∧ Hid (Below wf.heap.size wf wx))
        case first =>
         have za0:=fun ob => cell_bel a0 (below_new (Below.refl wf.heap.size wf) ob)
         have zb0:=fun ob => cell_bel (w':=wf.drew.alloc ob) a0 (below_new (Below.refl wf.heap.size wf).drew ob)
         have za1:=fun ob => cell_bel c0 (below_new (Below.refl wf.heap.size wf) ob)
         have zb1:=fun ob => cell_bel (w':=wf.drew.alloc ob) c0 (below_new (Below.refl wf.heap.size wf).drew ob)
         have za2:=fun ob => cell_bel d0 (below_new (Below.refl wf.heap.size wf) ob)
         have zb2:=fun ob => cell_bel (w':=wf.drew.alloc ob) d0 (below_new (Below.refl wf.heap.size wf).drew ob)
         go_region_law (first
          | (go_simp;go_at_call 15;((with_reducible refine (HG.out _ (by first | exact Below.refl _ _ | exact (Below.refl _ _).drew | exact below_new (Below.refl _ _) _ | exact (below_new (Below.refl _ _) _).drew | exact below_new (Below.refl _ _).drew _)).mono ?_);rintro e w5 ⟨rfl,hb5,hd5⟩;first
           | (have hy:=(hb5.block _ (by simp)).trans (heap_alloc_new wf (.cells #[.int .i64 0,.string ⟨#[]⟩] 29));obtain ⟨o0,o1,f0,f1⟩:=ob_at hy)
           | (have hy:=(hb5.block _ (by simp)).trans (heap_alloc_new wf.drew (.cells #[.int .i64 0,.string ⟨#[]⟩] 29));obtain ⟨o0,o1,f0,f1⟩:=ob_at hy)
           | skip)))
         all_goals go_wp2_with fail
         all_goals go_meet
         all_goals first
          | exact ⟨_,rfl,rfl,heap_alloc_new _ _,below_new hd5 _⟩
          | exact ⟨_,rfl,rfl,ob_row hy,set2_below hd5 (by first | exact Nat.le_refl _ | exact Nat.le_refl _)⟩
        case rest =>
        obtain ⟨O1,rfl,rfl,HO1,HB6⟩:=hcut
        rename World => we
        have HT6:=Lib.hid (HT.out.below HB6.out)
        replace a1:=cell_bel a1 HB6.out
        replace a2:=cell_bel a2 HB6.out
        replace d0:=cell_bel d0 HB6.out
        obtain ⟨p0,p1,-,-⟩:=ob_at HO1.out
        have k0 : ∀ y : BelW we,y.w.cell? ⟨F,0,none⟩ = some (.slice (some ⟨g,o,none⟩) n c):=fun y => cell_bel d0 y.h
        have k1 : ∀ y : BelW we,y.w.cell? ⟨g,o + j * 3 + 1,none⟩ = some (.int .i64 xk):=fun y => cell_bel a1 y.h
        have k2 : ∀ y : BelW we,y.w.cell? ⟨g,o + j * 3 + 2,none⟩ = some (.string xb):=fun y => cell_bel a2 y.h
        have k3 : ∀ y : BelW we,y.w.cell? ⟨O1,0,none⟩ = some (.int .i64 xk):=fun y => cell_bel p0 y.h
        have k4 : ∀ y : BelW we,y.w.cell? ⟨O1,1,none⟩ = some (.string xb):=fun y => cell_bel p1 y.h
        have hqn : Nonempty (BelW we):=⟨⟨we,Below.refl _ _⟩⟩
        have g4 : (xk != xk) = false:=by simp
        have g5 : (xb.toList != xb.toList) = false:=by simp
        have g6 : (xk == xk) = true:=beq_self_eq_true _
        have g7 : (xb.toList == xb.toList) = true:=beq_self_eq_true _
        clear a0 a1 a2 p0 p1 c0 d0 HT HG
        go_upto_region 31 with fail
        refine wp_region_bel (w0:=we) (Below.refl _ _) (by kernel_rfl) (by kernel_rfl) ?_
        repeat (go_big_quiet_step (fail))
        refine wpQuiet_nil ?_
        rintro _ ⟨zz,rfl⟩
        have HZZ:=Lib.hid (HT6.out.below zz.h)
        obtain ⟨w6,hw6⟩ : ∃ w6,w6 = zz.w:=⟨_,rfl⟩
        rw [← hw6] at HZZ ⊢
        clear k0 k1 k2 k3 k4 hqn hw6 zz
        go_wp2_with fail
        go_roundw
        case rel => exact ⟨j + 1,by omega,by go_num,HZZ.out⟩
        case measure => simp [intOf];omega
       ·obtain rfl : n = j:=by omega
        obtain ⟨ID,hID⟩ : ∃ ID,ID = idsI s:=⟨_,rfl⟩
        obtain ⟨z,hz⟩ : ∃ z,z = ID.length:=⟨_,rfl⟩
        have hz2 : z ≤ 200:=by
         rw [hz,hID,idsI,List.length_map]
         have h1:=HT.out.k.len
         omega
        have HI1 : Hid (∀ w',(Below wf.heap.size wf w' ∧ w'.cell? ⟨I,0,none⟩ = some (.slice ps ns cs)) → Calls Tryz.prog 19 #[.agg #[.slice ps ns cs]] w' fun e w'' => (∃ p1 c1,e = .returned (.slice p1 z c1) ∧ SRw w'' p1 ID) ∧ Below w'.heap.size w' w'' ∧ Below wf.heap.size wf w''):=fun w' h =>
         (ids_any s ps ns cs w' HT.out.n (HT.out.r.below h.1) (by omega)).mono fun e w'' ⟨⟨v,h1,h2⟩,h3⟩ => by
          rw [← hID] at h2
          obtain ⟨p1,c1,h4,h5⟩:=h2.rw
          rw [← hz] at h4
          subst h4
          exact ⟨⟨p1,c1,h1,h5⟩,h3,h.1.trans (h3.mono h.1.size)⟩
        have HI2 : Hid (∀ w',(Below wf.heap.size wf w' ∧ w'.cell? ⟨I,0,none⟩ = some (.slice ps ns cs)) → Calls Tryz.prog 20 #[.agg #[.slice ps ns cs]] w' fun e w'' => (∃ p1 c1,e = .returned (.slice p1 z c1) ∧ SRw w'' p1 ID) ∧ Below w'.heap.size w' w'' ∧ Below wf.heap.size wf w''):=fun w' h =>
         (rids_any s ps ns cs w' HT.out.n (HT.out.r.below h.1) (by omega)).mono fun e w'' ⟨⟨v,h1,h2⟩,h3⟩ => by
          rw [← hID] at h2
          obtain ⟨p1,c1,h4,h5⟩:=h2.rw
          rw [← hz] at h4
          subst h4
          exact ⟨⟨p1,c1,h1,h5⟩,h3,h.1.trans (h3.mono h.1.size)⟩
        have HSX : Hid (∀ (w' : World) (p1 p2 : Option Addr) (c1 c2 : Nat),(Below wf.heap.size wf w' ∧ w'.cell? ⟨I,0,none⟩ = some (.slice ps ns cs)) → SRw w' p1 ID → SRw w' p2 ID → Calls Tryz.prog 18 #[.slice p1 z c1,.slice p2 z c2] w' fun e w'' => e = .returned (.bool true) ∧ Below w'.heap.size w' w'' ∧ Below wf.heap.size wf w''):=fun w' p1 p2 c1 c2 h h1 h2 =>
         (sametx_any ID ID p1 p2 c1 c2 z z w' hz hz h1 h2 (by omega)).mono fun e w'' h3 => by
          obtain ⟨h4,h5⟩:=h3
          rw [decide_eq_true rfl] at h4
          have hb : Below w'.heap.size w' w'':=by first | exact h5 | (obtain ⟨x,hx⟩:=h5;rw [hx];exact below_drewN (Below.refl _ _) x) | (rw [← h5];exact Below.refl _ _) | (rw [h5];exact Below.refl _ _)
          exact ⟨h4,hb,h.1.trans (hb.mono h.1.size)⟩
        clear hID hz hz2
        go_upto_region 33 with fail
        clear hlt d0
        go_region_held3 (fun w' => Below wf.heap.size wf w' ∧ w'.cell? ⟨I,0,none⟩ = some (.slice ps ns cs)) (first
         | exact keepK hb8 (by assumption)
         | exact keepK hb7 (by assumption)
         | exact keepK hb6 (by assumption)
         | exact keepK one_drew ⟨Below.refl _ _,c0⟩) (first
         | (go_at_call 19;((with_reducible refine (HI1.out _ (by assumption)).mono ?_);rintro e v6 ⟨⟨p6,c6,rfl,hr6⟩,hb6,hd6⟩))
         | (go_at_call 20;((with_reducible refine (HI2.out _ (by assumption)).mono ?_);rintro e v7 ⟨⟨p7,c7,rfl,hr7⟩,hb7,hd7⟩;have hr6:=hr6.below hb7))
         | (go_at_call 18;((with_reducible refine (HSX.out _ _ _ _ _ (by assumption) hr6 hr7).mono ?_);rintro e v8 ⟨rfl,hb8,hd8⟩)))
        all_goals go_wp2_with fail
        all_goals go_ret
        all_goals exact ⟨rfl,HT.out.b.trans (hd8.mono HT.out.b.size)⟩
end Go.Proofs.YtnoopcenogbjiaaGreatDoor
/-
 Objects that are handed in.
-/
set_option maxRecDepth 100000
namespace Go.Proofs.YtnoopcenogbjiaaGreatDoor
open Go.ChangeShapes Go.WideShapes Go.ChangeAt Go.RowKit
open Go.WideMaps Go.WideElems
theorem Tryz.cellsObj : Tryz.prog.cellsOf 29 = 2:=by kernel_rfl
theorem Tryz.bytesObj : Tryz.prog.bytesOf 29 = 24:=by kernel_rfl
def Ob.zero : Ob:=⟨0,⟨#[]⟩⟩
def Ob.cells (e : Ob) : List Value:=[.int .i64 e.k,.string e.b]
theorem obs_arg {H : Type} {enc : TypeId × Value → H} {W : World} {base : Nat} {v : Value} {d : DataW H} {q : List MemPlace} (hok : Value.okWide Tryz.prog W .any base 27 v)
  (h : DataW.Trod enc Tryz.prog W 0 (fun _ => true) true 27 v d q) (hlt : ∀ x ∈ q,x.block < W.heap.size) (hw : ∀ n ∈ d.weights Tryz.prog 27,n ≤ reachBytes) :
  ∃ (a : Option Addr) (cap N : Nat) (l : List Ob),v = .slice a N cap ∧ N = l.length ∧ ObRw W a l ∧ N ≤ 140737488355328:=by
 obtain ⟨a0,len,cap,rfl⟩:=okWide_slice Tryz.underlying27 hok
 obtain ⟨fuel,hf⟩:=h
 rcases Go.Deep.open_slice Tryz.underlying27 hf with ⟨hcs,hx⟩ | ⟨a,len',cap',m,n',D,Pl,hcs,_,hl,hm,hmm,hx,hi⟩
 ·simp [Value.cells] at hcs
  obtain ⟨rfl,rfl,rfl⟩:=hcs
  exact ⟨none,0,0,[],rfl,rfl,fun k hk => absurd hk (Nat.not_lt_zero _),by simp⟩
 ·simp [Value.cells] at hcs
  obtain ⟨rfl,rfl,rfl⟩:=hcs
  simp only [if_true] at hmm
  subst hmm
  rw [Tryz.cellsObj] at hx hi
  simp only [Prod.mk.injEq] at hx
  obtain ⟨rfl,rfl⟩:=hx
  obtain ⟨f,hfe⟩:=choose_allC (P:=fun i (e : Ob) => W.cells? 0 (a.add (i * 2)) 2 = some (Ob.cells e)) (n:=len) Ob.zero (fun i hil => by
   obtain ⟨cs',h1,h2⟩:=hi i (by omega)
   obtain ⟨xs,n,_,_,hcs,hlen,hf⟩:=DataW.trod_struct Tryz.underlying29 h2
   rw [Tryz.cellsObj] at hcs
   have hl : xs.length = 2:=hlen
   match cs',hcs,xs,hl with
   | [c0,c1],_,[x0,x1],_ =>
    have g0 : DataW.trod enc Tryz.prog W 0 (fun _ => true) true n 3 (List.take (Tryz.prog.cellsOf 3) (List.drop 0 [c0,c1])) = some x0:=hf 0 _ rfl
    have g1 : DataW.trod enc Tryz.prog W 0 (fun _ => true) true n 9 (List.take (Tryz.prog.cellsOf 9) (List.drop 1 [c0,c1])) = some x1:=hf 1 _ rfl
    rw [Tryz.cellsI] at g0
    rw [Tryz.cellsStr] at g1
    obtain ⟨z0,e0,_,_⟩:=DataW.trod_int Tryz.underlying3 g0
    obtain ⟨z1,e1,_,_⟩:=DataW.trod_string Tryz.underlying9 g1
    simp at e0 e1
    exact ⟨⟨z0,z1⟩,by rw [h1,e0,e1];rfl⟩)
  have hlen : ((List.range len).map f).length = len:=by simp
  refine ⟨some a,m,len,(List.range len).map f,rfl,hlen.symm,?_,?_⟩
  ·intro k hk
   rw [hlen] at hk
   obtain ⟨_,_,hc⟩:=World.cells?_some (hfe k hk)
   obtain ⟨g,o,spot⟩:=a
   have hspot : spot = none:=by
    obtain ⟨_,_,hc0⟩:=World.cells?_some (hfe 0 (by omega))
    have:=World.cell?_spot (hc0 0 (by decide))
    simpa [Addr.add] using this
   subst hspot
   have hat (j : Nat) (hj : j < 2) : W.cell? ⟨g,o + k * 2 + j,none⟩ = (Ob.cells (f k))[j]?:=by
    have:=hc j hj
    rwa [Addr.add_lit,Addr.add_lit] at this
   refine ⟨g,o,rfl,hlt (.cell g o) (List.mem_append.2 (.inl (MemPlace.mem_row.2 ⟨0,by omega,by simp⟩))),?_⟩
   simp only [List.getElem_map,List.getElem_range]
   exact ⟨hat 0 (by decide),hat 1 (by decide)⟩
  ·have:=hw ((((List.range len).map D).length + ((List.range (m - len)).map fun j => D (len + j)).length) * Tryz.prog.bytesOf 29) (by rw [DataW.weights,Tryz.underlying27];simp)
   rw [Tryz.bytesObj] at this
   simp only [List.length_map,List.length_range,reachBytes] at this
   omega
end Go.Proofs.YtnoopcenogbjiaaGreatDoor
