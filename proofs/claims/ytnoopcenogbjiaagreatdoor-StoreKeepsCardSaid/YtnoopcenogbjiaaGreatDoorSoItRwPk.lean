/-
 A row of items that is read, appended to a row of the call's own.
-/
import Derived.Test.YtnoopcenogbjiaaGreatDoorSoValPk
import Derived.Test.YtnoopcenogbjiaaGreatDoorSoRowsPk
import Derived.Test.YtnoopcenogbjiaaGreatDoorSoPutPk
import Derived.Test.YtnoopcenogbjiaaGreatDoorSoRingPk
import Derived.Test.YtnoopcenogbjiaaGreatDoorSoReachPk
set_option linter.unusedVariables false
set_option linter.unusedSimpArgs false
namespace Go.Proofs.YtnoopcenogbjiaaGreatDoor
open Go Go.RowKit Go.Maps Go.WideMaps
theorem wp_it_rw {ops : Array Oper} {rest : List Oper} {o : Oper} {a : Act} {Q : Exit → Act → World → Prop} {w : World} {base : Nat} {l : List It} {v : Value} (hgd : o.guard = none) (sl x : Operand) (ho : o.op = .call { callee:=.builtin .append,args:=#[sl,x],argTypes:=#[22,22] }) (hs : a.eval sl = v) (hown : ItOw w base v l) (p : Option Addr) (m c : Nat) (mid : List It) (hm : m = mid.length) (hx : a.eval x = .slice p m c)
  (hr : ItRw w p mid) (hb : l.length + m ≤ 1048576) (hbase : base ≤ w.heap.size)
  (h : ∀ v' w',ItOw w' base v' (l ++ mid) → w.grownBy w' v.ownBlock → wpList Tryz.prog ops Q rest (a.put o.dst v') w') : wpList Tryz.prog ops Q (o :: rest) a w:=by
 cases p with
 | some ad => exact wp_it_many hgd sl x ho hs hown ad m c mid hm hx hr.src hb hbase h
 | none =>
  obtain rfl:=itrw_nil hr
  obtain rfl : m = 0:=hm
  obtain ⟨i0,hi,hz0,hz1,hz2⟩:=info_parts Tryz.infoIt
  refine wpList_plain hgd fun K hK => ?_
  have hrun:=app_noneS w base 22 o.type 39 i0 3 Tryz.underlying22 hi v l.length (itcells l) hown c
  unfold Oper.wp
  simp [execOp,ho,resolve,invoke,builtin,hs,hx,hrun,Result.andThen]
  exact hK _ _ (h v w (by simpa using hown) ⟨rfl,rfl,rfl,Nat.le_refl _,fun _ _ _ => rfl⟩)
theorem ItRw.apart {w : World} {p : Option Addr} {l : List It} {P : Nat} {v : Value} {t : TypeId} (h : ItRw w p l) (hr : ∃ q n c,w.heap[P]? = some (.cells #[.slice q n c] t (0,0))) : ItRw (w.setCell ⟨P,0,none⟩ v) p l:=fun k hk => by
 obtain ⟨g,o,rfl,hg,a0,a1,a2⟩:=h k hk
 obtain ⟨q,n,c,hr⟩:=hr
 have hne : g ≠ P:=fun e => by
  subst e
  rw [cell_of_row _ _ _ _ _ _ hr] at a1
  by_cases hj : o + k * 3 + 1 = 0
  ·omega
  ·rw [Array.getElem?_eq_none (by simp)] at a1
   cases a1
 have keep : ∀ j,(w.setCell ⟨P,0,none⟩ v).cell? ⟨g,j,none⟩ = w.cell? ⟨g,j,none⟩:=fun j => World.cell?_of_block (a:=⟨g,j,none⟩) (Below.heap_setCell w ⟨P,0,none⟩ v g hne)
 exact ⟨g,o,rfl,by simpa using hg,(keep _).trans a0,(keep _).trans a1,(keep _).trans a2⟩
theorem st_row {w : World} {P : Nat} {q : Option Addr} {n c : Nat} {t : TypeId} (h : w.heap[P]? = some (.cells #[.slice q n c] t (0,0))) : ∃ q n c,w.heap[P]? = some (.cells #[.slice q n c] t (0,0)):=⟨q,n,c,h⟩
theorem ItOw.empty (w : World) {base : Nat} (hb : base ≤ w.heap.size) : ItOw (w.alloc (.cells #[] 39)) base (.slice (some ⟨w.heap.size,0,none⟩) 0 0) [] :=
 ⟨rfl,.inr ⟨w.heap.size,0,#[],rfl,hb,heap_alloc_new _ _,Nat.le_refl _,Nat.zero_le _,rfl,rfl⟩⟩
theorem ItOw.rw3 {w : World} {base : Nat} {v : Value} {l : List It} (h : ItOw w base v l) : ∃ p n cap,v = .slice p n cap ∧ n = l.length ∧ n ≤ cap ∧ (p = none → cap = 0) ∧ ItRw w p l:=by
 obtain ⟨p,cap,hv,hc,hr⟩:=h.rw
 refine ⟨p,l.length,cap,hv,rfl,hc,fun hp => ?_,hr⟩
 rcases h.2 with ⟨hx,_⟩ | ⟨g,cap',cur,hx,_⟩
 ·rw [hv] at hx;injection hx with _ _ h3
 ·rw [hv,hp] at hx;cases hx
set_option maxHeartbeats 8000000 in
set_option maxRecDepth 40000 in
theorem rsput_any (l : List It) (k : Int) (b : ByteArray) (p : Option Addr) (n c : Nat) (w : World) (hn : n = l.length) (hnc : n ≤ c) (hpc : p = none → c = 0) (hp : ItRw w p l) (hb : b.size ≤ 140737488355328) (hn2 : n ≤ 1000) :
  Calls Tryz.prog 13 #[.agg #[.slice p n c],.agg #[.int .i64 k,.string b]] w fun e w' => (∃ q m d,e = .returned (.tuple #[.agg #[.slice q m d],.string (putS l k b),.int .i64 (putC l k b : Int)]) ∧ m = (putI l k b).length ∧ m ≤ d ∧ (q = none → d = 0) ∧ ItRw w' q (putI l k b)) ∧ Below w.heap.size w w':=by
 obtain ⟨w1,hw1⟩ : ∃ w1,w1 = w.alloc (.cells #[.slice p n c] 24):=⟨_,rfl⟩
 obtain ⟨w2,hw2⟩ : ∃ w2,w2 = w1.alloc (.cells #[.int .i64 k,.string b] 29):=⟨_,rfl⟩
 obtain ⟨w3,hw3⟩ : ∃ w3,w3 = w2.alloc (.cells #[.slice none 0 0] 24):=⟨_,rfl⟩
 obtain ⟨I,hI⟩ : ∃ I,I = w.heap.size:=⟨_,rfl⟩
 obtain ⟨O,hO'⟩ : ∃ O,O = w.heap.size + 1:=⟨_,rfl⟩
 obtain ⟨P,hP'⟩ : ∃ P,P = w.heap.size + 1 + 1:=⟨_,rfl⟩
 have h1 : w1.heap[I]? = some (.cells #[.slice p n c] 24 (0,0)):=by rw [hw1,hI];exact heap_alloc_new _ _
 have h2 : w2.heap[O]? = some (.cells #[.int .i64 k,.string b] 29 (0,0)):=by rw [hw2,hO',show w.heap.size + 1 = w1.heap.size by rw [hw1];simp];exact heap_alloc_new _ _
 have h3 : w3.heap[P]? = some (.cells #[.slice none 0 0] 24 (0,0)):=by rw [hw3,hP',show w.heap.size + 1 + 1 = w2.heap.size by rw [hw2,hw1];simp];exact heap_alloc_new _ _
 have hbx : Below w.heap.size w w3:=by rw [hw3,hw2,hw1];exact below_new (below_new (below_new (Below.refl _ _) _) _) _
 have hpb : PB w w3 I O P (.slice p n c) k b:=⟨by rw [hw3,hw2];exact row_alloc (row_alloc h1 (row_lt h1)) (row_lt (row_alloc h1 (row_lt h1))),by rw [hw3];exact row_alloc h2 (row_lt h2),h3,by omega,hbx⟩
 have HWH:=Lib.hid (rwhole_any k b w3 hb)
 have HID:=Lib.hid (fun w' => rid_any k b w' hb)
 have HFD:=Lib.hid (fun w' (h : Below w3.heap.size w3 w') => (rplace_any l (putD k b) p n c w' hn ((hp.below hbx).below h) (by omega)).mono fun e w'' ⟨h1,x,h2⟩ => (⟨h1,by rw [h2];exact below_drewN (Below.refl _ _) x⟩ : _ ∧ Below w'.heap.size w' w''))
 have HPB:=Lib.hid hpb
 have HP:=Lib.hid (hp.below hbx)
 have HN:=Lib.hid hn
 have HPC:=Lib.hid hpc
 have HPLT : Hid (P < w3.heap.size):=row_lt h3
 have HW1:=Lib.hid hw1
 have HW2:=Lib.hid hw2
 have HW3:=Lib.hid hw3
 have HI:=Lib.hid hI
 have HO':=Lib.hid hO'
 have HP':=Lib.hid hP'
 have y0:=(ob_at hpb.o).1
 have y1:=(ob_at hpb.o).2.1
 obtain ⟨C,hC⟩ : ∃ C,C = (lnkL k b.data.toList).1:=⟨_,rfl⟩
 have hput : putC l k b = if C = 0 then (if hasI l (putD k b) = true then (if (l.getD (atI l (putD k b)) It.zero).k = k ∧ (l.getD (atI l (putD k b)) It.zero).b = b then 0 else 170) else if 65536 ≤ l.length then 4 else 0) else C:=by rw [hC];rfl
 rw [← hC] at HWH
 clear hC hw1 hw2 hw3 hI hO' hP' h1 h2 h3 hbx hpb hn hp hb hpc
 by_cases hc0 : C = 0
 case neg =>
  rw [if_neg hc0] at hput
  have HQ : Hid (putC l k b = C ∧ putI l k b = [] ∧ putS l k b = ⟨#[]⟩):=⟨hput,by rw [putI,hput,if_neg hc0],by rw [putS,hput,if_neg hc0]⟩
  have gc : ((C : Int) != 0) = true:=by simp;omega
  have gc2 : ¬ (C : Int) = 0:=by omega
  clear hput hc0
  go_enter Tryz.func13,Tryz.ntmps13
  go_upto_region 1 with fail
  rw [← HW1.out,← HW2.out,← HW3.out,← HP'.out,← HO'.out,← HI.out]
  go_upto_region 2 with (go_at_call 17;((with_reducible refine (HWH.out).mono ?_);rintro e w4 ⟨rfl,hb4⟩))
  have H4:=Lib.hid (HPB.out.below hb4)
  obtain ⟨o0,f0⟩:=st_at H4.out.p
  have H5:=Lib.hid (st_set (v:=.slice none 0 0) H4.out.p)
  obtain ⟨d0,-⟩:=st_at H5.out
  clear hb4
  go_wp2_with fail
  refine bodyPost_ret (v:=.tuple #[.agg #[.slice none 0 0],.string ⟨#[]⟩,.int .i64 (C : Int)]) (by simp [results,Tryz.results13,go_sem,d0]) rfl ⟨⟨none,0,0,by rw [HQ.out.1,HQ.out.2.2],by rw [HQ.out.2.1];rfl,Nat.le_refl _,fun _ => rfl,by rw [HQ.out.2.1];exact ItRw.nil _ _⟩,H4.out.bel.setCell (p:=⟨P,0,none⟩) H4.out.hp _⟩
 rw [if_pos hc0] at hput
 have gc : (C : Int) = 0:=by omega
 obtain ⟨A,hA⟩ : ∃ A,A = atI l (putD k b):=⟨_,rfl⟩
 obtain ⟨F,hF⟩ : ∃ F,F = hasI l (putD k b):=⟨_,rfl⟩
 have hAl : F = true → A < l.length:=fun h => by rw [hA];exact hasI_lt (hF.symm.trans h)
 have hAle : A ≤ n:=by rw [hA,HN.out];exact atI_le _ _
 have hpi : putI l k b = if putC l k b = 0 then (if F = true then l else l.take A ++ ⟨putD k b,k,b⟩ :: l.drop A) else []:=by rw [hA,hF];rfl
 have hps : putS l k b = if putC l k b = 0 then putD k b else ⟨#[]⟩:=rfl
 have hid2 : str (idL k b.data.toList) = putD k b:=rfl
 rw [← hA,← hF] at HFD hput
 rw [hid2] at HID
 obtain ⟨D,hD⟩ : ∃ D,D = putD k b:=⟨_,rfl⟩
 rw [← hD] at HFD HID hpi hps
 obtain ⟨PC,hPC⟩ : ∃ PC,PC = putC l k b:=⟨_,rfl⟩
 obtain ⟨PI,hPI⟩ : ∃ PI,PI = putI l k b:=⟨_,rfl⟩
 obtain ⟨PS,hPS⟩ : ∃ PS,PS = putS l k b:=⟨_,rfl⟩
 rw [← hPC] at hput hpi hps ⊢
 rw [← hPI] at hpi ⊢
 rw [← hPS] at hps ⊢
 clear hA hF hid2 hD hc0 hPC hPI hPS
 obtain rfl : C = 0:=by omega
 clear gc
 rcases F with _ | _
 ·-- not found
  clear hAl
  rw [if_neg (by decide),if_neg (by have:=HN.out;omega)] at hput
  have HQ : Hid (PC = 0 ∧ PI = l.take A ++ [⟨D,k,b⟩] ++ l.drop A ∧ PS = D):=⟨hput,by rw [hpi,hput,if_pos rfl,if_neg (by decide)];simp,by rw [hps,hput,if_pos rfl]⟩
  have z1 : decide ((65536 : Int) ≤ (n : Int)) = false:=decide_eq_false (by omega)
  have z1' : (n : Int) < 65536:=by omega
  have hAc : A ≤ c:=by omega
  clear hput hpi hps
  go_enter Tryz.func13,Tryz.ntmps13
  go_upto_region 1 with fail
  rw [← HW1.out,← HW2.out,← HW3.out,← HP'.out,← HO'.out,← HI.out]
  go_upto_region 4 with (go_at_call 17;((with_reducible refine (HWH.out).mono ?_);rintro e w4 ⟨rfl,hb4⟩;have y0:=cell_bel y0 hb4;have y1:=cell_bel y1 hb4))
  go_upto_region 5 with (go_at_call 16;((with_reducible refine (HID.out _).mono ?_);rintro e w5 ⟨rfl,hb5⟩))
  have HB5:=Lib.hid (hb4.trans (hb5.mono hb4.size))
  have H5:=Lib.hid (HPB.out.below HB5.out)
  have x0:=(st_at H5.out.i).1
  clear hb4 hb5 y0 y1
  go_upto_region 12 with (go_at_call 47;((with_reducible refine (HFD.out _ HB5.out).mono ?_);rintro e w6 ⟨rfl,hb6⟩;have x0:=cell_bel x0 hb6))
  have HB6:=Lib.hid (HB5.out.trans (hb6.mono HB5.out.size))
  have H6:=Lib.hid (H5.out.below hb6)
  clear hb6 x0
  have x0:=cell_bel (w':=w6.alloc (.cells #[] 39)) (st_at H6.out.i).1 (below_new (Below.refl _ _) _)
  have HT:=Lib.hid ((HP.out.below HB6.out).take A)
  have HTL : Hid (A = (l.take A).length):=by show A = _;rw [List.length_take,← HN.out];omega
  have HDL : Hid (n - A = (l.drop A).length):=by show _ = _;rw [List.length_drop,← HN.out]
  have HLN : Hid (l.length ≤ 1000):=by show _ ≤ _;rw [← HN.out];exact hn2
  have HDD:=Lib.hid (fun w' (h : Below w6.heap.size w6 w') => ((HP.out.below HB6.out).below h).dropTo A HN.out hnc hAle)
  have HP6 : Hid (P < w6.heap.size):=Nat.lt_of_lt_of_le HPLT.out HB6.out.size
  rcases p with _ | ad
  ·obtain rfl : c = 0:=HPC.out rfl
   obtain rfl : n = 0:=by omega
   obtain rfl : A = 0:=by omega
   have HN0 : Hid (∀ w' p',ItRw w' p' (l.drop 0) ∧ 0 = (l.drop 0).length):=fun w' p' => by
    rw [List.drop_eq_nil_of_le (by have:=HN.out;omega)]
    exact ⟨ItRw.nil _ _,rfl⟩
   go_upto_region 13 with (at_builtin;refine wp_it_rw rfl _ _ rfl rfl (ItOw.empty w6 (Nat.le_refl _)) _ 0 _ (l.take 0) HTL.out rfl (HT.out.below (below_new (Below.refl _ _) _)) (by have:=HLN.out;simp <;> omega) (by simp) ?_;intro v7 w7 h7 g7;have HO7:=Lib.hid h7;have B7:=Lib.hid ((below_new (Below.refl w6.heap.size w6) (.cells #[] 39)).grown g7 (by simp) (fun j hj => ((ItOw.empty w6 (Nat.le_refl _)).lt j hj).1));clear h7 g7)
   have H7:=Lib.hid (H6.out.below B7.out)
   obtain ⟨y0,y1,-,-⟩:=ob_at H7.out.o
   go_upto_region 14 with (at_builtin;refine wp_it_one rfl _ _ rfl rfl HO7.out D k b rfl (by have:=HLN.out;simp <;> omega) B7.out.size ?_;intro v8 w8 h8 g8;have HO8:=Lib.hid h8;have B8:=Lib.hid (HO7.out.bel1 B7.out (Nat.le_refl _) B7.out.size g8);clear h8 g8)
   have H8:=Lib.hid (H6.out.below B8.out)
   have x0:=(st_at H8.out.i).1
   clear y0 y1
   go_upto_region 15 with (at_builtin;refine wp_it_rw rfl _ _ rfl rfl HO8.out _ 0 _ (l.drop 0) (HN0.out w8 none).2 rfl (HN0.out w8 _).1 (by have:=HLN.out;simp <;> omega) B8.out.size ?_;intro v9 w9 h9 g9;have HO9:=Lib.hid h9;have B9:=Lib.hid (app_step0 B8.out HO8.out g9 (Nat.le_refl _) B8.out.size);clear h9 g9)
   have H9:=Lib.hid (H6.out.below B9.out)
   have hap:=HO9.out.apart (b:=P) HP6.out
   obtain ⟨q,m,d,rfl,hm,hmd,hqd,-⟩:=HO9.out.rw3
   obtain ⟨q',m',d',he,-,-,-,hr'⟩:=(HO9.out.put (x:=.slice q m d) hap).rw3
   cases he
   have HMM:=Lib.hid hm
   have HRR:=Lib.hid hr'
   obtain ⟨o0,f0⟩:=st_at H9.out.p
   obtain ⟨d0,-⟩:=st_at (st_set (v:=.slice q m d) H9.out.p)
   clear hm hap hr' x0
   go_wp2_with fail
   refine bodyPost_ret (v:=.tuple #[.agg #[.slice q m d],.string D,.int .i64 0]) (by simp [results,Tryz.results13,go_sem,d0]) rfl ⟨⟨q,m,d,by rw [HQ.out.1,HQ.out.2.2];rfl,?_,hmd,hqd,?_⟩,H9.out.bel.setCell (p:=⟨P,0,none⟩) H9.out.hp _⟩
   ·rw [HQ.out.2.1,HMM.out];rfl
   ·rw [HQ.out.2.1]
    exact HRR.out
  ·by_cases hcA : c = A
   ·have HN0 : Hid (∀ w' p',ItRw w' p' (l.drop A) ∧ 0 = (l.drop A).length):=fun w' p' => by
     rw [List.drop_eq_nil_of_le (by have:=HN.out;omega)]
     exact ⟨ItRw.nil _ _,rfl⟩
    obtain rfl : A = c:=hcA.symm
    go_upto_region 13 with (at_builtin;refine wp_it_rw rfl _ _ rfl rfl (ItOw.empty w6 (Nat.le_refl _)) _ A _ (l.take A) HTL.out rfl (HT.out.below (below_new (Below.refl _ _) _)) (by have:=HLN.out;simp <;> omega) (by simp) ?_;intro v7 w7 h7 g7;have HO7:=Lib.hid h7;have B7:=Lib.hid ((below_new (Below.refl w6.heap.size w6) (.cells #[] 39)).grown g7 (by simp) (fun j hj => ((ItOw.empty w6 (Nat.le_refl _)).lt j hj).1));clear h7 g7)
    have H7:=Lib.hid (H6.out.below B7.out)
    obtain ⟨y0,y1,-,-⟩:=ob_at H7.out.o
    go_upto_region 14 with (at_builtin;refine wp_it_one rfl _ _ rfl rfl HO7.out D k b rfl (by have:=HLN.out;simp <;> omega) B7.out.size ?_;intro v8 w8 h8 g8;have HO8:=Lib.hid h8;have B8:=Lib.hid (HO7.out.bel1 B7.out (Nat.le_refl _) B7.out.size g8);clear h8 g8)
    have H8:=Lib.hid (H6.out.below B8.out)
    have x0:=(st_at H8.out.i).1
    clear y0 y1
    go_upto_region 15 with (at_builtin;refine wp_it_rw rfl _ _ rfl rfl HO8.out _ 0 _ (l.drop A) (HN0.out w8 none).2 rfl (HN0.out w8 _).1 (by have:=HLN.out;simp <;> omega) B8.out.size ?_;intro v9 w9 h9 g9;have HO9:=Lib.hid h9;have B9:=Lib.hid (app_step0 B8.out HO8.out g9 (Nat.le_refl _) B8.out.size);clear h9 g9)
    have H9:=Lib.hid (H6.out.below B9.out)
    have hap:=HO9.out.apart (b:=P) HP6.out
    obtain ⟨q,m,d,rfl,hm,hmd,hqd,-⟩:=HO9.out.rw3
    obtain ⟨q',m',d',he,-,-,-,hr'⟩:=(HO9.out.put (x:=.slice q m d) hap).rw3
    cases he
    have HMM:=Lib.hid hm
    have HRR:=Lib.hid hr'
    obtain ⟨o0,f0⟩:=st_at H9.out.p
    obtain ⟨d0,-⟩:=st_at (st_set (v:=.slice q m d) H9.out.p)
    clear hm hap hr' x0
    go_wp2_with fail
    refine bodyPost_ret (v:=.tuple #[.agg #[.slice q m d],.string D,.int .i64 0]) (by simp [results,Tryz.results13,go_sem,d0]) rfl ⟨⟨q,m,d,by rw [HQ.out.1,HQ.out.2.2];rfl,?_,hmd,hqd,?_⟩,H9.out.bel.setCell (p:=⟨P,0,none⟩) H9.out.hp _⟩
    ·rw [HQ.out.2.1,HMM.out];rfl
    ·rw [HQ.out.2.1]
     exact HRR.out
   ·have hcA2 : ¬ (c : Int) = (A : Int):=by omega
    have HD2 : Hid (∀ w',Below w6.heap.size w6 w' → ItRw w' (some (ad.add (A * 3))) (l.drop A)):=fun w' h => by
     have h1:=HDD.out w' h
     rw [if_neg hcA,Option.map_some] at h1
     exact h1
    clear HDD
    go_upto_region 13 with (at_builtin;refine wp_it_rw rfl _ _ rfl rfl (ItOw.empty w6 (Nat.le_refl _)) _ A _ (l.take A) HTL.out rfl (HT.out.below (below_new (Below.refl _ _) _)) (by have:=HLN.out;simp <;> omega) (by simp) ?_;intro v7 w7 h7 g7;have HO7:=Lib.hid h7;have B7:=Lib.hid ((below_new (Below.refl w6.heap.size w6) (.cells #[] 39)).grown g7 (by simp) (fun j hj => ((ItOw.empty w6 (Nat.le_refl _)).lt j hj).1));clear h7 g7)
    have H7:=Lib.hid (H6.out.below B7.out)
    obtain ⟨y0,y1,-,-⟩:=ob_at H7.out.o
    go_upto_region 14 with (at_builtin;refine wp_it_one rfl _ _ rfl rfl HO7.out D k b rfl (by have:=HLN.out;simp <;> omega) B7.out.size ?_;intro v8 w8 h8 g8;have HO8:=Lib.hid h8;have B8:=Lib.hid (HO7.out.bel1 B7.out (Nat.le_refl _) B7.out.size g8);clear h8 g8)
    have H8:=Lib.hid (H6.out.below B8.out)
    have x0:=(st_at H8.out.i).1
    clear y0 y1
    go_upto_region 15 with (at_builtin;refine wp_it_rw rfl _ _ rfl rfl HO8.out _ (n - A) _ (l.drop A) HDL.out rfl (HD2.out w8 B8.out) (by have:=HLN.out;simp <;> omega) B8.out.size ?_;intro v9 w9 h9 g9;have HO9:=Lib.hid h9;have B9:=Lib.hid (app_step0 B8.out HO8.out g9 (Nat.le_refl _) B8.out.size);clear h9 g9)
    have H9:=Lib.hid (H6.out.below B9.out)
    have hap:=HO9.out.apart (b:=P) HP6.out
    obtain ⟨q,m,d,rfl,hm,hmd,hqd,-⟩:=HO9.out.rw3
    obtain ⟨q',m',d',he,-,-,-,hr'⟩:=(HO9.out.put (x:=.slice q m d) hap).rw3
    cases he
    have HMM:=Lib.hid hm
    have HRR:=Lib.hid hr'
    obtain ⟨o0,f0⟩:=st_at H9.out.p
    obtain ⟨d0,-⟩:=st_at (st_set (v:=.slice q m d) H9.out.p)
    clear hm hap hr' x0
    go_wp2_with fail
    refine bodyPost_ret (v:=.tuple #[.agg #[.slice q m d],.string D,.int .i64 0]) (by simp [results,Tryz.results13,go_sem,d0]) rfl ⟨⟨q,m,d,by rw [HQ.out.1,HQ.out.2.2];rfl,?_,hmd,hqd,?_⟩,H9.out.bel.setCell (p:=⟨P,0,none⟩) H9.out.hp _⟩
    ·rw [HQ.out.2.1,HMM.out];rfl
    ·rw [HQ.out.2.1]
     exact HRR.out
 ·-- found
  have hAn:=hAl rfl
  rw [if_pos rfl,getI_at hAn] at hput
  rw [if_pos rfl] at hpi
  have hAN : A < n:=by rw [HN.out];exact hAn
  have q1 : (A : Int) < (n : Int):=by omega
  obtain ⟨g,o,hpe,hg,-,-,-⟩:=HP.out A hAn
  subst hpe
  obtain ⟨e,he⟩ : ∃ e,e = l[A]:=⟨_,rfl⟩
  rw [← he] at hput
  have HRW : Hid (∀ w',Below w3.heap.size w3 w' → w'.cell? ⟨g,o + A * 3 + 1,none⟩ = some (.int .i64 e.k) ∧ w'.cell? ⟨g,o + A * 3 + 2,none⟩ = some (.string e.b)):=fun w' h => by
   obtain ⟨g',o',h1,-,-,h2,h3⟩:=HP.out.below h A hAn
   simp only [Option.some.injEq,Addr.mk.injEq,and_true] at h1
   obtain ⟨rfl,rfl⟩:=h1
   rw [← he] at h2 h3
   exact ⟨h2,h3⟩
  obtain ⟨xi,xk,xb⟩:=e
  simp only at hput HRW
  clear hAl hAle he hg hAn hAN
  have HK : Hid (PC = (if xk = k ∧ xb = b then 0 else 170)):=hput
  have HPI : Hid (PI = if PC = 0 then l else []):=hpi
  have HPS : Hid (PS = if PC = 0 then D else ⟨#[]⟩):=hps
  clear hput hpi hps
  go_enter Tryz.func13,Tryz.ntmps13
  go_upto_region 1 with fail
  rw [← HW1.out,← HW2.out,← HW3.out,← HP'.out,← HO'.out,← HI.out]
  go_upto_region 4 with (go_at_call 17;((with_reducible refine (HWH.out).mono ?_);rintro e w4 ⟨rfl,hb4⟩;have y0:=cell_bel y0 hb4;have y1:=cell_bel y1 hb4))
  go_upto_region 5 with (go_at_call 16;((with_reducible refine (HID.out _).mono ?_);rintro e w5 ⟨rfl,hb5⟩))
  have HB5:=Lib.hid (hb4.trans (hb5.mono hb4.size))
  have H5:=Lib.hid (HPB.out.below HB5.out)
  have x0:=(st_at H5.out.i).1
  clear hb4 hb5 y0 y1
  go_upto_region 7 with (go_at_call 47;((with_reducible refine (HFD.out _ HB5.out).mono ?_);rintro e w6 ⟨rfl,hb6⟩;have x0:=cell_bel x0 hb6))
  have HB6:=Lib.hid (HB5.out.trans (hb6.mono HB5.out.size))
  have H6:=Lib.hid (H5.out.below hb6)
  obtain ⟨r1,r2⟩:=HRW.out w6 HB6.out
  obtain ⟨o0,o1,-,-⟩:=ob_at H6.out.o
  have k0 : ∀ z : BelW w6,z.w.cell? ⟨I,0,none⟩ = some (.slice (some ⟨g,o,none⟩) n c):=fun z => cell_bel x0 z.h
  have k1 : ∀ z : BelW w6,z.w.cell? ⟨g,o + A * 3 + 1,none⟩ = some (.int .i64 xk):=fun z => cell_bel r1 z.h
  have k2 : ∀ z : BelW w6,z.w.cell? ⟨g,o + A * 3 + 2,none⟩ = some (.string xb):=fun z => cell_bel r2 z.h
  have k3 : ∀ z : BelW w6,z.w.cell? ⟨O,0,none⟩ = some (.int .i64 k):=fun z => cell_bel o0 z.h
  have k4 : ∀ z : BelW w6,z.w.cell? ⟨O,1,none⟩ = some (.string b):=fun z => cell_bel o1 z.h
  have hq : Nonempty (BelW w6):=⟨⟨w6,Below.refl _ _⟩⟩
  have HCS : Hid ((xk = k ∧ xb = b) ∧ ((xk == k) = true ∧ (xb.toList == b.toList) = true) ∨ ¬ (xk = k ∧ xb = b) ∧ ((xk == k) = false ∨ (xk == k) = true ∧ (xb.toList == b.toList) = false)):=by
   by_cases e1 : xk = k
   ·by_cases e2 : xb = b
    ·exact .inl ⟨⟨e1,e2⟩,by simp [e1],by rw [str_dec];exact decide_eq_true e2⟩
    ·exact .inr ⟨fun h => e2 h.2,.inr ⟨by simp [e1],by rw [str_dec];exact decide_eq_false e2⟩⟩
   ·exact .inr ⟨fun h => e1 h.1,.inl (by simp [e1])⟩
  clear x0 r1 r2 o0 o1 hb6
  rcases HCS.out with ⟨hyes,f1,f2⟩ | ⟨hno,f1 | ⟨f1,f2⟩⟩
  ·have HQ : Hid (PC = 0 ∧ PI = l ∧ PS = D):=by
    have h1 : PC = 0:=by rw [HK.out,if_pos hyes]
    exact ⟨h1,by rw [HPI.out,if_pos h1],by rw [HPS.out,if_pos h1]⟩
   have g1 : (xk != k) = false:=by simp only [bne,f1];rfl
   have g2 : (xb.toList != b.toList) = false:=by simp only [bne,f2];rfl
   clear hyes
   refine wp_region_bel (w0:=w6) (Below.refl _ _) (by kernel_rfl) (by kernel_rfl) ?_
   repeat (go_big_quiet_step (fail))
   refine wpQuiet_nil ?_
   rintro _ ⟨z,rfl⟩
   have H7:=Lib.hid (H6.out.below z.h)
   have HB7:=Lib.hid (HB6.out.trans (z.h.mono HB6.out.size))
   obtain ⟨wz,hwz⟩ : ∃ wz,wz = z.w:=⟨_,rfl⟩
   rw [← hwz] at H7 HB7 ⊢
   clear hwz k0 k1 k2 k3 k4 hq z
   have x0:=(st_at H7.out.i).1
   obtain ⟨o0,z0⟩:=st_at H7.out.p
   have H8:=Lib.hid (st_set (v:=.slice (some ⟨g,o,none⟩) n c) H7.out.p)
   obtain ⟨d0,-⟩:=st_at H8.out
   have HRN : Hid (ItRw (wz.setCell ⟨P,0,none⟩ (.slice (some ⟨g,o,none⟩) n c)) (some ⟨g,o,none⟩) l):=(HP.out.below HB7.out).apart (P:=P) (t:=24) (st_row H7.out.p)
   go_wp2_with fail
   refine bodyPost_ret (v:=.tuple #[.agg #[.slice (some ⟨g,o,none⟩) n c],.string D,.int .i64 0]) (by simp [results,Tryz.results13,go_sem,d0]) rfl ⟨⟨_,n,c,by rw [HQ.out.1,HQ.out.2.2];rfl,by rw [HQ.out.2.1];exact HN.out,hnc,HPC.out,by rw [HQ.out.2.1];exact HRN.out⟩,H7.out.bel.setCell (p:=⟨P,0,none⟩) H7.out.hp _⟩
  ·have HQ : Hid (PC = 170 ∧ PI = [] ∧ PS = ⟨#[]⟩):=by
    have h1 : PC = 170:=by rw [HK.out,if_neg hno]
    exact ⟨h1,by rw [HPI.out,h1,if_neg (by decide)],by rw [HPS.out,h1,if_neg (by decide)]⟩
   have g1 : (xk != k) = true:=by simp only [bne,f1];rfl
   clear hno
   refine wp_region_bel (w0:=w6) (Below.refl _ _) (by kernel_rfl) (by kernel_rfl) ?_
   repeat (go_big_quiet_step (fail))
   refine wpQuiet_nil ?_
   rintro _ ⟨z,rfl⟩
   have H7:=Lib.hid (H6.out.below z.h)
   have HB7:=Lib.hid (HB6.out.trans (z.h.mono HB6.out.size))
   obtain ⟨wz,hwz⟩ : ∃ wz,wz = z.w:=⟨_,rfl⟩
   rw [← hwz] at H7 HB7 ⊢
   clear hwz k0 k1 k2 k3 k4 hq z
   have x0:=(st_at H7.out.i).1
   obtain ⟨o0,z0⟩:=st_at H7.out.p
   have H8:=Lib.hid (st_set (v:=.slice none 0 0) H7.out.p)
   obtain ⟨d0,-⟩:=st_at H8.out
   go_wp2_with fail
   refine bodyPost_ret (v:=.tuple #[.agg #[.slice none 0 0],.string ⟨#[]⟩,.int .i64 170]) (by simp [results,Tryz.results13,go_sem,d0]) rfl ⟨⟨none,0,0,by rw [HQ.out.1,HQ.out.2.2];rfl,by rw [HQ.out.2.1];rfl,Nat.le_refl _,fun _ => rfl,by rw [HQ.out.2.1];exact ItRw.nil _ _⟩,H7.out.bel.setCell (p:=⟨P,0,none⟩) H7.out.hp _⟩
  ·have HQ : Hid (PC = 170 ∧ PI = [] ∧ PS = ⟨#[]⟩):=by
    have h1 : PC = 170:=by rw [HK.out,if_neg hno]
    exact ⟨h1,by rw [HPI.out,h1,if_neg (by decide)],by rw [HPS.out,h1,if_neg (by decide)]⟩
   have g1 : (xk != k) = false:=by simp only [bne,f1];rfl
   have g2 : (xb.toList != b.toList) = true:=by simp only [bne,f2];rfl
   clear hno
   refine wp_region_bel (w0:=w6) (Below.refl _ _) (by kernel_rfl) (by kernel_rfl) ?_
   repeat (go_big_quiet_step (fail))
   refine wpQuiet_nil ?_
   rintro _ ⟨z,rfl⟩
   have H7:=Lib.hid (H6.out.below z.h)
   have HB7:=Lib.hid (HB6.out.trans (z.h.mono HB6.out.size))
   obtain ⟨wz,hwz⟩ : ∃ wz,wz = z.w:=⟨_,rfl⟩
   rw [← hwz] at H7 HB7 ⊢
   clear hwz k0 k1 k2 k3 k4 hq z
   have x0:=(st_at H7.out.i).1
   obtain ⟨o0,z0⟩:=st_at H7.out.p
   have H8:=Lib.hid (st_set (v:=.slice none 0 0) H7.out.p)
   obtain ⟨d0,-⟩:=st_at H8.out
   go_wp2_with fail
   refine bodyPost_ret (v:=.tuple #[.agg #[.slice none 0 0],.string ⟨#[]⟩,.int .i64 170]) (by simp [results,Tryz.results13,go_sem,d0]) rfl ⟨⟨none,0,0,by rw [HQ.out.1,HQ.out.2.2];rfl,by rw [HQ.out.2.1];rfl,Nat.le_refl _,fun _ => rfl,by rw [HQ.out.2.1];exact ItRw.nil _ _⟩,H7.out.bel.setCell (p:=⟨P,0,none⟩) H7.out.hp _⟩
end Go.Proofs.YtnoopcenogbjiaaGreatDoor
/-
 The union of two stores, plain.
-/
namespace Go.Proofs.YtnoopcenogbjiaaGreatDoor
open Go Go.RowKit
def okI (e : It) : Prop:=(lnkL e.k e.b.data.toList).1 = 0 ∧ str (idL e.k e.b.data.toList) = e.i
theorem rightI_of {l : List It} (h1 : l.length ≤ 65536) (h2 : SrtI l) (h3 : ∀ e ∈ l,okI e) : rightI l = true:=by
 refine rightI_ok h1 fun k hk => ?_
 obtain ⟨h4,h5⟩:=h3 _ (List.getElem_mem hk)
 unfold badI
 rw [getDI_at hk,h4,h5,decide_eq_true rfl,decide_eq_true rfl]
 by_cases h0 : 0 < k
 ·have h6:=srt_getI h2 (j:=k - 1) (k:=k) (by omega) hk
  rw [getDI_at hk] at h6
  rw [h6]
  simp
 ·rw [decide_eq_false h0]
  rfl
theorem rightI_all {l : List It} (h : rightI l = true) : ∀ e ∈ l,okI e:=fun e he => by
 obtain ⟨k,hk,rfl⟩:=List.getElem_of_mem he
 have:=rightI_at h hk
 rw [getDI_at hk] at this
 exact this
theorem bsN_spec (f : Nat → Bool) : ∀ (d lo hi : Nat),hi - lo ≤ d → lo ≤ hi → (∀ i j,lo ≤ i → i ≤ j → j < hi → f j = true → f i = true) →
  (∀ j,lo ≤ j → j < bsN f lo hi → f j = true) ∧ (∀ j,bsN f lo hi ≤ j → j < hi → f j = false)
 | d,lo,hi,hd,hl,hm => by
  by_cases h : lo < hi
  ·cases d with
   | zero => omega
   | succ d =>
    cases hf : f ((lo + hi) / 2) with
    | true =>
     obtain ⟨h1,h2⟩:=bsN_spec f d ((lo + hi) / 2 + 1) hi (by omega) (by omega) (fun i j a b c e => hm i j (by omega) b c e)
     rw [bsN_up h hf]
     refine ⟨fun j hj hb => ?_,h2⟩
     by_cases hj2 : j ≤ (lo + hi) / 2
     ·exact hm j _ hj hj2 (by omega) hf
     ·exact h1 j (by omega) hb
    | false =>
     obtain ⟨h1,h2⟩:=bsN_spec f d lo ((lo + hi) / 2) (by omega) (by omega) (fun i j a b c e => hm i j a b (by omega) e)
     rw [bsN_dn h hf]
     refine ⟨h1,fun j hj hb => ?_⟩
     by_cases hj2 : j < (lo + hi) / 2
     ·exact h2 j hj hj2
     ·cases hfj : f j with
      | false => rfl
      | true => rw [hm _ j (by omega) (by omega) hb hfj] at hf;cases hf
  ·rw [bsN_end h]
   exact ⟨fun j a b => by omega,fun j a b => by omega⟩
theorem getI_found {l : List It} (h : SrtI l) {e : It} (he : e ∈ l) : getI l e.i = e ∧ getE l e.i = 0:=by
 obtain ⟨k,hk,rfl⟩:=List.getElem_of_mem he
 have e1 : l[k] = l.getD k It.zero:=(getDI_at hk).symm
 have h1 : atI l l[k].i = k:=by rw [e1];exact atI_of h hk
 have h2 : hasI l l[k].i = true:=(hasI_iff h _).mpr ⟨l[k],List.getElem_mem hk,rfl⟩
 exact ⟨by rw [getI,if_pos h2,h1,getDI_at hk],by rw [getE,if_pos h2]⟩
theorem atI_spec {l : List It} (h : SrtI l) (id : ByteArray) : (∀ j,j < atI l id → ltB (l.getD j It.zero).i id = true) ∧ ∀ j,atI l id ≤ j → j < l.length → ltB (l.getD j It.zero).i id = false:=by
 have h1:=bsN_spec (fun m => ltB (l.getD m It.zero).i id) _ 0 l.length (Nat.le_refl _) (Nat.zero_le _) (fun i j _ hij hl hf => by
  rcases Nat.lt_or_ge i j with h1 | h1
  ·exact ltB_trans (srt_getI h h1 hl) hf
  ·obtain rfl : i = j:=by omega
   exact hf)
 exact ⟨fun j hj => h1.1 j (Nat.zero_le _) hj,h1.2⟩
theorem mem_getDI {l : List It} {x : It} (h : x ∈ l) : ∃ j,j < l.length ∧ l.getD j It.zero = x:=by
 obtain ⟨j,hj,e⟩:=List.getElem_of_mem h
 exact ⟨j,hj,by rw [getDI_at hj];exact e⟩
theorem ins_srt {l : List It} (h : SrtI l) {e : It} (hn : hasI l e.i = false) : SrtI (l.take (atI l e.i) ++ e :: l.drop (atI l e.i)):=by
 obtain ⟨s1,s2⟩:=atI_spec h e.i
 have hlt : ∀ x ∈ l.take (atI l e.i),ltB x.i e.i = true:=fun x hx => by
  obtain ⟨j,hj,ej⟩:=mem_getDI hx
  rw [List.length_take] at hj
  have h1:=s1 j (by omega)
  rw [List.getD_eq_getElem?_getD,List.getElem?_take_of_lt (by omega),← List.getD_eq_getElem?_getD] at ej
  rw [ej] at h1
  exact h1
 have hgt : ∀ x ∈ l.drop (atI l e.i),ltB e.i x.i = true:=fun x hx => by
  obtain ⟨j,hj,ej⟩:=mem_getDI hx
  rw [List.length_drop] at hj
  have h1:=s2 (atI l e.i + j) (by omega) (by omega)
  rw [List.getD_eq_getElem?_getD,List.getElem?_drop,← List.getD_eq_getElem?_getD] at ej
  rw [ej] at h1
  have hne : e.i ≠ x.i:=fun e2 => by
   have h3:=(hasI_iff h e.i).mpr ⟨x,List.mem_of_mem_drop hx,e2.symm⟩
   rw [hn] at h3
   cases h3
  rcases ltB_total hne with h2 | h2
  ·exact h2
  ·rw [h1] at h2;cases h2
 have h2 : SrtI (l.take (atI l e.i) ++ l.drop (atI l e.i)):=by rw [List.take_append_drop];exact h
 unfold SrtI at h2 ⊢
 rw [List.pairwise_append] at h2 ⊢
 refine ⟨h2.1,List.pairwise_cons.mpr ⟨fun x hx => hgt x hx,h2.2.1⟩,fun a ha b hb => ?_⟩
 rcases List.mem_cons.mp hb with rfl | hb
 ·exact hlt a ha
 ·exact h2.2.2 a ha b hb
theorem mem_ins (l : List It) (n : Nat) (e x : It) : x ∈ l.take n ++ e :: l.drop n ↔ x ∈ l ∨ x = e:=by
 conv => rhs;rw [← List.take_append_drop n l]
 simp only [List.mem_append,List.mem_cons]
 constructor
 ·rintro (h | h | h)
  ·exact .inl (.inl h)
  ·exact .inr h
  ·exact .inl (.inr h)
 ·rintro ((h | h) | h)
  ·exact .inl h
  ·exact .inr (.inr h)
  ·exact .inr (.inl h)
theorem putI_keeps {l : List It} {k : Int} {b : ByteArray} (h : rightI l = true) (hl : l.length < 65536) (hc : putC l k b = 0) :
  rightI (putI l k b) = true ∧ (putI l k b).length ≤ l.length + 1 ∧ (∀ e ∈ l,e ∈ putI l k b) ∧ It.mk (putD k b) k b ∈ putI l k b:=by
 have hs:=rightI_srt h
 have hw : (lnkL k b.data.toList).1 = 0:=by
  unfold putC at hc
  by_cases e : (lnkL k b.data.toList).1 = 0
  ·exact e
  ·rw [if_neg e] at hc;exact absurd hc e
 by_cases hh : hasI l (putD k b) = true
 ·have hp : putI l k b = l:=by rw [putI,if_pos hc,if_pos hh]
  rw [hp]
  refine ⟨h,by omega,fun e he => he,?_⟩
  unfold putC at hc
  rw [if_pos hw,if_pos hh] at hc
  have hk : (l.getD (atI l (putD k b)) It.zero).k = k ∧ (l.getD (atI l (putD k b)) It.zero).b = b:=by
   by_cases e : (l.getD (atI l (putD k b)) It.zero).k = k ∧ (l.getD (atI l (putD k b)) It.zero).b = b
   ·exact e
   ·rw [if_neg e] at hc;cases hc
  unfold hasI at hh
  rw [Bool.and_eq_true,decide_eq_true_eq,decide_eq_true_eq] at hh
  have e1 : l.getD (atI l (putD k b)) It.zero = It.mk (putD k b) k b:=by
   obtain ⟨x,hx⟩ : ∃ x,x = l.getD (atI l (putD k b)) It.zero:=⟨_,rfl⟩
   rw [← hx] at hh hk ⊢
   obtain ⟨xi,xk,xb⟩:=x
   simp only at hh hk
   rw [hh.2,hk.1,hk.2]
  rw [← e1,getDI_at hh.1]
  exact List.getElem_mem hh.1
 ·have hf : hasI l (putD k b) = false:=by simpa using hh
  have hp : putI l k b = l.take (atI l (putD k b)) ++ ⟨putD k b,k,b⟩ :: l.drop (atI l (putD k b)):=by rw [putI,if_pos hc,if_neg hh]
  rw [hp]
  have hlen : (l.take (atI l (putD k b)) ++ It.mk (putD k b) k b :: l.drop (atI l (putD k b))).length ≤ l.length + 1:=by
   have:=atI_le l (putD k b)
   simp
   omega
  refine ⟨rightI_of (by omega) (ins_srt hs (e:=⟨putD k b,k,b⟩) hf) fun e he => ?_,hlen,fun e he => (mem_ins _ _ _ _).mpr (.inl he),(mem_ins _ _ _ _).mpr (.inr rfl)⟩
  rcases (mem_ins _ _ _ _).mp he with h1 | rfl
  ·exact rightI_all h e h1
  ·exact ⟨hw,rfl⟩
theorem putC_cases {l : List It} {k : Int} {b : ByteArray} (hl : l.length < 65536) : putC l k b = 0 ∧ (lnkL k b.data.toList).1 = 0 ∨ putC l k b = 170 ∧ (lnkL k b.data.toList).1 = 0 ∨ putC l k b = (lnkL k b.data.toList).1 ∧ (lnkL k b.data.toList).1 ≠ 0:=by
 by_cases h : (lnkL k b.data.toList).1 = 0
 ·unfold putC
  rw [if_pos h]
  by_cases h2 : hasI l (putD k b) = true
  ·rw [if_pos h2]
   by_cases h3 : (l.getD (atI l (putD k b)) It.zero).k = k ∧ (l.getD (atI l (putD k b)) It.zero).b = b
   ·rw [if_pos h3];exact .inl ⟨rfl,h⟩
   ·rw [if_neg h3];exact .inr (.inl ⟨rfl,h⟩)
  ·rw [if_neg h2,if_neg (by omega)];exact .inl ⟨rfl,h⟩
 ·exact .inr (.inr ⟨by unfold putC;rw [if_neg h],h⟩)
structure Ob where
 k : Int
 b : ByteArray
structure KeepI (first s : List It) (l : List Ob) (n : Nat) : Prop where
 r : rightI s = true
 len : s.length ≤ 80 + n
 old : ∀ e ∈ first,e ∈ s
 new : ∀ i (h : i < l.length),i < n → (lnkL l[i].k l[i].b.data.toList).1 = 0 → It.mk (putD l[i].k l[i].b) l[i].k l[i].b ∈ s
 sz : ∀ e ∈ s,e.b.size ≤ 4000
 ob : ∀ i (h : i < l.length),i < n → l[i].b.size ≤ 4000
theorem KeepI.start {first : List It} (h : SmI first) (l : List Ob) : KeepI first first l 0:=⟨h.1,h.2.1,fun e he => he,fun i _ hi => absurd hi (Nat.not_lt_zero _),h.2.2,fun i _ hi => absurd hi (Nat.not_lt_zero _)⟩
theorem KeepI.put {first s : List It} {l : List Ob} {n : Nat} (h : KeepI first s l n) (hn : n < l.length) (hn2 : n ≤ 1000) (hb : l[n].b.size ≤ 4000) (hc : putC s l[n].k l[n].b = 0) : KeepI first (putI s l[n].k l[n].b) l (n + 1):=by
 obtain ⟨h1,h2,h3,h4⟩:=putI_keeps h.r (by have:=h.len;omega) hc
 refine ⟨h1,by have:=h.len;omega,fun e he => h3 e (h.old e he),fun i hi hin hw => ?_,fun e he => ?_,fun i hi hin => ?_⟩
 ·by_cases e : i = n
  ·subst e;exact h4
  ·exact h3 _ (h.new i hi (by omega) hw)
 ·unfold putI at he
  rw [if_pos hc] at he
  by_cases hh : hasI s (putD l[n].k l[n].b) = true
  ·rw [if_pos hh] at he;exact h.sz e he
  ·rw [if_neg hh] at he
   rcases (mem_ins _ _ _ _).mp he with h5 | rfl
   ·exact h.sz e h5
   ·exact hb
 ·by_cases e : i = n
  ·subst e;exact hb
  ·exact h.ob i hi (by omega)
theorem KeepI.skip {first s : List It} {l : List Ob} {n : Nat} (h : KeepI first s l n) (hn : n < l.length) (hb : l[n].b.size ≤ 4000) (hc : (lnkL l[n].k l[n].b.data.toList).1 ≠ 0) : KeepI first s l (n + 1) :=
 ⟨h.r,by have:=h.len;omega,h.old,fun i hi hin hw => by
  by_cases e : i = n
  ·subst e;exact absurd hw hc
  ·exact h.new i hi (by omega) hw,h.sz,fun i hi hin => by
  by_cases e : i = n
  ·subst e;exact hb
  ·exact h.ob i hi (by omega)⟩
end Go.Proofs.YtnoopcenogbjiaaGreatDoor
