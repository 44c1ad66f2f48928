/-
 What the reference's CheckTag and Check look at, plain.
-/
import Derived.Test.YtnoopcenogbjiaaGreatDoorCmIdsPk
import Derived.Test.YtnoopcenogbjiaaGreatDoorCmParsePk
import Derived.Test.YtnoopcenogbjiaaGreatDoorCmRFindPk
import Derived.Test.YtnoopcenogbjiaaGreatDoorCmAnyPk
import Derived.Test.YtnoopcenogbjiaaGreatDoorIdRDigit
import Derived.Test.YtnoopcenogbjiaaGreatDoorLawPostPk
import Derived.BigQuiet
import Derived.Deep.QuietTactic
set_option linter.unusedVariables false
set_option linter.unusedSimpArgs false
namespace Go.Proofs.YtnoopcenogbjiaaGreatDoor
open Go Go.RowKit
def lowB (l:List UInt8):Bool:=l.any fun b=>decide (b.toNat≤32)
theorem lowB_all (l:List UInt8):(l.all fun b=>decide (33≤b.toNat))=!(lowB l):=by
 unfold lowB
 induction l with
 | nil=>rfl
 | cons b l ih =>
  rw [List.all_cons,List.any_cons,ih,Bool.not_or]
  by_cases h:b.toNat≤32
  ·rw [decide_eq_true h,decide_eq_false (show ¬ 33≤b.toNat by omega)];rfl
  ·rw [decide_eq_false h,decide_eq_true (show 33≤b.toNat by omega)];rfl
theorem tagN_low (l:List UInt8):tagN l=!(decide (l.length<1)||(decide (64<l.length)||lowB l)):=by
 rw [tagN,lowB_all]
 cases l with
 | nil=>rfl
 | cons b l =>
  rw [decide_eq_true (show b::l≠[] by simp),decide_eq_false (show ¬ (b::l).length<1 by simp)]
  by_cases h:(b::l).length≤64
  ·rw [decide_eq_true h,decide_eq_false (show ¬ 64<(b::l).length by omega)];simp
  ·rw [decide_eq_false h,decide_eq_true (show 64<(b::l).length by omega)];simp
def badG (b1:Bool) (k:Int) (n:Nat) (b4 z:Bool):Bool:=!b1||(decide (k<1)||(decide (4<k)||(decide (n<1)||(decide (64<n)||(!b4||z)))))
theorem okG_bad (g:Tg):okG g=!(badG (isId g.o) g.k g.n.size (okPn g.g) (g.x.data.toList.any fun b=>b==0)||lowB g.n.data.toList):=by
 have hk:decide (wordL g.k≠[])=!(decide (g.k<1)||decide (4<g.k)):=by
  rw [Bool.eq_iff_iff]
  simp only [decide_eq_true_eq,ne_eq,wordL_nil,Bool.not_eq_true',Bool.or_eq_false_iff,decide_eq_false_iff_not]
  omega
 rw [okG,hk,tagN_low,noZ,badG,list_len]
 generalize isId g.o=a1
 generalize decide (g.k<1)=a2
 generalize decide (4<g.k)=a3
 generalize decide (g.n.size<1)=a4
 generalize decide (64<g.n.size)=a5
 generalize lowB g.n.data.toList=a6
 generalize okPn g.g=a7
 generalize (g.x.data.toList.any fun b=>b==0)=a8
 cases a1<;>cases a2<;>cases a3<;>cases a4<;>cases a5<;>cases a6<;>cases a7<;>cases a8<;>rfl
theorem chkG_bad (g:Tg):chkG g=if (badG (isId g.o) g.k g.n.size (okPn g.g) (g.x.data.toList.any fun b=>b==0)||lowB g.n.data.toList)=true then 1 else if 4096<g.x.size then 4 else 0:=by
 rw [chkG,okG_bad]
 cases (badG (isId g.o) g.k g.n.size (okPn g.g) (g.x.data.toList.any fun b=>b==0)||lowB g.n.data.toList)<;>rfl
theorem lowB_next (s:ByteArray) (k:Nat) (h:k<s.size):lowB (s.data.toList.take (k+1))=(lowB (s.data.toList.take k)||decide (s[k].toNat≤32)):=by
 have hl:k<s.data.toList.length:=by rw [list_len];exact h
 have e:s.data.toList[k]=s[k]:=rfl
 rw [List.take_succ_eq_append_getElem hl,lowB,lowB,List.any_append,List.any_cons,List.any_nil,Bool.or_false,e]
def badC (b1 b3 b4 z:Bool):Bool:=!b1||(!b3||(!b4||z))
theorem chkC_bad (c:Cm):chkC c=if (badC (isId c.t) (okPn c.a) (okPn c.c) (c.x.data.toList.any fun b=>b==0)||!(allId c.ps))=true then 1 else if 4096<c.x.size∨8<c.ps.length then 4 else if c.ps.Nodup then 0 else 6:=by
 have ho:okC c=!(badC (isId c.t) (okPn c.a) (okPn c.c) (c.x.data.toList.any fun b=>b==0)||!(allId c.ps)):=by
  rw [okC,noZ,badC]
  cases isId c.t<;>cases allId c.ps<;>cases okPn c.a<;>cases okPn c.c<;>cases (c.x.data.toList.any fun b=>b==0)<;>rfl
 rw [chkC,ho]
 cases (badC (isId c.t) (okPn c.a) (okPn c.c) (c.x.data.toList.any fun b=>b==0)||!(allId c.ps))<;>rfl
theorem allId_next {l:List (List UInt8)} {k:Nat} (h:k<l.length):allId (l.take (k+1))=(allId (l.take k)&&isId (str l[k])):=by
 rw [List.take_succ_eq_append_getElem h,allId,allId,List.all_append,List.all_cons,List.all_nil,Bool.and_true]
theorem nodup_next {l:List (List UInt8)} {k:Nat} (h:k<l.length) (hn:(l.take k).Nodup) (hx:l[k]∉l.take k):(l.take (k+1)).Nodup:=by
 rw [List.take_succ_eq_append_getElem h,List.nodup_append]
 refine ⟨hn,by simp,fun a ha b hb e=>?_⟩
 rw [List.mem_singleton] at hb
 exact hx (by rw [←hb,←e];exact ha)
theorem nodup_not {l:List (List UInt8)} {i k:Nat} (hi:i<l.length) (hk:k<i) (he:l[i]=l[k]'(by omega)):¬ l.Nodup:=fun h=>by
 have:=(List.nodup_iff_pairwise_ne.mp h)
 have h2:=List.pairwise_iff_getElem.mp this k i (by omega) hi hk
 exact h2 he.symm
theorem notin_next {l:List (List UInt8)} {x:List UInt8} {k:Nat} (h:k<l.length) (hn:x∉l.take k) (hx:x≠l[k]):x∉l.take (k+1):=by
 rw [List.take_succ_eq_append_getElem h,List.mem_append,List.mem_singleton]
 exact fun e=>e.elim hn hx
set_option maxHeartbeats 2000000 in
set_option maxRecDepth 4000 in
theorem rnum_any (n:Nat) (w:World) (hn:n≤1000000000000000000) :
  Calls Tryz.prog 102 #[.int .i64 (n:Int)] w fun e w'=>e=.returned (.string (str (Lib.decDigits n)))∧Below w.heap.size w w':=by
 obtain ⟨R,hR⟩:∃ R,R=Lib.decDigits n:=⟨_,rfl⟩
 rw [←hR]
 have HR:Hid (R=Lib.decDigits n++(⟨#[]⟩:ByteArray).data.toList):=by show _=_;rw [hR];simp
 clear hR
 go_enter Tryz.func102,Tryz.ntmps102
 go_wp2
 go_loopw [0,3] (fun iv sv wr=>∃ (k:Nat) (s:ByteArray),k≤n∧s.size+k≤2000000000000000000∧iv=.int .i64 (k:Int)∧sv=.string s∧Hid (R=Lib.decDigits k++s.data.toList)∧Hid (Below w.heap.size w wr)) (fun iv _ _=>(intOf iv).toNat)
 case atStart=>exact ⟨n,⟨#[]⟩,Nat.le_refl _,by show 0+n≤_;omega,rfl,rfl,HR.out,Below.refl _ _⟩
 case round =>
  clear HR
  obtain ⟨k,s,hk,hs,rfl,rfl,HR,HB⟩:=hrel
  obtain ⟨d,hd⟩:∃ d,d=k%10:=⟨_,rfl⟩
  obtain ⟨k2,hk2⟩:∃ k2,k2=k / 10:=⟨_,rfl⟩
  obtain ⟨T,hT⟩:∃ T,T=str [UInt8.ofNat (48+d)]:=⟨_,rfl⟩
  have HT1:T.size=1:=by rw [hT,str_size];rfl
  have hcv:=conv_one (P:=Tryz.prog) wr (48+(d:Int)) (48+d) (by omega) (by omega) 131 9 5 5 1 Tryz.underlying131 Tryz.underlying5 Tryz.underlying9
  rw [←hT] at hcv
  have e5:IntKind.u8.wrap (48+(d:Int))=48+(d:Int):=IntWalk.u8_in _ (by omega)
  have hB2:Hid (Below w.heap.size w (wr.alloc (.cells #[.int .u8 (48+(d:Int))] 5))):=HB.out.alloc HB.out.size _
  by_cases h10:k<10
  ·have HX:Hid (R=(T++s).data.toList):=by
    show _=_
    rw [HR.out,Lib.decDigits_one h10,app_list,hT,hd,show k%10=k by omega]
    rfl
   obtain rfl:d=k:=by omega
   clear hd hk2 hT HR HB
   go_wp2
   go_ret
   exact ⟨by rw [HX.out];rfl,hB2.out⟩
  ·have HX:Hid (R=Lib.decDigits k2++(T++s).data.toList):=by
    show _=_
    rw [HR.out,decDigits_big h10,app_list,hT,hd,hk2]
    simp [str]
   have e1:(k:Int)%10=(d:Int):=by omega
   have e2:(k:Int) / 10=(k2:Int):=by omega
   have hk2n:k2≤n∧k2<k:=by omega
   have hsz:(T++s).size+k2≤2000000000000000000:=by rw [ByteArray.size_append,HT1];omega
   clear hd hk2 hT HR HB
   go_wp2
   go_roundw
   case rel=>exact ⟨k2,T++s,hk2n.1,hsz,rfl,rfl,HX.out,hB2.out⟩
   case measure=>simp [intOf];omega
set_option maxHeartbeats 8000000 in
set_option maxRecDepth 8000 in
theorem rfmt_any (p:Pn) (w:World) (hn:p.n.size≤140737488355328) (hm:p.m.size≤140737488355328) (ht0:0≤p.t) (ht:p.t≤1099511627776) (hz:p.z.natAbs<6000) :
  Calls Tryz.prog 71 #[.agg #[.string p.n,.string p.m,.int .i64 p.t,.int .i64 p.z]] w fun e w'=>e=.returned (.string (whoL p))∧Below w.heap.size w w':=by
 obtain ⟨n,m,t,z⟩:=p
 simp only at hn hm ht0 ht hz ⊢
 obtain ⟨T,rfl⟩:∃ T:Nat,t=(T:Int):=⟨t.toNat,by omega⟩
 obtain ⟨R,hR⟩:∃ R,R=whoL ⟨n,m,(T:Int),z⟩:=⟨_,rfl⟩
 rw [←hR]
 obtain ⟨a,ha⟩:∃ a,a=str (Lib.decDigits T):=⟨_,rfl⟩
 have hsa:a.size≤19:=by
  have:=itoa_len (n:=(T:Int)) (by omega) (by omega)
  rw [Lib.itoa,if_neg (by omega),Int.toNat_natCast] at this
  rw [ha]
  exact this
 obtain ⟨k,hk⟩:∃ k,k=z.natAbs:=⟨_,rfl⟩
 obtain ⟨sg,hsg⟩:∃ sg:ByteArray,sg=if z<0 then ⟨#[45]⟩ else ⟨#[43]⟩:=⟨_,rfl⟩
 obtain ⟨q1,h1⟩:∃ q,q=k / 600:=⟨_,rfl⟩
 obtain ⟨q5,h5⟩:∃ q,q=k / 60:=⟨_,rfl⟩
 obtain ⟨q2,h2⟩:∃ q,q=q5%10:=⟨_,rfl⟩
 obtain ⟨q6,h6⟩:∃ q,q=k%60:=⟨_,rfl⟩
 obtain ⟨q3,h3⟩:∃ q,q=q6 / 10:=⟨_,rfl⟩
 obtain ⟨q4,h4⟩:∃ q,q=k%10:=⟨_,rfl⟩
 obtain ⟨zb,hzb⟩:∃ zb,zb=str [UInt8.ofNat (48+q1),UInt8.ofNat (48+q2),UInt8.ofNat (48+q3),UInt8.ofNat (48+q4)]:=⟨_,rfl⟩
 have hzs:zb.size=4:=by rw [hzb];rfl
 have hss:sg.size=1:=by rw [hsg];split<;>rfl
 have HR:Hid (n++⟨#[32,60]⟩++m++⟨#[62,32]⟩++a++⟨#[32]⟩++sg++zb=R):=by
  show _=_
  rw [hR]
  refine ba_ext ?_
  unfold whoL
  have hd:Lib.itoa (T:Int)=Lib.decDigits T:=by rw [Lib.itoa,if_neg (by omega),Int.toNat_natCast]
  have hzl:sg.data.toList++zb.data.toList=zonL z:=by
   unfold zonL
   rw [hsg,hzb,str_list,←hk]
   have e1:k / 60 / 10=q1:=by omega
   have e2:k / 60%10=q2:=by omega
   have e3:k%60 / 10=q3:=by omega
   have e4:k%60%10=q4:=by omega
   rw [e1,e2,e3,e4]
   split<;>rfl
  simp only [app_list,ha,str_list,hd,←hzl,List.append_assoc]
 have d1:q1<10:=by omega
 have d2:q2<10:=by omega
 have d3:q3<10:=by omega
 have d4:q4<10:=by omega
 have e1:IntKind.u8.wrap (48+(q1:Int))=48+(q1:Int):=IntWalk.u8_in _ (by omega)
 have e2:IntKind.u8.wrap (48+(q2:Int))=48+(q2:Int):=IntWalk.u8_in _ (by omega)
 have e3:IntKind.u8.wrap (48+(q3:Int))=48+(q3:Int):=IntWalk.u8_in _ (by omega)
 have e4:IntKind.u8.wrap (48+(q4:Int))=48+(q4:Int):=IntWalk.u8_in _ (by omega)
 have i1:(k:Int) / 600=(q1:Int):=by omega
 have i5:(k:Int) / 60=(q5:Int):=by omega
 have i2:(q5:Int)%10=(q2:Int):=by omega
 have i6:(k:Int)%60=(q6:Int):=by omega
 have i3:(q6:Int) / 10=(q3:Int):=by omega
 have i4:(k:Int)%10=(q4:Int):=by omega
 have hx:=heap_alloc_new w (.cells #[.string n,.string m,.int .i64 (T:Int),.int .i64 z] 61)
 have hbx:Below w.heap.size w (w.alloc (.cells #[.string n,.string m,.int .i64 (T:Int),.int .i64 z] 61)):=below_new (Below.refl _ _) _
 obtain ⟨w1,hw1⟩:∃ w1,w1=w.alloc (.cells #[.string n,.string m,.int .i64 (T:Int),.int .i64 z] 61):=⟨_,rfl⟩
 have HW1:=Lib.hid hw1
 rw [←hw1] at hx hbx
 have HBX:=Lib.hid hbx
 have HX:=Lib.hid hx
 have k3:∀ x:BelW w1,x.w.cell? ⟨w.heap.size,3,none⟩=some (.int .i64 z):=fun x=>cell_bel (cell_of_row w1 _ 3 _ _ _ hx) x.h
 have HNM:=Lib.hid (fun w'=>rnum_any T w' (by omega))
 rw [←ha] at HNM
 have HZB:=Lib.hid hzb
 have hk6:k<6000:=by omega
 have hcv:∀ w',(convert 131 9 (.slice (some ⟨(w':World).heap.size,0,none⟩) 4 4)).run Tryz.prog (w'.alloc (.cells #[.int .u8 (48+(q1:Int)),.int .u8 (48+(q2:Int)),.int .u8 (48+(q3:Int)),.int .u8 (48+(q4:Int))] 5))=.ok (.string zb) (w'.alloc (.cells #[.int .u8 (48+(q1:Int)),.int .u8 (48+(q2:Int)),.int .u8 (48+(q3:Int)),.int .u8 (48+(q4:Int))] 5)):=fun w'=>by
  rw [hzb]
  refine conv_cells w' _ 4 [UInt8.ofNat (48+q1),UInt8.ofNat (48+q2),UInt8.ofNat (48+q3),UInt8.ofNat (48+q4)] ?_ rfl 131 9 5 5 4 Tryz.underlying131 Tryz.underlying5 Tryz.underlying9
  simp only [bcells,List.map_cons,List.map_nil,u8nat (show 48+q1<256 by omega),u8nat (show 48+q2<256 by omega),u8nat (show 48+q3<256 by omega),u8nat (show 48+q4<256 by omega)]
  rfl
 have HCV:=Lib.hid hcv
 have hq:Nonempty (BelW w1):=⟨⟨w1,Below.refl _ _⟩⟩
 have hzk:z=(k:Int)∨z=-(k:Int):=by omega
 have hpos:0≤z→z=(k:Int):=fun h=>by omega
 have hneg:z<0→z=-(k:Int)∧0<k:=fun h=>by omega
 clear hR ha hk h1 h2 h3 h4 h5 h6 hzb hw1 hx hbx hzk hcv
 go_enter Tryz.func71,Tryz.ntmps71
 go_upto_region 1 with fail
 rw [←HW1.out]
 refine wp_region_bel (w0:=w1) (Below.refl _ _) (by kernel_rfl) (by kernel_rfl) ?_
 repeat (go_big_quiet_step (fail))
 refine wpQuiet_nil ?_
 rintro _ ⟨x,rfl⟩
 have HXB:=Lib.hid x.h
 obtain ⟨wx,hwx⟩:∃ wx,wx=x.w:=⟨_,rfl⟩
 rw [←hwx] at HXB ⊢
 clear hwx k3 hq
 clear x
 have hcx:=HCV.out wx
 by_cases hn0:z<0
 ·obtain ⟨rfl,hk0⟩:=hneg hn0
  have hs45:sg=⟨#[45]⟩:=by rw [hsg,if_pos hn0]
  subst hs45
  have g0:decide (-(k:Int)<0)=true:=decide_eq_true (by omega)
  have g1:-(-(k:Int))=(k:Int):=by omega
  clear hsg hneg hpos hn0
  go_upto_region 5 with fail
  obtain ⟨w5,hw5⟩:∃ w5,w5=wx.alloc (.cells #[.int .u8 (48+(q1:Int)),.int .u8 (48+(q2:Int)),.int .u8 (48+(q3:Int)),.int .u8 (48+(q4:Int))] 5):=⟨_,rfl⟩
  have hb5:Below w1.heap.size w1 w5:=HXB.out.trans (by rw [hw5];exact (below_new (Below.refl _ _) _).mono HXB.out.size)
  rw [←hw5]
  have hr5:=(hb5.block _ (row_lt HX.out)).trans HX.out
  have c0:∀ y:BelW w5,y.w.cell? ⟨w.heap.size,0,none⟩=some (.string n):=fun y=>cell_bel (cell_of_row w5 _ 0 _ _ _ hr5) y.h
  have c1:∀ y:BelW w5,y.w.cell? ⟨w.heap.size,1,none⟩=some (.string m):=fun y=>cell_bel (cell_of_row w5 _ 1 _ _ _ hr5) y.h
  have c2:∀ y:BelW w5,y.w.cell? ⟨w.heap.size,2,none⟩=some (.int .i64 (T:Int)):=fun y=>cell_bel (cell_of_row w5 _ 2 _ _ _ hr5) y.h
  have HN5:Hid (∀ y:BelW w5,Calls Tryz.prog 102 #[.int .i64 (T:Int)] y.w fun e w''=>e=.returned (.string a)∧∃ z:BelW w5,w''=z.w):=fun y=>Calls.bel_class (HNM.out y.w)
  have HB5:=Lib.hid hb5
  have hq:Nonempty (BelW w5):=⟨⟨w5,Below.refl _ _⟩⟩
  clear hw5 hb5 hr5 hcx
  refine wp_region_bel (w0:=w5) (Below.refl _ _) (by kernel_rfl) (by kernel_rfl) ?_
  repeat (go_big_quiet_step (first|(go_at_call 102;(with_reducible exact HN5.out _))))
  refine wpQuiet_nil ?_
  rintro _ ⟨y,rfl⟩
  have HY:=Lib.hid y.h
  obtain ⟨wy,hwy⟩:∃ wy,wy=y.w:=⟨_,rfl⟩
  rw [←hwy] at HY ⊢
  clear hwy c0 c1 c2 hq
  clear y
  go_wp2_with fail
  go_ret
  exact ⟨by rw [←HR.out];rfl,HBX.out.trans ((HB5.out.trans (HY.out.mono HB5.out.size)).mono HBX.out.size)⟩
 ·obtain rfl:=hpos (by omega)
  have hs43:sg=⟨#[43]⟩:=by rw [hsg,if_neg hn0]
  subst hs43
  have g0:decide ((k:Int)<0)=false:=decide_eq_false (by omega)
  clear hsg hneg hpos hn0
  go_upto_region 5 with fail
  obtain ⟨w5,hw5⟩:∃ w5,w5=wx.alloc (.cells #[.int .u8 (48+(q1:Int)),.int .u8 (48+(q2:Int)),.int .u8 (48+(q3:Int)),.int .u8 (48+(q4:Int))] 5):=⟨_,rfl⟩
  have hb5:Below w1.heap.size w1 w5:=HXB.out.trans (by rw [hw5];exact (below_new (Below.refl _ _) _).mono HXB.out.size)
  rw [←hw5]
  have hr5:=(hb5.block _ (row_lt HX.out)).trans HX.out
  have c0:∀ y:BelW w5,y.w.cell? ⟨w.heap.size,0,none⟩=some (.string n):=fun y=>cell_bel (cell_of_row w5 _ 0 _ _ _ hr5) y.h
  have c1:∀ y:BelW w5,y.w.cell? ⟨w.heap.size,1,none⟩=some (.string m):=fun y=>cell_bel (cell_of_row w5 _ 1 _ _ _ hr5) y.h
  have c2:∀ y:BelW w5,y.w.cell? ⟨w.heap.size,2,none⟩=some (.int .i64 (T:Int)):=fun y=>cell_bel (cell_of_row w5 _ 2 _ _ _ hr5) y.h
  have HN5:Hid (∀ y:BelW w5,Calls Tryz.prog 102 #[.int .i64 (T:Int)] y.w fun e w''=>e=.returned (.string a)∧∃ z:BelW w5,w''=z.w):=fun y=>Calls.bel_class (HNM.out y.w)
  have HB5:=Lib.hid hb5
  have hq:Nonempty (BelW w5):=⟨⟨w5,Below.refl _ _⟩⟩
  clear hw5 hb5 hr5 hcx
  refine wp_region_bel (w0:=w5) (Below.refl _ _) (by kernel_rfl) (by kernel_rfl) ?_
  repeat (go_big_quiet_step (first|(go_at_call 102;(with_reducible exact HN5.out _))))
  refine wpQuiet_nil ?_
  rintro _ ⟨y,rfl⟩
  have HY:=Lib.hid y.h
  obtain ⟨wy,hwy⟩:∃ wy,wy=y.w:=⟨_,rfl⟩
  rw [←hwy] at HY ⊢
  clear hwy c0 c1 c2 hq
  clear y
  go_wp2_with fail
  go_ret
  exact ⟨by rw [←HR.out];rfl,HBX.out.trans ((HB5.out.trans (HY.out.mono HB5.out.size)).mono HBX.out.size)⟩
theorem any_drop (s:ByteArray) (k:Nat) (h:k<s.size):((s.data.toList.drop k).any fun b=>b==0)=((s[k]==0)||((s.data.toList.drop (k+1)).any fun b=>b==0)):=by
 rw [drop_byte s k h,List.any_cons]
set_option maxHeartbeats 1000000 in
set_option maxRecDepth 4000 in
theorem rzero_any (s:ByteArray) (w:World) (hs:s.size≤140737488355328):Calls Tryz.prog 101 #[.string s] w fun e w'=>e=.returned (.bool (s.data.toList.any fun b=>b==0))∧Below w.heap.size w w':=by
 obtain ⟨R,hR⟩:∃ R,R=(s.data.toList.any fun b=>b==0):=⟨_,rfl⟩
 rw [←hR]
 have HR0:Hid (R=((s.data.toList.drop 0).any fun b=>b==0)):=hR
 clear hR
 go_enter Tryz.func101,Tryz.ntmps101
 go_wp2
 go_loopw [3] (fun iv wr=>∃ k:Nat,k≤s.size∧iv=.int .i64 (k:Int)∧Hid (R=((s.data.toList.drop k).any fun b=>b==0))∧Hid (Below w.heap.size w wr)) (fun iv _=>s.size-(intOf iv).toNat)
 case atStart=>exact ⟨0,by omega,rfl,HR0.out,Below.refl _ _⟩
 case round =>
  clear HR0
  obtain ⟨k,hk,rfl,HR,HB⟩:=hrel
  by_cases hlt:k<s.size
  ·have hd:=HR.out
   rw [any_drop s k hlt] at hd
   by_cases h0:s[k]=0
   ·have HX:Hid (R=true):=by show _=_;rw [hd,h0];rfl
    have hb:((s[k].toNat:Int)==0)=true:=by rw [h0];rfl
    clear hd h0
    go_wp2_with fail
    go_ret
    exact ⟨by rw [HX.out];rfl,HB.out⟩
   ·have hn:(s[k]==0)=false:=beq_eq_false_iff_ne.mpr h0
    have HX:Hid (R=((s.data.toList.drop (k+1)).any fun b=>b==0)):=by show _=_;rw [hd,hn,Bool.false_or]
    have hb:((s[k].toNat:Int)==0)=false:=by
     rw [beq_eq_false_iff_ne]
     intro e
     exact h0 (by
      have h1:s[k].toNat=0:=by omega
      exact UInt8.toNat_inj.mp h1)
    clear hd h0 hn
    go_wp2_with fail
    go_roundw
    case rel=>exact ⟨k+1,by omega,by go_num,HX.out,HB.out⟩
    case measure=>simp [intOf];omega
  ·have HX:Hid (R=false):=by show _=_;rw [HR.out,drop_none s k (by omega)];rfl
   go_wp2_with fail
   go_ret
   exact ⟨by rw [HX.out];rfl,HB.out⟩
end Go.Proofs.YtnoopcenogbjiaaGreatDoor
/-
 The walks of the reference's CheckTag and TagBody.
-/
namespace Go.Proofs.YtnoopcenogbjiaaGreatDoor
open Go Go.RowKit Go.Maps Go.WideMaps
set_option maxHeartbeats 4000000 in
set_option maxRecDepth 4000 in
theorem rgcheck_any (g:Tg) (w:World)
  (hs:g.o.size≤140737488355328∧g.n.size≤140737488355328∧g.g.n.size≤140737488355328∧g.g.m.size≤140737488355328∧g.x.size≤140737488355328) :
  Calls Tryz.prog 90 #[.agg #[.string g.o,.int .i64 g.k,.string g.n,.string g.g.n,.string g.g.m,.int .i64 g.g.t,.int .i64 g.g.z,.string g.x]] w
   fun e w'=>e=.returned (.int .i64 (chkG g:Int))∧Below w.heap.size w w':=by
 obtain ⟨R,hR⟩:∃ R,R=chkG g:=⟨_,rfl⟩
 rw [←hR]
 rw [chkG_bad] at hR
 obtain ⟨t,k,n,⟨an,am,aT,az⟩,x⟩:=g
 simp only at *
 obtain ⟨hs1,hs2,hs3,hs4,hs5⟩:=hs
 obtain ⟨b1,hb1⟩:∃ b,b=isId t:=⟨_,rfl⟩
 obtain ⟨b4,hb4⟩:∃ b,b=okPn ⟨an,am,aT,az⟩:=⟨_,rfl⟩
 obtain ⟨z,hz⟩:∃ b,b=x.data.toList.any fun b=>b==0:=⟨_,rfl⟩
 rw [←hb1,←hb4,←hz] at hR
 obtain ⟨V,hV⟩:∃ V,V=badG b1 k n.size b4 z:=⟨_,rfl⟩
 rw [←hV] at hR
 have HR:=Lib.hid hR
 have HV:=Lib.hid hV
 obtain ⟨w1,hw1⟩:∃ w1,w1=w.alloc (.cells #[.string t,.int .i64 k,.string n,.string an,.string am,.int .i64 aT,.int .i64 az,.string x] 80):=⟨_,rfl⟩
 have hx:=heap_alloc_new w (.cells #[.string t,.int .i64 k,.string n,.string an,.string am,.int .i64 aT,.int .i64 az,.string x] 80)
 rw [←hw1] at hx
 have hbx:Below w.heap.size w w1:=by rw [hw1];exact below_new (Below.refl _ _) _
 have hlt:w.heap.size<w1.heap.size:=row_lt hx
 have HI:Hid (∀ w',Calls Tryz.prog 87 #[.string t] w' fun e w''=>e=.returned (.bool b1)∧w'=w''):=fun w'=>by rw [hb1];exact ris_any t w' hs1
 have HA:Hid (∀ w',Below w1.heap.size w1 w'→Calls Tryz.prog 100 #[.agg #[.string an,.string am,.int .i64 aT,.int .i64 az]] w' fun e w''=>e=.returned (.bool b4)∧Below w1.heap.size w1 w''):=fun w' hb=>by
  rw [hb4]
  exact (rperson_any ⟨an,am,aT,az⟩ w' hs3 hs4).mono fun e w'' ⟨he,hw⟩=>⟨he,hb.trans (hw.mono hb.size)⟩
 have HZ:Hid (∀ w',Below w1.heap.size w1 w'→Calls Tryz.prog 101 #[.string x] w' fun e w''=>e=.returned (.bool z)∧Below w1.heap.size w1 w''):=fun w' hb=>by
  rw [hz]
  exact (rzero_any x w' hs5).mono fun e w'' ⟨he,hw⟩=>⟨he,hb.trans (hw.mono hb.size)⟩
 have HX:=Lib.hid hx
 have HLT:=Lib.hid hlt
 have HBX:=Lib.hid hbx
 have HW1:=Lib.hid hw1
 have hb0:=Below.refl w1.heap.size w1
 obtain ⟨x0,x1,x2,x3,x4,x5,x6,x7⟩:=tg_at hx
 clear hR hV hs1 hs3 hs4 hs5 hb1 hb4 hz hw1 hx hbx hlt
 go_enter Tryz.func90,Tryz.ntmps90
 go_upto_region 1 with fail
 rw [←HW1.out]
 go_cut [3] from 5 to 41 (fun v wx=>v=.bool V∧Hid (Below w1.heap.size w1 wx))
 case first =>
  clear HR
  rcases b1 with _|_
  ·have HQ:Hid (V=true):=by show _=_;rw [HV.out,badG];simp []
   clear HV
   go_wp2_with (first
      | (go_at_call 87;((with_reducible refine (HI.out _).mono ?_);rintro e wa ⟨rfl,rfl⟩))
      | (go_at_call 100;((with_reducible refine (HA.out _ hb0).mono ?_);rintro e wd ⟨rfl,hb3⟩;obtain ⟨u0,u1,u2,u3,u4,u5,u6,u7⟩:=tg_at ((hb3.block _ HLT.out).trans HX.out)))
      | (go_at_call 101;((with_reducible refine (HZ.out _ hb3).mono ?_);rintro e we ⟨rfl,hb4⟩)))
   go_meet
   exact ⟨by rw [HQ.out],hb0⟩
  by_cases h1:k<1
  ·have HQ:Hid (V=true):=by show _=_;rw [HV.out,badG];simp [h1]
   clear HV
   go_wp2_with (first
      | (go_at_call 87;((with_reducible refine (HI.out _).mono ?_);rintro e wa ⟨rfl,rfl⟩))
      | (go_at_call 100;((with_reducible refine (HA.out _ hb0).mono ?_);rintro e wd ⟨rfl,hb3⟩;obtain ⟨u0,u1,u2,u3,u4,u5,u6,u7⟩:=tg_at ((hb3.block _ HLT.out).trans HX.out)))
      | (go_at_call 101;((with_reducible refine (HZ.out _ hb3).mono ?_);rintro e we ⟨rfl,hb4⟩)))
   go_meet
   exact ⟨by rw [HQ.out],hb0⟩
  by_cases h2:4<k
  ·have HQ:Hid (V=true):=by show _=_;rw [HV.out,badG];simp [h2]
   clear HV
   go_wp2_with (first
      | (go_at_call 87;((with_reducible refine (HI.out _).mono ?_);rintro e wa ⟨rfl,rfl⟩))
      | (go_at_call 100;((with_reducible refine (HA.out _ hb0).mono ?_);rintro e wd ⟨rfl,hb3⟩;obtain ⟨u0,u1,u2,u3,u4,u5,u6,u7⟩:=tg_at ((hb3.block _ HLT.out).trans HX.out)))
      | (go_at_call 101;((with_reducible refine (HZ.out _ hb3).mono ?_);rintro e we ⟨rfl,hb4⟩)))
   go_meet
   exact ⟨by rw [HQ.out],hb0⟩
  by_cases h3:n.size<1
  ·have HN:Hid (n.size<1):=h3
   have g1:((n.size:Int)<1):=by omega
   clear h3
   have HQ:Hid (V=true):=by show _=_;rw [HV.out,badG];simp [HN.out]
   clear HV
   go_wp2_with (first
      | (go_at_call 87;((with_reducible refine (HI.out _).mono ?_);rintro e wa ⟨rfl,rfl⟩))
      | (go_at_call 100;((with_reducible refine (HA.out _ hb0).mono ?_);rintro e wd ⟨rfl,hb3⟩;obtain ⟨u0,u1,u2,u3,u4,u5,u6,u7⟩:=tg_at ((hb3.block _ HLT.out).trans HX.out)))
      | (go_at_call 101;((with_reducible refine (HZ.out _ hb3).mono ?_);rintro e we ⟨rfl,hb4⟩)))
   go_meet
   exact ⟨by rw [HQ.out],hb0⟩
  have h3':¬ ((n.size:Int)<1):=by omega
  by_cases h4:64<n.size
  ·have HN:Hid (64<n.size):=h4
   have g1:(64<(n.size:Int)):=by omega
   clear h4
   have HQ:Hid (V=true):=by show _=_;rw [HV.out,badG];simp [HN.out]
   clear HV
   go_wp2_with (first
      | (go_at_call 87;((with_reducible refine (HI.out _).mono ?_);rintro e wa ⟨rfl,rfl⟩))
      | (go_at_call 100;((with_reducible refine (HA.out _ hb0).mono ?_);rintro e wd ⟨rfl,hb3⟩;obtain ⟨u0,u1,u2,u3,u4,u5,u6,u7⟩:=tg_at ((hb3.block _ HLT.out).trans HX.out)))
      | (go_at_call 101;((with_reducible refine (HZ.out _ hb3).mono ?_);rintro e we ⟨rfl,hb4⟩)))
   go_meet
   exact ⟨by rw [HQ.out],hb0⟩
  have h4':¬ (64<(n.size:Int)):=by omega
  rcases b4 with _|_
  ·have HQ:Hid (V=true):=by show _=_;rw [HV.out,badG];simp []
   clear HV
   go_wp2_with (first
      | (go_at_call 87;((with_reducible refine (HI.out _).mono ?_);rintro e wa ⟨rfl,rfl⟩))
      | (go_at_call 100;((with_reducible refine (HA.out _ hb0).mono ?_);rintro e wd ⟨rfl,hb3⟩;obtain ⟨u0,u1,u2,u3,u4,u5,u6,u7⟩:=tg_at ((hb3.block _ HLT.out).trans HX.out)))
      | (go_at_call 101;((with_reducible refine (HZ.out _ hb3).mono ?_);rintro e we ⟨rfl,hb4⟩)))
   go_meet
   exact ⟨by rw [HQ.out],hb3⟩
  have HQ:Hid (V=z):=by show _=_;rw [HV.out,badG];simp [h1,h2,h3,h4]
  clear HV
  rcases z with _|_
  ·go_wp2_with (first
   | (go_at_call 87;((with_reducible refine (HI.out _).mono ?_);rintro e wa ⟨rfl,rfl⟩))
   | (go_at_call 100;((with_reducible refine (HA.out _ hb0).mono ?_);rintro e wd ⟨rfl,hb3⟩;obtain ⟨u0,u1,u2,u3,u4,u5,u6,u7⟩:=tg_at ((hb3.block _ HLT.out).trans HX.out)))
   | (go_at_call 101;((with_reducible refine (HZ.out _ hb3).mono ?_);rintro e we ⟨rfl,hb4⟩)))
   go_meet
   exact ⟨by rw [HQ.out];simp [h1,h2,h3',h4'],hb4⟩
  ·go_wp2_with (first
   | (go_at_call 87;((with_reducible refine (HI.out _).mono ?_);rintro e wa ⟨rfl,rfl⟩))
   | (go_at_call 100;((with_reducible refine (HA.out _ hb0).mono ?_);rintro e wd ⟨rfl,hb3⟩;obtain ⟨u0,u1,u2,u3,u4,u5,u6,u7⟩:=tg_at ((hb3.block _ HLT.out).trans HX.out)))
   | (go_at_call 101;((with_reducible refine (HZ.out _ hb3).mono ?_);rintro e we ⟨rfl,hb4⟩)))
   go_meet
   exact ⟨by rw [HQ.out],hb4⟩
 case rest =>
  obtain ⟨rfl,HB1⟩:=hcut
  clear HV HI HA HZ hb0 x0 x1 x2 x3 x4 x5 x6 x7
  have HN0:Hid (n.size=n.data.toList.length):=(list_len n).symm
  go_wp2_with fail
  go_loopw [3,4] (fun bv iv wr=>∃ k:Nat,k≤n.size∧iv=.int .i64 (k:Int)∧bv=.bool (V||lowB (n.data.toList.take k))∧Hid (Below w1.heap.size w1 wr)) (fun _ iv _=>n.size-(intOf iv).toNat)
  case atStart=>exact ⟨0,by omega,rfl,by simp [lowB],HB1.out⟩
  case round =>
   clear HB1
   obtain ⟨k,hk,rfl,rfl,HB⟩:=hrel
   obtain ⟨c0,c1,c2,c3,c4,c5,c6,c7⟩:=tg_at ((HB.out.block _ HLT.out).trans HX.out)
   by_cases hlt:k<n.size
   ·have hd:=lowB_next n k hlt
    obtain ⟨U,hU⟩:∃ U,U=(V||lowB (n.data.toList.take k)):=⟨_,rfl⟩
    have HU:Hid ((V||lowB (n.data.toList.take (k+1)))=(U||decide (n[k].toNat≤32))):=by show _=_;rw [hd,hU,Bool.or_assoc]
    rw [←hU]
    clear hU hd
    rcases U with _|_
    ·by_cases h0:n[k].toNat≤32
     ·have HY:Hid ((V||lowB (n.data.toList.take (k+1)))=true):=by show _=_;rw [HU.out,decide_eq_true h0];rfl
      have g0:(n[k].toNat:Int)≤32:=by omega
      clear HU h0
      go_wp2_with fail
      go_roundw
      case rel=>exact ⟨k+1,by omega,by go_num,by rw [HY.out],HB.out⟩
      case measure=>simp [intOf];omega
     ·have HY:Hid ((V||lowB (n.data.toList.take (k+1)))=false):=by show _=_;rw [HU.out,decide_eq_false h0];rfl
      have g0:¬ (n[k].toNat:Int)≤32:=by omega
      clear HU h0
      go_wp2_with fail
      go_roundw
      case rel=>exact ⟨k+1,by omega,by go_num,by rw [HY.out],HB.out⟩
      case measure=>simp [intOf];omega
    ·have HY:Hid ((V||lowB (n.data.toList.take (k+1)))=true):=by show _=_;rw [HU.out];rfl
     clear HU
     go_wp2_with fail
     go_roundw
     case rel=>exact ⟨k+1,by omega,by go_num,by rw [HY.out],HB.out⟩
     case measure=>simp [intOf];omega
   ·have hkn:k=n.size:=by omega
    have htk:n.data.toList.take k=n.data.toList:=by rw [hkn,HN0.out];exact List.take_length
    rw [htk]
    clear htk
    obtain ⟨U,hU⟩:∃ U,U=(V||lowB n.data.toList):=⟨_,rfl⟩
    rw [←hU]
    have HR2:Hid (R=if U=true then 1 else if 4096<x.size then 4 else 0):=by show _=_;rw [HR.out,hU]
    clear hU HR hkn
    rcases U with _|_
    ·by_cases h1:4096<x.size
     ·have HQ:Hid (R=4):=by show _=_;rw [HR2.out,if_neg (by decide),if_pos h1]
      have g1:(4096:Int)<(x.size:Int):=by omega
      clear HR2 h1
      go_wp2_with fail
      go_ret
      exact ⟨by rw [HQ.out];rfl,HBX.out.trans (HB.out.mono HBX.out.size)⟩
     ·have HQ:Hid (R=0):=by show _=_;rw [HR2.out,if_neg (by decide),if_neg h1]
      have g1:¬ (4096:Int)<(x.size:Int):=by omega
      clear HR2 h1
      go_wp2_with fail
      go_ret
      exact ⟨by rw [HQ.out];rfl,HBX.out.trans (HB.out.mono HBX.out.size)⟩
    ·have HQ:Hid (R=1):=by show _=_;rw [HR2.out,if_pos rfl]
     clear HR2
     go_wp2_with fail
     go_ret
     exact ⟨by rw [HQ.out];rfl,HBX.out.trans (HB.out.mono HBX.out.size)⟩
theorem str_neC {a b:List UInt8} (h:a≠b):((str a).toList==(str b).toList)=false:=by
 rw [ByteArray.toList_eq,ByteArray.toList_eq,str_list,str_list]
 simpa using h
set_option maxHeartbeats 4000000 in
set_option maxRecDepth 4000 in
theorem rccheck_any (c:Cm) (p:Option Addr) (n cap:Nat) (w:World) (hn:n=c.ps.length) (hp:SRw w p c.ps) (hl:∀ y∈c.ps,y.length≤140737488355328) (hn2:n≤140737488355328)
  (hs:c.t.size≤140737488355328∧c.a.n.size≤140737488355328∧c.a.m.size≤140737488355328∧c.c.n.size≤140737488355328∧c.c.m.size≤140737488355328∧c.x.size≤140737488355328) :
  Calls Tryz.prog 70 #[.agg #[.string c.t,.slice p n cap,.string c.a.n,.string c.a.m,.int .i64 c.a.t,.int .i64 c.a.z,.string c.c.n,.string c.c.m,.int .i64 c.c.t,.int .i64 c.c.z,.string c.x]] w
   fun e w'=>e=.returned (.int .i64 (chkC c:Int))∧Below w.heap.size w w':=by
 obtain ⟨R,hR⟩:∃ R,R=chkC c:=⟨_,rfl⟩
 rw [←hR]
 rw [chkC_bad] at hR
 obtain ⟨t,ps,⟨an,am,aT,az⟩,⟨cn,cm,cT,cz⟩,x⟩:=c
 simp only at *
 obtain ⟨hs1,hs2,hs3,hs4,hs5,hs6⟩:=hs
 obtain ⟨b1,hb1⟩:∃ b,b=isId t:=⟨_,rfl⟩
 obtain ⟨b3,hb3⟩:∃ b,b=okPn ⟨an,am,aT,az⟩:=⟨_,rfl⟩
 obtain ⟨b4,hb4⟩:∃ b,b=okPn ⟨cn,cm,cT,cz⟩:=⟨_,rfl⟩
 obtain ⟨z,hz⟩:∃ b,b=x.data.toList.any fun b=>b==0:=⟨_,rfl⟩
 rw [←hb1,←hb3,←hb4,←hz,←hn] at hR
 obtain ⟨V,hV⟩:∃ V,V=badC b1 b3 b4 z:=⟨_,rfl⟩
 rw [←hV] at hR
 have HR:=Lib.hid hR
 have HV:=Lib.hid hV
 obtain ⟨w1,hw1⟩:∃ w1,w1=w.alloc (.cells #[.string t,.slice p n cap,.string an,.string am,.int .i64 aT,.int .i64 az,.string cn,.string cm,.int .i64 cT,.int .i64 cz,.string x] 64):=⟨_,rfl⟩
 have hx:=heap_alloc_new w (.cells #[.string t,.slice p n cap,.string an,.string am,.int .i64 aT,.int .i64 az,.string cn,.string cm,.int .i64 cT,.int .i64 cz,.string x] 64)
 rw [←hw1] at hx
 have hbx:Below w.heap.size w w1:=by rw [hw1];exact below_new (Below.refl _ _) _
 have hlt:w.heap.size<w1.heap.size:=row_lt hx
 have HI:Hid (∀ w',Calls Tryz.prog 87 #[.string t] w' fun e w''=>e=.returned (.bool b1)∧w'=w''):=fun w'=>by rw [hb1];exact ris_any t w' hs1
 have HA:Hid (∀ w',Below w1.heap.size w1 w'→Calls Tryz.prog 100 #[.agg #[.string an,.string am,.int .i64 aT,.int .i64 az]] w' fun e w''=>e=.returned (.bool b3)∧Below w1.heap.size w1 w''):=fun w' hb=>by
  rw [hb3]
  exact (rperson_any ⟨an,am,aT,az⟩ w' hs2 hs3).mono fun e w'' ⟨he,hw⟩=>⟨he,hb.trans (hw.mono hb.size)⟩
 have HC:Hid (∀ w',Below w1.heap.size w1 w'→Calls Tryz.prog 100 #[.agg #[.string cn,.string cm,.int .i64 cT,.int .i64 cz]] w' fun e w''=>e=.returned (.bool b4)∧Below w1.heap.size w1 w''):=fun w' hb=>by
  rw [hb4]
  exact (rperson_any ⟨cn,cm,cT,cz⟩ w' hs4 hs5).mono fun e w'' ⟨he,hw⟩=>⟨he,hb.trans (hw.mono hb.size)⟩
 have HZ:Hid (∀ w',Below w1.heap.size w1 w'→Calls Tryz.prog 101 #[.string x] w' fun e w''=>e=.returned (.bool z)∧Below w1.heap.size w1 w''):=fun w' hb=>by
  rw [hz]
  exact (rzero_any x w' hs6).mono fun e w'' ⟨he,hw⟩=>⟨he,hb.trans (hw.mono hb.size)⟩
 have HP:=Lib.hid (hp.below hbx)
 have HN:=Lib.hid hn
 have HL:=Lib.hid hl
 have HX:=Lib.hid hx
 have HLT:=Lib.hid hlt
 have HBX:=Lib.hid hbx
 have HW1:=Lib.hid hw1
 have hb0:=Below.refl w1.heap.size w1
 obtain ⟨x0,x1,x2,x3,x4,x5,x6,x7,x8,x9,x10⟩:=cm_at hx
 clear hR hV hn hp hl hs1 hs2 hs3 hs4 hs5 hs6 hb1 hb3 hb4 hz hw1 hx hbx hlt
 go_enter Tryz.func70,Tryz.ntmps70
 go_upto_region 1 with fail
 rw [←HW1.out]
 go_cut [3] from 7 to 27 (fun v wx=>v=.bool V∧Hid (Below w1.heap.size w1 wx))
 case first =>
  clear HR
  rcases b1 with _|_
  ·have HQ:Hid (V=true):=by show _=_;rw [HV.out,badC];simp
   clear HV
   go_wp2_with (first
   | (go_at_call 87;((with_reducible refine (HI.out _).mono ?_);rintro e wa ⟨rfl,rfl⟩))
   | (go_at_call 100;first
    | ((with_reducible refine (HA.out _ hb0).mono ?_);rintro e wc ⟨rfl,hb2⟩;obtain ⟨z0,z1,z2,z3,z4,z5,z6,z7,z8,z9,z10⟩:=cm_at ((hb2.block _ HLT.out).trans HX.out))
    | ((with_reducible refine (HC.out _ hb2).mono ?_);rintro e wd ⟨rfl,hb3⟩;obtain ⟨u0,u1,u2,u3,u4,u5,u6,u7,u8,u9,u10⟩:=cm_at ((hb3.block _ HLT.out).trans HX.out)))
   | (go_at_call 101;((with_reducible refine (HZ.out _ hb3).mono ?_);rintro e we ⟨rfl,hb4⟩)))
   go_meet
   exact ⟨by rw [HQ.out],hb0⟩
  rcases b3 with _|_
  ·have HQ:Hid (V=true):=by show _=_;rw [HV.out,badC];simp
   clear HV
   go_wp2_with (first
   | (go_at_call 87;((with_reducible refine (HI.out _).mono ?_);rintro e wa ⟨rfl,rfl⟩))
   | (go_at_call 100;first
    | ((with_reducible refine (HA.out _ hb0).mono ?_);rintro e wc ⟨rfl,hb2⟩;obtain ⟨z0,z1,z2,z3,z4,z5,z6,z7,z8,z9,z10⟩:=cm_at ((hb2.block _ HLT.out).trans HX.out))
    | ((with_reducible refine (HC.out _ hb2).mono ?_);rintro e wd ⟨rfl,hb3⟩;obtain ⟨u0,u1,u2,u3,u4,u5,u6,u7,u8,u9,u10⟩:=cm_at ((hb3.block _ HLT.out).trans HX.out)))
   | (go_at_call 101;((with_reducible refine (HZ.out _ hb3).mono ?_);rintro e we ⟨rfl,hb4⟩)))
   go_meet
   exact ⟨by rw [HQ.out],hb2⟩
  rcases b4 with _|_
  ·have HQ:Hid (V=true):=by show _=_;rw [HV.out,badC];simp
   clear HV
   go_wp2_with (first
   | (go_at_call 87;((with_reducible refine (HI.out _).mono ?_);rintro e wa ⟨rfl,rfl⟩))
   | (go_at_call 100;first
    | ((with_reducible refine (HA.out _ hb0).mono ?_);rintro e wc ⟨rfl,hb2⟩;obtain ⟨z0,z1,z2,z3,z4,z5,z6,z7,z8,z9,z10⟩:=cm_at ((hb2.block _ HLT.out).trans HX.out))
    | ((with_reducible refine (HC.out _ hb2).mono ?_);rintro e wd ⟨rfl,hb3⟩;obtain ⟨u0,u1,u2,u3,u4,u5,u6,u7,u8,u9,u10⟩:=cm_at ((hb3.block _ HLT.out).trans HX.out)))
   | (go_at_call 101;((with_reducible refine (HZ.out _ hb3).mono ?_);rintro e we ⟨rfl,hb4⟩)))
   go_meet
   exact ⟨by rw [HQ.out],hb3⟩
  have HQ:Hid (V=z):=by show _=_;rw [HV.out,badC];simp
  clear HV
  rcases z with _|_
  ·go_wp2_with (first
   | (go_at_call 87;((with_reducible refine (HI.out _).mono ?_);rintro e wa ⟨rfl,rfl⟩))
   | (go_at_call 100;first
    | ((with_reducible refine (HA.out _ hb0).mono ?_);rintro e wc ⟨rfl,hb2⟩;obtain ⟨z0,z1,z2,z3,z4,z5,z6,z7,z8,z9,z10⟩:=cm_at ((hb2.block _ HLT.out).trans HX.out))
    | ((with_reducible refine (HC.out _ hb2).mono ?_);rintro e wd ⟨rfl,hb3⟩;obtain ⟨u0,u1,u2,u3,u4,u5,u6,u7,u8,u9,u10⟩:=cm_at ((hb3.block _ HLT.out).trans HX.out)))
   | (go_at_call 101;((with_reducible refine (HZ.out _ hb3).mono ?_);rintro e we ⟨rfl,hb4⟩)))
   go_meet
   exact ⟨by rw [HQ.out],hb4⟩
  ·go_wp2_with (first
   | (go_at_call 87;((with_reducible refine (HI.out _).mono ?_);rintro e wa ⟨rfl,rfl⟩))
   | (go_at_call 100;first
    | ((with_reducible refine (HA.out _ hb0).mono ?_);rintro e wc ⟨rfl,hb2⟩;obtain ⟨z0,z1,z2,z3,z4,z5,z6,z7,z8,z9,z10⟩:=cm_at ((hb2.block _ HLT.out).trans HX.out))
    | ((with_reducible refine (HC.out _ hb2).mono ?_);rintro e wd ⟨rfl,hb3⟩;obtain ⟨u0,u1,u2,u3,u4,u5,u6,u7,u8,u9,u10⟩:=cm_at ((hb3.block _ HLT.out).trans HX.out)))
   | (go_at_call 101;((with_reducible refine (HZ.out _ hb3).mono ?_);rintro e we ⟨rfl,hb4⟩)))
   go_meet
   exact ⟨by rw [HQ.out],hb4⟩
 case rest =>
  obtain ⟨rfl,HB1⟩:=hcut
  clear HV HI HA HC HZ hb0 x0 x1 x2 x3 x4 x5 x6 x7 x8 x9 x10
  go_wp2_with fail
  go_loopw [3,4] (fun bv iv wr=>∃ k:Nat,k≤n∧iv=.int .i64 (k:Int)∧bv=.bool (V||!(allId (ps.take k)))∧Hid (Below w1.heap.size w1 wr)) (fun _ iv _=>n-(intOf iv).toNat)
  case atStart=>exact ⟨0,by omega,rfl,by simp [allId],HB1.out⟩
  case round =>
   clear HB1
   obtain ⟨k,hk,rfl,rfl,HB⟩:=hrel
   obtain ⟨c0,c1,c2,c3,c4,c5,c6,c7,c8,c9,c10⟩:=cm_at ((HB.out.block _ HLT.out).trans HX.out)
   clear c0 c2 c3 c4 c5 c6 c7 c8 c9
   by_cases hlt:k<n
   ·have hkl:k<ps.length:=by rw [←HN.out];exact hlt
    have hd:=allId_next hkl
    obtain ⟨U,hU⟩:∃ U,U=(V||!(allId (ps.take k))):=⟨_,rfl⟩
    obtain ⟨b,hb⟩:∃ b,b=isId (str ps[k]):=⟨_,rfl⟩
    have HU:Hid ((V||!(allId (ps.take (k+1))))=(U||!b)):=by show _=_;rw [hd,hU,hb,Bool.not_and,Bool.or_assoc]
    rw [←hU]
    obtain ⟨y,hy⟩:∃ y,y=str ps[k]:=⟨_,rfl⟩
    have hys:y.size≤140737488355328:=by rw [hy,str_size];exact HL.out _ (List.getElem_mem hkl)
    have HI:Hid (∀ w',Calls Tryz.prog 87 #[.string y] w' fun e w''=>e=.returned (.bool b)∧w'=w''):=fun w'=>by rw [hb,←hy];exact ris_any y w' hys
    obtain ⟨g,o,rfl,hg,a0⟩:=HP.out.below HB.out k hkl
    rw [←hy] at a0
    clear hU hd hb hy hkl
    rcases U with _|_
    ·rcases b with _|_
     ·have HY:Hid ((V||!(allId (ps.take (k+1))))=true):=by show _=_;rw [HU.out];rfl
      clear HU
      go_wp2_with (go_at_call 87;((with_reducible refine (HI.out _).mono ?_);rintro e wa ⟨rfl,rfl⟩))
      go_roundw
      case rel=>exact ⟨k+1,by omega,by go_num,by rw [HY.out],HB.out⟩
      case measure=>simp [intOf];omega
     ·have HY:Hid ((V||!(allId (ps.take (k+1))))=false):=by show _=_;rw [HU.out];rfl
      clear HU
      go_wp2_with (go_at_call 87;((with_reducible refine (HI.out _).mono ?_);rintro e wa ⟨rfl,rfl⟩))
      go_roundw
      case rel=>exact ⟨k+1,by omega,by go_num,by rw [HY.out],HB.out⟩
      case measure=>simp [intOf];omega
    ·have HY:Hid ((V||!(allId (ps.take (k+1))))=true):=by show _=_;rw [HU.out];rfl
     clear HU
     go_wp2_with fail
     go_roundw
     case rel=>exact ⟨k+1,by omega,by go_num,by rw [HY.out],HB.out⟩
     case measure=>simp [intOf];omega
   ·obtain rfl:k=n:=by omega
    have htk:ps.take k=ps:=by rw [HN.out];exact List.take_length
    rw [htk]
    clear htk
    obtain ⟨U,hU⟩:∃ U,U=(V||!(allId ps)):=⟨_,rfl⟩
    rw [←hU]
    have HR2:Hid (R=if U=true then 1 else if 4096<x.size∨8<k then 4 else if ps.Nodup then 0 else 6):=by show _=_;rw [HR.out,hU]
    clear hU HR
    rcases U with _|_
    case true =>
     have HQ:Hid (R=1):=by show _=_;rw [HR2.out,if_pos rfl]
     clear HR2
     go_wp2_with fail
     go_ret
     exact ⟨by rw [HQ.out];rfl,HBX.out.trans (HB.out.mono HBX.out.size)⟩
    case false =>
     by_cases h1:4096<x.size
     ·have HQ:Hid (R=4):=by show _=_;rw [HR2.out,if_neg (by decide),if_pos (.inl h1)]
      have g1:(4096:Int)<(x.size:Int):=by omega
      clear HR2 h1
      go_wp2_with fail
      go_ret
      exact ⟨by rw [HQ.out];rfl,HBX.out.trans (HB.out.mono HBX.out.size)⟩
     have g1:¬ (4096:Int)<(x.size:Int):=by omega
     by_cases h2:8<k
     ·have HQ:Hid (R=4):=by show _=_;rw [HR2.out,if_neg (by decide),if_pos (.inr h2)]
      have g2:(8:Int)<(k:Int):=by omega
      clear HR2 h1 h2
      go_wp2_with fail
      go_ret
      exact ⟨by rw [HQ.out];rfl,HBX.out.trans (HB.out.mono HBX.out.size)⟩
     have g2:¬ (8:Int)<(k:Int):=by omega
     have HR3:Hid (R=if ps.Nodup then 0 else 6):=by show _=_;rw [HR2.out,if_neg (by decide),if_neg (by omega)]
     have hk8:k≤8:=by omega
     clear HR2 h1 h2 hlt hn2 hk
     go_wp2_with fail
     clear c1 c10 g1 g2
     go_loopw [5] (fun iv wx=>∃ i:Nat,i≤k∧iv=.int .i64 (i:Int)∧Hid ((ps.take i).Nodup)∧Hid (Below w1.heap.size w1 wx)) (fun iv _=>k-(intOf iv).toNat)
     case atStart=>exact ⟨0,by omega,rfl,List.nodup_nil,HB.out⟩
     case round =>
      clear HB
      obtain ⟨i,hi,rfl,HD,HB⟩:=hrel
      obtain ⟨c0,c1,c2,c3,c4,c5,c6,c7,c8,c9,c10⟩:=cm_at ((HB.out.block _ HLT.out).trans HX.out)
      clear c0 c2 c3 c4 c5 c6 c7 c8 c9 c10
      by_cases hlt:i<k
      ·have hil:i<ps.length:=by rw [←HN.out];exact hlt
       go_wp2_with fail
       clear c1
       go_loopw [6] (fun jv wx=>∃ j:Nat,j≤i∧jv=.int .i64 (j:Int)∧Hid (ps[i]∉ps.take j)∧Hid (Below w1.heap.size w1 wx)) (fun jv _=>i-(intOf jv).toNat)
       case atStart=>exact ⟨0,by omega,rfl,by show _∉_;simp,HB.out⟩
       case round =>
        clear HB
        obtain ⟨j,hj,rfl,HJ,HB⟩:=hrel
        obtain ⟨c0,c1,c2,c3,c4,c5,c6,c7,c8,c9,c10⟩:=cm_at ((HB.out.block _ HLT.out).trans HX.out)
        clear c0 c2 c3 c4 c5 c6 c7 c8 c9 c10
        by_cases hji:j<i
        ·have hjl:j<ps.length:=by omega
         have hjk:j<k:=by omega
         have hpx:=HP.out.below HB.out
         obtain ⟨g,o,rfl,hg,a0⟩:=hpx i hil
         obtain ⟨g2,o2,hpe,hg2,b0⟩:=hpx j hjl
         simp only [Option.some.injEq,Addr.mk.injEq,and_true] at hpe
         obtain ⟨rfl,rfl⟩:=hpe
         clear hpx
         by_cases he:ps[i]=ps[j]
         ·have HQ:Hid (R=6):=by show _=_;rw [HR3.out,if_neg (nodup_not hil hji he)]
          obtain ⟨y,hy⟩:∃ y,y=str ps[i]:=⟨_,rfl⟩
          rw [←he,←hy] at b0
          rw [←hy] at a0
          clear hy hg hg2 he hjl HJ HD HR3
          go_wp2
          go_quiet (fail)
          go_wp2
          go_ret
          exact ⟨by rw [HQ.out];rfl,HBX.out.trans ((below_drewN HB.out _).mono HBX.out.size)⟩
         ·have hne:=str_neC he
          have HJ2:Hid (ps[i]∉ps.take (j+1)):=notin_next hjl HJ.out he
          obtain ⟨y,hy⟩:∃ y,y=str ps[i]:=⟨_,rfl⟩
          obtain ⟨u,hu⟩:∃ u,u=str ps[j]:=⟨_,rfl⟩
          rw [←hu] at b0 hne
          rw [←hy] at a0 hne
          clear hy hu hg hg2 he hjl HJ
          go_wp2
          go_quiet (fail)
          go_wp2
          go_roundw
          case rel=>exact ⟨j+1,by omega,by go_num,HJ2.out,below_drewN HB.out _⟩
          case measure=>simp [intOf];omega
        ·obtain rfl:j=i:=by omega
         have HD2:Hid ((ps.take (j+1)).Nodup):=nodup_next hil HD.out HJ.out
         clear HJ HD
         go_wp2_with fail
         go_roundw
         case rel=>exact ⟨j+1,by omega,by go_num,HD2.out,HB.out⟩
         case measure=>simp [intOf];omega
      ·obtain rfl:i=k:=by omega
       have HQ:Hid (R=0):=by
        show _=_
        have:=HD.out
        rw [HN.out,List.take_length] at this
        rw [HR3.out,if_pos this]
       clear HR3 HD
       go_wp2_with fail
       go_ret
       exact ⟨by rw [HQ.out];rfl,HBX.out.trans (HB.out.mono HBX.out.size)⟩
set_option maxHeartbeats 4000000 in
set_option maxRecDepth 4000 in
theorem rcbody_any (c:Cm) (p:Option Addr) (n cap:Nat) (w:World) (hn:n=c.ps.length) (hp:SRw w p c.ps) (hl:∀ y∈c.ps,y.length≤140737488355328) (hn2:n≤140737488355328)
  (hs:c.t.size≤140737488355328∧c.a.n.size≤140737488355328∧c.a.m.size≤140737488355328∧c.c.n.size≤140737488355328∧c.c.m.size≤140737488355328∧c.x.size≤140737488355328) :
  Calls Tryz.prog 37 #[.agg #[.string c.t,.slice p n cap,.string c.a.n,.string c.a.m,.int .i64 c.a.t,.int .i64 c.a.z,.string c.c.n,.string c.c.m,.int .i64 c.c.t,.int .i64 c.c.z,.string c.x]] w
   fun e w'=>e=.returned (.tuple #[.string (str (bodyC c)),.int .i64 (chkC c:Int)])∧Below w.heap.size w w':=by
 have hck:=fun w' (hb:SRw w' p c.ps)=>rccheck_any c p n cap w' hn hb hl hn2 hs
 obtain ⟨C,hC⟩:∃ C,C=chkC c:=⟨_,rfl⟩
 obtain ⟨R,hR⟩:∃ R,R=str (bodyC c):=⟨_,rfl⟩
 have hok:=@chkC_ok c
 rw [←hC] at hck hok ⊢
 rw [←hR]
 unfold bodyC at hR
 rw [←hC] at hR
 obtain ⟨t,ps,⟨an,am,aT,az⟩,⟨cn,cm,cT,cz⟩,x⟩:=c
 simp only at hn hp hl hs hck hok
 obtain ⟨w1,hw1⟩:∃ w1,w1=w.alloc (.cells #[.string t,.slice p n cap,.string an,.string am,.int .i64 aT,.int .i64 az,.string cn,.string cm,.int .i64 cT,.int .i64 cz,.string x] 64):=⟨_,rfl⟩
 have hx:=heap_alloc_new w (.cells #[.string t,.slice p n cap,.string an,.string am,.int .i64 aT,.int .i64 az,.string cn,.string cm,.int .i64 cT,.int .i64 cz,.string x] 64)
 rw [←hw1] at hx
 have hbx:Below w.heap.size w w1:=by rw [hw1];exact below_new (Below.refl _ _) _
 have HCK:=Lib.hid (hck w1 (hp.below hbx))
 have HBX:=Lib.hid hbx
 have HW1:=Lib.hid hw1
 have HX:=Lib.hid hx
 obtain ⟨x0,x1,x2,x3,x4,x5,x6,x7,x8,x9,x10⟩:=cm_at hx
 by_cases h0:C=0
 case neg =>
  have HQ:Hid (R=⟨#[]⟩):=by show _=_;rw [hR,if_neg h0];rfl
  have g0:((C:Int) != 0)=true:=by simp;omega
  clear hck hok hR hw1 hx hbx h0 hn hp hl hs hC
  go_enter Tryz.func37,Tryz.ntmps37
  go_upto_region 1 with fail
  rw [←HW1.out]
  go_wp2_with (go_at_call 70;((with_reducible refine (HCK.out).mono ?_);rintro e w2 ⟨rfl,hb2⟩))
  go_ret2
  exact ⟨by rw [HQ.out];rfl,HBX.out.trans (hb2.mono HBX.out.size)⟩
 have g0:((C:Int) != 0)=false:=by simp [h0]
 obtain ⟨ho,hx4,hn8,-⟩:=hok h0
 obtain ⟨i1,i2,i3,i4,-⟩:=okC_parts ho
 simp only at i1 i2 i3 i4 hx4 hn8
 have ht40:t.size≤40:=by rw [isId_size i1];exact Nat.le_refl _
 obtain ⟨A,hA⟩:∃ A,A=whoL ⟨an,am,aT,az⟩:=⟨_,rfl⟩
 obtain ⟨K,hK⟩:∃ K,K=whoL ⟨cn,cm,cT,cz⟩:=⟨_,rfl⟩
 have hA1:A.size≤157:=by rw [hA];exact whoL_size i3
 have hK1:K.size≤157:=by rw [hK];exact whoL_size i4
 obtain ⟨l1,hl1⟩:∃ l1,l1=(⟨#[116,114,101,101,32]⟩:ByteArray)++t++⟨#[10]⟩:=⟨_,rfl⟩
 have hl1s:l1.size≤46:=by rw [hl1];simp only [ByteArray.size_append];show 5+t.size+1≤46;omega
 have HR:Hid (∀ h:ByteArray,h.data.toList=l1.data.toList++(ps.take n).flatMap (lineL wPar)→h++(⟨#[97,117,116,104,111,114,32]⟩:ByteArray)++A++⟨#[10,99,111,109,109,105,116,116,101,114,32]⟩++K++⟨#[10,10]⟩++x=R):=fun h hh=>by
  rw [hR,if_pos h0,encC]
  refine ba_ext ?_
  rw [List.take_of_length_le (by omega)] at hh
  rw [str_list]
  simp only [app_list,hh,hl1,hA,hK,lineL,wTree,wAut,wCom]
  simp
 have pa:=okPn_parts i3
 have pc:=okPn_parts i4
 simp only at pa pc
 have HA:Hid (∀ w',Calls Tryz.prog 71 #[.agg #[.string an,.string am,.int .i64 aT,.int .i64 az]] w' fun e w''=>e=.returned (.string A)∧Below w'.heap.size w' w''):=fun w'=>by
  rw [hA]
  exact rfmt_any ⟨an,am,aT,az⟩ w' hs.2.1 hs.2.2.1 (by simp only;omega) (by simp only;omega) (by simp only;omega)
 have HK:Hid (∀ w',Calls Tryz.prog 71 #[.agg #[.string cn,.string cm,.int .i64 cT,.int .i64 cz]] w' fun e w''=>e=.returned (.string K)∧Below w'.heap.size w' w''):=fun w'=>by
  rw [hK]
  exact rfmt_any ⟨cn,cm,cT,cz⟩ w' hs.2.2.2.1 hs.2.2.2.2.1 (by simp only;omega) (by simp only;omega) (by simp only;omega)
 have HP:=Lib.hid (hp.below hbx)
 have HN:=Lib.hid hn
 have HID:Hid (∀ y∈ps,isId (str y)=true):=fun y hy=>allId_mem i2 hy
 obtain ⟨B,hB⟩:∃ B,B=w.heap.size:=⟨_,rfl⟩
 have HBE:=Lib.hid hB
 rw [←hB] at HX x0 x1 x2 x3 x4 x5 x6 x7 x8 x9 x10
 have hnn:n≤8:=by omega
 have HC0:=Lib.hid h0
 have HL1:=Lib.hid hl1
 clear hck hok hR hw1 hx hbx h0 hn hp hl hs hC ho hn8 i1 i2 i3 i4 hA hK hl1 pa pc hn2 hB
 go_enter Tryz.func37,Tryz.ntmps37
 go_upto_region 1 with fail
 rw [←HW1.out,←HBE.out]
 go_upto_region 5 with (go_at_call 70;((with_reducible refine (HCK.out).mono ?_);rintro e w2 ⟨rfl,hb2⟩;obtain ⟨y0,y1,y2,y3,y4,y5,y6,y7,y8,y9,y10⟩:=cm_at ((hb2.block _ (row_lt HX.out)).trans HX.out)))
 have HB2:=Lib.hid hb2
 rw [←HL1.out]
 clear x0 x1 x2 x3 x4 x5 x6 x7 x8 x9 x10 y0 y2 y3 y4 y5 y6 y7 y8 y9 y10 HCK HL1 hb2
 go_wp2_with fail
 go_loopw [5,6] (fun hv iv wr=>∃ (k:Nat) (h:ByteArray),k≤n∧iv=.int .i64 (k:Int)∧hv=.string h∧h.size≤46+48*k∧Hid (h.data.toList=l1.data.toList++(ps.take k).flatMap (lineL wPar))∧Hid (Below w1.heap.size w1 wr)) (fun _ iv _=>n-(intOf iv).toNat)
 case atStart=>exact ⟨0,l1,by omega,rfl,rfl,by omega,by show _=_;simp,HB2.out⟩
 case round =>
  obtain ⟨k,h,hk,rfl,rfl,hh,HH,HB⟩:=hrel
  obtain ⟨c0,c1,c2,c3,c4,c5,c6,c7,c8,c9,c10⟩:=cm_at ((HB.out.block _ (row_lt HX.out)).trans HX.out)
  by_cases hlt:k<n
  ·have hkl:k<ps.length:=by rw [←HN.out];exact hlt
   obtain ⟨y,hy⟩:∃ y,y=str ps[k]:=⟨_,rfl⟩
   have hy40:y.size≤40:=by rw [hy,isId_size (HID.out _ (List.getElem_mem hkl))];exact Nat.le_refl _
   have hyl:y.data.toList=ps[k]:=by rw [hy];rfl
   obtain ⟨g,o,rfl,hg,a0⟩:=HP.out.below HB.out k hkl
   rw [←hy] at a0
   have HH2:Hid ((h++(⟨#[112,97,114,101,110,116,32]⟩:ByteArray)++y++⟨#[10]⟩).data.toList=l1.data.toList++(ps.take (k+1)).flatMap (lineL wPar)):=by
    show _=_
    rw [flat_next hkl,←hyl]
    simp only [app_list,HH.out,lineL,wPar]
    simp
   have hs2:(h++(⟨#[112,97,114,101,110,116,32]⟩:ByteArray)++y++⟨#[10]⟩).size≤46+48*(k+1):=by
    simp only [ByteArray.size_append]
    show h.size+7+y.size+1≤_
    omega
   clear hy hyl hkl c0 c2 c3 c4 c5 c6 c7 c8 c9 c10
   go_wp2_with fail
   go_roundw
   case rel=>exact ⟨k+1,_,by omega,by go_num,rfl,hs2,HH2.out,HB.out⟩
   case measure=>simp [intOf];omega
  obtain rfl:k=n:=by omega
  have HQ:=Lib.hid (HR.out h HH.out)
  have hq:Nonempty (BelW wr):=⟨⟨wr,Below.refl _ _⟩⟩
  have k2:∀ y:BelW wr,y.w.cell? ⟨B,2,none⟩=some (.string an):=fun y=>cell_bel c2 y.h
  have k3:∀ y:BelW wr,y.w.cell? ⟨B,3,none⟩=some (.string am):=fun y=>cell_bel c3 y.h
  have k4:∀ y:BelW wr,y.w.cell? ⟨B,4,none⟩=some (.int .i64 aT):=fun y=>cell_bel c4 y.h
  have k5:∀ y:BelW wr,y.w.cell? ⟨B,5,none⟩=some (.int .i64 az):=fun y=>cell_bel c5 y.h
  have k6:∀ y:BelW wr,y.w.cell? ⟨B,6,none⟩=some (.string cn):=fun y=>cell_bel c6 y.h
  have k7:∀ y:BelW wr,y.w.cell? ⟨B,7,none⟩=some (.string cm):=fun y=>cell_bel c7 y.h
  have k8:∀ y:BelW wr,y.w.cell? ⟨B,8,none⟩=some (.int .i64 cT):=fun y=>cell_bel c8 y.h
  have k9:∀ y:BelW wr,y.w.cell? ⟨B,9,none⟩=some (.int .i64 cz):=fun y=>cell_bel c9 y.h
  have k10:∀ y:BelW wr,y.w.cell? ⟨B,10,none⟩=some (.string x):=fun y=>cell_bel c10 y.h
  have HAq:Hid (∀ y:BelW wr,Calls Tryz.prog 71 #[.agg #[.string an,.string am,.int .i64 aT,.int .i64 az]] y.w fun e w''=>e=.returned (.string A)∧∃ z:BelW wr,w''=z.w):=fun y=>Calls.bel_class (HA.out _)
  have HKq:Hid (∀ y:BelW wr,Calls Tryz.prog 71 #[.agg #[.string cn,.string cm,.int .i64 cT,.int .i64 cz]] y.w fun e w''=>e=.returned (.string K)∧∃ z:BelW wr,w''=z.w):=fun y=>Calls.bel_class (HK.out _)
  clear c0 c2 c3 c4 c5 c6 c7 c8 c9 c10 HA HK HR HH
  go_upto_region 9 with fail
  refine wp_region_bel (w0:=wr) (Below.refl _ _) (by kernel_rfl) (by kernel_rfl) ?_
  repeat (go_big_quiet_step (first
   | (go_at_call 71;first|(with_reducible exact HAq.out _)|(with_reducible exact HKq.out _))))
  refine wpQuiet_nil ?_
  rintro _ ⟨z,rfl⟩
  have HZ:=Lib.hid (HB.out.trans (z.h.mono HB.out.size))
  obtain ⟨wz,hwz⟩:∃ wz,wz=z.w:=⟨_,rfl⟩
  rw [←hwz] at HZ ⊢
  clear k2 k3 k4 k5 k6 k7 k8 k9 k10 hwz z
  go_wp2_with fail
  go_ret2
  exact ⟨by rw [HC0.out,←HQ.out];rfl,HBX.out.trans (HZ.out.mono HBX.out.size)⟩
end Go.Proofs.YtnoopcenogbjiaaGreatDoor
