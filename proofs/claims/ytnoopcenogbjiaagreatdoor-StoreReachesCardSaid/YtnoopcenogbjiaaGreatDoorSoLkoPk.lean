/-
 The walk of linksOf.
-/
import Derived.Test.YtnoopcenogbjiaaGreatDoorSoPutPk
import Derived.Deep.LoopGhost
import Derived.Test.YtnoopcenogbjiaaGreatDoorSoRowsPk
set_option linter.unusedVariables false
set_option linter.unusedSimpArgs false
namespace Go.Proofs.YtnoopcenogbjiaaGreatDoor
open Go Go.RowKit Go.Maps Go.WideMaps
section
variable {ops:Array Oper} {rest:List Oper} {o:Oper} {a:Act} {Q:Exit→Act→World→Prop} {w:World} {base:Nat} {v:Value} {l:List Lk}
theorem wp_lk_any (hgd:o.guard=none) (sl x:Operand) (ho:o.op=.call { callee:=.builtin .append,args:=#[sl,x],argTypes:=#[124,124] }) (hs:a.eval sl=v) (hown:LkOw w base v l) (p:Option Addr) (m c:Nat) (mid:List Lk) (hm:m=mid.length) (hx:a.eval x=.slice p m c) (hpc:p=none→c=0)
  (hr:LkRw w p mid) (hb:l.length+m≤1048576) (hbase:base≤w.heap.size)
  (h:∀ v' w',LkOw w' base v' (l++mid)→w.grownBy w' v.ownBlock→wpList Tryz.prog ops Q rest (a.put o.dst v') w'):wpList Tryz.prog ops Q (o::rest) a w:=by
 cases p with
 | none =>
  have h0:mid=[]:=by
   cases mid with
   | nil=>rfl
   | cons y r=>obtain ⟨g,o,h,_⟩:=hr 0 (by simp);cases h
  subst h0
  subst hm
  obtain rfl:=hpc rfl
  refine wp_lk_none hgd sl x ho hs hown hx (h v w (by rw [List.append_nil];exact hown) ⟨rfl,rfl,rfl,Nat.le_refl _,fun _ _ _=>rfl⟩)
 | some ad=>exact wp_lk_many hgd sl x ho hs hown ad m c mid hm hx hr.src hb hbase h
end
theorem LkR.of {L L2:List Lk} {w:World} {e:Ending} {w':World} {v:Value} (he:e=.returned v) (h:L=L2) (ho:LkOw w' w.heap.size v L2) (hb:Below w.heap.size w w'):LkR L w e w':=⟨⟨v,he,by rw [h];exact ho⟩,hb⟩
set_option maxHeartbeats 8000000 in
set_option maxRecDepth 8000 in
theorem linksOf_any (k:Int) (b:ByteArray) (cut:Bool) (w:World) (hT:StrTab w) (hO:WoTab w) (hTr:TrTab w) (hb:b.size≤1048576) :
  Calls Tryz.prog 94 #[.agg #[.int .i64 k,.string b],.bool cut] w (LkR (lksOf k b.data.toList cut) w):=by
 obtain ⟨wo,hwo⟩:∃ wo,wo=w.alloc (.cells #[.int .i64 k,.string b] 29):=⟨_,rfl⟩
 obtain ⟨B,hB⟩:∃ B,B=w.heap.size:=⟨_,rfl⟩
 have hx:wo.heap[B]?=some (.cells #[.int .i64 k,.string b] 29 (0,0)):=by rw [hwo,hB];exact heap_alloc_new w _
 have hbx:Below w.heap.size w wo:=by rw [hwo];exact below_new (Below.refl _ _) _
 obtain ⟨x0,x1,-,-⟩:=ob_at hx
 have HTL:=Lib.hid (streeLinks_any b wo (hTr.below hbx) hb)
 have HCP:=Lib.hid (cparse_any b wo (hT.below hbx) hb)
 have HGP:=Lib.hid (gparse_any b wo (hT.below hbx) (hO.below hbx) hb)
 have HBX:=Lib.hid hbx
 have HWO:=Lib.hid hwo
 have HB:=Lib.hid hB
 clear hwo hB hx hbx hT hO hTr hb
 by_cases h2:k=2
 ·subst h2
  have HL:Hid (lksOf 2 b.data.toList cut=treeLk (parE b.data.toList).2):=by show _=_;rw [lksOf,if_pos rfl]
  go_enter Tryz.func94,Tryz.ntmps94
  go_upto_region 1 with fail
  rw [←HWO.out,←HB.out]
  go_wp2_with (go_at_call 124;((with_reducible refine HTL.out.mono ?_);rintro e w1 ⟨⟨v,rfl,ho⟩,hb1⟩;have HO1:=Lib.hid ho;have HB1:=Lib.hid hb1;clear ho hb1))
  go_ret
  exact LkR.of rfl HL.out (LkOw.mono HO1.out HBX.out.size) (HBX.out.trans (HB1.out.mono HBX.out.size))
 have g2:(k==2)=false:=by simp [h2]
 by_cases h3:k=3
 ·subst h3
  obtain ⟨⟨C,⟨t,ps,⟨an,am,aT,az⟩,⟨cn,cm,cT,cz⟩,x⟩⟩,hP⟩:∃ P,P=parC b.data.toList:=⟨_,rfl⟩
  have hlen:C=0→ps.length≤8:=fun h=>by
   have:=@parC_len b.data.toList
   rw [←hP] at this
   exact this h
  have hL:lksOf 3 b.data.toList cut=if C=0 then ⟨t,2⟩::(if cut=true then [] else toL 3 ps) else []:=by rw [lksOf,if_neg (by decide),if_pos rfl,←hP]
  rw [←hP] at HCP
  clear hP h2
  go_enter Tryz.func94,Tryz.ntmps94
  go_upto_region 1 with fail
  rw [←HWO.out,←HB.out]
  go_upto_region 6 with (go_at_call 125;((with_reducible refine (HCP.out).mono ?_);rintro e w1 ⟨⟨p,cap,rfl,hrow⟩,hb1⟩;simp only at hrow))
  obtain ⟨n,hn⟩:∃ n,n=ps.length:=⟨_,rfl⟩
  rw [←hn] at hlen ⊢
  obtain ⟨w2,hw2⟩:∃ w2,w2=w1.alloc (.cells #[.string t,.slice p n cap,.string an,.string am,.int .i64 aT,.int .i64 az,.string cn,.string cm,.int .i64 cT,.int .i64 cz,.string x] 64):=⟨_,rfl⟩
  obtain ⟨E,hE⟩:∃ E,E=w1.heap.size:=⟨_,rfl⟩
  have hr2:w2.heap[E]?=some (.cells #[.string t,.slice p n cap,.string an,.string am,.int .i64 aT,.int .i64 az,.string cn,.string cm,.int .i64 cT,.int .i64 cz,.string x] 64 (0,0)):=by rw [hw2,hE];exact heap_alloc_new _ _
  have hbx2:Below w1.heap.size w1 w2:=by rw [hw2];exact below_new (Below.refl _ _) _
  rw [←hw2,←hE]
  have HB2:=Lib.hid (hb1.trans (hbx2.mono hb1.size))
  have hrow2:=hrow.below hbx2
  have HN:=Lib.hid hn
  obtain ⟨y0,y1,-⟩:=cm_at hr2
  have HR2:=Lib.hid hr2
  clear hw2 hE hbx2 hrow hb1 hn HCP HTL HGP x0 x1
  by_cases h0:C=0
  ·have g0:((C:Int) != 0)=false:=by simp [h0]
   have h8:=hlen h0
   rw [if_pos h0] at hL
   have HL:=Lib.hid hL
   have hbn:Below w2.heap.size w2 (w2.alloc (.cells #[.string t,.int .i64 2] 91)):=below_new (Below.refl _ _) _
   have HO3:Hid (LkOw (w2.alloc (.cells #[.string t,.int .i64 2] 91)) w2.heap.size (.slice (some ⟨w2.heap.size,0,none⟩) 1 1) [⟨t,2⟩]):=LkOw.one w2 t 2 (Nat.le_refl _)
   have HB3:=Lib.hid hbn
   have z1:=cell_bel y1 hbn
   have HLT:=Lib.hid (linksTo_any 3 ps p n cap (w2.alloc (.cells #[.string t,.int .i64 2] 91)) HN.out (hrow2.below hbn) (by omega))
   clear h0 hlen hrow2 hr2 hbn hL
   rcases cut with _|_
   ·rw [if_neg (by decide)] at HL
    have HNL:Hid (n=(toL 3 ps).length):=by show _=_;rw [toL,List.length_map,←HN.out]
    have HL8:Hid (([⟨t,2⟩]:List Lk).length+n≤1048576):=by show _≤_;simp;omega
    go_wp2_with (first
     | (go_at_call 93;((with_reducible refine HLT.out.mono ?_);rintro e w5 ⟨⟨v5,rfl,ho5⟩,hb5⟩;obtain ⟨p5,c5,rfl,hc5,hr5,-⟩:=ho5.rw;have hnl:=HNL.out;rw [←HNL.out];have HR5:=Lib.hid hr5;have HC5:=Lib.hid hc5;have HB5:=Lib.hid (HB3.out.trans (hb5.mono HB3.out.size));have HO5:=Lib.hid (HO3.out.below hb5);clear ho5 hb5 hr5 hc5 hnl))
     | (at_builtin;refine wp_lk_any rfl _ _ rfl rfl HO5.out p5 n c5 _ HNL.out rfl HC5.out HR5.out HL8.out HB5.out.size ?_;intro v6 w6 h6 g6;have HO6:=Lib.hid h6;have HB6:=Lib.hid (app_step0 HB5.out HO5.out g6 (Nat.le_refl _) HB5.out.size);clear h6 g6))
    go_ret
    exact LkR.of rfl HL.out (LkOw.mono HO6.out (by have:=HBX.out.size;have:=HB2.out.size;omega)) (HBX.out.trans ((HB2.out.trans (HB6.out.mono HB2.out.size)).mono HBX.out.size))
   ·rw [if_pos rfl] at HL
    go_wp2_with fail
    go_ret
    exact LkR.of rfl HL.out (LkOw.mono HO3.out (by have:=HBX.out.size;have:=HB2.out.size;omega)) (HBX.out.trans ((HB2.out.trans (HB3.out.mono HB2.out.size)).mono HBX.out.size))
  ·have g0:((C:Int) != 0)=true:=by simp;omega
   rw [if_neg h0] at hL
   have HL:=Lib.hid hL
   clear h0 hlen hL hr2
   go_wp2_with fail
   go_ret
   exact LkR.of rfl HL.out (LkOw.nil _ _) (HBX.out.trans (HB2.out.mono HBX.out.size))
 have g3:(k==3)=false:=by simp [h3]
 by_cases h4:k=4
 ·subst h4
  obtain ⟨⟨C,⟨t,kd,n,⟨an,am,aT,az⟩,x⟩⟩,hP⟩:∃ P,P=parG b.data.toList:=⟨_,rfl⟩
  have hL:lksOf 4 b.data.toList cut=if C=0 then [⟨t,kd⟩] else []:=by rw [lksOf,if_neg (by decide),if_neg (by decide),if_pos rfl,←hP]
  rw [←hP] at HGP
  clear hP h2 h3
  go_enter Tryz.func94,Tryz.ntmps94
  go_upto_region 1 with fail
  rw [←HWO.out,←HB.out]
  go_upto_region 14 with (go_at_call 126;((with_reducible refine (HGP.out).mono ?_);rintro e w1 ⟨rfl,hb1⟩))
  obtain ⟨w2,hw2⟩:∃ w2,w2=w1.alloc (.cells #[.string t,.int .i64 kd,.string n,.string an,.string am,.int .i64 aT,.int .i64 az,.string x] 80):=⟨_,rfl⟩
  obtain ⟨E,hE⟩:∃ E,E=w1.heap.size:=⟨_,rfl⟩
  have hr2:w2.heap[E]?=some (.cells #[.string t,.int .i64 kd,.string n,.string an,.string am,.int .i64 aT,.int .i64 az,.string x] 80 (0,0)):=by rw [hw2,hE];exact heap_alloc_new _ _
  have hbx2:Below w1.heap.size w1 w2:=by rw [hw2];exact below_new (Below.refl _ _) _
  rw [←hw2,←hE]
  have HB2:=Lib.hid (hb1.trans (hbx2.mono hb1.size))
  obtain ⟨y0,y1,-⟩:=tg_at hr2
  clear hw2 hE hbx2 hb1 HCP HTL HGP x0 x1 hr2
  by_cases h0:C=0
  ·have g0:((C:Int) != 0)=false:=by simp [h0]
   rw [if_pos h0] at hL
   have HL:=Lib.hid hL
   have HO3:Hid (LkOw (w2.alloc (.cells #[.string t,.int .i64 kd] 91)) w2.heap.size (.slice (some ⟨w2.heap.size,0,none⟩) 1 1) [⟨t,kd⟩]):=LkOw.one w2 t kd (Nat.le_refl _)
   have HB3:Hid (Below w2.heap.size w2 (w2.alloc (.cells #[.string t,.int .i64 kd] 91))):=below_new (Below.refl _ _) _
   clear h0 hL
   go_wp2_with fail
   go_ret
   exact LkR.of rfl HL.out (LkOw.mono HO3.out (by have:=HBX.out.size;have:=HB2.out.size;omega)) (HBX.out.trans ((HB2.out.trans (HB3.out.mono HB2.out.size)).mono HBX.out.size))
  ·have g0:((C:Int) != 0)=true:=by simp;omega
   rw [if_neg h0] at hL
   have HL:=Lib.hid hL
   clear h0 hL
   go_wp2_with fail
   go_ret
   exact LkR.of rfl HL.out (LkOw.nil _ _) (HBX.out.trans (HB2.out.mono HBX.out.size))
 have g4:(k==4)=false:=by simp [h4]
 have HL:Hid (lksOf k b.data.toList cut=[]):=by show _=_;rw [lksOf,if_neg h2,if_neg h3,if_neg h4]
 clear h2 h3 h4 HCP HTL HGP
 go_enter Tryz.func94,Tryz.ntmps94
 go_upto_region 1 with fail
 rw [←HWO.out,←HB.out]
 go_wp2_with fail
 go_ret
 exact LkR.of rfl HL.out (LkOw.nil _ _) HBX.out
abbrev Kf:=List UInt8→Option Int
def kput (f:Kf) (id:List UInt8) (k:Int):Kf:=fun q=>if q=id then some k else f q
def getL (l:List It) (cuts:List (List UInt8)) (id:ByteArray):List Lk:=lksOf (getI l id).k (getI l id).b.data.toList (decide (id.data.toList∈cuts))
def fol {σ:Type} (l:List It) (cuts:List (List UInt8)) (acc:σ→Lk→Int→σ×Bool):Nat→Kf→List (List Lk)→List Lk→σ→σ×Bool
 | 0,_,_,_,s=>(s,true)
 | _+1,_,[],[],s=>(s,true)
 | f+1,kf,w::ws,[],s=>fol l cuts acc f kf ws w s
 | f+1,kf,ws,lk::cur,s =>
  match kf lk.i.data.toList with
  | some kd=>if (acc s lk kd).2=true then fol l cuts acc f kf ws cur (acc s lk kd).1 else ((acc s lk kd).1,false)
  | none=>if (acc s lk (getI l lk.i).k).2=true then fol l cuts acc f (kput kf lk.i.data.toList (getI l lk.i).k) (getL l cuts lk.i::ws) cur (acc s lk (getI l lk.i).k).1 else ((acc s lk (getI l lk.i).k).1,false)
section
variable {σ:Type} {l:List It} {cuts:List (List UInt8)} {acc:σ→Lk→Int→σ×Bool} {f:Nat} {kf:Kf} {ws:List (List Lk)} {cur:List Lk} {lk:Lk} {s s':σ} {kd:Int}
theorem fol_end:fol l cuts acc (f+1) kf [] [] s=(s,true):=rfl
theorem fol_pop {w:List Lk}:fol l cuts acc (f+1) kf (w::ws) [] s=fol l cuts acc f kf ws w s:=rfl
theorem fol_met (h:kf lk.i.data.toList=some kd) (ha:acc s lk kd=(s',true)):fol l cuts acc (f+1) kf ws (lk::cur) s=fol l cuts acc f kf ws cur s':=by
 rw [fol.eq_def];simp only [h,ha,if_pos]
theorem fol_met_no (h:kf lk.i.data.toList=some kd) (ha:acc s lk kd=(s',false)):fol l cuts acc (f+1) kf ws (lk::cur) s=(s',false):=by
 rw [fol.eq_def];simp [h,ha]
theorem fol_new (h:kf lk.i.data.toList=none) (hk:kd=(getI l lk.i).k) (ha:acc s lk kd=(s',true)):fol l cuts acc (f+1) kf ws (lk::cur) s=fol l cuts acc f (kput kf lk.i.data.toList kd) (getL l cuts lk.i::ws) cur s':=by
 subst hk
 rw [fol.eq_def];simp only [h,ha,if_pos]
theorem fol_new_no (h:kf lk.i.data.toList=none) (hk:kd=(getI l lk.i).k) (ha:acc s lk kd=(s',false)):fol l cuts acc (f+1) kf ws (lk::cur) s=(s',false):=by
 subst hk
 rw [fol.eq_def];simp [h,ha]
end
def wI (cuts:List (List UInt8)) (x:It):Nat:=1+2*(lksOf x.k x.b.data.toList (decide (x.i.data.toList∈cuts))).length
def pen (cuts:List (List UInt8)) (kf:Kf):List It→Nat
 | []=>0
 | x::r=>(if kf x.i.data.toList=none then wI cuts x else 0)+pen cuts kf r
theorem pen_put (cuts:List (List UInt8)) (kf:Kf) (id:List UInt8) (k:Int):∀ l:List It,pen cuts (kput kf id k) l≤pen cuts kf l
 | []=>Nat.le_refl _
 | x::r=>by
  have ih:=pen_put cuts kf id k r
  rw [pen,pen]
  by_cases h:x.i.data.toList=id
  ·rw [if_neg (by rw [kput,if_pos h];simp)]
   omega
  ·rw [show kput kf id k x.i.data.toList=kf x.i.data.toList by rw [kput,if_neg h]]
   omega
theorem pen_has (cuts:List (List UInt8)) (kf:Kf) (k:Int):∀ (l:List It) (x:It),x∈l→kf x.i.data.toList=none→pen cuts (kput kf x.i.data.toList k) l+wI cuts x≤pen cuts kf l
 | y::r,x,hx,h0=>by
  rw [pen,pen]
  rcases List.mem_cons.1 hx with rfl|hx
  ·have ih:=pen_put cuts kf x.i.data.toList k r
   rw [if_neg (by rw [kput,if_pos rfl];simp),if_pos h0]
   omega
  ·have ih:=pen_has cuts kf k r x hx h0
   by_cases h:y.i.data.toList=x.i.data.toList
   ·rw [if_neg (by rw [kput,if_pos h];simp)]
    omega
   ·rw [show kput kf x.i.data.toList k y.i.data.toList=kf y.i.data.toList by rw [kput,if_neg h]]
    omega
def wsz:List (List Lk)→Nat
 | []=>0
 | w::r=>1+2*w.length+wsz r
def phi (l:List It) (cuts:List (List UInt8)) (kf:Kf) (ws:List (List Lk)) (cur:List Lk):Nat:=pen cuts kf l+wsz ws+2*cur.length
theorem getI_mem {l:List It} {id:ByteArray} (h:hasI l id=true):getI l id∈l∧(getI l id).i=id:=by
 unfold getI
 rw [if_pos h]
 unfold hasI at h
 rw [Bool.and_eq_true,decide_eq_true_eq,decide_eq_true_eq] at h
 refine ⟨?_,h.2⟩
 rw [List.getD_eq_getElem?_getD,List.getElem?_eq_getElem h.1]
 exact List.getElem_mem h.1
theorem getI_no {l:List It} {id:ByteArray} (h:hasI l id=false):getI l id=It.zero:=by
 unfold getI
 rw [if_neg (by rw [h];decide)]
theorem phi_new {l:List It} {cuts:List (List UInt8)} {kf:Kf} {ws:List (List Lk)} {cur:List Lk} {lk:Lk} {kd:Int} (h:kf lk.i.data.toList=none) :
  phi l cuts (kput kf lk.i.data.toList kd) (getL l cuts lk.i::ws) cur+1≤phi l cuts kf ws (lk::cur):=by
 unfold phi
 rw [wsz,List.length_cons]
 cases hh:hasI l lk.i with
 | true =>
  obtain ⟨h1,h2⟩:=getI_mem hh
  have h3:=pen_has cuts kf kd l _ h1 (by rw [h2];exact h)
  rw [h2] at h3
  have h4:wI cuts (getI l lk.i)=1+2*(getL l cuts lk.i).length:=by rw [wI,getL,h2]
  omega
 | false =>
  have h3:=pen_put cuts kf lk.i.data.toList kd l
  have h4:(getL l cuts lk.i).length=0:=by rw [getL,getI_no hh];rfl
  omega
theorem phi_met {l:List It} {cuts:List (List UInt8)} {kf:Kf} {ws:List (List Lk)} {cur:List Lk} {lk:Lk}:phi l cuts kf ws cur+1≤phi l cuts kf ws (lk::cur):=by
 unfold phi
 rw [List.length_cons]
 omega
theorem phi_pop {l:List It} {cuts:List (List UInt8)} {kf:Kf} {w:List Lk} {ws:List (List Lk)}:phi l cuts kf ws w+1=phi l cuts kf (w::ws) []:=by
 unfold phi
 rw [wsz]
 simp only [List.length_nil]
 omega
def shortL (L:List Lk):Prop:=∀ x∈L,x.i.size≤140737488355328
theorem short_id {i:ByteArray} (h:isId i=true):i.size≤140737488355328:=by
 have:=isId_size h
 omega
theorem lksOf_short (k:Int) (b:List UInt8) (cut:Bool):shortL (lksOf k b cut):=by
 intro x hx
 unfold lksOf at hx
 by_cases h2:k=2
 ·rw [if_pos h2] at hx
  by_cases h:(parE b).1=0
  ·obtain ⟨e,he,rfl⟩:=List.mem_map.1 hx
   exact short_id (okEn_size ((chkT_all (body_par h).1).2 e he)).2.1
  ·rw [par_err h] at hx
   cases hx
 rw [if_neg h2] at hx
 by_cases h3:k=3
 ·rw [if_pos h3] at hx
  by_cases h:(parC b).1=0
  ·rw [if_pos h] at hx
   obtain ⟨q1,q2,-⟩:=okC_parts (chkC_ok (parC_back h).1).1
   rcases List.mem_cons.1 hx with rfl|hx
   ·exact short_id q1
   ·cases cut with
    | true=>simp at hx
    | false =>
     rw [if_neg (by decide)] at hx
     obtain ⟨y,hy,rfl⟩:=List.mem_map.1 hx
     exact short_id (allId_mem q2 hy)
  ·rw [if_neg h] at hx;cases hx
 rw [if_neg h3] at hx
 by_cases h4:k=4
 ·rw [if_pos h4] at hx
  by_cases h:(parG b).1=0
  ·rw [if_pos h] at hx
   obtain ⟨q1,-⟩:=okG_parts (chkG_ok (parG_back h).1).1
   rw [List.mem_singleton] at hx
   subst hx
   exact short_id q1
  ·rw [if_neg h] at hx;cases hx
 rw [if_neg h4] at hx;cases hx
theorem zero_intS (w:World):(zeroValue 3).run Tryz.prog w=.ok (.int .i64 0) w:=by kernel_rfl
theorem make_mapS (w:World):(Instr.makeMap 123 none).run Tryz.prog w=.ok (.map (some w.heap.size)) (w.alloc (.map #[] 0)):=by kernel_rfl
abbrev Mk (w:World) (b n:Nat) (D:DataW Unit):Prop:=w.ownsMap Tryz.prog 9 (plainElem (H:=Unit) Tryz.prog 3) b n D
theorem mk_new (w:World):Mk (w.alloc (.map #[] 0)) w.heap.size 0 (.map []):=World.ownsMap_made (H:=Unit) w Tryz.prog 9 (plainElem Tryz.prog 3)
structure IsKd (D:DataW Unit) (f:Kf):Prop where
 tidy:Tidy D
 yes:∀ q z,f q=some z→Maps.has D (.string q)=true∧∀ u,D.atKey (.string q) u=.lit (.int .i64 z)
 no:∀ q,f q=none→Maps.has D (.string q)=false
theorem isKd_nil:IsKd (.map []) (fun _=>none):=⟨tidy_empty,fun _ _ h=>by simp at h,fun _ _=>rfl⟩
theorem IsKd.put {D:DataW Unit} {f:Kf} (h:IsKd D f) (q:List UInt8) (k:Int):IsKd (D.put (.string q) (.lit (.int .i64 k))) (kput f q k):=by
 have hkey:WideAt.IsKeyLit (Lit.string q):=trivial
 have hne:∀ z,z≠q→Lit.string z≠Lit.string q:=fun z hz e=>hz (Lit.string.inj e)
 refine ⟨h.tidy.put hkey _,fun z y hz=>?_,fun z hz=>?_⟩
 ·by_cases e:z=q
  ·subst e
   rw [kput,if_pos rfl] at hz
   cases hz
   exact ⟨has_put_same h.tidy.isMap hkey _,fun u=>by rw [atKey_put_same h.tidy.isMap hkey]⟩
  ·rw [kput,if_neg e] at hz
   obtain ⟨y1,y2⟩:=h.yes z y hz
   exact ⟨by rw [has_put_other (hne z e)];exact y1,fun u=>by rw [atKey_put_other (hne z e),y2 u]⟩
 ·by_cases e:z=q
  ·rw [kput,if_pos e] at hz
   cases hz
  ·rw [kput,if_neg e] at hz
   rw [has_put_other (hne z e)]
   exact h.no z hz
def LkTy (w:World) (base:Nat) (p:Option Addr) (es:List Lk):Prop:=LkRw w p es∧∀ g o,p=some ⟨g,o,none⟩→base≤g∧∃ c m,w.heap[g]?=some (.cells c 91 m)
theorem LkTy.grown {w w':World} {base:Nat} {p:Option Addr} {es:List Lk} {r:Option Nat} (h:LkTy w base p es) (hg:w.grownBy w' r) (hr:∀ x,r=some x→base≤x→∀ c m,w.heap[x]?≠some (.cells c 91 m)):LkTy w' base p es:=by
 have hne:∀ g o,p=some ⟨g,o,none⟩→some g≠r:=fun g o hp e=>by
  obtain ⟨h1,c,m,h2⟩:=h.2 g o hp
  exact hr g e.symm h1 c m h2
 refine ⟨h.1.grown hg hne,fun g o hp=>?_⟩
 obtain ⟨h1,c,m,h2⟩:=h.2 g o hp
 exact ⟨h1,c,m,(hg.block g (Array.getElem?_eq_some_iff.mp h2).1 (hne g o hp)).trans h2⟩
theorem LkTy.below {w w':World} {base:Nat} {p:Option Addr} {es:List Lk} (h:LkTy w base p es) (hb:Below w.heap.size w w'):LkTy w' base p es:=h.grown (grown_of_below hb) (fun x e=>by cases e)
theorem LkTy.low {w w':World} {base r:Nat} {p:Option Addr} {es:List Lk} (h:LkTy w base p es) (hg:w.grownBy w' (some r)) (hr:r<base):LkTy w' base p es:=h.grown hg (fun x e hb=>by cases e;omega)
def WkOw (w:World) (base:Nat) (v:Value) (st:List (List Lk)):Prop :=
 ∃ vals:List Value,w.ownsRow base 124 1 v st.length vals∧∀ j (h:j<st.length),∃ p c,vals[j]?=some (.slice p st[j].length c)∧LkTy w base p st[j]
theorem own_tag {w:World} {base n:Nat} {v:Value} {vals:List Value} (h:w.ownsRow base 124 1 v n vals):∀ x,v.ownBlock=some x→∀ c m,w.heap[x]?≠some (.cells c 91 m):=fun x hx c m he=>by
 rcases h.2 with ⟨rfl,_⟩|⟨g,cap,cur,rfl,_,hg,_⟩
 ·simp [Value.ownBlock] at hx
 ·simp only [Value.ownBlock,Option.some.injEq] at hx
  subst hx
  rw [hg] at he
  simp at he
theorem LkTy.own {w w':World} {base b2 n:Nat} {v:Value} {vals:List Value} {p:Option Addr} {es:List Lk} (h:LkTy w base p es) (ho:w.ownsRow b2 124 1 v n vals) (hg:w.grownBy w' v.ownBlock):LkTy w' base p es:=h.grown hg (fun x e _=>own_tag ho x e)
theorem WkOw.low {w w':World} {base r:Nat} {v:Value} {st:List (List Lk)} (h:WkOw w base v st) (hg:w.grownBy w' (some r)) (hr:r<base):WkOw w' base v st:=by
 obtain ⟨vals,h1,h2⟩:=h
 refine ⟨vals,h1.kept hg (.inr fun e=>by have:=(h1.lt r e).1;omega),fun j hj=>?_⟩
 obtain ⟨p,c,h3,h4⟩:=h2 j hj
 exact ⟨p,c,h3,h4.low hg hr⟩
theorem WkOw.below {w w':World} {base:Nat} {v:Value} {st:List (List Lk)} (h:WkOw w base v st) (hb:Below w.heap.size w w'):WkOw w' base v st:=by
 obtain ⟨vals,h1,h2⟩:=h
 refine ⟨vals,own_below h1 hb,fun j hj=>?_⟩
 obtain ⟨p,c,h3,h4⟩:=h2 j hj
 exact ⟨p,c,h3,h4.below hb⟩
theorem Tryz.infoWk:(Tryz.prog.info? 124).map (fun i=>(i.zero,i.size,i.bytes))=some (some (.slice none 0 0),1,24):=by kernel_rfl
theorem WkOw.one {w:World} {base:Nat} {p:Option Addr} {c n:Nat} {L:List Lk} (hn:n=L.length) (hb:base≤w.heap.size) (h:LkTy w base p L):WkOw (w.alloc (.cells #[.slice p n c] 124)) base (.slice (some ⟨w.heap.size,0,none⟩) 1 1) [L]:=by
 subst hn
 refine ⟨[.slice p L.length c],⟨rfl,.inr ⟨w.heap.size,1,#[.slice p L.length c],rfl,hb,heap_alloc_new _ _,by simp,by decide,rfl,rfl⟩⟩,fun j hj=>?_⟩
 obtain rfl:j=0:=by simpa using hj
 exact ⟨p,c,rfl,h.below (below_new (Below.refl _ _) _)⟩
theorem WkOw.top {w:World} {base n:Nat} {v:Value} {st:List (List Lk)} {L:List Lk} (h:WkOw w base v (st++[L])) (hn:n=st.length):∃ g cap p c,v=.slice (some ⟨g,0,none⟩) (n+1) cap∧n+1≤cap∧w.cell? ⟨g,n,none⟩=some (.slice p L.length c)∧LkTy w base p L∧WkOw w base (.slice (some ⟨g,0,none⟩) n cap) st:=by
 subst hn
 obtain ⟨vals,h1,h2⟩:=h
 have hl:(st++[L]).length=st.length+1:=by simp
 rw [hl] at h1
 obtain ⟨p,c,h3,h4⟩:=h2 st.length (by rw [hl];omega)
 rw [List.getElem_append_right (Nat.le_refl _)] at h3 h4
 simp only [Nat.sub_self,List.getElem_cons_zero] at h3 h4
 rcases h1.2 with ⟨rfl,hx⟩|⟨g,cap,cur,rfl,hbg,hg,hc,hm,hs,ht⟩
 ·omega
 ·refine ⟨g,cap,p,c,rfl,hc,?_,h4,vals.take st.length,⟨?_,.inr ⟨g,cap,cur,rfl,hbg,hg,by omega,hm,hs,?_⟩⟩,fun j hj=>?_⟩
  ·rw [World.ownsRow.cellAt h1 st.length (by have:=h1.1;omega),h3]
  ·have:=h1.1;simp;omega
  ·rw [←ht,List.take_take]
   congr 1
   have:=h1.1
   simp
  ·obtain ⟨p',c',h5,h6⟩:=h2 j (by rw [hl];omega)
   rw [List.getElem_append_left hj] at h5 h6
   exact ⟨p',c',by rw [List.getElem?_take_of_lt hj];exact h5,h6⟩
theorem wp_wk_one {ops:Array Oper} {rest:List Oper} {o:Oper} {a:Act} {Q:Exit→Act→World→Prop} {w:World} {base:Nat} {v:Value} {st:List (List Lk)} (hgd:o.guard=none) (sl x:Operand) (ho:o.op=.call { callee:=.builtin .append,args:=#[sl,x],argTypes:=#[126,126] })
  (hs:a.eval sl=v) (hown:WkOw w base v st) (p:Option Addr) (n c:Nat) (L:List Lk) (hn:n=L.length) (hL:LkTy w base p L) (hx:a.eval x=.slice (some ⟨w.heap.size,0,none⟩) 1 1) (hb:st.length+1≤1048576000) (hbase:base≤w.heap.size)
  (h:∀ v' w',WkOw w' base v' (st++[L])→(∃ vals,(w.alloc (.cells #[.slice p n c] 124)).ownsRow base 124 1 v st.length vals)→(w.alloc (.cells #[.slice p n c] 124)).grownBy w' v.ownBlock→wpList Tryz.prog ops Q rest (a.put o.dst v') w'):wpList Tryz.prog ops Q (o::rest) a (w.alloc (.cells #[.slice p n c] 124)):=by
 obtain ⟨i0,hi,hz0,hz1,hz2⟩:=info_parts Tryz.infoWk
 subst hn
 obtain ⟨vals,h1,h2⟩:=hown
 have hb1:Below w.heap.size w (w.alloc (.cells #[.slice p L.length c] 124)):=below_new (Below.refl _ _) _
 have h1':=h1.alloc (.cells #[.slice p L.length c] 124)
 refine wpList_append_own _ hgd sl x 126 ho base 124 i0 (.slice none 0 0) 1 24 Tryz.underlying126 hi hz0 hz1 hz2 rfl (by decide) v st.length vals hs h1' ⟨w.heap.size,0,none⟩ 1 1 [.slice p L.length c] hx rfl (fun j u hj=>?_) (fun u hu=>by rw [List.mem_singleton] at hu;subst hu;rfl) (by unfold maxLen;omega) (by omega) (by simp;omega) ?_
 ·cases j with
  | zero =>
   simp at hj
   subst hj
   rw [Addr.add_lit,Nat.zero_add]
   exact (cell_of_row _ _ 0 _ _ _ (heap_alloc_new w _))
  | succ j=>simp at hj
 ·intro v' w' h3 h4 _
  have hlen:=h1.1
  refine h v' w' ⟨vals++[.slice p L.length c],by rw [List.length_append];exact h3,fun j hj=>?_⟩ ⟨vals,h1'⟩ h4
  rw [List.length_append,List.length_singleton] at hj
  by_cases hlt:j<st.length
  ·obtain ⟨p',c',h5,h6⟩:=h2 j hlt
   rw [List.getElem_append_left hlt]
   exact ⟨p',c',by rw [List.getElem?_append_left (by omega)];exact h5,(h6.below hb1).own h1' h4⟩
  ·obtain rfl:j=st.length:=by omega
   rw [List.getElem_append_right (Nat.le_refl _)]
   simp only [Nat.sub_self,List.getElem_cons_zero]
   exact ⟨p,c,by rw [List.getElem?_append_right (by omega)];simp [show st.length-vals.length=0 by omega],(hL.below hb1).own h1' h4⟩
structure Fo {σ:Type} (J:σ→World→Prop) (B:Nat) (wB:World) (I C nC:Nat) (DC:DataW Unit) (sv:Value) (s:σ) (w:World):Prop where
 b:Below B wB w
 i:w.heap[I]?=some (.cells #[sv] 24 (0,0))
 cu:Msb w C nC DC
 j:J s w
def Stays {σ:Type} (J:σ→World→Prop) (base:Nat):Prop:=∀ s w w' r,J s w→w.grownBy w' r→(∀ x,r=some x→base≤x)→J s w'
theorem Fo.grown {σ:Type} {J:σ→World→Prop} {B base:Nat} {wB:World} {I C nC:Nat} {DC:DataW Unit} {sv:Value} {s:σ} {w w':World} {r:Option Nat} (h:Fo J B wB I C nC DC sv s w) (hJ:Stays J base) (hB:B≤base) (hs:B≤w.heap.size) (hg:w.grownBy w' r) (hr:∀ x,r=some x→base≤x∧x≠I∧x≠C):Fo J B wB I C nC DC sv s w' :=
 ⟨h.b.grown hg hs (fun k e=>by have:=(hr k e).1;omega),(hg.block I (row_lt h.i) (fun e=>(hr I e.symm).2.1 rfl)).trans h.i,h.cu.kept hg (fun e=>(hr C e.symm).2.2 rfl),hJ s w w' r h.j hg (fun x e=>(hr x e).1)⟩
theorem Fo.below {σ:Type} {J:σ→World→Prop} {B base:Nat} {wB:World} {I C nC:Nat} {DC:DataW Unit} {sv:Value} {s:σ} {w w':World} (h:Fo J B wB I C nC DC sv s w) (hJ:Stays J base) (hB:B≤base) (hs:B≤w.heap.size) (hb:Below w.heap.size w w'):Fo J B wB I C nC DC sv s w' :=
 h.grown hJ hB hs (grown_of_below hb) (fun x e=>by cases e)
theorem Fo.call {σ:Type} {J:σ→World→Prop} {B:Nat} {wB:World} {I C nC M:Nat} {DC:DataW Unit} {sv:Value} {s s':σ} {w w':World} (h:Fo J B wB I C nC DC sv s w) (hs:B≤w.heap.size) (hg:w.grownBy w' (some M)) (hM:B≤M) (hI:I≠M) (hC:C≠M) (hj:J s' w'):Fo J B wB I C nC DC sv s' w' :=
 ⟨h.b.grown hg hs (fun k e=>by cases e;exact hM),(hg.block I (row_lt h.i) (fun e=>hI (Option.some.inj e))).trans h.i,h.cu.kept hg (fun e=>hC (Option.some.inj e)),hj⟩
end Go.Proofs.YtnoopcenogbjiaaGreatDoor
/-
 The walks of Get, the program's and the reference's.
-/
namespace Go.Proofs.YtnoopcenogbjiaaGreatDoor
open Go Go.RowKit
set_option maxHeartbeats 4000000 in
set_option maxRecDepth 4000 in
theorem sget_any (l:List It) (id:ByteArray) (p:Option Addr) (n c:Nat) (w:World) (hn:n=l.length) (hp:ItRw w p l) (hn2:n≤140737488355328) :
  Calls Tryz.prog 15 #[.agg #[.slice p n c],.string id] w fun e w'=>e=.returned (.tuple #[.agg #[.int .i64 (getI l id).k,.string (getI l id).b],.int .i64 (getE l id:Int)])∧Below w.heap.size w w':=by
 obtain ⟨w1,hw1⟩:∃ w1,w1=w.alloc (.cells #[.slice p n c] 24):=⟨_,rfl⟩
 obtain ⟨w2,hw2⟩:∃ w2,w2=w1.alloc (.cells #[.int .i64 0,.string ⟨#[]⟩] 29):=⟨_,rfl⟩
 obtain ⟨I,hI⟩:∃ I,I=w.heap.size:=⟨_,rfl⟩
 obtain ⟨O,hO⟩:∃ O,O=w.heap.size+1:=⟨_,rfl⟩
 have h1:w1.heap[I]?=some (.cells #[.slice p n c] 24 (0,0)):=by rw [hw1,hI];exact heap_alloc_new _ _
 have h2:w2.heap[O]?=some (.cells #[.int .i64 0,.string ⟨#[]⟩] 29 (0,0)):=by rw [hw2,hO,show w.heap.size+1=w1.heap.size by rw [hw1];simp];exact heap_alloc_new _ _
 have h3:w2.heap[I]?=some (.cells #[.slice p n c] 24 (0,0)):=by rw [hw2];exact row_alloc h1 (row_lt h1)
 have hb:Below w.heap.size w w2:=by rw [hw2,hw1];exact below_new (below_new (Below.refl _ _) _) _
 have hc:=find_any l id p n c w2 hn (hp.below hb) hn2
 have hOl:w.heap.size≤O:=by omega
 obtain ⟨A,hA⟩:∃ A,A=atI l id:=⟨_,rfl⟩
 obtain ⟨H,hH⟩:∃ H,H=hasI l id:=⟨_,rfl⟩
 have hg:getE l id=if H=true then 0 else 5:=by rw [hH];rfl
 have hgi:getI l id=if H=true then l.getD A It.zero else It.zero:=by rw [hH,hA];rfl
 have hAl:H=true→A<n:=fun h=>by
  rw [hH] at h
  unfold hasI at h
  rw [Bool.and_eq_true,decide_eq_true_eq] at h
  rw [hA,hn]
  exact h.1
 rw [←hA,←hH] at hc
 obtain ⟨K,hK⟩:∃ K,K=getE l id:=⟨_,rfl⟩
 obtain ⟨⟨xi,xk,xb⟩,hX⟩:∃ X,X=getI l id:=⟨_,rfl⟩
 rw [←hK,←hX]
 rw [←hK] at hg
 rw [←hX] at hgi
 simp only
 have x0:w2.cell? ⟨I,0,none⟩=some (.slice p n c):=cell_of_row _ _ 0 _ _ _ h3
 have HC:=Lib.hid hc
 have HBX:=Lib.hid hb
 have HW1:=Lib.hid hw1
 have HW2:=Lib.hid hw2
 have HI:=Lib.hid hI
 have HO:=Lib.hid hO
 have H2:=Lib.hid h2
 have HN:=Lib.hid hn
 have HP:=Lib.hid (hp.below hb)
 have HOL:=Lib.hid hOl
 clear hc hb hw1 hw2 hI hO h1 h2 h3 hn hp hA hH hK hX hOl
 rcases H with _|_
 ·have HQ:Hid (K=5∧xk=0∧xb=⟨#[]⟩):=by
   rw [if_neg (by decide)] at hg hgi
   simp only [It.zero,It.mk.injEq] at hgi
   exact ⟨hg,hgi.2.1,hgi.2.2⟩
  clear hg hgi hAl
  go_enter Tryz.func15,Tryz.ntmps15
  go_upto_region 1 with fail
  rw [←HW1.out,←HW2.out,←HO.out,←HI.out]
  go_upto_region 3 with (go_at_call 43;((with_reducible refine (HC.out).mono ?_);rintro e w3 ⟨rfl,hb3⟩))
  obtain ⟨o0,o1,f0,f1⟩:=ob_at ((hb3.block _ (row_lt H2.out)).trans H2.out)
  obtain ⟨d0,d1,-,-⟩:=ob_at (ob_row (v0:=.int .i64 0) (v1:=.string ⟨#[]⟩) ((hb3.block _ (row_lt H2.out)).trans H2.out))
  have HB3:=Lib.hid (set2_below (v0:=.int .i64 0) (v1:=.string ⟨#[]⟩) (HBX.out.trans (hb3.mono HBX.out.size)) HOL.out)
  clear hb3
  go_wp2_with fail
  refine bodyPost_ret (v:=.tuple #[.agg #[.int .i64 0,.string ⟨#[]⟩],.int .i64 5]) (by simp [results,Tryz.results15,go_sem,d0,d1]) rfl ⟨by rw [HQ.out.1,HQ.out.2.1,HQ.out.2.2];rfl,HB3.out⟩
 ·have HQ:Hid (K=0):=by show _=_;rw [hg,if_pos rfl]
  have hAn:=hAl rfl
  have hAn2:(A:Int)<(n:Int):=by omega
  have hAll:A<l.length:=by rw [←HN.out];exact hAn
  rw [if_pos rfl,getI_at hAll] at hgi
  obtain ⟨g,o,rfl,hg0,a0,a1,a2⟩:=HP.out A hAll
  rw [←hgi] at a0 a1 a2
  simp only at a0 a1 a2
  clear hg hgi hAl hg0 hAll
  go_enter Tryz.func15,Tryz.ntmps15
  go_upto_region 1 with fail
  rw [←HW1.out,←HW2.out,←HO.out,←HI.out]
  go_upto_region 4 with (go_at_call 43;((with_reducible refine (HC.out).mono ?_);rintro e w3 ⟨rfl,hb3⟩))
  have b0:=cell_bel a0 hb3
  have b1:=cell_bel a1 hb3
  have b2:=cell_bel a2 hb3
  have c0:=cell_bel x0 hb3
  have H3:=Lib.hid ((hb3.block _ (row_lt H2.out)).trans H2.out)
  have HB3:=Lib.hid (HBX.out.trans (hb3.mono HBX.out.size))
  clear a0 a1 a2 x0 hb3
  have hct:=Lib.hid (fun w'=>content_any xi xk xb w')
  go_wp2_with (go_at_call 39;((with_reducible refine (hct.out _).mono ?_);rintro e w4 ⟨rfl,hb4⟩;have H4:=Lib.hid ((hb4.block _ (row_lt H3.out)).trans H3.out);obtain ⟨o0,o1,f0,f1⟩:=ob_at H4.out))
  obtain ⟨d0,d1,-,-⟩:=ob_at (ob_row (v0:=.int .i64 xk) (v1:=.string xb) H4.out)
  refine bodyPost_ret (v:=.tuple #[.agg #[.int .i64 xk,.string xb],.int .i64 0]) (by simp [results,Tryz.results15,go_sem,d0,d1]) rfl ⟨by rw [HQ.out];rfl,set2_below (HB3.out.trans (hb4.mono HB3.out.size)) HOL.out⟩
set_option maxHeartbeats 4000000 in
set_option maxRecDepth 4000 in
theorem rsget_any (l:List It) (id:ByteArray) (p:Option Addr) (n c:Nat) (w:World) (hn:n=l.length) (hp:ItRw w p l) (hn2:n≤140737488355328) :
  Calls Tryz.prog 21 #[.agg #[.slice p n c],.string id] w fun e w'=>e=.returned (.tuple #[.agg #[.int .i64 (getI l id).k,.string (getI l id).b],.int .i64 (getE l id:Int)])∧Below w.heap.size w w':=by
 obtain ⟨w1,hw1⟩:∃ w1,w1=w.alloc (.cells #[.slice p n c] 24):=⟨_,rfl⟩
 obtain ⟨w2,hw2⟩:∃ w2,w2=w1.alloc (.cells #[.int .i64 0,.string ⟨#[]⟩] 29):=⟨_,rfl⟩
 obtain ⟨I,hI⟩:∃ I,I=w.heap.size:=⟨_,rfl⟩
 obtain ⟨O,hO⟩:∃ O,O=w.heap.size+1:=⟨_,rfl⟩
 have h1:w1.heap[I]?=some (.cells #[.slice p n c] 24 (0,0)):=by rw [hw1,hI];exact heap_alloc_new _ _
 have h2:w2.heap[O]?=some (.cells #[.int .i64 0,.string ⟨#[]⟩] 29 (0,0)):=by rw [hw2,hO,show w.heap.size+1=w1.heap.size by rw [hw1];simp];exact heap_alloc_new _ _
 have h3:w2.heap[I]?=some (.cells #[.slice p n c] 24 (0,0)):=by rw [hw2];exact row_alloc h1 (row_lt h1)
 have hb:Below w.heap.size w w2:=by rw [hw2,hw1];exact below_new (below_new (Below.refl _ _) _) _
 have hc:=rplace_any l id p n c w2 hn (hp.below hb) hn2
 have hOl:w.heap.size≤O:=by omega
 obtain ⟨A,hA⟩:∃ A,A=atI l id:=⟨_,rfl⟩
 obtain ⟨H,hH⟩:∃ H,H=hasI l id:=⟨_,rfl⟩
 have hg:getE l id=if H=true then 0 else 5:=by rw [hH];rfl
 have hgi:getI l id=if H=true then l.getD A It.zero else It.zero:=by rw [hH,hA];rfl
 have hAl:H=true→A<n:=fun h=>by
  rw [hH] at h
  unfold hasI at h
  rw [Bool.and_eq_true,decide_eq_true_eq] at h
  rw [hA,hn]
  exact h.1
 rw [←hA,←hH] at hc
 obtain ⟨K,hK⟩:∃ K,K=getE l id:=⟨_,rfl⟩
 obtain ⟨⟨xi,xk,xb⟩,hX⟩:∃ X,X=getI l id:=⟨_,rfl⟩
 rw [←hK,←hX]
 rw [←hK] at hg
 rw [←hX] at hgi
 simp only
 have x0:w2.cell? ⟨I,0,none⟩=some (.slice p n c):=cell_of_row _ _ 0 _ _ _ h3
 have HC:=Lib.hid hc
 have HBX:=Lib.hid hb
 have HW1:=Lib.hid hw1
 have HW2:=Lib.hid hw2
 have HI:=Lib.hid hI
 have HO:=Lib.hid hO
 have H2:=Lib.hid h2
 have HN:=Lib.hid hn
 have HP:=Lib.hid (hp.below hb)
 have HOL:=Lib.hid hOl
 clear hc hb hw1 hw2 hI hO h1 h2 h3 hn hp hA hH hK hX hOl
 rcases H with _|_
 ·have HQ:Hid (K=5∧xk=0∧xb=⟨#[]⟩):=by
   rw [if_neg (by decide)] at hg hgi
   simp only [It.zero,It.mk.injEq] at hgi
   exact ⟨hg,hgi.2.1,hgi.2.2⟩
  clear hg hgi hAl
  go_enter Tryz.func21,Tryz.ntmps21
  go_upto_region 1 with fail
  rw [←HW1.out,←HW2.out,←HO.out,←HI.out]
  go_upto_region 3 with (go_at_call 47;((with_reducible refine (HC.out).mono ?_);rintro e w3 ⟨rfl,k3,hk3⟩;have hb3:Below w2.heap.size w2 w3:=(by rw [hk3];exact below_drewN (Below.refl _ _) k3);clear hk3))
  obtain ⟨o0,o1,f0,f1⟩:=ob_at ((hb3.block _ (row_lt H2.out)).trans H2.out)
  obtain ⟨d0,d1,-,-⟩:=ob_at (ob_row (v0:=.int .i64 0) (v1:=.string ⟨#[]⟩) ((hb3.block _ (row_lt H2.out)).trans H2.out))
  have HB3:=Lib.hid (set2_below (v0:=.int .i64 0) (v1:=.string ⟨#[]⟩) (HBX.out.trans (hb3.mono HBX.out.size)) HOL.out)
  clear hb3
  go_wp2_with fail
  refine bodyPost_ret (v:=.tuple #[.agg #[.int .i64 0,.string ⟨#[]⟩],.int .i64 5]) (by simp [results,Tryz.results21,go_sem,d0,d1]) rfl ⟨by rw [HQ.out.1,HQ.out.2.1,HQ.out.2.2];rfl,HB3.out⟩
 ·have HQ:Hid (K=0):=by show _=_;rw [hg,if_pos rfl]
  have hAn:=hAl rfl
  have hAn2:(A:Int)<(n:Int):=by omega
  have hAll:A<l.length:=by rw [←HN.out];exact hAn
  rw [if_pos rfl,getI_at hAll] at hgi
  obtain ⟨g,o,rfl,hg0,a0,a1,a2⟩:=HP.out A hAll
  rw [←hgi] at a0 a1 a2
  simp only at a0 a1 a2
  clear hg hgi hAl hg0 hAll
  go_enter Tryz.func21,Tryz.ntmps21
  go_upto_region 1 with fail
  rw [←HW1.out,←HW2.out,←HO.out,←HI.out]
  go_upto_region 4 with (go_at_call 47;((with_reducible refine (HC.out).mono ?_);rintro e w3 ⟨rfl,k3,hk3⟩;have hb3:Below w2.heap.size w2 w3:=(by rw [hk3];exact below_drewN (Below.refl _ _) k3);clear hk3))
  have b0:=cell_bel a0 hb3
  have b1:=cell_bel a1 hb3
  have b2:=cell_bel a2 hb3
  have c0:=cell_bel x0 hb3
  have H3:=Lib.hid ((hb3.block _ (row_lt H2.out)).trans H2.out)
  have HB3:=Lib.hid (HBX.out.trans (hb3.mono HBX.out.size))
  clear a0 a1 a2 x0 hb3
  obtain ⟨o0,o1,f0,f1⟩:=ob_at H3.out
  obtain ⟨d0,d1,-,-⟩:=ob_at (ob_row (v0:=.int .i64 xk) (v1:=.string xb) H3.out)
  go_region
  go_wp2_with fail
  refine bodyPost_ret (v:=.tuple #[.agg #[.int .i64 xk,.string xb],.int .i64 0]) (by simp [results,Tryz.results21,go_sem,d0,d1]) rfl ⟨by rw [HQ.out];rfl,?_⟩
  exact set2_below HB3.out.drew HOL.out
end Go.Proofs.YtnoopcenogbjiaaGreatDoor
