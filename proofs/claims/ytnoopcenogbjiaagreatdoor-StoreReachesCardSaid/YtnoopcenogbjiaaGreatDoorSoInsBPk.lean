/-
 The reference's Insert once more: its row is the old row, or lies in a block of its own.
-/
import Derived.Test.YtnoopcenogbjiaaGreatDoorSoSrtPk
import Derived.Test.YtnoopcenogbjiaaGreatDoorSoNmPPk
import Derived.Test.YtnoopcenogbjiaaGreatDoorObRBytesPk
import Derived.Test.YtnoopcenogbjiaaGreatDoorSoLkoPk
import Derived.Deep.LoopGhost
set_option linter.unusedVariables false
set_option linter.unusedSimpArgs false
namespace Go.Proofs.YtnoopcenogbjiaaGreatDoor
open Go Go.RowKit Go.Maps Go.WideMaps
theorem SOw.rw3 {w:World} {base:Nat} {v:Value} {l:List (List UInt8)} (h:SOw w base v l):∃ p n cap,v=.slice p n cap∧n=l.length∧n≤cap∧(p=none→cap=0)∧SRw w p l∧∀ g o,p=some ⟨g,o,none⟩→base≤g:=by
 obtain ⟨p,n,cap,hv,h1,h2,h3,h4⟩:=h.rw2
 refine ⟨p,n,cap,hv,h1,h2,h3,h4,fun g o hp=>?_⟩
 rcases h.2 with ⟨hx,_⟩|⟨g',cap',cur,hx,hb,_⟩
 ·rw [hv,hp] at hx;cases hx
 ·rw [hv,hp] at hx
  cases hx
  exact hb
set_option maxHeartbeats 4000000 in
set_option maxRecDepth 4000 in
theorem rinsertB_any (l:List (List UInt8)) (s:ByteArray) (p:Option Addr) (n c:Nat) (w:World) (hn:n=l.length) (hnc:n≤c) (hpc:p=none→c=0) (hp:SRw w p l) (hn2:n≤1000000) :
  Calls Tryz.prog 91 #[.slice p n c,.string s] w fun e w'=>(∃ q m d,e=.returned (.slice q m d)∧m=(insS l s).length∧m≤d∧(q=none→d=0)∧SRw w' q (insS l s)∧(q=p∨∀ g o,q=some ⟨g,o,none⟩→w.heap.size≤g))∧Below w.heap.size w w':=by
 have HC:=Lib.hid (rspot_any l s p n c w hn hp (by omega))
 obtain ⟨A,hA⟩:∃ A,A=spotS l s:=⟨_,rfl⟩
 have hhs:holdsS l s=(decide (A<n)&&decide (str (l.getD A [])=s)):=by rw [holdsS,hA,hn]
 rw [←hA] at HC
 have hAn:A≤n:=by rw [hA,hn];exact spotS_le l s
 obtain ⟨I,hI⟩:∃ I,I=insS l s:=⟨_,rfl⟩
 rw [←hI]
 have hins:holdsS l s=false→I=l.take A++[s.data.toList]++l.drop A:=fun h=>by rw [hI,insS,if_neg (by rw [h];decide),←hA];simp
 have hsame:holdsS l s=true→I=l:=fun h=>by rw [hI,insS,if_pos h]
 rw [hhs] at hins hsame
 have HN:=Lib.hid hn
 have HP:=Lib.hid hp
 have HPC:=Lib.hid hpc
 have HINS:=Lib.hid hins
 have HSAME:=Lib.hid hsame
 have hAc:A≤c:=by omega
 have HT:=Lib.hid (hp.takeS A)
 have HD:=Lib.hid (hp.dropS A hn hnc hAn)
 obtain ⟨Q,hQ⟩:∃ Q,(if c=A then p else p.map (·.add A))=Q:=⟨_,rfl⟩
 rw [hQ] at HD
 have HTL:Hid (A=(l.take A).length):=by show A=_;rw [List.length_take];omega
 have HDL:Hid (n-A=(l.drop A).length):=by show _=_;rw [List.length_drop];omega
 have HO:=fun w'=>SOw.empty (base:=w.heap.size) w'
 clear hn hpc hA hhs hI hins hsame
 by_cases hlt:A<n
 ·have hAl:A<l.length:=by rw [←HN.out];exact hlt
  obtain ⟨g,o,hpe,hg,a9⟩:=hp A hAl
  have HPE:=Lib.hid hpe
  obtain ⟨x,hx⟩:∃ x,x=str l[A]:=⟨_,rfl⟩
  have hgd:=getS_at hAl
  have a0:w.cell? ⟨g,o+A,none⟩=some (.string x):=by rw [hx];exact a9
  have q1:(A:Int)<(n:Int):=by omega
  have HX:Hid (str (l.getD A [])=x):=by show _=_;rw [hgd,hx]
  clear a9 hx hgd hp
  by_cases hxs:x=s
  ·have gB:(x.toList==s.toList)=true:=by rw [str_dec];exact decide_eq_true hxs
   have HQ:Hid (I=l):=HSAME.out (by rw [decide_eq_true hlt,HX.out,decide_eq_true hxs];rfl)
   clear hxs
   subst hpe
   go_enter Tryz.func91,Tryz.ntmps91
   go_wp2_with (go_at_call 69;((with_reducible refine HC.out.mono ?_);rintro e w2 ⟨rfl,rfl⟩))
   go_ret
   exact ⟨⟨_,_,_,rfl,by rw [HQ.out];exact HN.out,hnc,HPC.out,by rw [HQ.out];exact HP.out,.inl rfl⟩,Below.refl _ _⟩
  ·have gB:(x.toList==s.toList)=false:=by rw [str_dec];exact decide_eq_false hxs
   have HQ:Hid (I=l.take A++[s.data.toList]++l.drop A):=HINS.out (by rw [decide_eq_true hlt,HX.out,decide_eq_false hxs];rfl)
   clear hxs
   subst hpe
   rw [Option.map_some,Addr.add_lit,if_neg (by omega)] at hQ
   subst hQ
   go_enter Tryz.func91,Tryz.ntmps91
   go_upto_region 4 with (go_at_call 69;((with_reducible refine HC.out.mono ?_);rintro e w2 ⟨rfl,rfl⟩))
   go_upto_region 5 with (at_builtin;refine wp_so_many rfl _ _ rfl rfl (HO w (Nat.le_refl _)) _ A c rfl HTL.out (HT.out.below (below_new (Below.refl _ _) _)) (by simp<;>omega) (by simp) ?_;intro v1 w1 h1 g1;have H1:=Lib.hid h1;have B1:=Lib.hid ((below_new (Below.refl w.heap.size w) (.cells #[] 9)).grown g1 (by simp) (fun j hj=>((HO w (Nat.le_refl _)).lt j hj).1));clear h1 g1)
   go_upto_region 6 with (at_builtin;refine wp_so_one rfl _ _ rfl rfl H1.out s rfl (by simp<;>omega) B1.out.size ?_;intro v2 w2 h2 g2;have H2:=Lib.hid h2;have B2:=Lib.hid (H1.out.bel1 B1.out (Nat.le_refl _) B1.out.size g2);clear h2 g2)
   go_wp2_with (at_builtin;refine wp_so_many rfl _ _ rfl rfl H2.out _ (n-A) (c-A) rfl HDL.out (HD.out.below B2.out) (by simp<;>omega) B2.out.size ?_;intro v3 w3 h3 g3;have H3:=Lib.hid h3;have B3:=Lib.hid (app_step0 B2.out H2.out g3 (Nat.le_refl _) B2.out.size);clear h3 g3;obtain ⟨q,m,d,rfl,hm,hmd,hqd,hr,hgg⟩:=H3.out.rw3;have HM:=Lib.hid hm;clear hm)
   go_ret
   have hm:=HM.out
   rw [List.nil_append,←HQ.out] at hm hr
   exact ⟨⟨q,m,d,rfl,hm,hmd,hqd,hr,.inr hgg⟩,B3.out⟩
 ·have q1:¬ (A:Int)<(n:Int):=by omega
  have HQ:Hid (I=l.take A++[s.data.toList]++l.drop A):=HINS.out (by rw [decide_eq_false hlt];rfl)
  clear hlt
  rcases p with _|a
  ·obtain rfl:c=0:=HPC.out rfl
   obtain rfl:n=0:=by omega
   obtain rfl:A=0:=by omega
   rw [if_pos rfl] at hQ
   subst hQ
   clear q1
   go_enter Tryz.func91,Tryz.ntmps91
   go_upto_region 4 with (go_at_call 69;((with_reducible refine HC.out.mono ?_);rintro e w2 ⟨rfl,rfl⟩))
   go_upto_region 5 with (at_builtin;refine wp_so_many rfl _ _ rfl rfl (HO w (Nat.le_refl _)) _ 0 0 rfl HTL.out (HT.out.below (below_new (Below.refl _ _) _)) (by simp<;>omega) (by simp) ?_;intro v1 w1 h1 g1;have H1:=Lib.hid h1;have B1:=Lib.hid ((below_new (Below.refl w.heap.size w) (.cells #[] 9)).grown g1 (by simp) (fun j hj=>((HO w (Nat.le_refl _)).lt j hj).1));clear h1 g1)
   go_upto_region 6 with (at_builtin;refine wp_so_one rfl _ _ rfl rfl H1.out s rfl (by simp<;>omega) B1.out.size ?_;intro v2 w2 h2 g2;have H2:=Lib.hid h2;have B2:=Lib.hid (H1.out.bel1 B1.out (Nat.le_refl _) B1.out.size g2);clear h2 g2)
   go_wp2_with (at_builtin;refine wp_so_many rfl _ _ rfl rfl H2.out _ 0 0 rfl HDL.out (HD.out.below B2.out) (by simp<;>omega) B2.out.size ?_;intro v3 w3 h3 g3;have H3:=Lib.hid h3;have B3:=Lib.hid (app_step0 B2.out H2.out g3 (Nat.le_refl _) B2.out.size);clear h3 g3;obtain ⟨q,m,d,rfl,hm,hmd,hqd,hr,hgg⟩:=H3.out.rw3;have HM:=Lib.hid hm;clear hm)
   go_ret
   have hm:=HM.out
   rw [List.nil_append,←HQ.out] at hm hr
   exact ⟨⟨q,m,d,rfl,hm,hmd,hqd,hr,.inr hgg⟩,B3.out⟩
  ·have HDN:Hid (∀ w' p',SRw w' p' (l.drop A)):=fun w' p'=>by
    rw [List.drop_eq_nil_of_le (by have:=HN.out;omega)]
    exact SRw.none _ _
   clear HD hQ
   by_cases hcA:c=A
   ·obtain rfl:A=c:=hcA.symm
    have HD0:Hid (0=(l.drop A).length):=by show 0=_;rw [←HDL.out];omega
    go_enter Tryz.func91,Tryz.ntmps91
    go_upto_region 4 with (go_at_call 69;((with_reducible refine HC.out.mono ?_);rintro e w2 ⟨rfl,rfl⟩))
    go_upto_region 5 with (at_builtin;refine wp_so_many rfl _ _ rfl rfl (HO w (Nat.le_refl _)) _ A A rfl HTL.out (HT.out.below (below_new (Below.refl _ _) _)) (by simp<;>omega) (by simp) ?_;intro v1 w1 h1 g1;have H1:=Lib.hid h1;have B1:=Lib.hid ((below_new (Below.refl w.heap.size w) (.cells #[] 9)).grown g1 (by simp) (fun j hj=>((HO w (Nat.le_refl _)).lt j hj).1));clear h1 g1)
    go_upto_region 6 with (at_builtin;refine wp_so_one rfl _ _ rfl rfl H1.out s rfl (by simp<;>omega) B1.out.size ?_;intro v2 w2 h2 g2;have H2:=Lib.hid h2;have B2:=Lib.hid (H1.out.bel1 B1.out (Nat.le_refl _) B1.out.size g2);clear h2 g2)
    go_wp2_with (at_builtin;refine wp_so_many rfl _ _ rfl rfl H2.out _ 0 0 rfl HD0.out (HDN.out _ _) (by simp<;>omega) B2.out.size ?_;intro v3 w3 h3 g3;have H3:=Lib.hid h3;have B3:=Lib.hid (app_step0 B2.out H2.out g3 (Nat.le_refl _) B2.out.size);clear h3 g3;obtain ⟨q,m,d,rfl,hm,hmd,hqd,hr,hgg⟩:=H3.out.rw3;have HM:=Lib.hid hm;clear hm)
    go_ret
    have hm:=HM.out
    rw [List.nil_append,←HQ.out] at hm hr
    exact ⟨⟨q,m,d,rfl,hm,hmd,hqd,hr,.inr hgg⟩,B3.out⟩
   ·have hcA2:¬ (c:Int)=(A:Int):=by omega
    go_enter Tryz.func91,Tryz.ntmps91
    go_upto_region 4 with (go_at_call 69;((with_reducible refine HC.out.mono ?_);rintro e w2 ⟨rfl,rfl⟩))
    go_upto_region 5 with (at_builtin;refine wp_so_many rfl _ _ rfl rfl (HO w (Nat.le_refl _)) _ A c rfl HTL.out (HT.out.below (below_new (Below.refl _ _) _)) (by simp<;>omega) (by simp) ?_;intro v1 w1 h1 g1;have H1:=Lib.hid h1;have B1:=Lib.hid ((below_new (Below.refl w.heap.size w) (.cells #[] 9)).grown g1 (by simp) (fun j hj=>((HO w (Nat.le_refl _)).lt j hj).1));clear h1 g1)
    go_upto_region 6 with (at_builtin;refine wp_so_one rfl _ _ rfl rfl H1.out s rfl (by simp<;>omega) B1.out.size ?_;intro v2 w2 h2 g2;have H2:=Lib.hid h2;have B2:=Lib.hid (H1.out.bel1 B1.out (Nat.le_refl _) B1.out.size g2);clear h2 g2)
    go_wp2_with (at_builtin;refine wp_so_many rfl _ _ rfl rfl H2.out _ (n-A) (c-A) rfl HDL.out (HDN.out _ _) (by simp<;>omega) B2.out.size ?_;intro v3 w3 h3 g3;have H3:=Lib.hid h3;have B3:=Lib.hid (app_step0 B2.out H2.out g3 (Nat.le_refl _) B2.out.size);clear h3 g3;obtain ⟨q,m,d,rfl,hm,hmd,hqd,hr,hgg⟩:=H3.out.rw3;have HM:=Lib.hid hm;clear hm)
    go_ret
    have hm:=HM.out
    rw [List.nil_append,←HQ.out] at hm hr
    exact ⟨⟨q,m,d,rfl,hm,hmd,hqd,hr,.inr hgg⟩,B3.out⟩
theorem step_so_many {ops:Array Oper} {o:Oper} {a:Act} {K:Act→World→Prop} {Q:Exit→Act→World→Prop} {E:Prop} {w:World} (hgd:o.guard=none) (sl x:Operand)
  (ho:o.op=.call { callee:=.builtin .append,args:=#[sl,x],argTypes:=#[41,41] })
  {base:Nat} {v:Value} {l m:List (List UInt8)} (hs:a.eval sl=v) (hown:SOw w base v l) (p:Option Addr) (n c:Nat) (hx:a.eval x=.slice p n c) (hn:n=m.length) (hr:SRw w p m) (hb:l.length+n≤1048576) (hbase:base≤w.heap.size)
  (h:∀ v' w',SOw w' base v' (l++m)→w.grownBy w' v.ownBlock→(v'.ownBlock=v.ownBlock∨v'.ownBlock=some w.heap.size)→K (a.put o.dst v') w') :
  if Region.wanted o (yielded ops a.tmps)=true then Oper.wp Tryz.prog o a w K Q else E:=by
 have hw:Region.wanted o (yielded ops a.tmps)=true:=by simp [Region.wanted,hgd]
 rw [if_pos hw]
 obtain ⟨i0,hi,hz0,hz1,hz2⟩:=info_parts Tryz.infoStr
 rcases p with _|ad
 ·have h0:m=[]:=by
   cases m with
   | nil=>rfl
   | cons y l =>
    obtain ⟨g,o',h1,_⟩:=hr 0 (by simp)
    cases h1
  subst h0
  obtain rfl:n=0:=hn
  have hrun:=app_noneS w base 41 o.type 9 i0 1 Tryz.underlying41 hi v l.length (strs l) hown c
  unfold Oper.wp
  simp [execOp,ho,resolve,invoke,builtin,hs,hx,hrun,Result.andThen]
  exact h v w (by simpa using hown) ⟨rfl,rfl,rfl,Nat.le_refl _,fun _ _ _=>rfl⟩ (.inl rfl)
 ·obtain ⟨v',w',hrun,h2,h3,-,h5⟩:=run_append_own_at (P:=Tryz.prog) w base 41 o.type 9 i0 (.string ⟨#[]⟩) 1 16 Tryz.underlying41 hi hz0 hz1 hz2 rfl (by decide) v l.length (strs l) hown ad n c (strs m) (by rw [strs_len,Nat.mul_one,hn]) (fun j u hj=>by
   have hj':j<m.length:=by
    have:=(List.getElem?_eq_some_iff.mp hj).1
    rwa [strs_len] at this
   obtain ⟨g,o',h1,_,h2⟩:=hr j hj'
   simp only [Option.some.injEq] at h1
   subst h1
   rw [Addr.add_lit,h2]
   have h3:(strs m)[j]?=some (Value.string (str m[j])):=by simp [strs,List.getElem?_map,List.getElem?_eq_getElem hj']
   rw [←h3,hj]) (strs_one _) (by unfold maxLen;omega) (by omega) hbase
  unfold Oper.wp execOp
  simp only [ho,resolve,invoke,builtin,Sem.run_bind,Sem.run_pure,Result.andThen_ok,List.map_toArray,List.map_cons,List.map_nil,hs,hx,hrun]
  exact h v' w' (by unfold SOw;rw [strs_append,List.length_append,←hn];exact h2) h3 h5
structure WkW (w0:World) (I:Nat) (sv vt:Value) (td:List (List UInt8)) (p3:Option Addr) (n3 c3:Nat) (h:List (List UInt8)) (p4:Option Addr) (n4 c4:Nat) (kk:List (List UInt8)) (w:World):Prop where
 b:Below w0.heap.size w0 w
 st:w.heap[I]?=some (.cells #[sv] 24 (0,0))
 hI:w0.heap.size≤I
 tw:SOw w (I+1) vt td
 ln3:n3=h.length
 nc3:n3≤c3
 pc3:p3=none→c3=0
 r3:SRw w p3 h
 f3:Far w vt p3
 ln4:n4=kk.length
 nc4:n4≤c4
 pc4:p4=none→c4=0
 r4:SRw w p4 kk
 f4:Far w vt p4
section
variable {w0 w w':World} {I:Nat} {sv vt vt':Value} {td ns h kk L:List (List UInt8)} {p3 p4 q:Option Addr} {n3 c3 n4 c4 m d:Nat}
theorem WkW.below (hw:WkW w0 I sv vt td p3 n3 c3 h p4 n4 c4 kk w) (hb:Below w.heap.size w w'):WkW w0 I sv vt td p3 n3 c3 h p4 n4 c4 kk w' :=
 ⟨hw.b.trans (hb.mono hw.b.size),(hb.block _ (row_lt hw.st)).trans hw.st,hw.hI,hw.tw.below hb,hw.ln3,hw.nc3,hw.pc3,hw.r3.below hb,hw.f3.same hb.size,hw.ln4,hw.nc4,hw.pc4,hw.r4.below hb,hw.f4.same hb.size⟩
theorem WkW.have' (hw:WkW w0 I sv vt td p3 n3 c3 h p4 n4 c4 kk w) (hb:Below w.heap.size w w') (hm:m=L.length) (hmd:m≤d) (hqd:q=none→d=0) (hl:0<L.length) (hr:SRw w' q L) (hq:q=p3∨∀ g o,q=some ⟨g,o,none⟩→w.heap.size≤g):WkW w0 I sv vt td q m d L p4 n4 c4 kk w':=by
 have h1:=hw.below hb
 exact ⟨h1.b,h1.st,h1.hI,h1.tw,hm,hmd,hqd,hr,Far.ins hw.tw hw.f3 hr hl hb.size hq,h1.ln4,h1.nc4,h1.pc4,h1.r4,h1.f4⟩
theorem WkW.lack' (hw:WkW w0 I sv vt td p3 n3 c3 h p4 n4 c4 kk w) (hb:Below w.heap.size w w') (hm:m=L.length) (hmd:m≤d) (hqd:q=none→d=0) (hl:0<L.length) (hr:SRw w' q L) (hq:q=p4∨∀ g o,q=some ⟨g,o,none⟩→w.heap.size≤g):WkW w0 I sv vt td p3 n3 c3 h q m d L w':=by
 have h1:=hw.below hb
 exact ⟨h1.b,h1.st,h1.hI,h1.tw,h1.ln3,h1.nc3,h1.pc3,h1.r3,h1.f3,hm,hmd,hqd,hr,Far.ins hw.tw hw.f4 hr hl hb.size hq⟩
theorem WkW.app (hw:WkW w0 I sv vt td p3 n3 c3 h p4 n4 c4 kk w) (ho:SOw w' (I+1) vt' ns) (hg:w.grownBy w' vt.ownBlock) (hat:vt'.ownBlock=vt.ownBlock∨vt'.ownBlock=some w.heap.size):WkW w0 I sv vt' ns p3 n3 c3 h p4 n4 c4 kk w':=by
 have hlt:=row_lt hw.st
 refine ⟨hw.b.grown hg hw.b.size fun k hk=>?_,?_,hw.hI,ho,hw.ln3,hw.nc3,hw.pc3,hw.r3.far hw.f3 hg,hw.f3.app hg hat,hw.ln4,hw.nc4,hw.pc4,hw.r4.far hw.f4 hg,hw.f4.app hg hat⟩
 ·have:=(hw.tw.lt k hk).1;have:=hw.hI;omega
 ·rw [hg.block I hlt fun e=>by have:=(hw.tw.lt I e.symm).1;omega]
  exact hw.st
theorem WkW.st' (hw:WkW w0 I sv vt td p3 n3 c3 h p4 n4 c4 kk w):I+1≤w.heap.size:=row_lt hw.st
theorem WkW.len (hw:WkW w0 I sv vt td p3 n3 c3 h p4 n4 c4 kk w):∃ pt nt ct,vt=.slice pt nt ct∧nt=td.length∧SRw w pt td:=by
 obtain ⟨p,n,c,h1,h2,-,-,h3⟩:=hw.tw.rw2
 exact ⟨p,n,c,h1,h2,h3⟩
end
set_option maxHeartbeats 4000000 in
set_option maxRecDepth 8000 in
theorem rnames_any (k:Int) (b:ByteArray) (cut:Bool) (w:World) (hb:b.size≤140737488355328) :
  Calls Tryz.prog 35 #[.agg #[.int .i64 k,.string b],.bool cut] w fun e w'=>(∃ p n c,e=.returned (.slice p n c)∧n=(nmR k b.data.toList cut).length∧n≤c∧SRw w' p (nmR k b.data.toList cut))∧Below w.heap.size w w':=by
 have fL:=fun w'=>rlinks_any k b w' hb
 obtain ⟨R,hR⟩:∃ R,R=nmR k b.data.toList cut:=⟨_,rfl⟩
 rw [←hR]
 unfold nmR at hR
 obtain ⟨⟨K,LL⟩,hK⟩:∃ q,q=lnkL k b.data.toList:=⟨_,rfl⟩
 rw [←hK] at fL hR
 simp only at hR
 obtain ⟨w1,hw1⟩:∃ w1,w1=w.alloc (.cells #[.int .i64 k,.string b] 29):=⟨_,rfl⟩
 have hx:w1.heap[w.heap.size]?=some (.cells #[.int .i64 k,.string b] 29 (0,0)):=by rw [hw1];exact heap_alloc_new w _
 have hbx:Below w.heap.size w w1:=by rw [hw1];exact below_new (Below.refl _ _) _
 have x0:w1.cell? ⟨w.heap.size,0,none⟩=some (.int .i64 k):=cell_of_row _ _ 0 _ _ _ hx
 have x1:w1.cell? ⟨w.heap.size,1,none⟩=some (.string b):=cell_of_row _ _ 1 _ _ _ hx
 have HBX:=Lib.hid hbx
 have HW1:=Lib.hid hw1
 have HL:=Lib.hid (fL w1)
 have HR:=Lib.hid hR
 clear fL hw1 hx hbx hb hR hK
 go_enter Tryz.func35,Tryz.ntmps35
 go_upto_region 1 with fail
 rw [←HW1.out]
 go_upto_region 2 with (go_at_call 68;((with_reducible refine (HL.out).mono ?_);rintro e w2 ⟨⟨v,rfl,ho⟩,hb2⟩;have y0:=cell_bel x0 hb2;have y1:=cell_bel x1 hb2))
 obtain ⟨p,n,c,rfl,hn,hnc,-,hrw⟩:=ho.rw2
 have HO:=Lib.hid hrw
 have HN:=Lib.hid hn
 have HB:Hid (Below w.heap.size w w2):=HBX.out.trans (hb2.mono HBX.out.size)
 clear x0 x1 HL HBX HW1 hb2 ho hrw hn
 have hnz:(n:Int)=(LL.length:Int):=by rw [HN.out]
 have HNZ:=Lib.hid hnz
 clear hnz
 by_cases hc:cut=true∧k=3∧1<n
 ·obtain ⟨rfl,rfl,h1⟩:=hc
  have g1:decide ((1:Int)<(n:Int))=true:=decide_eq_true (by omega)
  have hc1:1≤c:=by omega
  have HQ:Hid (R=LL.take 1):=by
   have:=HR.out
   rw [if_pos ⟨rfl,rfl,by have:=HN.out;omega⟩] at this
   exact this
  go_wp2_with fail
  go_ret
  refine ⟨⟨_,_,_,rfl,?_,by omega,?_⟩,HB.out⟩
  ·rw [HQ.out,List.length_take];have:=HN.out;omega
  ·rw [HQ.out];exact HO.out.takeS 1
 ·have HQ:Hid (R=LL):=by
   have:=HR.out
   rw [if_neg (by have:=HN.out;rw [←this];exact hc)] at this
   exact this
  cases cut with
  | false =>
   clear hc
   go_wp2_with fail
   go_ret
   exact ⟨⟨_,_,_,rfl,by rw [HQ.out];exact HN.out,hnc,by rw [HQ.out];exact HO.out⟩,HB.out⟩
  | true =>
   by_cases hk:k=3
   ·subst hk
    have h1:¬ 1<n:=fun e=>hc ⟨rfl,rfl,e⟩
    have g1:decide ((1:Int)<(n:Int))=false:=decide_eq_false (by omega)
    clear hc
    go_wp2_with fail
    go_ret
    exact ⟨⟨_,_,_,rfl,by rw [HQ.out];exact HN.out,hnc,by rw [HQ.out];exact HO.out⟩,HB.out⟩
   ·have g1:(k==3)=false:=by simp [hk]
    clear hc
    go_wp2_with fail
    go_ret
    exact ⟨⟨_,_,_,rfl,by rw [HQ.out];exact HN.out,hnc,by rw [HQ.out];exact HO.out⟩,HB.out⟩
theorem getI_sizeW {l:List It} (h:∀ x∈l,x.b.size≤140737488355328) (id:ByteArray):(getI l id).b.size≤140737488355328:=by
  cases hh:hasI l id with
  | true=>exact h _ (getI_mem hh).1
  | false=>rw [getI_no hh];show (0:Nat)≤_;omega
theorem holds_mem {l:List (List UInt8)} (h:SrtS l) {x:List UInt8}:holdsS l (str x)=true↔x∈l:=by rw [holdsS_iff h,str_list]
set_option maxHeartbeats 8000000 in
set_option maxRecDepth 8000 in
theorem rwalk_any (l:List It) (cs ids:List (List UInt8)) (p q q2:Option Addr) (n c m d m2 d2:Nat) (w:World) (hri:rightI l=true) (hn:n=l.length) (hp:ItRw w p l) (hn2:n≤1000) (hm:m=cs.length) (hq:SRw w q cs) (hs:SrtS cs) (hm2:m2=ids.length) (hq2:SRw w q2 ids) (hbz:∀ x∈l,x.b.size≤140737488355328) (hF:rwkF l cs ids≤200000) (hmn:m≤1000) :
    Calls Tryz.prog 64 #[.agg #[.slice p n c],.slice q m d,.slice q2 m2 d2] w fun e w'=>(∃ p3 n3 c3 p4 n4 c4,e=.returned (.tuple #[.slice p3 n3 c3,.slice p4 n4 c4])∧n3=(rwkA l cs ids).1.length∧n3≤c3∧SRw w' p3 (rwkA l cs ids).1∧n4=(rwkA l cs ids).2.length∧n4≤c4∧SRw w' p4 (rwkA l cs ids).2)∧Below w.heap.size w w':=by
  obtain ⟨R,hR⟩:∃ R,R=rwkA l cs ids:=⟨_,rfl⟩
  obtain ⟨F,hFe⟩:∃ F,F=rwkF l cs ids:=⟨_,rfl⟩
  have hst:WkP l cs R F F [] [] ids 0:=by rw [hR,hFe];exact WkP.start ids
  rw [←hR]
  rw [←hFe] at hF
  obtain ⟨w1,hw1⟩:∃ w1,w1=w.alloc (.cells #[.slice p n c] 24):=⟨_,rfl⟩
  obtain ⟨I,hI⟩:∃ I,I=w.heap.size:=⟨_,rfl⟩
  have hx:w1.heap[I]?=some (.cells #[.slice p n c] 24 (0,0)):=by rw [hw1,hI];exact heap_alloc_new w _
  have hbx:Below w.heap.size w w1:=by rw [hw1];exact below_new (Below.refl _ _) _
  have hs1:w1.heap.size=I+1:=by rw [hw1,hI];simp
  have HS1:Hid (I+1≤w1.heap.size):=by show _≤_;omega
  have HW1:=Lib.hid hw1
  have HI:=Lib.hid hI
  have HX:=Lib.hid hx
  have HBX:=Lib.hid hbx
  have HST:=Lib.hid hst
  have HN:=Lib.hid hn
  have HP:=Lib.hid hp
  have HM:=Lib.hid hm
  have HQ:=Lib.hid hq
  have HQ2:=Lib.hid (hq2.below hbx)
  have HM2:=Lib.hid hm2
  have HO:Hid (SOw (w1.alloc (.cells #[] 9)) (I+1) (.slice (some ⟨w1.heap.size,0,none⟩) 0 0) []):=SOw.empty w1 (by omega)
  have HB1:Hid (Below w1.heap.size w1 (w1.alloc (.cells #[] 9))):=below_new (Below.refl _ _) _
  have HL2:Hid (m2≤200000):=by have:=hst.f;show m2≤_;omega
  have HSZ:=Lib.hid hbz
  clear hw1 hI hx hbx hst hn hp hm hq hq2 hm2 hR hFe hs1 hbz
  go_enter Tryz.func64,Tryz.ntmps64
  go_upto_region 2 with fail
  rw [←HW1.out,←HI.out]
  go_upto_region 3 with (at_builtin;refine wp_so_manyA rfl _ _ rfl rfl HO.out _ m2 d2 rfl HM2.out (HQ2.out.below HB1.out) (by have:=HL2.out;simp<;>omega) (by have:=HB1.out.size;have:=HS1.out;omega) ?_;intro v2 w2 h2 g2 a2;have H2:=Lib.hid h2;have G2:Hid ((w1.alloc (.cells #[] 9)).grownBy w2 (some w1.heap.size)):=g2;clear h2 g2 a2)
  have HWK:Hid (WkW w I (.slice p n c) v2 ids none 0 0 [] none 0 0 [] w2):=by
    have hb2:Below w1.heap.size w1 w2:=HB1.out.grown G2.out HB1.out.size fun k hk=>by
      cases hk;exact Nat.le_refl _
    have h2:=H2.out
    rw [List.nil_append] at h2
    exact ⟨HBX.out.trans (hb2.mono HBX.out.size),(hb2.block _ (row_lt HX.out)).trans HX.out,by rw [HI.out];exact Nat.le_refl _,h2,rfl,Nat.le_refl _,fun _=>rfl,SRw.none _ _,Far.nil _ _,rfl,Nat.le_refl _,fun _=>rfl,SRw.none _ _,Far.nil _ _⟩
  clear H2 G2 HO HB1 HQ2 HX HS1 HW1
  go_wp2_with fail
  go_loopg [8,9,10,11] F (fun k hv kv tv iv wr=>∃ (i:Nat) (td h kk:List (List UInt8)) (p3:Option Addr) (n3 c3:Nat) (p4:Option Addr) (n4 c4:Nat),hv=.slice p3 n3 c3∧kv=.slice p4 n4 c4∧iv=.int .i64 (i:Int)∧Hid (WkP l cs R F k h kk td i)∧Hid (WkW w I (.slice p n c) tv td p3 n3 c3 h p4 n4 c4 kk wr))
  case atStart=>exact ⟨0,ids,[],[],none,0,0,none,0,0,rfl,rfl,rfl,HST.out,HWK.out⟩
  case round =>
    clear HST HWK
    obtain ⟨i,td,h,kk,p3,n3,c3,p4,n4,c4,rfl,rfl,rfl,HK,HW⟩:=hrel
    obtain ⟨pt,nt,ct,rfl,hnt,hrt⟩:=HW.out.len
    have hle:i≤nt:=by rw [hnt];exact HK.out.ip
    have hnF:nt≤200000:=by have:=HK.out.f;omega
    by_cases hlt:i<nt
    · have hil:i<td.length:=by rw [←hnt];exact hlt
      obtain ⟨gt,ot,hpe,hgt,a0⟩:=hrt i hil
      obtain ⟨s,hse⟩:∃ s,s=str td[i]:=⟨_,rfl⟩
      rw [←hse] at a0
      subst hpe
      have q1:(i:Int)<(nt:Int):=by omega
      obtain ⟨k',rfl⟩:=HK.out.pos
      obtain ⟨A,hA⟩:∃ A,A=holdsS h s:=⟨_,rfl⟩
      obtain ⟨B,hB⟩:∃ B,B=holdsS kk s:=⟨_,rfl⟩
      have HH1:=Lib.hid (rholds_any h s p3 n3 c3 wr HW.out.ln3 HW.out.r3 (by have:=HW.out.ln3;have:=HK.out.lh;omega))
      have HH2:=Lib.hid (rholds_any kk s p4 n4 c4 wr HW.out.ln4 HW.out.r4 (by have:=HW.out.ln4;have:=HK.out.lk;omega))
      have HAE:Hid (A=true↔td[i]∈h):=by show _↔_;rw [hA,hse];exact holds_mem HK.out.sh
      have HBE:Hid (B=true↔td[i]∈kk):=by show _↔_;rw [hB,hse];exact holds_mem HK.out.sk
      rw [←hA] at HH1
      rw [←hB] at HH2
      have HNT:=Lib.hid hnt
      have HSE:=Lib.hid hse
      clear hA hB hnt hse hrt hgt hle
      go_upto_region 7 with fail
      clear q1 a0
      cases A with
      | true =>
        have HMK:=Lib.hid (HK.out.met hil (.inl (HAE.out.1 rfl)))
        go_wp2_with (go_at_call 36;((with_reducible refine HH1.out.mono ?_);rintro e w5 ⟨rfl,rfl⟩))
        go_roundg k'
        case measure=>omega
        case rel=>exact ⟨i+1,td,h,kk,p3,n3,c3,p4,n4,c4,rfl,rfl,by go_num,HMK.out,HW.out⟩
      | false =>
        cases B with
        | true =>
          have HMK:=Lib.hid (HK.out.met hil (.inr (HBE.out.1 rfl)))
          go_wp2_with (go_at_call 36;first|((with_reducible refine HH1.out.mono ?_);rintro e w5 ⟨rfl,rfl⟩)|((with_reducible refine HH2.out.mono ?_);rintro e w5 ⟨rfl,rfl⟩))
          go_roundg k'
          case measure=>omega
          case rel=>exact ⟨i+1,td,h,kk,p3,n3,c3,p4,n4,c4,rfl,rfl,by go_num,HMK.out,HW.out⟩
        | false =>
          have HNM:Hid (¬ (td[i]∈h∨td[i]∈kk)):=fun e=>e.elim (fun e=>by have:=HAE.out.2 e;cases this) (fun e=>by have:=HBE.out.2 e;cases this)
          clear HAE HBE
          go_upto_region 8 with (go_at_call 36;first|((with_reducible refine HH1.out.mono ?_);rintro e w5 ⟨rfl,rfl⟩)|((with_reducible refine HH2.out.mono ?_);rintro e w5 ⟨rfl,rfl⟩))
          clear HH1 HH2
          have x0:wr.cell? ⟨I,0,none⟩=some (.slice p n c):=cell_of_row _ _ 0 _ _ _ HW.out.st
          have hbr:Below w.heap.size w wr:=HW.out.b
          have hg:=rsget_any l s p n c wr HN.out (HP.out.below hbr) (by omega)
          obtain ⟨K,hK⟩:∃ K,K=(getI l s).k:=⟨_,rfl⟩
          obtain ⟨Y,hY⟩:∃ Y,Y=(getI l s).b:=⟨_,rfl⟩
          obtain ⟨E,hE⟩:∃ E,E=getE l s:=⟨_,rfl⟩
          obtain ⟨H,hH⟩:∃ H,H=hasI l s:=⟨_,rfl⟩
          rw [←hK,←hY,←hE] at hg
          have HG:=Lib.hid hg
          have HEH:Hid (E=if H=true then 0 else 5):=by show _=_;rw [hE,hH];rfl
          have HYS:Hid (Y.size≤140737488355328):=by show Y.size≤_;rw [hY];exact getI_sizeW HSZ.out s
          have HNMS:Hid (nmR K Y.data.toList (holdsS cs s)=nmA l cs td[i]):=by
            show _=_
            rw [hK,hY,nmA_holds l hs,HSE.out,str_list]
          have HHH:Hid (H=hasI l (str td[i])):=by show _=_;rw [hH,HSE.out]
          clear hg hbr hK hY hE hH
          go_upto_region 9 with (go_at_call 21;((with_reducible refine HG.out.mono ?_);rintro e w6 ⟨rfl,hb6⟩))
          obtain ⟨w7,hw7⟩:∃ w7,w7=w6.alloc (.cells #[.int .i64 K,.string Y] 29):=⟨_,rfl⟩
          obtain ⟨O,hO⟩:∃ O,O=w6.heap.size:=⟨_,rfl⟩
          have hy:w7.heap[O]?=some (.cells #[.int .i64 K,.string Y] 29 (0,0)):=by rw [hw7,hO];exact heap_alloc_new _ _
          have HBR:Hid (Below wr.heap.size wr w7):=by
            show Below _ _ _
            rw [hw7]
            exact below_new hb6 _
          have HW7:Hid (WkW w I (.slice p n c) (.slice (some ⟨gt,ot,none⟩) nt ct) td p3 n3 c3 h p4 n4 c4 kk w7):=HW.out.below HBR.out
          rw [←hw7,←hO]
          have HY:=Lib.hid hy
          clear hw7 hO hy hb6 HG x0 HW HBR
          cases H with
          | false =>
            obtain rfl:E=5:=by rw [HEH.out];rfl
            have HMK:=Lib.hid (HK.out.lack hil HNM.out HHH.out.symm)
            have HIN:=Lib.hid (rinsertB_any kk s p4 n4 c4 w7 HW7.out.ln4 HW7.out.nc4 HW7.out.pc4 HW7.out.r4 (by have:=HW7.out.ln4;have:=HK.out.lk;omega))
            clear HEH HYS HNMS HHH HY
            go_wp2_with (go_at_call 91;((with_reducible refine HIN.out.mono ?_);rintro e w8 ⟨⟨q8,m8,d8,rfl,hm8,hmd8,hqd8,hr8,hq8⟩,hb8⟩;have HM8:=Lib.hid hm8;clear hm8))
            go_roundg k'
            case measure=>omega
            case rel =>
              have hlen:0<(insS kk s).length:=List.length_pos_iff.2 fun e=>by
                have:=(mem_insS HK.out.sk s s.data.toList).2 (.inr rfl)
                rw [e] at this
                cases this
              refine ⟨i+1,td,h,insS kk s,p3,n3,c3,q8,m8,d8,rfl,rfl,by go_num,?_,HW7.out.lack' hb8 HM8.out hmd8 hqd8 hlen hr8 hq8⟩
              have:=HMK.out
              rw [←HSE.out] at this
              exact this
          | true =>
            obtain rfl:E=0:=by rw [HEH.out];rfl
            have HMK:=Lib.hid (HK.out.new hri hil HNM.out HHH.out.symm)
            have HIN:=Lib.hid (rinsertB_any h s p3 n3 c3 w7 HW7.out.ln3 HW7.out.nc3 HW7.out.pc3 HW7.out.r3 (by have:=HW7.out.ln3;have:=HK.out.lh;omega))
            clear HEH
            go_upto_region 12 with (go_at_call 91;((with_reducible refine HIN.out.mono ?_);rintro e w8 ⟨⟨q8,m8,d8,rfl,hm8,hmd8,hqd8,hr8,hq8⟩,hb8⟩;have HM8:=Lib.hid hm8;clear hm8))
            have hlen:0<(insS h s).length:=List.length_pos_iff.2 fun e=>by
              have:=(mem_insS HK.out.sh s s.data.toList).2 (.inr rfl)
              rw [e] at this
              cases this
            have HW8:Hid (WkW w I (.slice p n c) (.slice (some ⟨gt,ot,none⟩) nt ct) td q8 m8 d8 (insS h s) p4 n4 c4 kk w8):=HW7.out.have' hb8 HM8.out hmd8 hqd8 hlen hr8 hq8
            obtain ⟨o0,o1,-,-⟩:=ob_at ((hb8.block _ (row_lt HY.out)).trans HY.out)
            obtain ⟨C,hC⟩:∃ C,C=holdsS cs s:=⟨_,rfl⟩
            have HHC:Hid (∀ w',Below w8.heap.size w8 w'→Calls Tryz.prog 36 #[.slice q m d,.string s] w' fun e w''=>e=.returned (.bool C)∧w'=w''):=fun w' hb=>by
              have h1:=HW8.out.b
              have:=rholds_any cs s q m d w' HM.out (HQ.out.below (h1.trans (hb.mono h1.size))) (by omega)
              rw [←hC] at this
              exact this
            have HNA:Hid (nmR K Y.data.toList C=nmA l cs td[i]):=by show _=_;rw [hC];exact HNMS.out
            have HNC:=fun w'=>rnames_any K Y C w' HYS.out
            rw [HNA.out] at HNC
            have HNCH:=Lib.hid HNC
            clear HNC hC HNMS HHH HY HW7 HIN hb8 hmd8 hqd8 hlen hr8 hq8
            go_region_law (first
              | (go_simp;go_at_call 36;((with_reducible refine (HHC.out _ (by first|exact Below.refl _ _|exact (Below.refl _ _).drew)).mono ?_);rintro e w9 ⟨rfl,rfl⟩))
              | (go_simp;go_at_call 35;((with_reducible refine (HNCH.out _).mono ?_);rintro e w10 ⟨⟨p9,n9,c9,rfl,hn9,hnc9,hr9⟩,hb9⟩;have HN9:=Lib.hid hn9;clear hn9))
              | (refine step_so_many (by rfl) _ _ (by rfl) (by rfl) (HW8.out.below ((Below.refl _ _).drew.trans hb9)).tw p9 n9 c9 (by rfl) HN9.out hr9 (by have h9:=HMK.out.f;have h10:=HN9.out;rw [List.length_append] at h9;omega) (HW8.out.below ((Below.refl _ _).drew.trans hb9)).st' ?_;intro v11 w11 ho11 hg11 ha11))
            all_goals go_wp2_with fail
            all_goals go_roundg k'
            all_goals first
              | omega
              | (have:=HMK.out
                 rw [←HSE.out] at this
                 exact ⟨i+1,td++nmA l cs td[i],insS h s,kk,q8,m8,d8,p4,n4,c4,rfl,rfl,by go_num,this,(HW8.out.below ((Below.refl _ _).drew.trans hb9)).app ho11 hg11 ha11⟩)
    · have q1:¬ (i:Int)<(nt:Int):=by omega
      have HD:=Lib.hid (HK.out.done (by omega))
      clear hnt hrt hle hlt
      go_wp2_with fail
      go_ret2
      refine ⟨⟨p3,n3,c3,p4,n4,c4,rfl,?_,HW.out.nc3,?_,?_,HW.out.nc4,?_⟩,HW.out.b⟩
      · rw [HD.out];exact HW.out.ln3
      · rw [HD.out];exact HW.out.r3
      · rw [HD.out];exact HW.out.ln4
      · rw [HD.out];exact HW.out.r4
set_option maxHeartbeats 4000000 in
set_option maxRecDepth 8000 in
theorem rreach_any (l:List It) (ids:List (List UInt8)) (p q2:Option Addr) (n c m2 d2:Nat) (w:World) (hri:rightI l=true) (hn:n=l.length) (hp:ItRw w p l) (hn2:n≤1000) (hm2:m2=ids.length) (hq2:SRw w q2 ids) (hbz:∀ x∈l,x.b.size≤140737488355328) (hF:rwkF l [] ids≤200000) :
  Calls Tryz.prog 30 #[.agg #[.slice p n c],.slice q2 m2 d2] w fun e w'=>(∃ p3 n3 c3,e=.returned (.tuple #[.slice p3 n3 c3,.int .i64 (reachC l ids:Int)])∧n3=(reachI l ids).length∧SRw w' p3 (reachI l ids))∧Below w.heap.size w w':=by
 obtain ⟨h1,h2,h3,h4⟩:=reach_ref hri ids
 obtain ⟨w1,hw1⟩:∃ w1,w1=w.alloc (.cells #[.slice p n c] 24):=⟨_,rfl⟩
 have hx:w1.heap[w.heap.size]?=some (.cells #[.slice p n c] 24 (0,0)):=by rw [hw1];exact heap_alloc_new w _
 have hbx:Below w.heap.size w w1:=by rw [hw1];exact below_new (Below.refl _ _) _
 have x0:w1.cell? ⟨w.heap.size,0,none⟩=some (.slice p n c):=cell_of_row _ _ 0 _ _ _ hx
 have hwk:=rwalk_any l [] ids p none q2 n c 0 0 m2 d2 w1 hri hn (hp.below hbx) hn2 rfl (SRw.none _ _) List.Pairwise.nil hm2 (hq2.below hbx) hbz hF (by omega)
 obtain ⟨A,hA⟩:∃ A,A=(rwkA l [] ids).1:=⟨_,rfl⟩
 obtain ⟨B,hB⟩:∃ B,B=(rwkA l [] ids).2:=⟨_,rfl⟩
 obtain ⟨C,hC⟩:∃ C,C=reachC l ids:=⟨_,rfl⟩
 obtain ⟨L,hL⟩:∃ L,L=reachI l ids:=⟨_,rfl⟩
 rw [←hA,←hB] at hwk
 rw [←hC,←hL]
 rw [←hC,←hB] at h2
 rw [←hC,←hL,←hA] at h3
 rw [←hC,←hL] at h4
 have HWK:=Lib.hid hwk
 have HBX:=Lib.hid hbx
 have HW1:=Lib.hid hw1
 have H2:=Lib.hid h2
 have H3:=Lib.hid h3
 have H4:=Lib.hid h4
 clear hwk hbx hw1 hA hB hC hL hn hp hn2 hx h1 h2 h3 h4 hri hm2 hq2 hbz hF
 go_enter Tryz.func30,Tryz.ntmps30
 go_upto_region 1 with fail
 rw [←HW1.out]
 go_upto_region 2 with (go_at_call 64;((with_reducible refine HWK.out.mono ?_);rintro e w2 ⟨⟨p3,n3,c3,p4,n4,c4,rfl,hn3,hnc3,hr3,hn4,hnc4,hr4⟩,hb2⟩;have HN3:=Lib.hid hn3;have HN4:=Lib.hid hn4;clear hn3 hn4))
 have HB:Hid (Below w.heap.size w w2):=HBX.out.trans (hb2.mono HBX.out.size)
 by_cases hz:n4=0
 ·have g1:¬ (0:Int)<(n4:Int):=by omega
  have HB0:Hid (B=[]):=List.eq_nil_of_length_eq_zero (by rw [←HN4.out];exact hz)
  have HC:Hid (C=0):=H2.out.2 HB0.out
  clear hz
  go_wp2_with fail
  go_ret2
  have h5:=H3.out HC.out
  refine ⟨⟨p3,n3,⟨c3,by rw [HC.out];rfl⟩,by rw [h5];exact HN3.out,by rw [h5];exact hr3⟩,HB.out⟩
 ·have g1:(0:Int)<(n4:Int):=by omega
  have HC:Hid (C≠0):=fun e=>hz (by rw [HN4.out,H2.out.1 e];rfl)
  clear hz
  go_wp2_with fail
  go_ret2
  obtain ⟨h5,h6⟩:=H4.out HC.out
  exact ⟨⟨none,0,0,by rw [h6];rfl,by rw [h5];rfl,by rw [h5];exact SRw.none _ _⟩,HB.out⟩
set_option maxHeartbeats 4000000 in
set_option maxRecDepth 8000 in
theorem rmissing_any (l:List It) (ids:List (List UInt8)) (p q2:Option Addr) (n c m2 d2:Nat) (w:World) (hri:rightI l=true) (hn:n=l.length) (hp:ItRw w p l) (hn2:n≤1000) (hm2:m2=ids.length) (hq2:SRw w q2 ids) (hbz:∀ x∈l,x.b.size≤140737488355328) (hF:rwkF l [] ids≤200000) :
  Calls Tryz.prog 32 #[.agg #[.slice p n c],.slice q2 m2 d2] w fun e w'=>(∃ p3 n3 c3,e=.returned (.slice p3 n3 c3)∧n3=(missI l ids).length∧SRw w' p3 (missI l ids))∧Below w.heap.size w w':=by
 obtain ⟨h1,-,-,-⟩:=reach_ref hri ids
 obtain ⟨w1,hw1⟩:∃ w1,w1=w.alloc (.cells #[.slice p n c] 24):=⟨_,rfl⟩
 have hx:w1.heap[w.heap.size]?=some (.cells #[.slice p n c] 24 (0,0)):=by rw [hw1];exact heap_alloc_new w _
 have hbx:Below w.heap.size w w1:=by rw [hw1];exact below_new (Below.refl _ _) _
 have x0:w1.cell? ⟨w.heap.size,0,none⟩=some (.slice p n c):=cell_of_row _ _ 0 _ _ _ hx
 have hwk:=rwalk_any l [] ids p none q2 n c 0 0 m2 d2 w1 hri hn (hp.below hbx) hn2 rfl (SRw.none _ _) List.Pairwise.nil hm2 (hq2.below hbx) hbz hF (by omega)
 rw [h1] at hwk
 obtain ⟨A,hA⟩:∃ A,A=(rwkA l [] ids).1:=⟨_,rfl⟩
 obtain ⟨B,hB⟩:∃ B,B=missI l ids:=⟨_,rfl⟩
 rw [←hA,←hB] at hwk
 rw [←hB]
 have HWK:=Lib.hid hwk
 have HBX:=Lib.hid hbx
 have HW1:=Lib.hid hw1
 clear hwk hbx hw1 hA hB hn hp hn2 hx h1 hri hm2 hq2 hbz hF
 go_enter Tryz.func32,Tryz.ntmps32
 go_upto_region 1 with fail
 rw [←HW1.out]
 go_wp2_with (go_at_call 64;((with_reducible refine HWK.out.mono ?_);rintro e w2 ⟨⟨p3,n3,c3,p4,n4,c4,rfl,hn3,hnc3,hr3,hn4,hnc4,hr4⟩,hb2⟩;have HN4:=Lib.hid hn4;clear hn4))
 go_ret
 exact ⟨⟨p4,n4,c4,rfl,HN4.out,hr4⟩,HBX.out.trans (hb2.mono HBX.out.size)⟩
set_option maxHeartbeats 4000000 in
set_option maxRecDepth 8000 in
theorem risk_any (l:List It) (id:ByteArray) (kd:Int) (p:Option Addr) (n c:Nat) (w:World) (hn:n=l.length) (hp:ItRw w p l) (hn2:n≤140737488355328) :
  Calls Tryz.prog 98 #[.agg #[.slice p n c],.string id,.int .i64 kd] w fun e w'=>e=.returned (.bool (hasI l id&&decide ((getI l id).k=kd)))∧Below w.heap.size w w':=by
 obtain ⟨w1,hw1⟩:∃ w1,w1=w.alloc (.cells #[.slice p n c] 24):=⟨_,rfl⟩
 have hx:w1.heap[w.heap.size]?=some (.cells #[.slice p n c] 24 (0,0)):=by rw [hw1];exact heap_alloc_new w _
 have hbx:Below w.heap.size w w1:=by rw [hw1];exact below_new (Below.refl _ _) _
 have x0:w1.cell? ⟨w.heap.size,0,none⟩=some (.slice p n c):=cell_of_row _ _ 0 _ _ _ hx
 have hg:=rsget_any l id p n c w1 hn (hp.below hbx) hn2
 obtain ⟨K,hK⟩:∃ K,K=(getI l id).k:=⟨_,rfl⟩
 obtain ⟨B,hB⟩:∃ B,B=(getI l id).b:=⟨_,rfl⟩
 obtain ⟨E,hE⟩:∃ E,E=getE l id:=⟨_,rfl⟩
 obtain ⟨H,hH⟩:∃ H,H=hasI l id:=⟨_,rfl⟩
 rw [←hK,←hB,←hE] at hg
 rw [←hH,←hK]
 have hEH:E=if H=true then 0 else 5:=by rw [hE,hH];rfl
 have HG:=Lib.hid hg
 have HBX:=Lib.hid hbx
 have HW1:=Lib.hid hw1
 clear hg hbx hw1 hK hB hE hH hn hp hn2 hx
 go_enter Tryz.func98,Tryz.ntmps98
 go_upto_region 1 with fail
 rw [←HW1.out]
 go_upto_region 2 with (go_at_call 21;((with_reducible refine (HG.out).mono ?_);rintro e w2 ⟨rfl,hb2⟩))
 obtain ⟨w3,hw3⟩:∃ w3,w3=w2.alloc (.cells #[.int .i64 K,.string B] 29):=⟨_,rfl⟩
 have hy:w3.heap[w2.heap.size]?=some (.cells #[.int .i64 K,.string B] 29 (0,0)):=by rw [hw3];exact heap_alloc_new _ _
 have y0:w3.cell? ⟨w2.heap.size,0,none⟩=some (.int .i64 K):=cell_of_row _ _ 0 _ _ _ hy
 have HB:Hid (Below w.heap.size w w3):=by
  show Below _ _ _
  rw [hw3]
  exact below_new (HBX.out.trans (hb2.mono HBX.out.size)) _
 rw [←hw3]
 clear hw3 hy hb2 HG HBX HW1 x0
 cases H with
 | false =>
  obtain rfl:E=5:=by rw [hEH];rfl
  clear hEH
  go_wp2_with fail
  go_ret
  exact ⟨by simp,HB.out⟩
 | true =>
  obtain rfl:E=0:=by rw [hEH];rfl
  clear hEH
  by_cases hk:K=kd
  ·have g1:(K==kd)=true:=by simp [hk]
   have HK:=Lib.hid hk
   clear hk
   go_wp2_with fail
   go_ret
   exact ⟨by rw [decide_eq_true HK.out];rfl,HB.out⟩
  ·have g1:(K==kd)=false:=by simp [hk]
   have HK:=Lib.hid hk
   clear hk
   go_wp2_with fail
   go_ret
   exact ⟨by rw [decide_eq_false HK.out];rfl,HB.out⟩
end Go.Proofs.YtnoopcenogbjiaaGreatDoor
