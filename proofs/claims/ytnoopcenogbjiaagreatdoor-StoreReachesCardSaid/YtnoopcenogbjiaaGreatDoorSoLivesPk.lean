/-
 The walk of the law package's own check.
-/
import Derived.Test.YtnoopcenogbjiaaGreatDoorSoReachPk
import Derived.Test.YtnoopcenogbjiaaGreatDoorCmRTagPPk
import Derived.Test.YtnoopcenogbjiaaGreatDoorSoPutPk
import Derived.Maps.AppendAt
import Derived.Test.YtnoopcenogbjiaaGreatDoorTrPlainPk
set_option linter.unusedVariables false
set_option linter.unusedSimpArgs false
namespace Go.Proofs.YtnoopcenogbjiaaGreatDoor
open Go Go.RowKit Go.Maps Go.WideMaps
theorem ItOw.rw2 {w:World} {base:Nat} {v:Value} {l:List It} (h:ItOw w base v l) {n:Nat} (hn:n=l.length):∃ p cap,v=.slice p n cap∧n≤cap∧(p=none→cap=0)∧ItRw w p l:=by
 subst hn
 obtain ⟨p,cap,hv,hc,hr⟩:=h.rw
 refine ⟨p,cap,hv,hc,fun hp=>?_,hr⟩
 rcases h.2 with ⟨hx,_⟩|⟨g,cap',cur,hx,_⟩
 ·rw [hv] at hx;injection hx with _ _ h3
 ·rw [hv,hp] at hx;cases hx
theorem put_s {l l':List It} {k:Int} {b id:ByteArray} (h0:putC l k b=0∧putI l k b=l') (hd:putD k b=id) (p:Option Addr) (n m c:Nat) (w:World) (hT:StrTab w) (hO:WoTab w) (hTr:TrTab w) (hK:KTab w) (hn:n=l.length) (hm:m=l'.length) (hnc:n≤c) (hpc:p=none→c=0) (hp:ItRw w p l) (hb:b.size≤140737488355328) (hn2:n≤1000000) :
  Calls Tryz.prog 12 #[.agg #[.slice p n c],.agg #[.int .i64 k,.string b]] w fun e w'=>∃ p' c',e=.returned (.tuple #[.agg #[.slice p' m c'],.string id,.int .i64 0])∧m≤c'∧(p'=none→c'=0)∧ItOw w' w.heap.size (.slice p' m c') l'∧Below w.heap.size w w':=by
 refine (sput_any l k b p n c w hT hO hTr hK hn hnc hpc hp hb hn2).mono ?_
 rintro e w' ⟨v',he,ho,hb'⟩
 have hs:putS l k b=id:=by rw [putS,if_pos h0.1,hd]
 rw [h0.1,hs] at he
 rw [h0.2] at ho
 obtain ⟨p',c',rfl,h1,h2,h3⟩:=ho.rw2 hm
 exact ⟨p',c',he,h1,h2,ho,hb'⟩
structure LvS (w wk:World) (S:Nat) (p:Option Addr) (n c:Nat) (l:List It):Prop where
 b:Below w.heap.size w wk
 s:wk.heap[S]?=some (.cells #[.slice p n c] 24 (0,0))
 r:ItRw wk p l
 nc:n≤c
 pc:p=none→c=0
 hS:w.heap.size≤S
theorem LvS.below {w wk w':World} {S:Nat} {p:Option Addr} {n c:Nat} {l:List It} (h:LvS w wk S p n c l) (hb:Below wk.heap.size wk w'):LvS w w' S p n c l:=⟨h.b.trans (hb.mono h.b.size),(hb.block _ (row_lt h.s)).trans h.s,h.r.below hb,h.nc,h.pc,h.hS⟩
theorem LvS.put {w wk w':World} {S:Nat} {p p':Option Addr} {n c m c':Nat} {l l':List It} (h:LvS w wk S p n c l) (hb:Below wk.heap.size wk w') (ho:ItOw w' wk.heap.size (.slice p' m c') l') (hnc:m≤c') (hpc:p'=none→c'=0) (hm:m=l'.length):LvS w (w'.setCell ⟨S,0,none⟩ (.slice p' m c')) S p' m c' l':=by
 have h2:=h.below hb
 have ho2:=ho.put (P:=S) (x:=.slice p' m c') (ho.apart (row_lt h.s))
 obtain ⟨q,d,he,_,_,hr⟩:=ho2.rw2 hm
 cases he
 exact ⟨h2.b.setCell (p:=⟨S,0,none⟩) h.hS _,st_set h2.s,hr,hnc,hpc,h.hS⟩
theorem srw_one {w:World} {s:ByteArray} {t:TypeId}:SRw (w.alloc (.cells #[.string s] t)) (some ⟨w.heap.size,0,none⟩) [s.data.toList]:=fun k hk=>by
 obtain rfl:k=0:=by simpa using hk
 exact ⟨w.heap.size,0,rfl,by simp,cell_of_row _ _ 0 _ _ _ (heap_alloc_new w (.cells #[.string s] t))⟩
theorem srw_two {w:World} {s s2:ByteArray} {t:TypeId}:SRw (w.alloc (.cells #[.string s,.string s2] t)) (some ⟨w.heap.size,0,none⟩) [s.data.toList,s2.data.toList]:=fun k hk=>by
 have hk':k=0∨k=1:=by simp at hk;omega
 rcases hk' with rfl|rfl
 ·exact ⟨w.heap.size,0,rfl,by simp,cell_of_row _ _ 0 _ _ _ (heap_alloc_new w (.cells #[.string s,.string s2] t))⟩
 ·exact ⟨w.heap.size,0,rfl,by simp,cell_of_row _ _ 1 _ _ _ (heap_alloc_new w (.cells #[.string s,.string s2] t))⟩
set_option maxHeartbeats 1000000 in
theorem lperson_any (w:World):Calls Tryz.prog 38 #[] w fun e w'=>e=.returned (.agg #[.string ⟨#[97]⟩,.string ⟨#[97,64,98]⟩,.int .i64 5,.int .i64 60])∧Below w.heap.size w w':=by
 go_enter Tryz.func38,Tryz.ntmps38
 go_wp2
 have hr:=heap_alloc_new w (.cells #[.string ⟨#[97]⟩,.string ⟨#[97,64,98]⟩,.int .i64 5,.int .i64 60] 61)
 have d0:=cell_of_row _ _ 0 _ _ _ hr
 have d1:=cell_of_row _ _ 1 _ _ _ hr
 have d2:=cell_of_row _ _ 2 _ _ _ hr
 have d3:=cell_of_row _ _ 3 _ _ _ hr
 refine bodyPost_ret (v:=.agg #[.string ⟨#[97]⟩,.string ⟨#[97,64,98]⟩,.int .i64 5,.int .i64 60]) (by simp [results,Tryz.results38,go_sem,d0,d1,d2,d3]) rfl ⟨rfl,below_new (Below.refl _ _) _⟩
set_option maxHeartbeats 16000000 in
set_option maxRecDepth 40000 in
theorem lives_any (w:World) (hT:StrTab w) (hO:WoTab w) (hTr:TrTab w) (hK:KTab w) :
  Calls Tryz.prog 8 #[] w fun e w'=>e=.returned (.bool true)∧Below w.heap.size w w':=by
 have HTT:Hid (∀ w',Below w.heap.size w w'→StrTab w'∧WoTab w'∧TrTab w'∧KTab w'):=fun w' h=>⟨hT.below h,hO.below h,hTr.below h,hK.below h⟩
 have P1:=Lib.hid (put_s so_p1 so_a none 0 1 0 w hT hO hTr hK rfl rfl (Nat.le_refl _) (fun _=>rfl) (ItRw.nil _ _) (by decide) (by decide))
 clear hT hO hTr hK
 go_enter Tryz.func8,Tryz.ntmps8
 go_upto_region 2 with (go_at_call 12;((refine P1.out.mono ?_);rintro e w1 ⟨p1,c1,rfl,h1,h2,ho1,hb1⟩))
 obtain ⟨wa,hwa⟩:∃ wa,wa=w1.alloc (.cells #[.slice p1 1 c1] 24):=⟨_,rfl⟩
 obtain ⟨S,hS⟩:∃ S,S=w1.heap.size:=⟨_,rfl⟩
 have hra:wa.heap[S]?=some (.cells #[.slice p1 1 c1] 24 (0,0)):=by rw [hwa,hS];exact heap_alloc_new _ _
 have hba:Below w1.heap.size w1 wa:=by rw [hwa];exact below_new (Below.refl _ _) _
 have hLa:LvS w wa S p1 1 c1 [itA]:=⟨hb1.trans (hba.mono hb1.size),hra,by
  obtain ⟨q,d,he,_,_,hr⟩:=(ho1.below hba).rw2 (n:=1) rfl
  cases he
  exact hr,h1,h2,by rw [hS];exact hb1.size⟩
 rw [←hwa,←hS]
 have HLa:=Lib.hid hLa
 clear hwa hS hra hba hLa h1 h2 ho1 hb1 P1
 have ta:=HTT.out wa HLa.out.b
 have P2:=Lib.hid (put_s so_p2 so_b p1 1 2 c1 wa ta.1 ta.2.1 ta.2.2.1 ta.2.2.2 rfl rfl HLa.out.nc HLa.out.pc HLa.out.r (by decide) (by decide))
 have x0:=(st_at HLa.out.s).1
 clear ta
 go_upto_region 3 with (go_at_call 12;((refine P2.out.mono ?_);rintro e w2 ⟨p2,c2,rfl,h1,h2,ho2,hb2⟩;obtain ⟨s0,f0⟩:=st_at (HLa.out.below hb2).s))
 have HLb:=Lib.hid (HLa.out.put hb2 ho2 h1 h2 rfl)
 obtain ⟨wb,hwb⟩:∃ wb,wb=w2.setCell ⟨S,0,none⟩ (.slice p2 2 c2):=⟨_,rfl⟩
 rw [←hwb] at HLb ⊢
 clear hwb h1 h2 ho2 hb2 s0 f0 P2 x0
 have HPN:=Lib.hid lperson_any
 have hbc:str (bodyC cmS)=bC:=by rw [bodyC,if_pos so_chk];rfl
 have HBD:Hid (∀ w',Calls Tryz.prog 37 #[.agg #[.string iB,.slice none 0 0,.string ⟨#[97]⟩,.string ⟨#[97,64,98]⟩,.int .i64 5,.int .i64 60,.string ⟨#[97]⟩,.string ⟨#[97,64,98]⟩,.int .i64 5,.int .i64 60,.string ⟨#[120,10]⟩]] w' fun e w''=>e=.returned (.tuple #[.string bC,.int .i64 0])∧Below w'.heap.size w' w''):=fun w' =>
  (rcbody_any cmS none 0 0 w' rfl (SRw.none _ _) (fun y hy=>absurd hy (by simp [cmS])) (by decide) (by decide)).mono fun e w'' ⟨he,hb⟩=>⟨by rw [he,hbc,so_chk];rfl,hb⟩
 have hq:Below wb.heap.size wb wb:=Below.refl _ _
 go_upto_region 4 with (first
  | (go_at_call 38;((with_reducible refine (HPN.out _).mono ?_);rintro e w' ⟨rfl,hb'⟩;have hq:=hq.trans (hb'.mono hq.size);clear hb'))
  | (go_at_call 37;((refine (HBD.out _).mono ?_);rintro e wc ⟨rfl,hb'⟩;have hq:=hq.trans (hb'.mono hq.size);clear hb')))
 have HLc:=Lib.hid (HLb.out.below hq)
 clear hq hbc HBD HPN HLa HLb
 have tc:=HTT.out wc HLc.out.b
 have P3:=Lib.hid (put_s so_p3 so_c p2 2 3 c2 wc tc.1 tc.2.1 tc.2.2.1 tc.2.2.2 rfl rfl HLc.out.nc HLc.out.pc HLc.out.r (by rw [so_size];decide) (by decide))
 have x0:=(st_at HLc.out.s).1
 clear tc
 go_upto_region 5 with (go_at_call 12;((refine P3.out.mono ?_);rintro e w4 ⟨p3,c3,rfl,h1,h2,ho2,hb2⟩;obtain ⟨s0,f0⟩:=st_at (HLc.out.below hb2).s))
 have HLd:=Lib.hid (HLc.out.put hb2 ho2 h1 h2 rfl)
 obtain ⟨wd,hwd⟩:∃ wd,wd=w4.setCell ⟨S,0,none⟩ (.slice p3 3 c3):=⟨_,rfl⟩
 rw [←hwd] at HLd ⊢
 clear hwd h1 h2 ho2 hb2 s0 f0 P3 x0 HLc
 have hsz:∀ e∈l3S,e.b.size≤1048576:=by
  intro e he
  simp only [List.mem_cons,List.not_mem_nil,or_false] at he
  rcases he with rfl|rfl|rfl
  ·show bC.size≤_;rw [so_size];decide
  ·decide
  ·decide
 have hkw:∀ e∈l3S,(Lit.int .i64 e.k).wf=true:=by
  intro e he
  simp only [List.mem_cons,List.not_mem_nil,or_false] at he
  rcases he with rfl|rfl|rfl<;>decide
 have hmk:∀ (w':World) (l:List It) (p:Option Addr) (n:Nat),Below w.heap.size w w'→ItRw w' p l→n=l.length→n≤1000→(∀ e∈l,e∈l3S)→StOk w' l p n:=fun w' l p n hb hr hn hn2 hm=>⟨hn,by omega,fun e he=>hsz e (hm e he),fun e he=>hkw e (hm e he),hr,(HTT.out w' hb).1,(HTT.out w' hb).2.1,(HTT.out w' hb).2.2.1⟩
 have HMK:=Lib.hid hmk
 have HSZ:=Lib.hid hsz
 clear hsz hkw hmk
 have x0:=(st_at HLd.out.s).1
 have hbn:Below wd.heap.size wd (wd.alloc (.cells #[.string iC] 9)):=below_new (Below.refl _ _) _
 have HLn:=Lib.hid (HLd.out.below hbn)
 have R5:=Lib.hid (sreach_any l3S cS p3 (some ⟨wd.heap.size,0,none⟩) 3 c3 1 1 _ (HMK.out _ l3S p3 3 HLn.out.b HLn.out.r rfl (by decide) (fun _ h=>h)) rfl (srw_one (w:=wd) (s:=iC) (t:=9)) (by intro x hx;rw [List.mem_singleton] at hx;subst hx;decide) (by decide) (by decide +kernel))
 clear hbn
 go_upto_region 6 with (go_at_call 29;((refine R5.out.mono ?_);rintro e we ⟨v5,rfl,ho5,hb5⟩))
 obtain ⟨p5,c5,rfl,-⟩:=ho5.rw
 rw [so_r1.2,so_r1.1]
 have HLe:=Lib.hid (HLn.out.below hb5)
 clear ho5 hb5 x0 R5 HLn HLd
 -- Only and Reach
 have x0:=(st_at HLe.out.s).1
 have hbn:Below we.heap.size we (we.alloc (.cells #[.string iC] 9)):=below_new (Below.refl _ _) _
 have HLn:=Lib.hid (HLe.out.below hbn)
 have hids:∀ x∈cS,x.length≤140737488355328:=by intro x hx;rw [List.mem_singleton] at hx;subst hx;decide
 have hisz:∀ e∈l3S,e.i.size≤140737488355328:=by
  intro e he
  simp only [List.mem_cons,List.not_mem_nil,or_false] at he
  rcases he with rfl|rfl|rfl<;>decide
 have R6:=Lib.hid (sonly_any l3S cS p3 (some ⟨we.heap.size,0,none⟩) 3 c3 1 1 _ rfl rfl HLn.out.r (srw_one (w:=we) (s:=iC) (t:=9)) (by decide) (by decide) hisz hids)
 have R7:Hid (∀ (w':World) (p6:Option Addr) (c6:Nat),Below w.heap.size w w'→ItRw w' p6 [itC]→Calls Tryz.prog 29 #[.agg #[.slice p6 1 c6],.slice (some ⟨w'.heap.size,0,none⟩) 1 1] (w'.alloc (.cells #[.string iC] 9)) fun e w''=>(∃ v,e=.returned (.tuple #[v,.int .i64 171]))∧Below w'.heap.size w' w''):=fun w' p6 c6 hb hr=>by
  have hbn':Below w'.heap.size w' (w'.alloc (.cells #[.string iC] 9)):=below_new (Below.refl _ _) _
  refine (sreach_any [itC] cS p6 (some ⟨w'.heap.size,0,none⟩) 1 c6 1 1 _ (HMK.out _ [itC] p6 1 (hb.trans (hbn'.mono hb.size)) (hr.below hbn') rfl (by decide) (fun e he=>by rw [List.mem_singleton] at he;subst he;simp [l3S])) rfl (srw_one (w:=w') (s:=iC) (t:=9)) hids (by decide) (by decide +kernel)).mono ?_
  rintro e w'' ⟨v,he,-,hb2⟩
  rw [so_r2.2] at he
  exact ⟨⟨v,he⟩,hbn'.trans (hb2.mono hbn'.size)⟩
 have HIDS:=Lib.hid hids
 have HISZ:=Lib.hid hisz
 clear hbn hids hisz
 go_upto_region 7 with (first
  | (go_at_call 23;((refine R6.out.mono ?_);rintro e w6 ⟨v6,rfl,ho6,hb6⟩;rw [so_r2.1] at ho6;obtain ⟨p6,c6,rfl,-,-,hr6⟩:=ho6.rw2 (n:=1) rfl;have HL6:=Lib.hid (HLn.out.below hb6)))
  | (go_at_call 29;((refine (R7.out w6 p6 c6 HL6.out.b hr6).mono ?_);rintro e w7 ⟨⟨v7,rfl⟩,hb7⟩)))
 have HLf:=Lib.hid (HL6.out.below hb7)
 clear ho6 hb6 hr6 hb7 HL6 HLn HLe R6 R7 x0
 -- Get, twice
 have x0:=(st_at HLf.out.s).1
 have G1:=Lib.hid (sget_any l3S iA p3 3 c3 w7 rfl HLf.out.r (by decide))
 rw [so_g.1,so_g.2.1,show itA.k=1 from rfl,show itA.b=bA from rfl] at G1
 go_upto_region 8 with (go_at_call 15;((refine G1.out.mono ?_);rintro e w8 ⟨rfl,hb8⟩))
 obtain ⟨wg,hwg⟩:∃ wg,wg=w8.alloc (.cells #[.int .i64 1,.string bA] 29):=⟨_,rfl⟩
 obtain ⟨O,hO⟩:∃ O,O=w8.heap.size:=⟨_,rfl⟩
 have ho8:wg.heap[O]?=some (.cells #[.int .i64 1,.string bA] 29 (0,0)):=by rw [hwg,hO];exact heap_alloc_new _ _
 have hbg:Below w8.heap.size w8 wg:=by rw [hwg];exact below_new (Below.refl _ _) _
 rw [←hwg,←hO]
 have HLg:=Lib.hid ((HLf.out.below hb8).below hbg)
 have y1:=(ob_at ho8).2.1
 clear hwg hO hbg hb8 HLf x0 G1 ho8
 have x0:=(st_at HLg.out.s).1
 have G2:=Lib.hid (sget_any l3S ⟨#[120]⟩ p3 3 c3 wg rfl HLg.out.r (by decide))
 rw [so_g.2.2.1] at G2
 obtain ⟨xk,hxk⟩:∃ xk,xk=(getI l3S ⟨#[120]⟩).k:=⟨_,rfl⟩
 obtain ⟨xb,hxb⟩:∃ xb,xb=(getI l3S ⟨#[120]⟩).b:=⟨_,rfl⟩
 rw [←hxk,←hxb] at G2
 clear hxk hxb
 go_upto_region 9 with (go_at_call 15;((refine G2.out.mono ?_);rintro e w9 ⟨rfl,hb9⟩;have y1:=cell_bel y1 hb9))
 obtain ⟨wh,hwh⟩:∃ wh,wh=w9.alloc (.cells #[.int .i64 xk,.string xb] 29):=⟨_,rfl⟩
 have hbh:Below w9.heap.size w9 wh:=by rw [hwh];exact below_new (Below.refl _ _) _
 rw [←hwh]
 have hl:=(HLg.out.below hb9).below hbh
 have y1:=cell_bel y1 hbh
 clear hwh hbh HLg G2
 have x0:=(st_at hl.s).1
 have hbn:Below wh.heap.size wh (wh.alloc (.cells #[.string iC,.string iA] 9)):=below_new (Below.refl _ _) _
 have hln:=hl.below hbn
 have HYN:=Lib.hid (cell_bel y1 hbn)
 have hca:∀ x∈caS,x.length≤140737488355328:=by
  intro x hx
  simp only [List.mem_cons,List.not_mem_nil,or_false] at hx
  rcases hx with rfl|rfl<;>decide
 have R9:=Lib.hid (sonly_any l3S caS p3 (some ⟨wh.heap.size,0,none⟩) 3 c3 2 2 _ rfl rfl hln.r (srw_two (w:=wh) (s:=iC) (s2:=iA) (t:=9)) (by decide) (by decide) HISZ.out hca)
 have HLN:=Lib.hid hln
 clear hln hbn hca
 have M9:Hid (∀ (w':World) (p6:Option Addr) (c6:Nat),Below w.heap.size w w'→ItRw w' p6 [itC,itA]→Calls Tryz.prog 31 #[.agg #[.slice p6 2 c6],.slice (some ⟨w'.heap.size,0,none⟩) 1 1] (w'.alloc (.cells #[.string iC] 9)) fun e w''=>(∃ q d,e=.returned (.slice q 1 d)∧SRw w'' q [iB.data.toList])∧Below w'.heap.size w' w''):=fun w' p6 c6 hb hr=>by
  have hbn':Below w'.heap.size w' (w'.alloc (.cells #[.string iC] 9)):=below_new (Below.refl _ _) _
  refine (smissing_any [itC,itA] cS p6 (some ⟨w'.heap.size,0,none⟩) 2 c6 1 1 _ (HMK.out _ [itC,itA] p6 2 (hb.trans (hbn'.mono hb.size)) (hr.below hbn') rfl (by decide) (fun e he=>by simp only [List.mem_cons,List.not_mem_nil,or_false] at he ⊢;rcases he with rfl|rfl<;>simp)) rfl (srw_one (w:=w') (s:=iC) (t:=9)) HIDS.out (by decide) (by decide +kernel)).mono ?_
  rintro e w'' ⟨v,he,ho,hb2⟩
  rw [so_mi] at ho
  obtain ⟨q,d,rfl,hr2⟩:=ho.rw
  exact ⟨⟨q,d,he,hr2⟩,hbn'.trans (hb2.mono hbn'.size)⟩
 have V9:Hid (∀ w',LvS w w' S p3 3 c3 l3S→Calls Tryz.prog 9 #[.agg #[.slice p3 3 c3]] w' fun e w''=>e=.returned (.bool true)∧Below w'.heap.size w' w''):=fun w' h=>by
  have:=svalid_any l3S p3 3 c3 w' (HTT.out _ h.b).1 (HTT.out _ h.b).2.1 (HTT.out _ h.b).2.2.1 (HTT.out _ h.b).2.2.2 rfl h.r (fun x hx=>Nat.le_trans (HSZ.out x hx) (by decide)) (by decide)
  rw [so_v] at this
  exact this
 have I9:Hid (∀ w',LvS w w' S p3 3 c3 l3S→Calls Tryz.prog 19 #[.agg #[.slice p3 3 c3]] w' fun e w''=>(∃ q d,e=.returned (.slice q 3 d))∧Below w'.heap.size w' w''):=fun w' h=>by
  refine (ids_any l3S p3 3 c3 w' rfl h.r (by decide)).mono ?_
  rintro e w'' ⟨⟨v,he,ho⟩,hb⟩
  obtain ⟨q,d,rfl,-⟩:=ho.rw
  exact ⟨⟨q,d,he⟩,hb⟩
 have B9:Hid (∀ w',LvS w w' S p3 3 c3 l3S→Calls Tryz.prog 22 #[.agg #[.slice p3 3 c3],.string iB] w' fun e w''=>e=.returned (.bool true)∧Below w'.heap.size w' w''):=fun w' h=>by
  have:=has_any l3S iB p3 3 c3 w' rfl h.r (by decide)
  rw [so_g.2.2.2.1] at this
  exact this
 have E9:Hid (∀ w',LvS w w' S p3 3 c3 l3S→Calls Tryz.prog 22 #[.agg #[.slice p3 3 c3],.string ⟨#[]⟩] w' fun e w''=>e=.returned (.bool false)∧Below w'.heap.size w' w''):=fun w' h=>by
  have:=has_any l3S ⟨#[]⟩ p3 3 c3 w' rfl h.r (by decide)
  rw [so_g.2.2.2.2] at this
  exact this
 have W9:Hid (∀ w',LvS w w' S p3 3 c3 l3S→Calls Tryz.prog 33 #[.agg #[.slice p3 3 c3],.slice none 0 0,.slice (some ⟨w'.heap.size,0,none⟩) 1 1] (w'.alloc (.cells #[.string iC] 9)) fun e w''=>e=.returned (.bool true)∧Below w'.heap.size w' w''):=fun w' h=>by
  have hbn':Below w'.heap.size w' (w'.alloc (.cells #[.string iC] 9)):=below_new (Below.refl _ _) _
  have h2:=h.below hbn'
  have:=swhole_any l3S [] cS p3 none (some ⟨w'.heap.size,0,none⟩) 3 c3 0 0 1 1 _ (HMK.out _ l3S p3 3 h2.b h2.r rfl (by decide) (fun _ h=>h)) rfl rfl (fun k hk=>absurd hk (Nat.not_lt_zero _)) (srw_one (w:=w') (s:=iC) (t:=9)) (fun x hx=>by cases hx) HIDS.out (by decide) (by decide) (by decide +kernel)
  rw [so_w.1] at this
  exact this.mono fun e w'' ⟨he,hb⟩=>⟨he,hbn'.trans (hb.mono hbn'.size)⟩
 have L9:Hid (∀ w',LvS w w' S p3 3 c3 l3S→Calls Tryz.prog 27 #[.agg #[.slice p3 3 c3],.agg #[.slice p3 3 c3]] w' fun e w''=>(∃ q d,e=.returned (.agg #[.slice q 0 d]))∧Below w'.heap.size w' w''):=fun w' h=>by
  refine (sless_any l3S l3S p3 p3 3 c3 3 c3 w' rfl rfl h.r h.r (by decide) (by decide)).mono ?_
  rintro e w'' ⟨v,he,ho,hb⟩
  rw [so_w.2] at ho
  obtain ⟨q,d,rfl,-⟩:=ho.rw2 (n:=0) rfl
  exact ⟨⟨q,d,he⟩,hb⟩
 clear hl y1
 go_upto_region 10 with (first
  | (go_at_call 23;(refine R9.out.mono ?_);rintro e w10 ⟨v10,rfl,ho10,hb10⟩;rw [so_m.1] at ho10;obtain ⟨p10,c10,rfl,-,-,hr10⟩:=ho10.rw2 (n:=2) rfl;have hl:=HLN.out.below hb10;have y1:=cell_bel HYN.out hb10;have x0:=(st_at hl.s).1)
  | (go_at_call 31;(refine (M9.out w10 p10 c10 hl.b hr10).mono ?_);rintro e w11 ⟨⟨q11,d11,rfl,hr11⟩,hb'⟩;have hl:=hl.below hb';have x0:=(st_at hl.s).1;have y1:=cell_bel y1 hb';obtain ⟨g11,o11,rfl,-,z0⟩:=hr11 0 (by decide);have z0:w11.cell? ⟨g11,o11,none⟩=some (.string iB):=z0))
 clear R9 M9 HYN HLN hr10 ho10 hr11 HMK HSZ HIDS HISZ HTT
 have HAB:Hid ((bA.toList==[97,98])=true):=by show _=_;rw [show bA=(⟨#[97,98]⟩:ByteArray) from rfl,ByteArray.toList_eq];rfl
 generalize iB=bb at z0 B9 ⊢
 generalize bA=ba at y1 HAB ⊢
 have hab:=HAB.out
 have hfld:∀ (q:Option Addr) (d:Nat) (w':World),(Instr.field 24 (.agg #[.slice q 0 d]) 0).run Tryz.prog w'=.ok (.slice q 0 d) w':=fun q d w'=>by kernel_rfl
 have hbb:(bb.toList==bb.toList)=true:=beq_self_eq_true _
 go_step
 simp only [List.append_eq,List.cons_append,List.nil_append]
 go_wp2_with (first
  | (go_at_call 9;(with_reducible refine (V9.out _ hl).mono ?_);rintro e w' ⟨rfl,hb'⟩;have hl:=hl.below hb';have x0:=(st_at hl.s).1;have y1:=cell_bel y1 hb';have z0:=cell_bel z0 hb')
  | (go_at_call 19;(with_reducible refine (I9.out _ hl).mono ?_);rintro e w' ⟨⟨q12,d12,rfl⟩,hb'⟩;have hl:=hl.below hb';have x0:=(st_at hl.s).1;have y1:=cell_bel y1 hb';have z0:=cell_bel z0 hb')
  | (go_at_call 22;first
   | ((with_reducible refine (E9.out _ hl).mono ?_);rintro e w' ⟨rfl,hb'⟩;have hl:=hl.below hb';have x0:=(st_at hl.s).1;have y1:=cell_bel y1 hb';have z0:=cell_bel z0 hb')
   | ((with_reducible refine (B9.out _ hl).mono ?_);rintro e w' ⟨rfl,hb'⟩;have hl:=hl.below hb';have x0:=(st_at hl.s).1;have y1:=cell_bel y1 hb';have z0:=cell_bel z0 hb'))
  | (go_at_call 33;(with_reducible refine (W9.out _ hl).mono ?_);rintro e w' ⟨rfl,hb'⟩;have hl:=hl.below hb';have x0:=(st_at hl.s).1;have y1:=cell_bel y1 hb';have z0:=cell_bel z0 hb')
  | (go_at_call 27;(with_reducible refine (L9.out _ hl).mono ?_);rintro e w' ⟨⟨q13,d13,rfl⟩,hb'⟩;have hl:=hl.below hb';have x0:=(st_at hl.s).1;have y1:=cell_bel y1 hb';have z0:=cell_bel z0 hb'))
 go_ret
 exact ⟨rfl,hl.b⟩
end Go.Proofs.YtnoopcenogbjiaaGreatDoor
/-
 Rows that are told by functions; rows of rows of small numbers of the call's own.
-/
namespace Go.Proofs.YtnoopcenogbjiaaGreatDoor
open Go Go.RowKit
def fRow (N:Nat) (f:Nat→Value):Array Value:=((List.range N).map f).toArray
theorem fRow_size (N:Nat) (f:Nat→Value):(fRow N f).size=N:=by simp [fRow]
theorem fRow_at {N i:Nat} {f:Nat→Value} (h:i<N):(fRow N f)[i]?=some (f i):=by simp [fRow,h]
def setF {α:Type} (f:Nat→α) (i:Nat) (v:α):Nat→α:=fun j=>if j=i then v else f j
theorem setF_at {α:Type} (f:Nat→α) (i:Nat) (v:α):setF f i v i=v:=if_pos rfl
theorem setF_ne {α:Type} (f:Nat→α) {i j:Nat} (v:α) (h:j≠i):setF f i v j=f j:=if_neg h
theorem fRow_set {N i:Nat} {f:Nat→Value} {v:Value}:(fRow N f).setIfInBounds i v=fRow N (setF f i v):=by
 unfold fRow
 rw [List.setIfInBounds_toArray]
 congr 1
 refine List.ext_getElem (by simp) fun j h1 h2=>?_
 rw [List.getElem_set]
 by_cases h:i=j
 ·subst h
  simp [setF]
 ·have h':¬ j=i:=fun e=>h e.symm
  simp [h,setF,h']
theorem fRow_made (z:Value) (n:Nat):madeCells #[z] n=fRow n (fun _=>z):=by
 rw [←Array.toList_inj,toList_madeCells_one]
 unfold fRow
 exact List.ext_getElem (by simp) fun j h1 h2=>by simp
def FRw (w:World) (B N:Nat) (t:TypeId) (f:Nat→Value):Prop:=w.heap[B]?=some (.cells (fRow N f) t (0,0))
section
variable {w w':World} {B N:Nat} {t:TypeId} {f:Nat→Value}
theorem FRw.at (h:FRw w B N t f) {i:Nat} (hi:i<N):w.cell? ⟨B,i,none⟩=some (f i):=(cell_of_row _ _ i _ _ _ h).trans (fRow_at hi)
theorem FRw.fz (h:FRw w B N t f) (i:Nat):w.frozen? ⟨B,i,none⟩=false:=frozen_of_row _ _ i _ _ h
theorem FRw.set (h:FRw w B N t f) (i:Nat) (v:Value):FRw (w.setCell ⟨B,i,none⟩ v) B N t (setF f i v):=by
 unfold FRw
 rw [heap_setCell_same w B i _ t v h,fRow_set]
theorem FRw.below (h:FRw w B N t f) (hb:Below w.heap.size w w'):FRw w' B N t f:=(hb.block _ (row_lt h)).trans h
theorem FRw.other (h:FRw w B N t f) {P i:Nat} (hne:B≠P) (v:Value):FRw (w.setCell ⟨P,i,none⟩ v) B N t f:=(Below.heap_setCell w ⟨P,i,none⟩ v B hne).trans h
theorem FRw.grown (h:FRw w B N t f) {r:Option Nat} (hg:w.grownBy w' r) (hne:some B≠r):FRw w' B N t f:=(hg.block B (row_lt h) hne).trans h
end
def ints (l:List Nat):List Value:=l.map fun (x:Nat)=>Value.int .i64 (x:Int)
theorem ints_app (a b:List Nat):ints (a++b)=ints a++ints b:=by simp [ints]
theorem Tryz.infoIntS:(Tryz.prog.info? 3).map (fun i=>(i.zero,i.size,i.bytes))=some (some (.int .i64 0),1,8):=by kernel_rfl
structure IRs (w:World) (base L N K:Nat) (vf:Nat→Value) (lf:Nat→List Nat):Prop where
 row:FRw w L N 105 vf
 own:∀ i,i<N→w.ownsRow base 3 1 (vf i) (lf i).length (ints (lf i))
 apart:∀ i j,i<N→j<N→i≠j→(vf i).ownBlock=none∨(vf i).ownBlock≠(vf j).ownBlock
 lt:∀ i,i<N→∀ x∈lf i,x<K
 hL:L<base
section
variable {w w':World} {base L N K:Nat} {vf:Nat→Value} {lf:Nat→List Nat}
theorem IRs.below (h:IRs w base L N K vf lf) (hb:Below w.heap.size w w'):IRs w' base L N K vf lf :=
 ⟨h.row.below hb,fun i hi=>own_below (h.own i hi) hb,h.apart,h.lt,h.hL⟩
theorem IRs.start {w:World} {L N K:Nat} (hr:FRw w L N 105 (fun _=>.slice none 0 0)):IRs w (L+1) L N K (fun _=>.slice none 0 0) (fun _=>[]) :=
 ⟨hr,fun i _=>World.ownsRow_nil w (L+1) 3 1,fun i j _ _ _=>.inl rfl,fun i _ x hx=>(by cases hx),Nat.lt_succ_self _⟩
theorem IRs.form (h:IRs w base L N K vf lf) {i:Nat} (hi:i<N):∃ p c,vf i=.slice p (lf i).length c∧∀ k (hk:k<(lf i).length),∃ g,p=some ⟨g,0,none⟩∧w.cell? ⟨g,k,none⟩=some (.int .i64 ((lf i)[k]:Int)):=by
 have ho:=h.own i hi
 rcases ho.2 with ⟨hv,h0⟩|⟨g,cap,cur,hv,_⟩
 ·exact ⟨none,0,by rw [hv,h0],fun k hk=>by omega⟩
 ·refine ⟨_,cap,hv,fun k hk=>⟨g,rfl,?_⟩⟩
  rw [hv] at ho
  rw [World.ownsRow.cellAt ho k (by omega)]
  simp [ints,hk]
theorem IRs.len (h:IRs w base L N K vf lf) {i:Nat} (hi:i<N):(lf i).length≤9223372036854775807:=by
 have ho:=h.own i hi
 rcases ho.2 with ⟨hv,h0⟩|⟨g,cap,cur,hv,_,_,h1,h2,_⟩
 ·omega
 ·have:maxLen≤9223372036854775807:=by decide
  omega
theorem IRs.other (h:IRs w base L N K vf lf) {P i:Nat} {v:Value} (hP:P<base) (hne:L≠P):IRs (w.setCell ⟨P,i,none⟩ v) base L N K vf lf :=
 ⟨h.row.other hne v,fun j hj=>ownsRow_setCell_other (h.own j hj) (a:=⟨P,i,none⟩) (fun e=>by have:=((h.own j hj).lt P e).1;omega) v,h.apart,h.lt,h.hL⟩
theorem IRs.app (h:IRs w base L N K vf lf) {i x:Nat} (hi:i<N) (hx:x<K) {o:Obj} {v':Value} (ho:w'.ownsRow base 3 1 v' ((lf i).length+1) (ints (lf i)++[.int .i64 (x:Int)]))
  (hg:(w.alloc o).grownBy w' (vf i).ownBlock) (hat:v'.ownBlock=(vf i).ownBlock∨v'.ownBlock=some (w.alloc o).heap.size) :
  IRs (w'.setCell ⟨L,i,none⟩ v') base L N K (setF vf i v') (setF lf i (lf i++[x])):=by
 have hLo:∀ j,j<N→some L≠(vf j).ownBlock:=fun j hj e=>by
  have:=((h.own j hj).lt L e.symm).1
  have:=h.hL
  omega
 have hLv:some L≠v'.ownBlock:=fun e=>by
  have:=(ho.lt L e.symm).1
  have:=h.hL
  omega
 have hlt:∀ j,j<N→∀ k,(vf j).ownBlock=some k→k<w.heap.size:=fun j hj k e=>((h.own j hj).lt k e).2
 refine ⟨?_,fun j hj=>?_,fun j k hj hk hjk=>?_,fun j hj y hy=>?_,h.hL⟩
 ·exact FRw.set ((h.row.below (below_new (Below.refl _ _) o)).grown hg (hLo i hi)) i v'
 ·by_cases e:j=i
  ·subst e
   rw [setF_at,setF_at]
   refine ownsRow_setCell_other (a:=⟨L,j,none⟩) ?_ (fun e=>hLv e.symm) v'
   rw [ints_app,List.length_append]
   exact ho
  ·rw [setF_ne _ _ e,setF_ne _ _ e]
   exact ownsRow_setCell_other (a:=⟨L,i,none⟩) (((h.own j hj).alloc o).kept hg (h.apart j i hj hi e)) (fun e=>hLo j hj e.symm) v'
 ·by_cases e:j=i
  ·subst e
   rw [setF_at,setF_ne _ _ (Ne.symm hjk)]
   rcases hat with e2|e2
   ·rw [e2];exact h.apart j k hj hk hjk
   ·right
    rw [e2]
    intro e3
    have:=hlt k hk _ e3.symm
    simp at this
    omega
  ·rw [setF_ne _ _ e]
   by_cases e2:k=i
   ·subst e2
    rw [setF_at]
    rcases hat with e3|e3
    ·rw [e3];exact h.apart j k hj hk hjk
    ·right
     rw [e3]
     intro e4
     have:=hlt j hj _ e4
     simp at this
     omega
   ·rw [setF_ne _ _ e2];exact h.apart j k hj hk hjk
 ·by_cases e:j=i
  ·subst e
   rw [setF_at,List.mem_append,List.mem_singleton] at hy
   rcases hy with hy|rfl
   ·exact h.lt j hj y hy
   ·exact hx
  ·rw [setF_ne _ _ e] at hy
   exact h.lt j hj y hy
end
theorem wp_in_one {ops:Array Oper} {rest:List Oper} {o:Oper} {a:Act} {Q:Exit→Act→World→Prop} {w:World} (hgd:o.guard=none) (sl x:Operand)
  (ho:o.op=.call { callee:=.builtin .append,args:=#[sl,x],argTypes:=#[105,105] })
  {base:Nat} {v:Value} {l:List Nat} (hs:a.eval sl=v) (hown:w.ownsRow base 3 1 v l.length (ints l)) (y:Nat) (hx:a.eval x=.slice (some ⟨w.heap.size,0,none⟩) 1 1) (hb:l.length+1≤1048576) (hbase:base≤w.heap.size)
  (h:∀ v' w',w'.ownsRow base 3 1 v' (l.length+1) (ints l++[.int .i64 (y:Int)])→(w.alloc (.cells #[.int .i64 (y:Int)] 3)).grownBy w' v.ownBlock→(v'.ownBlock=v.ownBlock∨v'.ownBlock=some (w.alloc (.cells #[.int .i64 (y:Int)] 3)).heap.size)→wpList Tryz.prog ops Q rest (a.put o.dst v') w'):wpList Tryz.prog ops Q (o::rest) a (w.alloc (.cells #[.int .i64 (y:Int)] 3)):=by
 obtain ⟨i0,hi,hz0,hz1,hz2⟩:=info_parts Tryz.infoIntS
 exact wpList_append_own_at _ hgd sl x 105 ho base 3 i0 (.int .i64 0) 1 8 Tryz.underlying105 hi hz0 hz1 hz2 rfl (by decide) v l.length (ints l) hs (hown.alloc _) ⟨w.heap.size,0,none⟩ 1 1 [.int .i64 (y:Int)] hx rfl (cell_one_new _ _ _) (fun u hu=>by simp at hu;subst hu;rfl) (by unfold maxLen;omega) (by omega) (by simp;omega)
  (fun v' w' h1 h2 _ h4=>h v' w' h1 h2 h4)
def cntN (f:Nat→Bool):Nat→Nat
 | 0=>0
 | n+1=>cntN f n+(if f n=true then 0 else 1)
theorem cntN_le (f:Nat→Bool):∀ n,cntN f n≤n
 | 0=>Nat.le_refl _
 | n+1=>by have:=cntN_le f n;rw [cntN];split<;>omega
theorem cntN_false:∀ n,cntN (fun _=>false) n=n
 | 0=>rfl
 | n+1=>by rw [cntN,cntN_false n];rfl
theorem cntN_far (f:Nat→Bool) (i:Nat) (b:Bool):∀ n,n≤i→cntN (setF f i b) n=cntN f n
 | 0,_=>rfl
 | n+1,h=>by rw [cntN,cntN,cntN_far f i b n (by omega),setF_ne _ _ (by omega)]
theorem cntN_set (f:Nat→Bool) (i:Nat) (hf:f i=false):∀ n,i<n→cntN (setF f i true) n+1=cntN f n
 | n+1,h=>by
  by_cases e:n=i
  ·subst e
   rw [cntN,cntN,cntN_far f n true n (Nat.le_refl _),setF_at,hf]
   rfl
  ·have:=cntN_set f i hf n (by omega)
   rw [cntN,cntN,setF_ne _ _ e]
   omega
def sumN (f:Nat→Nat):Nat→Nat
 | 0=>0
 | n+1=>sumN f n+f n
theorem sumN_far (f:Nat→Nat) (i v:Nat):∀ n,n≤i→sumN (setF f i v) n=sumN f n
 | 0,_=>rfl
 | n+1,h=>by rw [sumN,sumN,sumN_far f i v n (by omega),setF_ne _ _ (by omega)]
theorem sumN_set (f:Nat→Nat) (i v:Nat):∀ n,i<n→sumN (setF f i v) n+f i=sumN f n+v
 | n+1,h=>by
  by_cases e:n=i
  ·subst e
   rw [sumN,sumN,sumN_far f n v n (Nat.le_refl _),setF_at]
   omega
  ·have:=sumN_set f i v n (by omega)
   rw [sumN,sumN,setF_ne _ _ e]
   omega
def perE (l:List It) (m:Nat→Nat) (e:En):Nat:=1+if hasI l e.i=true∧e.m=4 then m (atI l e.i) else 0
def sumE (l:List It) (m:Nat→Nat):List En→Nat
 | []=>0
 | e::es=>perE l m e+sumE l m es
theorem perE_mono {l:List It} {m m':Nat→Nat} (h:∀ j,m j≤m' j) (e:En):perE l m e≤perE l m' e:=by
 unfold perE
 split
 ·have:=h (atI l e.i);omega
 ·exact Nat.le_refl _
theorem sumE_mono {l:List It} {m m':Nat→Nat} (h:∀ j,m j≤m' j):∀ es,sumE l m es≤sumE l m' es
 | []=>Nat.le_refl _
 | e::es=>Nat.add_le_add (perE_mono h e) (sumE_mono h es)
theorem sumE_append (l:List It) (m:Nat→Nat):∀ a b,sumE l m (a++b)=sumE l m a+sumE l m b
 | [],b=>by simp [sumE]
 | e::a,b=>by rw [List.cons_append,sumE,sumE,sumE_append l m a b,Nat.add_assoc]
theorem sumE_more {l:List It} {m:Nat→Nat} {es:List En} {k:Nat} (h:k<es.length):sumE l m (es.take (k+1))=sumE l m (es.take k)+perE l m es[k]:=by
 rw [List.take_succ_eq_append_getElem h,sumE_append]
 rfl
def OkM (l:List It) (N:Nat) (es:Nat→List En) (m:Nat→Nat):Prop:=(∀ i,m i≤20000)∧∀ i,i<N→m i≤sumE l m (es i)
theorem OkM.start (l:List It) (N:Nat) (es:Nat→List En):OkM l N es (fun _=>0):=⟨fun _=>Nat.zero_le _,fun _ _=>Nat.zero_le _⟩
theorem OkM.set {l:List It} {N:Nat} {es:Nat→List En} {m:Nat→Nat} (h:OkM l N es m) {i:Nat} (hi:i<N) (hs:sumE l m (es i)≤20000):OkM l N es (setF m i (sumE l m (es i))):=by
 have hm:∀ j,m j≤setF m i (sumE l m (es i)) j:=fun j=>by
  by_cases e:j=i
  ·subst e;rw [setF_at];exact h.2 j hi
  ·rw [setF_ne _ _ e];exact Nat.le_refl _
 refine ⟨fun j=>?_,fun j hj=>?_⟩
 ·by_cases e:j=i
  ·subst e;rw [setF_at];exact hs
  ·rw [setF_ne _ _ e];exact h.1 j
 ·by_cases e:j=i
  ·subst e;rw [setF_at];exact sumE_mono hm _
  ·rw [setF_ne _ _ e];exact Nat.le_trans (h.2 j hj) (sumE_mono hm _)
def leftM (m:Nat→Nat):Nat→Nat:=sumN fun i=>20000-m i
theorem leftM_set {l:List It} {N:Nat} {es:Nat→List En} {m:Nat→Nat} (h:OkM l N es m) {i:Nat} (hi:i<N) (hs:sumE l m (es i)≤20000) :
  leftM (setF m i (sumE l m (es i))) N+(if sumE l m (es i)=m i then 0 else 1)≤leftM m N:=by
 have e:(fun j=>20000-setF m i (sumE l m (es i)) j)=setF (fun j=>20000-m j) i (20000-sumE l m (es i)):=by
  funext j
  by_cases e:j=i
  ·subst e;rw [setF_at,setF_at]
  ·rw [setF_ne _ _ e,setF_ne _ _ e]
 have h1:=sumN_set (fun j=>20000-m j) i (20000-sumE l m (es i)) N hi
 have h2:=h.2 i hi
 unfold leftM
 rw [e]
 split<;>omega
end Go.Proofs.YtnoopcenogbjiaaGreatDoor
