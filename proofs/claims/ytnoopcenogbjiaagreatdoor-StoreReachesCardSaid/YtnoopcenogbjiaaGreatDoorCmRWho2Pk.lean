/-
 The walk of the reference's ParseWho.
-/
import Derived.Test.YtnoopcenogbjiaaGreatDoorCmRFindPk
import Derived.Deep.RegionHeld3
import Derived.Test.YtnoopcenogbjiaaGreatDoorCmIdmPk
set_option linter.unusedVariables false
set_option linter.unusedSimpArgs false
namespace Go.Proofs.YtnoopcenogbjiaaGreatDoor
open Go Go.RowKit
set_option maxHeartbeats 8000000 in
set_option maxRecDepth 8000 in
theorem rwhop_any (s:ByteArray) (w:World) (hs:s.size≤1048576):Calls Tryz.prog 122 #[.string s] w (WhoR (whoR s.data.toList) w):=by
 obtain ⟨R,hR⟩:∃ R,R=whoR s.data.toList:=⟨_,rfl⟩
 have hR0:=hR
 rw [←hR]
 have hat:=who_at s.data.toList
 rw [←hR] at hat
 have hx:=heap_alloc_new w (.cells #[.string ⟨#[]⟩,.string ⟨#[]⟩,.int .i64 0,.int .i64 0] 61)
 obtain ⟨w1,hw1⟩:∃ w1,w1=w.alloc (.cells #[.string ⟨#[]⟩,.string ⟨#[]⟩,.int .i64 0,.int .i64 0] 61):=⟨_,rfl⟩
 have hbx:Below w.heap.size w w1:=by rw [hw1];exact below_new (Below.refl _ _) _
 rw [←hw1] at hx
 have HW1:=Lib.hid hw1
 have HRW:=Lib.hid hx
 have HBX:=Lib.hid hbx
 obtain ⟨y0,y1,y2,y3,z0,z1,z2,z3⟩:=pn_end hx
 have h1:Hid (∀ w',Calls Tryz.prog 120 #[.string s,.string ⟨#[32,60]⟩,.int .i64 ((0:Nat):Int)] w' fun e w''=>e=.returned (.int .i64 (findI s.data.toList [32,60] 0))∧w''=w'):=fun w'=>rfnd_any s ⟨#[32,60]⟩ 0 w' (by decide) (by decide) (by omega) (by omega)
 have h2:Hid (∀ a:Nat,a≤s.size→∀ w',Calls Tryz.prog 120 #[.string s,.string ⟨#[62,32]⟩,.int .i64 (a:Int)] w' fun e w''=>e=.returned (.int .i64 (findI s.data.toList [62,32] a))∧w''=w'):=fun a ha w'=>rfnd_any s ⟨#[62,32]⟩ a w' (by decide) (by decide) (by omega) (by omega)
 have h3:Hid (∀ a:Nat,a≤s.size+2→∀ w',Calls Tryz.prog 120 #[.string s,.string ⟨#[32]⟩,.int .i64 (a:Int)] w' fun e w''=>e=.returned (.int .i64 (findI s.data.toList [32] a))∧w''=w'):=fun a ha w'=>rfnd_any s ⟨#[32]⟩ a w' (by decide) (by decide) (by omega) (by omega)
 clear hx hbx hw1
 rcases hat with ⟨ha,hq⟩|⟨a,ha,hal,hat⟩
 ·have HQ:=Lib.hid hq
  have HF1:Hid (∀ w',Calls Tryz.prog 120 #[.string s,.string ⟨#[32,60]⟩,.int .i64 0] w' fun e w''=>e=.returned (.int .i64 (-1))∧w'=w''):=fun w'=>(h1.out w').mono fun e w'' ⟨he,hw⟩=>⟨by rw [he,ha],hw.symm⟩
  have HF2:=HF1
  have HF3:=HF1
  clear ha hq h1 h2 h3 hR hR0
  go_enter Tryz.func122,Tryz.ntmps122
  go_upto_region 1 with fail
  rw [←HW1.out]
  go_wp2_with (go_at_call 120;first
   | ((with_reducible refine (HF1.out _).mono ?_);rintro e wa ⟨rfl,rfl⟩)
   | ((with_reducible refine (HF2.out _).mono ?_);rintro e wb ⟨rfl,rfl⟩)
   | ((with_reducible refine (HF3.out _).mono ?_);rintro e wc ⟨rfl,rfl⟩))
  obtain ⟨d0,d1,d2,d3,_⟩:=pn_end (pn_row (v0:=.string ⟨#[]⟩) (v1:=.string ⟨#[]⟩) (v2:=.int .i64 0) (v3:=.int .i64 0) HRW.out)
  refine bodyPost_ret (v:=.tuple #[.agg #[.string ⟨#[]⟩,.string ⟨#[]⟩,.int .i64 0,.int .i64 0],.int .i64 2]) (by simp [results,Tryz.results122,go_sem,d0,d1,d2,d3]) rfl (whoR_bad HQ.out (set4_below HBX.out (Nat.le_refl _)))
 have HF1:Hid (∀ w',Calls Tryz.prog 120 #[.string s,.string ⟨#[32,60]⟩,.int .i64 0] w' fun e w''=>e=.returned (.int .i64 (a:Int))∧w'=w''):=fun w'=>(h1.out w').mono fun e w'' ⟨he,hw⟩=>⟨by rw [he,ha],hw.symm⟩
 rw [list_len] at hal
 rcases hat with ⟨hb,hq⟩|⟨b,hb,hb1,hb2,hat⟩
 ·have HQ:=Lib.hid hq
  have HF2:Hid (∀ w',Calls Tryz.prog 120 #[.string s,.string ⟨#[62,32]⟩,.int .i64 (a:Int)] w' fun e w''=>e=.returned (.int .i64 (-1))∧w'=w''):=fun w'=>(h2.out a hal w').mono fun e w'' ⟨he,hw⟩=>⟨by rw [he,hb],hw.symm⟩
  have HF3:=HF1
  clear ha hb hq h1 h2 h3 hR hR0
  go_enter Tryz.func122,Tryz.ntmps122
  go_upto_region 1 with fail
  rw [←HW1.out]
  go_wp2_with (go_at_call 120;first
   | ((with_reducible refine (HF1.out _).mono ?_);rintro e wa ⟨rfl,rfl⟩)
   | ((with_reducible refine (HF2.out _).mono ?_);rintro e wb ⟨rfl,rfl⟩)
   | ((with_reducible refine (HF3.out _).mono ?_);rintro e wc ⟨rfl,rfl⟩))
  obtain ⟨d0,d1,d2,d3,_⟩:=pn_end (pn_row (v0:=.string ⟨#[]⟩) (v1:=.string ⟨#[]⟩) (v2:=.int .i64 0) (v3:=.int .i64 0) HRW.out)
  refine bodyPost_ret (v:=.tuple #[.agg #[.string ⟨#[]⟩,.string ⟨#[]⟩,.int .i64 0,.int .i64 0],.int .i64 2]) (by simp [results,Tryz.results122,go_sem,d0,d1,d2,d3]) rfl (whoR_bad HQ.out (set4_below HBX.out (Nat.le_refl _)))
 have HF2:Hid (∀ w',Calls Tryz.prog 120 #[.string s,.string ⟨#[62,32]⟩,.int .i64 (a:Int)] w' fun e w''=>e=.returned (.int .i64 (b:Int))∧w'=w''):=fun w'=>(h2.out a hal w').mono fun e w'' ⟨he,hw⟩=>⟨by rw [he,hb],hw.symm⟩
 rw [list_len] at hb2
 obtain ⟨b2,hbb⟩:∃ b2,b2=b+2:=⟨_,rfl⟩
 have eb2:(b:Int)+2=(b2:Int):=by omega
 rw [←hbb] at hat
 rcases hat with ⟨hc,hq⟩|⟨c,hc,hc1,hc2,hl,ea,eb,ec⟩
 ·have HQ:=Lib.hid hq
  have HF3:Hid (∀ w',Calls Tryz.prog 120 #[.string s,.string ⟨#[32]⟩,.int .i64 (b2:Int)] w' fun e w''=>e=.returned (.int .i64 (-1))∧w'=w''):=fun w'=>(h3.out b2 (by omega) w').mono fun e w'' ⟨he,hw⟩=>⟨by rw [he,hc],hw.symm⟩
  clear ha hb hc hq h1 h2 h3 hbb hR hR0
  go_enter Tryz.func122,Tryz.ntmps122
  go_upto_region 1 with fail
  rw [←HW1.out]
  go_wp2_with (go_at_call 120;first
   | ((with_reducible refine (HF1.out _).mono ?_);rintro e wa ⟨rfl,rfl⟩)
   | ((with_reducible refine (HF2.out _).mono ?_);rintro e wb ⟨rfl,rfl⟩)
   | ((with_reducible refine (HF3.out _).mono ?_);rintro e wc ⟨rfl,rfl⟩))
  obtain ⟨d0,d1,d2,d3,_⟩:=pn_end (pn_row (v0:=.string ⟨#[]⟩) (v1:=.string ⟨#[]⟩) (v2:=.int .i64 0) (v3:=.int .i64 0) HRW.out)
  refine bodyPost_ret (v:=.tuple #[.agg #[.string ⟨#[]⟩,.string ⟨#[]⟩,.int .i64 0,.int .i64 0],.int .i64 2]) (by simp [results,Tryz.results122,go_sem,d0,d1,d2,d3]) rfl (whoR_bad HQ.out (set4_below HBX.out (Nat.le_refl _)))
 have HF3:Hid (∀ w',Calls Tryz.prog 120 #[.string s,.string ⟨#[32]⟩,.int .i64 (b2:Int)] w' fun e w''=>e=.returned (.int .i64 (c:Int))∧w'=w''):=fun w'=>(h3.out b2 (by omega) w').mono fun e w'' ⟨he,hw⟩=>⟨by rw [he,hc],hw.symm⟩
 rw [list_len] at hc2
 obtain ⟨n,hn⟩:∃ n,n=str (whoN s.data.toList):=⟨_,rfl⟩
 obtain ⟨m,hm⟩:∃ m,m=str (whoM s.data.toList):=⟨_,rfl⟩
 obtain ⟨d,hd⟩:∃ d,d=str (whoT s.data.toList):=⟨_,rfl⟩
 obtain ⟨g,hg⟩:∃ g,g=str (whoZ s.data.toList):=⟨_,rfl⟩
 obtain ⟨a2,haa⟩:∃ a2,a2=a+2:=⟨_,rfl⟩
 obtain ⟨c1,hcc⟩:∃ c1,c1=c+1:=⟨_,rfl⟩
 have ea2:(a:Int)+2=(a2:Int):=by omega
 have ec1:(c:Int)+1=(c1:Int):=by omega
 have en:s.extract 0 a=n:=by rw [hn];exact ext_all s 0 a [] _ _ hl rfl (by simp [ea])
 have em:s.extract a2 b=m:=by
  rw [hm]
  refine ext_all s a2 b (whoN s.data.toList++[32,60]) (whoM s.data.toList) ([62,32]++(whoT s.data.toList++([32]++whoZ s.data.toList))) ?_ ?_ ?_
  ·rw [List.append_assoc];exact hl
  ·simp;omega
  ·simp;omega
 have ed:s.extract b2 c=d:=by
  rw [hd]
  refine ext_all s b2 c (whoN s.data.toList++([32,60]++(whoM s.data.toList++[62,32]))) (whoT s.data.toList) ([32]++whoZ s.data.toList) ?_ ?_ ?_
  ·simp only [List.append_assoc];exact hl
  ·simp;omega
  ·simp;omega
 have hsz:s.size=(whoN s.data.toList).length+2+(whoM s.data.toList).length+2+(whoT s.data.toList).length+1+(whoZ s.data.toList).length:=by
  have:=congrArg List.length hl
  rw [list_len] at this
  simp only [List.length_append,List.length_cons,List.length_nil] at this
  omega
 have eg:s.extract c1 s.size=g:=by
  rw [hg]
  refine ext_all s c1 s.size (whoN s.data.toList++([32,60]++(whoM s.data.toList++([62,32]++(whoT s.data.toList++[32]))))) (whoZ s.data.toList) [] ?_ ?_ ?_
  ·simp only [List.append_assoc,List.append_nil];exact hl
  ·simp;omega
  ·simp;omega
 obtain ⟨I,hI⟩:∃ I,I=timeI d.data.toList:=⟨_,rfl⟩
 obtain ⟨T,hT⟩:∃ T,T=timeB d.data.toList:=⟨_,rfl⟩
 obtain ⟨K,hK⟩:∃ K,K=zoneI g.data.toList:=⟨_,rfl⟩
 obtain ⟨B,hB⟩:∃ B,B=zoneB g.data.toList:=⟨_,rfl⟩
 obtain ⟨O,hO⟩:∃ O,O=okPn ⟨n,m,I,K⟩:=⟨_,rfl⟩
 obtain ⟨u1,hu1⟩:∃ u,u=Lib.index n.data.toList [60]:=⟨_,rfl⟩
 obtain ⟨u2,hu2⟩:∃ u,u=Lib.index n.data.toList [62]:=⟨_,rfl⟩
 obtain ⟨u3,hu3⟩:∃ u,u=Lib.index m.data.toList [60]:=⟨_,rfl⟩
 obtain ⟨u4,hu4⟩:∃ u,u=Lib.index m.data.toList [62]:=⟨_,rfl⟩
 have HR:Hid (R=codeW T B (decide (0≤u1)||decide (0≤u2)||decide (0≤u3)||decide (0≤u4)) O ⟨n,m,I,K⟩):=by
  show _=_
  have e5:whoP s.data.toList=⟨n,m,I,K⟩:=by rw [whoP,hI,hK,hn,hm,hd,hg];rfl
  have e6:angle (whoN s.data.toList++whoM s.data.toList)=(decide (0≤u1)||decide (0≤u2)||decide (0≤u3)||decide (0≤u4)):=by
   rw [angle_app,angle_find,angle_find,hu1,hu2,hu3,hu4,hn,hm,str_list,str_list,Bool.or_assoc,Bool.or_assoc,Bool.or_assoc]
  rw [hR0,whoR,e5,e6,hT,hB,hO,hd,hg]
  rfl
 have hds:d.size≤s.size∧g.size≤s.size∧n.size≤s.size∧m.size≤s.size:=by
  rw [hd,hg,hn,hm,str_size,str_size,str_size,str_size]
  omega
 have HN60:Hid (∀ w',Calls Tryz.prog 120 #[.string n,.string ⟨#[60]⟩,.int .i64 0] w' fun e w''=>e=.returned (.int .i64 u1)∧w'=w''):=fun w'=>(rfnd_any n ⟨#[60]⟩ 0 w' (by decide) (by decide) (by omega) (by omega)).mono fun e w'' ⟨he,hw⟩=>⟨by rw [he,hu1,findI_zero],hw.symm⟩
 have HN62:Hid (∀ w',Calls Tryz.prog 120 #[.string n,.string ⟨#[62]⟩,.int .i64 0] w' fun e w''=>e=.returned (.int .i64 u2)∧w'=w''):=fun w'=>(rfnd_any n ⟨#[62]⟩ 0 w' (by decide) (by decide) (by omega) (by omega)).mono fun e w'' ⟨he,hw⟩=>⟨by rw [he,hu2,findI_zero],hw.symm⟩
 have HM60:Hid (∀ w',Calls Tryz.prog 120 #[.string m,.string ⟨#[60]⟩,.int .i64 0] w' fun e w''=>e=.returned (.int .i64 u3)∧w'=w''):=fun w'=>(rfnd_any m ⟨#[60]⟩ 0 w' (by decide) (by decide) (by omega) (by omega)).mono fun e w'' ⟨he,hw⟩=>⟨by rw [he,hu3,findI_zero],hw.symm⟩
 have HM62:Hid (∀ w',Calls Tryz.prog 120 #[.string m,.string ⟨#[62]⟩,.int .i64 0] w' fun e w''=>e=.returned (.int .i64 u4)∧w'=w''):=fun w'=>(rfnd_any m ⟨#[62]⟩ 0 w' (by decide) (by decide) (by omega) (by omega)).mono fun e w'' ⟨he,hw⟩=>⟨by rw [he,hu4,findI_zero],hw.symm⟩
 have HD:Hid (∀ w',Calls Tryz.prog 141 #[.string d] w' fun e w''=>e=.returned (.bool T)∧w'=w''):=fun w'=>(rdigs_any d w' (by omega)).mono fun e w'' ⟨he,hw⟩=>⟨by rw [he,hT],hw.symm⟩
 have HZ:Hid (∀ w',Calls Tryz.prog 140 #[.string g] w' fun e w''=>e=.returned (.tuple #[.int .i64 K,.bool B])∧w'=w''):=fun w'=>(rzone_any g w' (by omega)).mono fun e w'' ⟨he,hw⟩=>⟨by rw [he,hK,hB],hw.symm⟩
 have HP:Hid (∀ w',Calls Tryz.prog 100 #[.agg #[.string n,.string m,.int .i64 I,.int .i64 K]] w' fun e w''=>e=.returned (.bool O)∧Below w'.heap.size w' w''):=fun w'=>by rw [hO];exact rperson_any ⟨n,m,I,K⟩ w' (by simp only;omega) (by simp only;omega)
 have hdV:T=true→∃ v:Nat,Lib.decFrom 0 d.data.toList=some v∧v<1000000000000000000∧I=(v:Int):=fun h=>by
  rw [hT] at h
  obtain ⟨v,hv⟩:=Option.isSome_iff_exists.mp h
  refine ⟨v,?_,by have:=numK_lt hv;omega,by rw [hI,timeI,hv]⟩
  unfold numR at hv
  split at hv
  ·cases hv
  ·exact hv
 have HV:Hid (T=true→∀ w',Calls Tryz.prog 142 #[.string d] w' fun e w''=>e=.returned (.int .i64 I)∧w'=w''):=fun h w'=>by
  obtain ⟨v,h1,h2,h3⟩:=hdV h
  exact (rvalue_any d v w' h1 h2 (by omega)).mono fun e w'' ⟨he,hw⟩=>⟨by rw [he,h3],hw.symm⟩
 have l1:(a:Int)≤(s.size:Int):=by omega
 have l2:(a2:Int)≤(b:Int):=by omega
 have l3:(b:Int)≤(s.size:Int):=by omega
 have l4:(c1:Int)≤(s.size:Int):=by omega
 have l5:(b2:Int)≤(c:Int):=by omega
 have l6:(c:Int)≤(s.size:Int):=by omega
 have m1:a≤s.size:=by omega
 have m2:a2≤b:=by omega
 have m3:b≤s.size:=by omega
 have m4:c1≤s.size:=by omega
 have m5:b2≤c:=by omega
 have m6:c≤s.size:=by omega
 have w2:IntKind.i64.wrap ((a:Int)+2)=(a2:Int):=by rw [IntWalk.i64_in _ (by omega)];omega
 have w3:IntKind.i64.wrap ((b:Int)+2)=(b2:Int):=by rw [IntWalk.i64_in _ (by omega)];omega
 have w4:IntKind.i64.wrap ((c:Int)+1)=(c1:Int):=by rw [IntWalk.i64_in _ (by omega)];omega
 clear hR hR0 hdV hn hm hd hg hI hT hK hB hO hu1 hu2 hu3 hu4 hsz hl ea eb ec ha hb hc h1 h2 h3 hbb haa hcc hal hb1 hb2 hc1 hc2 hds
 go_enter Tryz.func122,Tryz.ntmps122
 go_upto_region 1 with fail
 rw [←HW1.out]
 go_upto_region 10 with (go_at_call 120;first
 | ((with_reducible refine (HF1.out _).mono ?_);rintro e wa ⟨rfl,rfl⟩)
 | ((with_reducible refine (HF2.out _).mono ?_);rintro e wb ⟨rfl,rfl⟩)
 | ((with_reducible refine (HF3.out _).mono ?_);rintro e wc ⟨rfl,rfl⟩))
 have one:Below w1.heap.size w1 w1.drew:=(Below.refl _ _).drew
 go_region
 obtain ⟨P,hP⟩:∃ P,P=w1.heap.size:=⟨_,rfl⟩
 obtain ⟨w2,hw2⟩:∃ w2,w2=(w1.alloc (.cells #[.string n,.string m,.int .i64 0,.int .i64 0] 61)).drew:=⟨_,rfl⟩
 have hb2:Below w1.heap.size w1 w2:=by rw [hw2];exact (below_new (Below.refl _ _) _).drew
 have hp2:w2.heap[P]?=some (.cells #[.string n,.string m,.int .i64 0,.int .i64 0] 61 (0,0)):=by rw [hw2,hP];exact heap_alloc_new w1 _
 have hr2:=(hb2.block _ (row_lt HRW.out)).trans HRW.out
 have hPA:w.heap.size<P:=by rw [hP];exact row_lt HRW.out
 rw [←hw2,←hP]
 have HP2:=Lib.hid hp2
 have HRW1:=HRW
 clear HRW
 have HRW:=Lib.hid hr2
 have HBB:=Lib.hid (HBX.out.trans (hb2.mono HBX.out.size))
 obtain ⟨x0,x1,x2,x3,f0,f1,f2,f3⟩:=pn_end hp2
 clear hw2 hb2 hr2 hP y0 y1 y2 y3 z0 z1 z2 z3 one HRW1 HW1
 go_upto_region 12 with (go_at_call 140;((with_reducible refine (HZ.out _).mono ?_);rintro e wa ⟨rfl,rfl⟩))
 rcases B with _|_
 ·have HQ:Hid (R=(2,Pn.zero)):=by show _=_;rw [HR.out,codeW,if_pos (.inr (.inl rfl))]
  clear HR
  obtain ⟨y0,y1,y2,y3,z0,z1,z2,z3⟩:=pn_end HRW.out
  go_wp2_with (first
   | (go_at_call 141;((with_reducible refine (HD.out _).mono ?_);rintro e wa ⟨rfl,rfl⟩))
   | (go_at_call 120;first
    | ((with_reducible refine (HN60.out _).mono ?_);rintro e wa ⟨rfl,rfl⟩)
    | ((with_reducible refine (HN62.out _).mono ?_);rintro e wa ⟨rfl,rfl⟩)
    | ((with_reducible refine (HM60.out _).mono ?_);rintro e wa ⟨rfl,rfl⟩)
    | ((with_reducible refine (HM62.out _).mono ?_);rintro e wa ⟨rfl,rfl⟩)))
  obtain ⟨d0,d1,d2,d3,_⟩:=pn_end (pn_row (v0:=.string ⟨#[]⟩) (v1:=.string ⟨#[]⟩) (v2:=.int .i64 0) (v3:=.int .i64 0) HRW.out)
  refine bodyPost_ret (v:=.tuple #[.agg #[.string ⟨#[]⟩,.string ⟨#[]⟩,.int .i64 0,.int .i64 0],.int .i64 2]) (by simp [results,Tryz.results122,go_sem,d0,d1,d2,d3]) rfl (whoR_bad HQ.out (set4_below HBB.out (Nat.le_refl _)))
 rcases T with _|_
 ·have HQ:Hid (R=(2,Pn.zero)):=by show _=_;rw [HR.out,codeW,if_pos (.inl rfl)]
  clear HR
  obtain ⟨y0,y1,y2,y3,z0,z1,z2,z3⟩:=pn_end HRW.out
  go_wp2_with (first
   | (go_at_call 141;((with_reducible refine (HD.out _).mono ?_);rintro e wa ⟨rfl,rfl⟩))
   | (go_at_call 120;first
    | ((with_reducible refine (HN60.out _).mono ?_);rintro e wa ⟨rfl,rfl⟩)
    | ((with_reducible refine (HN62.out _).mono ?_);rintro e wa ⟨rfl,rfl⟩)
    | ((with_reducible refine (HM60.out _).mono ?_);rintro e wa ⟨rfl,rfl⟩)
    | ((with_reducible refine (HM62.out _).mono ?_);rintro e wa ⟨rfl,rfl⟩)))
  obtain ⟨d0,d1,d2,d3,_⟩:=pn_end (pn_row (v0:=.string ⟨#[]⟩) (v1:=.string ⟨#[]⟩) (v2:=.int .i64 0) (v3:=.int .i64 0) HRW.out)
  refine bodyPost_ret (v:=.tuple #[.agg #[.string ⟨#[]⟩,.string ⟨#[]⟩,.int .i64 0,.int .i64 0],.int .i64 2]) (by simp [results,Tryz.results122,go_sem,d0,d1,d2,d3]) rfl (whoR_bad HQ.out (set4_below HBB.out (Nat.le_refl _)))
 have HV2:=Lib.hid (HV.out rfl)
 by_cases k1:0≤u1
 ·have HQ:Hid (R=(2,Pn.zero)):=by show _=_;rw [HR.out,codeW,if_pos (.inr (.inr (by simp [k1])))]
  clear HR
  obtain ⟨y0,y1,y2,y3,z0,z1,z2,z3⟩:=pn_end HRW.out
  go_wp2_with (first
   | (go_at_call 141;((with_reducible refine (HD.out _).mono ?_);rintro e wa ⟨rfl,rfl⟩))
   | (go_at_call 120;first
    | ((with_reducible refine (HN60.out _).mono ?_);rintro e wa ⟨rfl,rfl⟩)
    | ((with_reducible refine (HN62.out _).mono ?_);rintro e wa ⟨rfl,rfl⟩)
    | ((with_reducible refine (HM60.out _).mono ?_);rintro e wa ⟨rfl,rfl⟩)
    | ((with_reducible refine (HM62.out _).mono ?_);rintro e wa ⟨rfl,rfl⟩)))
  obtain ⟨d0,d1,d2,d3,_⟩:=pn_end (pn_row (v0:=.string ⟨#[]⟩) (v1:=.string ⟨#[]⟩) (v2:=.int .i64 0) (v3:=.int .i64 0) HRW.out)
  refine bodyPost_ret (v:=.tuple #[.agg #[.string ⟨#[]⟩,.string ⟨#[]⟩,.int .i64 0,.int .i64 0],.int .i64 2]) (by simp [results,Tryz.results122,go_sem,d0,d1,d2,d3]) rfl (whoR_bad HQ.out (set4_below HBB.out (Nat.le_refl _)))
 by_cases k2:0≤u2
 ·have HQ:Hid (R=(2,Pn.zero)):=by show _=_;rw [HR.out,codeW,if_pos (.inr (.inr (by simp [k2])))]
  clear HR
  obtain ⟨y0,y1,y2,y3,z0,z1,z2,z3⟩:=pn_end HRW.out
  go_wp2_with (first
   | (go_at_call 141;((with_reducible refine (HD.out _).mono ?_);rintro e wa ⟨rfl,rfl⟩))
   | (go_at_call 120;first
    | ((with_reducible refine (HN60.out _).mono ?_);rintro e wa ⟨rfl,rfl⟩)
    | ((with_reducible refine (HN62.out _).mono ?_);rintro e wa ⟨rfl,rfl⟩)
    | ((with_reducible refine (HM60.out _).mono ?_);rintro e wa ⟨rfl,rfl⟩)
    | ((with_reducible refine (HM62.out _).mono ?_);rintro e wa ⟨rfl,rfl⟩)))
  obtain ⟨d0,d1,d2,d3,_⟩:=pn_end (pn_row (v0:=.string ⟨#[]⟩) (v1:=.string ⟨#[]⟩) (v2:=.int .i64 0) (v3:=.int .i64 0) HRW.out)
  refine bodyPost_ret (v:=.tuple #[.agg #[.string ⟨#[]⟩,.string ⟨#[]⟩,.int .i64 0,.int .i64 0],.int .i64 2]) (by simp [results,Tryz.results122,go_sem,d0,d1,d2,d3]) rfl (whoR_bad HQ.out (set4_below HBB.out (Nat.le_refl _)))
 by_cases k3:0≤u3
 ·have HQ:Hid (R=(2,Pn.zero)):=by show _=_;rw [HR.out,codeW,if_pos (.inr (.inr (by simp [k3])))]
  clear HR
  obtain ⟨y0,y1,y2,y3,z0,z1,z2,z3⟩:=pn_end HRW.out
  go_wp2_with (first
   | (go_at_call 141;((with_reducible refine (HD.out _).mono ?_);rintro e wa ⟨rfl,rfl⟩))
   | (go_at_call 120;first
    | ((with_reducible refine (HN60.out _).mono ?_);rintro e wa ⟨rfl,rfl⟩)
    | ((with_reducible refine (HN62.out _).mono ?_);rintro e wa ⟨rfl,rfl⟩)
    | ((with_reducible refine (HM60.out _).mono ?_);rintro e wa ⟨rfl,rfl⟩)
    | ((with_reducible refine (HM62.out _).mono ?_);rintro e wa ⟨rfl,rfl⟩)))
  obtain ⟨d0,d1,d2,d3,_⟩:=pn_end (pn_row (v0:=.string ⟨#[]⟩) (v1:=.string ⟨#[]⟩) (v2:=.int .i64 0) (v3:=.int .i64 0) HRW.out)
  refine bodyPost_ret (v:=.tuple #[.agg #[.string ⟨#[]⟩,.string ⟨#[]⟩,.int .i64 0,.int .i64 0],.int .i64 2]) (by simp [results,Tryz.results122,go_sem,d0,d1,d2,d3]) rfl (whoR_bad HQ.out (set4_below HBB.out (Nat.le_refl _)))
 by_cases k4:0≤u4
 ·have HQ:Hid (R=(2,Pn.zero)):=by show _=_;rw [HR.out,codeW,if_pos (.inr (.inr (by simp [k4])))]
  clear HR
  obtain ⟨y0,y1,y2,y3,z0,z1,z2,z3⟩:=pn_end HRW.out
  go_wp2_with (first
   | (go_at_call 141;((with_reducible refine (HD.out _).mono ?_);rintro e wa ⟨rfl,rfl⟩))
   | (go_at_call 120;first
    | ((with_reducible refine (HN60.out _).mono ?_);rintro e wa ⟨rfl,rfl⟩)
    | ((with_reducible refine (HN62.out _).mono ?_);rintro e wa ⟨rfl,rfl⟩)
    | ((with_reducible refine (HM60.out _).mono ?_);rintro e wa ⟨rfl,rfl⟩)
    | ((with_reducible refine (HM62.out _).mono ?_);rintro e wa ⟨rfl,rfl⟩)))
  obtain ⟨d0,d1,d2,d3,_⟩:=pn_end (pn_row (v0:=.string ⟨#[]⟩) (v1:=.string ⟨#[]⟩) (v2:=.int .i64 0) (v3:=.int .i64 0) HRW.out)
  refine bodyPost_ret (v:=.tuple #[.agg #[.string ⟨#[]⟩,.string ⟨#[]⟩,.int .i64 0,.int .i64 0],.int .i64 2]) (by simp [results,Tryz.results122,go_sem,d0,d1,d2,d3]) rfl (whoR_bad HQ.out (set4_below HBB.out (Nat.le_refl _)))
 have HR2:Hid (R=if O=false then (1,Pn.zero) else (0,⟨n,m,I,K⟩)):=by show _=_;rw [HR.out,codeW,if_neg (by simp [k1,k2,k3,k4])]
 clear HR HV
 go_upto_region 14 with (first
 | (go_at_call 141;((with_reducible refine (HD.out _).mono ?_);rintro e wa ⟨rfl,rfl⟩))
 | (go_at_call 120;first
  | ((with_reducible refine (HN60.out _).mono ?_);rintro e wa ⟨rfl,rfl⟩)
  | ((with_reducible refine (HN62.out _).mono ?_);rintro e wa ⟨rfl,rfl⟩)
  | ((with_reducible refine (HM60.out _).mono ?_);rintro e wa ⟨rfl,rfl⟩)
  | ((with_reducible refine (HM62.out _).mono ?_);rintro e wa ⟨rfl,rfl⟩)))
 clear k1 k2 k3 k4 HN60 HN62 HM60 HM62 HD HZ HF1 HF2 HF3
 go_upto_region 15 with (go_at_call 142;((with_reducible refine (HV2.out _).mono ?_);rintro e wa ⟨rfl,rfl⟩))
 go_upto_region 16 with fail
 obtain ⟨w3,hw3⟩:∃ w3,w3=(w2.setCell ⟨P,2,none⟩ (.int .i64 I)).setCell ⟨P,3,none⟩ (.int .i64 K):=⟨_,rfl⟩
 have hp3:w3.heap[P]?=some (.cells #[.string n,.string m,.int .i64 I,.int .i64 K] 61 (0,0)):=by
  rw [hw3]
  have h:=heap_setCell_same w2 P 2 _ 61 (.int .i64 I) HP2.out
  simp only [List.setIfInBounds_toArray,List.set_cons_zero,List.set_cons_succ] at h
  have h:=heap_setCell_same _ P 3 _ 61 (.int .i64 K) h
  simp only [List.setIfInBounds_toArray,List.set_cons_zero,List.set_cons_succ] at h
  exact h
 have hr3:w3.heap[w.heap.size]?=some (.cells #[.string ⟨#[]⟩,.string ⟨#[]⟩,.int .i64 0,.int .i64 0] 61 (0,0)):=by
  rw [hw3]
  exact (Below.heap_setCell _ ⟨P,3,none⟩ _ _ (by show w.heap.size≠P;omega)).trans ((Below.heap_setCell _ ⟨P,2,none⟩ _ _ (by show w.heap.size≠P;omega)).trans HRW.out)
 have hb3:Below w.heap.size w w3:=by
  rw [hw3]
  exact (HBB.out.setCell (p:=⟨P,2,none⟩) (by show _≤P;omega) _).setCell (p:=⟨P,3,none⟩) (by show _≤P;omega) _
 rw [←hw3]
 obtain ⟨c0,c1',c2',c3,-⟩:=pn_end hp3
 have HP3:=Lib.hid hp3
 have HR3:=Lib.hid hr3
 have HB3:=Lib.hid hb3
 clear hw3 hp3 hr3 hb3 x0 x1 x2 x3 f0 f1 f2 f3 HP2 HRW
 rcases O with _|_
 ·have HQ:Hid (R=(1,Pn.zero)):=by show _=_;rw [HR2.out,if_pos rfl]
  clear HR2
  go_upto_region 17 with (go_at_call 100;((with_reducible refine (HP.out _).mono ?_);rintro e w4 ⟨rfl,hb4⟩))
  have hr4:=(hb4.block _ (row_lt HR3.out)).trans HR3.out
  have HRW:=Lib.hid hr4
  have HB4:=Lib.hid (HB3.out.trans (hb4.mono HB3.out.size))
  obtain ⟨y0,y1,y2,y3,z0,z1,z2,z3⟩:=pn_end hr4
  clear hr4 hb4 c0 c1' c2' c3
  go_wp2
  obtain ⟨d0,d1,d2,d3,_⟩:=pn_end (pn_row (v0:=.string ⟨#[]⟩) (v1:=.string ⟨#[]⟩) (v2:=.int .i64 0) (v3:=.int .i64 0) HRW.out)
  refine bodyPost_ret (v:=.tuple #[.agg #[.string ⟨#[]⟩,.string ⟨#[]⟩,.int .i64 0,.int .i64 0],.int .i64 1]) (by simp [results,Tryz.results122,go_sem,d0,d1,d2,d3]) rfl (whoR_bad HQ.out (set4_below HB4.out (Nat.le_refl _)))
 ·have HQ:Hid (R=(0,⟨n,m,I,K⟩)):=by show _=_;rw [HR2.out,if_neg (by decide)]
  clear HR2
  go_upto_region 18 with (go_at_call 100;((with_reducible refine (HP.out _).mono ?_);rintro e w4 ⟨rfl,hb4⟩))
  have hr4:=(hb4.block _ (row_lt HR3.out)).trans HR3.out
  have hp4:=(hb4.block _ (row_lt HP3.out)).trans HP3.out
  have HRW:=Lib.hid hr4
  have HB4:=Lib.hid (HB3.out.trans (hb4.mono HB3.out.size))
  obtain ⟨y0,y1,y2,y3,z0,z1,z2,z3⟩:=pn_end hr4
  obtain ⟨v0,v1,v2,v3,-⟩:=pn_end hp4
  clear hr4 hb4 hp4 c0 c1' c2' c3
  go_wp2
  obtain ⟨d0,d1,d2,d3,_⟩:=pn_end (pn_row (v0:=.string n) (v1:=.string m) (v2:=.int .i64 I) (v3:=.int .i64 K) HRW.out)
  refine bodyPost_ret (v:=.tuple #[.agg #[.string n,.string m,.int .i64 I,.int .i64 K],.int .i64 0]) (by simp [results,Tryz.results122,go_sem,d0,d1,d2,d3]) rfl ?_
  rw [HQ.out]
  exact ⟨rfl,set4_below HB4.out (Nat.le_refl _)⟩
def lnF (l:List UInt8) (i:Nat) (wd:List UInt8):Bool:=valO (l.drop i) wd
def lnV (l:List UInt8) (i:Nat) (wd:List UInt8):List UInt8:=if lnF l i wd=true then valV (l.drop i) wd else []
def lnN (l:List UInt8) (i:Nat) (wd:List UInt8):Nat:=if lnF l i wd=true then i+wd.length+(valV (l.drop i) wd).length+2 else i
theorem has_take {l p:List UInt8}:Lib.hasPrefix l p=decide (l.take p.length=p):=by
  rw [Bool.eq_iff_iff,decide_eq_true_eq]
  show List.isPrefixOf p l=true↔_
  rw [List.isPrefixOf_iff_prefix,List.prefix_iff_eq_take]
  exact ⟨fun h=>h.symm,fun h=>h.symm⟩
theorem ln_at (l wd:List UInt8) (i:Nat) :
    (findI l [10] i=-1∧lnF l i wd=false) ∨
    ∃ e:Nat,findI l [10] i=(e:Int)∧i≤e∧e<l.length ∧
      ((e-i<wd.length+1∧lnF l i wd=false) ∨
       (wd.length+1≤e-i∧lnF l i wd=decide ((l.drop i).take (wd.length+1)=wd++[32]) ∧
         (lnF l i wd=true→valV (l.drop i) wd=(l.drop (i+(wd.length+1))).take (e-(i+(wd.length+1)))))):=by
  cases hc:(Lib.cut (l.drop i) [10]).2.2 with
  | false=>exact .inl ⟨findI_none hc,by rw [lnF,valO,hc];rfl⟩
  | true =>
    refine .inr ⟨i+(Lib.cut (l.drop i) [10]).1.length,findI_cut hc,Nat.le_add_right _ _,?_,?_⟩
    · have h1:=congrArg List.length (ccut_yes hc).1
      simp at h1
      omega
    · have h1:=(ccut_yes hc).1
      have hF:lnF l i wd=Lib.hasPrefix (Lib.cut (l.drop i) [10]).1 (wd++[32]):=by rw [lnF,valO,hc];rfl
      have hV:valV (l.drop i) wd=cutP (Lib.cut (l.drop i) [10]).1 (wd++[32]):=rfl
      obtain ⟨C,hC⟩:∃ C,C=(Lib.cut (l.drop i) [10]).1:=⟨_,rfl⟩
      obtain ⟨Q,hQ⟩:∃ Q,Q=(Lib.cut (l.drop i) [10]).2.1:=⟨_,rfl⟩
      rw [←hC,←hQ] at h1
      rw [←hC] at hF hV ⊢
      clear hC hQ hc
      have hd:l.drop (i+(wd.length+1))=(l.drop i).drop (wd.length+1):=by rw [List.drop_drop]
      by_cases hl:C.length<wd.length+1
      · refine .inl ⟨by omega,?_⟩
        rw [hF,←Bool.not_eq_true]
        intro h
        have:=has_len h
        simp at this
        omega
      · refine .inr ⟨by omega,?_,?_⟩
        · rw [hF,has_take,h1,List.take_append_of_le_length (by omega),List.length_append]
          rfl
        · intro h
          rw [hF] at h
          rw [hV,cutP,if_pos h,hd,h1,List.drop_append_of_le_length (by omega),List.length_append]
          rw [show i+C.length-(i+(wd.length+1))=(C.drop (wd.length+1)).length by rw [List.length_drop];omega,List.take_left]
          rfl
theorem lnN_le (l wd:List UInt8) (i:Nat) (hi:i≤l.length):i≤lnN l i wd∧lnN l i wd≤l.length:=by
  unfold lnN
  split
  · rename_i h
    have:=congrArg List.length (val_back (wd:=wd) h).1
    simp at this
    omega
  · omega
theorem lnN_drop {l wd:List UInt8} {i:Nat} (h:lnF l i wd=true):l.drop (lnN l i wd)=valR (l.drop i):=by
  rw [lnN,if_pos h]
  have h1:=(val_back (wd:=wd) h).1
  rw [show i+wd.length+(valV (l.drop i) wd).length+2=i+(wd++32::valV (l.drop i) wd++[10]).length by simp;omega,←List.drop_drop]
  conv=>lhs;arg 2;rw [h1]
  rw [show wd++32::valV (l.drop i) wd++10::valR (l.drop i)=(wd++32::valV (l.drop i) wd++[10])++valR (l.drop i) by simp,List.drop_left]
theorem lnV_len (l wd:List UInt8) (i:Nat):(lnV l i wd).length≤l.length:=by
  unfold lnV
  split
  · have:=(val_len (l.drop i) wd).1
    simp at this
    omega
  · exact Nat.zero_le _
set_option maxHeartbeats 4000000 in
set_option maxRecDepth 4000 in
theorem rline_any (s word:ByteArray) (i:Nat) (w:World) (hi:i≤s.size) (hs:s.size≤1048576) (hw:word.size≤1048576) :
    Calls Tryz.prog 86 #[.string s,.int .i64 (i:Int),.string word] w fun e w'=>e=.returned (.tuple #[.string (str (lnV s.data.toList i word.data.toList)),.int .i64 (lnN s.data.toList i word.data.toList:Int),.bool (lnF s.data.toList i word.data.toList)])∧w=w':=by
  have hat:=ln_at s.data.toList word.data.toList i
  rw [list_len,list_len] at hat
  obtain ⟨F,hF⟩:∃ F,F=lnF s.data.toList i word.data.toList:=⟨_,rfl⟩
  obtain ⟨V,hV⟩:∃ V,V=str (lnV s.data.toList i word.data.toList):=⟨_,rfl⟩
  obtain ⟨N,hN⟩:∃ N,N=lnN s.data.toList i word.data.toList:=⟨_,rfl⟩
  have h1:=fun w'=>rfnd_any s ⟨#[10]⟩ i w' (by decide) (by decide) (by omega) (by omega)
  have e10:(⟨#[10]⟩:ByteArray).data.toList=[10]:=rfl
  rw [e10] at h1
  rw [←hF,←hV,←hN]
  rw [←hF] at hat
  obtain ⟨n,hn⟩:∃ n,n=word.size+1:=⟨_,rfl⟩
  have en:(word.size:Int)+1=(n:Int):=by omega
  have en2:IntKind.i64.wrap ((word.size:Int)+1)=(n:Int):=by rw [IntWalk.i64_in _ (by omega)];omega
  have hno:F=false→V=⟨#[]⟩∧N=i:=fun h=>by
    rw [hF] at h
    rw [hV,hN,lnV,lnN,if_neg (by rw [h];decide),if_neg (by rw [h];decide)]
    exact ⟨rfl,rfl⟩
  rcases hat with ⟨ha,hq⟩|⟨e,ha,he1,he2,hat⟩
  · obtain ⟨hv,hnn⟩:=hno hq
    have HQ:Hid (F=false∧V=⟨#[]⟩∧N=i):=⟨hq,hv,hnn⟩
    have HF1:Hid (∀ w',Calls Tryz.prog 120 #[.string s,.string ⟨#[10]⟩,.int .i64 (i:Int)] w' fun e w''=>e=.returned (.int .i64 (-1))∧w'=w''):=fun w'=>(h1 w').mono fun e w'' ⟨he,hw⟩=>⟨by rw [he,ha],hw.symm⟩
    clear hq hv hnn hno ha h1 hF hV hN e10 hn
    go_enter Tryz.func86,Tryz.ntmps86
    go_wp2_with (go_at_call 120;((with_reducible refine (HF1.out _).mono ?_);rintro e wa ⟨rfl,rfl⟩))
    refine bodyPost_ret (v:=.tuple #[.string ⟨#[]⟩,.int .i64 (i:Int),.bool false]) (by simp [results,Tryz.results86,go_sem]) rfl ⟨by rw [HQ.out.1,HQ.out.2.1,HQ.out.2.2],rfl⟩
  have HF1:Hid (∀ w',Calls Tryz.prog 120 #[.string s,.string ⟨#[10]⟩,.int .i64 (i:Int)] w' fun e' w''=>e'=.returned (.int .i64 (e:Int))∧w'=w''):=fun w'=>(h1 w').mono fun e' w'' ⟨he,hw⟩=>⟨by rw [he,ha],hw.symm⟩
  have g0:¬ (e:Int)<0:=by omega
  obtain ⟨k,hk⟩:∃ k,k=e-i:=⟨_,rfl⟩
  have ek:(e:Int)-(i:Int)=(k:Int):=by omega
  have ek2:IntKind.i64.wrap ((e:Int)-(i:Int))=(k:Int):=by rw [IntWalk.i64_in _ (by omega)];omega
  rcases hat with ⟨hlt,hq⟩|⟨hge,hq,hvv⟩
  · obtain ⟨hv,hnn⟩:=hno hq
    have HQ:Hid (F=false∧V=⟨#[]⟩∧N=i):=⟨hq,hv,hnn⟩
    have g1:(k:Int)<(n:Int):=by omega
    clear hq hv hnn hno ha h1 hF hV hN e10 hn hk hlt
    go_enter Tryz.func86,Tryz.ntmps86
    go_wp2_with (go_at_call 120;((with_reducible refine (HF1.out _).mono ?_);rintro e wa ⟨rfl,rfl⟩))
    refine bodyPost_ret (v:=.tuple #[.string ⟨#[]⟩,.int .i64 (i:Int),.bool false]) (by simp [results,Tryz.results86,go_sem]) rfl ⟨by rw [HQ.out.1,HQ.out.2.1,HQ.out.2.2],rfl⟩
  have g1:¬ (k:Int)<(n:Int):=by omega
  obtain ⟨j,hj⟩:∃ j,j=i+n:=⟨_,rfl⟩
  have ej:(i:Int)+(n:Int)=(j:Int):=by omega
  have ej2:IntKind.i64.wrap ((i:Int)+(n:Int))=(j:Int):=by rw [IntWalk.i64_in _ (by omega)];omega
  obtain ⟨e1,hee⟩:∃ e1,e1=e+1:=⟨_,rfl⟩
  have ee1:(e:Int)+1=(e1:Int):=by omega
  have ee2:IntKind.i64.wrap ((e:Int)+1)=(e1:Int):=by rw [IntWalk.i64_in _ (by omega)];omega
  have hX:(s.extract i j).data.toList=(s.data.toList.drop i).take (word.size+1):=by rw [ext_bytes,hj,hn,Nat.add_sub_cancel_left]
  have hY:(word++(⟨#[32]⟩:ByteArray)).data.toList=word.data.toList++[32]:=by rw [app_list]
  have hD:((s.extract i j).toList==(word++(⟨#[32]⟩:ByteArray)).toList)=F:=by
    rw [ByteArray.toList_eq,ByteArray.toList_eq,hX,hY,hq,Bool.eq_iff_iff,beq_iff_eq,decide_eq_true_eq]
  have l1:(i:Int)≤(j:Int):=by omega
  have l2:(j:Int)≤(s.size:Int):=by omega
  have l3:(j:Int)≤(e:Int):=by omega
  have l4:(e:Int)≤(s.size:Int):=by omega
  have m1:i≤j:=by omega
  have m2:j≤s.size:=by omega
  have m3:j≤e:=by omega
  have m4:e≤s.size:=by omega
  rcases F with _|_
  · obtain ⟨hv,hnn⟩:=hno rfl
    have HQ:Hid (V=⟨#[]⟩∧N=i):=⟨hv,hnn⟩
    clear hq hv hnn hno ha h1 hF hV hN e10 hn hk hj hee hX hY hvv hge
    go_enter Tryz.func86,Tryz.ntmps86
    go_wp2_with (go_at_call 120;((with_reducible refine (HF1.out _).mono ?_);rintro e wa ⟨rfl,rfl⟩))
    refine bodyPost_ret (v:=.tuple #[.string ⟨#[]⟩,.int .i64 (i:Int),.bool false]) (by simp [results,Tryz.results86,go_sem]) rfl ⟨by rw [HQ.out.1,HQ.out.2],rfl⟩
  · have HQ:Hid (V=s.extract j e∧N=e1):=by
      have hv:=hvv rfl
      refine ⟨?_,?_⟩
      · rw [hV,lnV,if_pos hF.symm,hv]
        refine ba_ext ?_
        rw [str_list,ext_bytes,hj,hn]
      · have hl:=congrArg List.length hv
        rw [List.length_take,List.length_drop,list_len] at hl
        rw [hN,lnN,if_pos hF.symm,list_len,hl,hee]
        omega
    clear hq hno ha h1 hF hV hN e10 hn hk hj hee hX hY hvv hge
    go_enter Tryz.func86,Tryz.ntmps86
    go_wp2_with (go_at_call 120;((with_reducible refine (HF1.out _).mono ?_);rintro e wa ⟨rfl,rfl⟩))
    refine bodyPost_ret (v:=.tuple #[.string (s.extract j e),.int .i64 (e1:Int),.bool true]) (by simp [results,Tryz.results86,go_sem]) rfl ⟨by rw [HQ.out.1,HQ.out.2],rfl⟩
def whC (c:Nat) (is:Bool):Nat:=if is=false∨c=2 then 0 else if c=0 then 2 else 1
set_option maxHeartbeats 4000000 in
set_option maxRecDepth 4000 in
theorem rwho2_any (s:ByteArray) (is:Bool) (w:World) (hs:s.size≤1048576) :
    Calls Tryz.prog 88 #[.string s,.bool is] w fun e w'=>e=.returned (.tuple #[.agg #[.string (whoR s.data.toList).2.n,.string (whoR s.data.toList).2.m,.int .i64 (whoR s.data.toList).2.t,.int .i64 (whoR s.data.toList).2.z],.int .i64 (whC (whoR s.data.toList).1 is:Int)])∧Below w.heap.size w w':=by
  obtain ⟨⟨c,⟨n,m,T,Z⟩⟩,hq⟩:∃ q,q=whoR s.data.toList:=⟨_,rfl⟩
  have hpw:=fun w'=>rwhop_any s w' hs
  rw [←hq] at hpw ⊢
  simp only
  obtain ⟨w1,hw1⟩:∃ w1,w1=w.alloc (.cells #[.string ⟨#[]⟩,.string ⟨#[]⟩,.int .i64 0,.int .i64 0] 61):=⟨_,rfl⟩
  have hx:=heap_alloc_new w (.cells #[.string ⟨#[]⟩,.string ⟨#[]⟩,.int .i64 0,.int .i64 0] 61)
  rw [←hw1] at hx
  have hbx:Below w.heap.size w w1:=by rw [hw1];exact below_new (Below.refl _ _) _
  have HPW:Hid (Calls Tryz.prog 122 #[.string s] w1 fun e w''=>e=.returned (.tuple #[.agg #[.string n,.string m,.int .i64 T,.int .i64 Z],.int .i64 (c:Int)])∧Below w1.heap.size w1 w''):=hpw w1
  obtain ⟨A,hA⟩:∃ A,A=w.heap.size:=⟨_,rfl⟩
  rw [←hA] at hx
  have HA:=Lib.hid hA
  have HW1:=Lib.hid hw1
  have HX:=Lib.hid hx
  have HBX:=Lib.hid hbx
  obtain ⟨K,hK⟩:∃ K,K=whC c is:=⟨_,rfl⟩
  rw [←hK]
  clear hpw hq hA hw1 hx hbx
  have fin:∀ (w5:World),Below w1.heap.size w1 w5→w5.heap[A]?=some (.cells #[.string ⟨#[]⟩,.string ⟨#[]⟩,.int .i64 0,.int .i64 0] 61 (0,0)):=fun w5 hb=>(hb.block _ (row_lt HX.out)).trans HX.out
  have FIN:=Lib.hid fin
  clear fin
  go_enter Tryz.func88,Tryz.ntmps88
  go_upto_region 1 with fail
  rw [←HW1.out,←HA.out]
  go_upto_region 2 with (go_at_call 122;((with_reducible refine (HPW.out).mono ?_);rintro e wa ⟨rfl,hba⟩))
  obtain ⟨P,hP⟩:∃ P,P=wa.heap.size:=⟨_,rfl⟩
  obtain ⟨w2,hw2⟩:∃ w2,w2=wa.alloc (.cells #[.string n,.string m,.int .i64 T,.int .i64 Z] 61):=⟨_,rfl⟩
  have hp2:w2.heap[P]?=some (.cells #[.string n,.string m,.int .i64 T,.int .i64 Z] 61 (0,0)):=by rw [hw2,hP];exact heap_alloc_new _ _
  have hb2:Below w1.heap.size w1 w2:=hba.trans (by rw [hw2];exact (below_new (Below.refl _ _) _).mono hba.size)
  rw [←hw2,←hP]
  have hx2:=FIN.out w2 hb2
  obtain ⟨x0,x1,x2,x3,z0,z1,z2,z3⟩:=pn_end hx2
  obtain ⟨y0,y1,y2,y3,-⟩:=pn_end hp2
  obtain ⟨d0,d1,d2,d3,_⟩:=pn_end (pn_row (v0:=.string n) (v1:=.string m) (v2:=.int .i64 T) (v3:=.int .i64 Z) hx2)
  have HB2:=Lib.hid (set4_below (v0:=.string n) (v1:=.string m) (v2:=.int .i64 T) (v3:=.int .i64 Z) (HBX.out.trans (hb2.mono HBX.out.size)) (show w.heap.size≤A by rw [HA.out];exact Nat.le_refl _))
  clear hw2 hP hba hp2 hb2 hx2 HPW
  rcases is with _|_
  · have HQ:Hid (K=0):=by show _=_;rw [hK,whC,if_pos (.inl rfl)]
    clear hK
    go_wp2_with fail
    refine bodyPost_ret (v:=.tuple #[.agg #[.string n,.string m,.int .i64 T,.int .i64 Z],.int .i64 0]) (by simp [results,Tryz.results88,go_sem,d0,d1,d2,d3]) rfl ⟨by rw [HQ.out];rfl,HB2.out⟩
  by_cases h2:c=2
  · have HQ:Hid (K=0):=by show _=_;rw [hK,whC,if_pos (.inr h2)]
    have g2:((c:Int)==2)=true:=by rw [beq_iff_eq];omega
    clear hK h2
    go_wp2_with fail
    refine bodyPost_ret (v:=.tuple #[.agg #[.string n,.string m,.int .i64 T,.int .i64 Z],.int .i64 0]) (by simp [results,Tryz.results88,go_sem,d0,d1,d2,d3]) rfl ⟨by rw [HQ.out];rfl,HB2.out⟩
  have g2:((c:Int)==2)=false:=by rw [beq_eq_false_iff_ne];omega
  by_cases h0:c=0
  · have HQ:Hid (K=2):=by show _=_;rw [hK,whC,if_neg (by simp [h2]),if_pos h0]
    have g0:((c:Int) != 0)=false:=by simp [h0]
    clear hK h2 h0
    go_wp2_with fail
    refine bodyPost_ret (v:=.tuple #[.agg #[.string n,.string m,.int .i64 T,.int .i64 Z],.int .i64 2]) (by simp [results,Tryz.results88,go_sem,d0,d1,d2,d3]) rfl ⟨by rw [HQ.out];rfl,HB2.out⟩
  · have HQ:Hid (K=1):=by show _=_;rw [hK,whC,if_neg (by simp [h2]),if_neg h0]
    have g0:((c:Int) != 0)=true:=by simp;omega
    clear hK h2 h0
    go_wp2_with fail
    refine bodyPost_ret (v:=.tuple #[.agg #[.string n,.string m,.int .i64 T,.int .i64 Z],.int .i64 1]) (by simp [results,Tryz.results88,go_sem,d0,d1,d2,d3]) rfl ⟨by rw [HQ.out];rfl,HB2.out⟩
def finC (l T:List UInt8) (ps:List (List UInt8)) (d m n:Nat) (a c:Pn):Nat×Cm :=
 if m=0∨n=0∨Lib.hasPrefix (l.drop d) [10]=false then (2,Cm.zero)
 else if m=1∨n=1 then (1,Cm.zero)
 else if chkC ⟨str T,ps,a,c,str (l.drop (d+1))⟩=0 then (0,⟨str T,ps,a,c,str (l.drop (d+1))⟩) else (chkC ⟨str T,ps,a,c,str (l.drop (d+1))⟩,Cm.zero)
def treeB (l:List UInt8):Bool:=(false||!(valO l wTree))||!(isId (str (valV l wTree)))
theorem pcC_of {l r:List UInt8} {ps:List (List UInt8)} {B:Bool} (h:parsP (valR l) (treeB l) []=(ps,r,B)):pcC l=⟨valV l wTree,ps,whoR (valV r wAut),whoR (valV (valR r) wCom),cutP (valR (valR r)) [10],((((B||!(valO r wAut))||!((((whoR (valV r wAut)).1:Nat):Int) != 2))||!(valO (valR r) wCom))||!((((whoR (valV (valR r) wCom)).1:Nat):Int) != 2))||!(Lib.hasPrefix (valR (valR r)) [10])⟩:=by
 unfold pcC
 unfold treeB at h
 simp only [h]
theorem parC_B {l:List UInt8} (h:(pcC l).B=true):parC l=(2,Cm.zero):=by rw [parC,if_pos h]
theorem parC_btrue {l:List UInt8} (h:(parsP (valR l) (treeB l) []).2.2=true):parC l=(2,Cm.zero):=by
 obtain ⟨⟨ps,r,B⟩,hP⟩:∃ P,P=parsP (valR l) (treeB l) []:=⟨_,rfl⟩
 rw [←hP] at h
 simp only at h
 subst h
 refine parC_B ?_
 rw [pcC_of hP.symm]
 simp
theorem parC_tree {l:List UInt8} (h:treeB l=true):parC l=(2,Cm.zero):=parC_btrue (by rw [h];exact parsP_bad _ _ _ (Nat.le_refl _))
theorem valO_has {l wd:List UInt8} (h:valO l wd=true):Lib.hasPrefix l (wd++[32])=true:=by
 have h1:=(val_back h).1
 refine List.isPrefixOf_iff_prefix.mpr ⟨valV l wd++10::valR l,?_⟩
 conv=>rhs;rw [h1]
 simp
theorem parC_badId {l:List UInt8} {ps:List (List UInt8)} {i:Nat} (h0:treeB l=false) (hp:parsP (valR l) false []=parsP (l.drop i) false ps) (hf:lnF l i wPar=true) (hid:isId (str (lnV l i wPar))=false):parC l=(2,Cm.zero):=by
 have hv:valV (l.drop i) wPar=lnV l i wPar:=by rw [lnV,if_pos hf]
 refine parC_btrue ?_
 rw [h0,hp,parsP_go (valO_has hf),hv,hid,Bool.not_false,Bool.or_true]
 exact parsP_bad _ _ _ (Nat.le_refl _)
theorem pars_next {l:List UInt8} {ps:List (List UInt8)} {i:Nat} (hp:parsP (valR l) false []=parsP (l.drop i) false ps) (hf:lnF l i wPar=true) (hid:isId (str (lnV l i wPar))=true):parsP (valR l) false []=parsP (l.drop (lnN l i wPar)) false (ps++[lnV l i wPar]):=by
 have hv:valV (l.drop i) wPar=lnV l i wPar:=by rw [lnV,if_pos hf]
 have ho:valO (l.drop i) wPar=true:=hf
 rw [hp,parsP_go (valO_has hf),hv,hid,lnN_drop hf,ho]
 rfl
theorem valO_other {l:List UInt8} (h:Lib.hasPrefix l (wPar++[32])=true):valO l wAut=false:=by
 rw [←Bool.not_eq_true]
 intro h2
 obtain ⟨t,ht⟩:=List.isPrefixOf_iff_prefix.mp h
 have h1:=(val_back h2).1
 rw [←ht] at h1
 simp [wPar,wAut] at h1
theorem one_drop {l:List UInt8} {d:Nat} (h:Lib.hasPrefix (l.drop d) [10]=true):l.drop (d+1)=cutP (l.drop d) [10]:=by
 rw [cutP,if_pos h,List.drop_drop]
 rfl
theorem whC_zero {c:Nat} {f:Bool}:whC c f=0↔(f=false∨c=2):=by
 unfold whC
 by_cases h:f=false∨c=2
 ·rw [if_pos h];exact ⟨fun _=>h,fun _=>rfl⟩
 ·rw [if_neg h]
  refine ⟨fun h'=>?_,fun h'=>absurd h' h⟩
  split at h'<;>cases h'
theorem whC_one {c:Nat} {f:Bool} (h:whC c f≠0):whC c f=1↔c≠0:=by
 unfold whC at h ⊢
 split at h
 ·exact absurd rfl h
 ·rename_i h1
  rw [if_neg h1]
  split<;>simp [*]
theorem chkC_one {c:Cm} (h:okPn c.a=false∨okPn c.c=false):chkC c=1:=by
 rw [chkC,if_pos]
 rw [okC]
 rcases h with h|h
 ·rw [h];simp
 ·rw [h];simp
theorem parC_tail {l:List UInt8} {ps:List (List UInt8)} {i:Nat} (h0:treeB l=false) (hp:parsP (valR l) false []=parsP (l.drop i) false ps) (hn:lnF l i wPar=false) :
  parC l=finC l (lnV l 0 wTree) ps (lnN l (lnN l i wAut) wCom) (whC (whoR (lnV l i wAut)).1 (lnF l i wAut)) (whC (whoR (lnV l (lnN l i wAut) wCom)).1 (lnF l (lnN l i wAut) wCom)) (whoR (lnV l i wAut)).2 (whoR (lnV l (lnN l i wAut) wCom)).2:=by
 have hpp:parsP (valR l) (treeB l) []=parsP (l.drop i) false ps:=by rw [h0];exact hp
 have hT:lnV l 0 wTree=valV l wTree:=by
  have hv:valO l wTree=true:=by
   unfold treeB at h0
   simp only [Bool.false_or,Bool.or_eq_false_iff,Bool.not_eq_false'] at h0
   exact h0.1
  rw [lnV,lnF,List.drop_zero,if_pos hv]
 rw [hT]
 obtain ⟨r,hr⟩:∃ r,r=l.drop i:=⟨_,rfl⟩
 have hF1:lnF l i wAut=valO r wAut:=by rw [lnF,hr]
 cases hx:Lib.hasPrefix r (wPar++[32]) with
 | true =>
  have hv:valO r wPar=false:=by rw [hr];exact hn
  have hb:parC l=(2,Cm.zero):=parC_btrue (by rw [hpp,←hr,parsP_go hx,hv,Bool.not_false,Bool.or_true,Bool.true_or];exact parsP_bad _ _ _ (Nat.le_refl _))
  rw [hb,finC,if_pos (.inl (whC_zero.mpr (.inl (hF1.trans (valO_other hx)))))]
 | false =>
  have hpe:parsP (valR l) (treeB l) []=(ps,r,false):=by rw [hpp,←hr,parsP_end hx]
  have hpc:=pcC_of hpe
  cases f1:valO r wAut with
  | false =>
   rw [parC_B (by rw [hpc,f1];simp),finC,if_pos (.inl (whC_zero.mpr (.inl (hF1.trans f1))))]
  | true =>
   have hV1:lnV l i wAut=valV r wAut:=by rw [lnV,if_pos (hF1.trans f1),hr]
   have hD1:l.drop (lnN l i wAut)=valR r:=by rw [lnN_drop (hF1.trans f1),hr]
   rw [hV1,hF1.trans f1]
   obtain ⟨b,hb⟩:∃ b,b=lnN l i wAut:=⟨_,rfl⟩
   rw [←hb] at hD1 ⊢
   by_cases c1:(whoR (valV r wAut)).1=2
   ·rw [parC_B (by rw [hpc,c1];simp),finC,if_pos (.inl (whC_zero.mpr (.inr c1)))]
   have hF2:lnF l b wCom=valO (valR r) wCom:=by rw [lnF,hD1]
   cases f2:valO (valR r) wCom with
   | false =>
    rw [parC_B (by rw [hpc,f2];simp),finC,if_pos (.inr (.inl (whC_zero.mpr (.inl (hF2.trans f2)))))]
   | true =>
    have hV2:lnV l b wCom=valV (valR r) wCom:=by rw [lnV,if_pos (hF2.trans f2),hD1]
    have hD2:l.drop (lnN l b wCom)=valR (valR r):=by rw [lnN_drop (hF2.trans f2),hD1]
    rw [hV2,hF2.trans f2]
    obtain ⟨d,hd⟩:∃ d,d=lnN l b wCom:=⟨_,rfl⟩
    rw [←hd] at hD2 ⊢
    by_cases c2:(whoR (valV (valR r) wCom)).1=2
    ·rw [parC_B (by rw [hpc,c2];simp),finC,if_pos (.inr (.inl (whC_zero.mpr (.inr c2))))]
    cases f3:Lib.hasPrefix (valR (valR r)) [10] with
    | false =>
     rw [parC_B (by rw [hpc,f3];simp),finC,if_pos (.inr (.inr (by rw [hD2];exact f3)))]
    | true =>
     have g1:((((whoR (valV r wAut)).1:Nat):Int) != 2)=true:=by simp;omega
     have g2:((((whoR (valV (valR r) wCom)).1:Nat):Int) != 2)=true:=by simp;omega
     have hB:(pcC l).B=false:=by rw [hpc,f1,f2,f3,g1,g2];rfl
     have hX:l.drop (d+1)=cutP (valR (valR r)) [10]:=by rw [one_drop (by rw [hD2];exact f3),hD2]
     have hcm:(pcC l).cm=⟨str (valV l wTree),ps,(whoR (valV r wAut)).2,(whoR (valV (valR r) wCom)).2,str (l.drop (d+1))⟩:=by rw [hpc,hX];rfl
     have n1:whC (whoR (valV r wAut)).1 true≠0:=fun h=>by
      rcases whC_zero.mp h with h|h
      ·cases h
      ·exact c1 h
     have n2:whC (whoR (valV (valR r) wCom)).1 true≠0:=fun h=>by
      rcases whC_zero.mp h with h|h
      ·cases h
      ·exact c2 h
     have hN:¬ (whC (whoR (valV r wAut)).1 true=0∨whC (whoR (valV (valR r) wCom)).1 true=0∨Lib.hasPrefix (l.drop d) [10]=false):=by
      rintro (h|h|h)
      ·exact n1 h
      ·exact n2 h
      ·rw [hD2,f3] at h;cases h
     rw [parC,if_neg (by rw [hB];decide),hcm,finC,if_neg hN]
     by_cases hm:whC (whoR (valV r wAut)).1 true=1∨whC (whoR (valV (valR r) wCom)).1 true=1
     ·have hk:chkC ⟨str (valV l wTree),ps,(whoR (valV r wAut)).2,(whoR (valV (valR r) wCom)).2,str (l.drop (d+1))⟩=1:=by
       refine chkC_one ?_
       rcases hm with h|h
       ·refine .inl (Bool.eq_false_iff.mpr fun h'=>(whC_one n1).mp h (who_zero h'))
       ·refine .inr (Bool.eq_false_iff.mpr fun h'=>(whC_one n2).mp h (who_zero h'))
      rw [if_pos hm,hk]
      rfl
     ·rw [if_neg hm]
def finG (l o:List UInt8) (f1 f2 f3:Bool) (how k:Nat) (n:List UInt8) (g:Pn) (d:Nat):Nat×Tg :=
 if f1=false∨f2=false∨f3=false∨how=0∨isId (str o)=false∨k=0∨Lib.hasPrefix (l.drop d) [10]=false then (2,Tg.zero)
 else if chkG ⟨str o,(k:Int),str n,g,str (l.drop (d+1))⟩=0 then (0,⟨str o,(k:Int),str n,g,str (l.drop (d+1))⟩) else (chkG ⟨str o,(k:Int),str n,g,str (l.drop (d+1))⟩,Tg.zero)
theorem parG_B {l:List UInt8} (h:(pcG l).B=true):parG l=(2,Tg.zero):=by rw [parG,if_pos h]
theorem pcG_eq (l:List UInt8):pcG l=⟨valV l wObj,kindL (valV (valR l) wTyp),valV (valR (valR l)) wTag,whoR (valV (valR (valR (valR l))) wTgr),cutP (valR (valR (valR (valR l)))) [10],
  ((((((((false||!(valO l wObj))||!(isId (str (valV l wObj))))||!(valO (valR l) wTyp))||!(((kindL (valV (valR l) wTyp):Nat):Int) != 0))||!(valO (valR (valR l)) wTag))||!(valO (valR (valR (valR l))) wTgr))||!((((whoR (valV (valR (valR (valR l))) wTgr)).1:Nat):Int) != 2))||!(Lib.hasPrefix (valR (valR (valR (valR l)))) [10]))⟩:=rfl
theorem parG_tail (l:List UInt8) :
  parG l=finG l (lnV l 0 wObj) (lnF l 0 wObj) (lnF l (lnN l 0 wObj) wTyp) (lnF l (lnN l (lnN l 0 wObj) wTyp) wTag)
   (whC (whoR (lnV l (lnN l (lnN l (lnN l 0 wObj) wTyp) wTag) wTgr)).1 (lnF l (lnN l (lnN l (lnN l 0 wObj) wTyp) wTag) wTgr)) (kindL (lnV l (lnN l 0 wObj) wTyp)) (lnV l (lnN l (lnN l 0 wObj) wTyp) wTag)
   (whoR (lnV l (lnN l (lnN l (lnN l 0 wObj) wTyp) wTag) wTgr)).2 (lnN l (lnN l (lnN l (lnN l 0 wObj) wTyp) wTag) wTgr):=by
 have hpc:=pcG_eq l
 have hF1:lnF l 0 wObj=valO l wObj:=by rw [lnF,List.drop_zero]
 cases f1:valO l wObj with
 | false=>rw [parG_B (by rw [hpc,f1];simp),finG,if_pos (.inl (hF1.trans f1))]
 | true =>
 have hV1:lnV l 0 wObj=valV l wObj:=by rw [lnV,if_pos (hF1.trans f1),List.drop_zero]
 have hD1:l.drop (lnN l 0 wObj)=valR l:=by rw [lnN_drop (hF1.trans f1),List.drop_zero]
 rw [hV1]
 obtain ⟨a,ha⟩:∃ a,a=lnN l 0 wObj:=⟨_,rfl⟩
 rw [←ha] at hD1 ⊢
 cases fi:isId (str (valV l wObj)) with
 | false=>rw [parG_B (by rw [hpc,fi];simp),finG,if_pos (.inr (.inr (.inr (.inr (.inl fi)))))]
 | true =>
 have hF2:lnF l a wTyp=valO (valR l) wTyp:=by rw [lnF,hD1]
 cases f2:valO (valR l) wTyp with
 | false=>rw [parG_B (by rw [hpc,f2];simp),finG,if_pos (.inr (.inl (hF2.trans f2)))]
 | true =>
 have hV2:lnV l a wTyp=valV (valR l) wTyp:=by rw [lnV,if_pos (hF2.trans f2),hD1]
 have hD2:l.drop (lnN l a wTyp)=valR (valR l):=by rw [lnN_drop (hF2.trans f2),hD1]
 rw [hV2]
 obtain ⟨b,hb⟩:∃ b,b=lnN l a wTyp:=⟨_,rfl⟩
 rw [←hb] at hD2 ⊢
 by_cases fk:kindL (valV (valR l) wTyp)=0
 ·rw [parG_B (by rw [hpc,fk];simp),finG,if_pos (.inr (.inr (.inr (.inr (.inr (.inl fk))))))]
 have hF3:lnF l b wTag=valO (valR (valR l)) wTag:=by rw [lnF,hD2]
 cases f3:valO (valR (valR l)) wTag with
 | false=>rw [parG_B (by rw [hpc,f3];simp),finG,if_pos (.inr (.inr (.inl (hF3.trans f3))))]
 | true =>
 have hV3:lnV l b wTag=valV (valR (valR l)) wTag:=by rw [lnV,if_pos (hF3.trans f3),hD2]
 have hD3:l.drop (lnN l b wTag)=valR (valR (valR l)):=by rw [lnN_drop (hF3.trans f3),hD2]
 rw [hV3]
 obtain ⟨c,hc⟩:∃ c,c=lnN l b wTag:=⟨_,rfl⟩
 rw [←hc] at hD3 ⊢
 have hF4:lnF l c wTgr=valO (valR (valR (valR l))) wTgr:=by rw [lnF,hD3]
 cases f4:valO (valR (valR (valR l))) wTgr with
 | false=>rw [parG_B (by rw [hpc,f4];simp),finG,if_pos (.inr (.inr (.inr (.inl (whC_zero.mpr (.inl (hF4.trans f4)))))))]
 | true =>
 have hV4:lnV l c wTgr=valV (valR (valR (valR l))) wTgr:=by rw [lnV,if_pos (hF4.trans f4),hD3]
 have hD4:l.drop (lnN l c wTgr)=valR (valR (valR (valR l))):=by rw [lnN_drop (hF4.trans f4),hD3]
 rw [hV4]
 obtain ⟨d,hd⟩:∃ d,d=lnN l c wTgr:=⟨_,rfl⟩
 rw [←hd] at hD4 ⊢
 by_cases c1:(whoR (valV (valR (valR (valR l))) wTgr)).1=2
 ·rw [parG_B (by rw [hpc,c1];simp),finG,if_pos (.inr (.inr (.inr (.inl (whC_zero.mpr (.inr c1))))))]
 cases f5:Lib.hasPrefix (valR (valR (valR (valR l)))) [10] with
 | false=>rw [parG_B (by rw [hpc,f5];simp),finG,if_pos (.inr (.inr (.inr (.inr (.inr (.inr (by rw [hD4];exact f5)))))))]
 | true =>
 have g1:((((whoR (valV (valR (valR (valR l))) wTgr)).1:Nat):Int) != 2)=true:=by simp;omega
 have g2:(((kindL (valV (valR l) wTyp):Nat):Int) != 0)=true:=by simp;omega
 have hB:(pcG l).B=false:=by rw [hpc,f1,fi,f2,f3,f4,f5,g1,g2];rfl
 have hX:l.drop (d+1)=cutP (valR (valR (valR (valR l)))) [10]:=by rw [one_drop (by rw [hD4];exact f5),hD4]
 have htg:(pcG l).tg=⟨str (valV l wObj),(kindL (valV (valR l) wTyp):Int),str (valV (valR (valR l)) wTag),(whoR (valV (valR (valR (valR l))) wTgr)).2,str (l.drop (d+1))⟩:=by rw [hpc,hX];rfl
 have hN:¬ (lnF l 0 wObj=false∨lnF l a wTyp=false∨lnF l b wTag=false∨whC (whoR (valV (valR (valR (valR l))) wTgr)).1 (lnF l c wTgr)=0∨isId (str (valV l wObj))=false∨kindL (valV (valR l) wTyp)=0∨Lib.hasPrefix (l.drop d) [10]=false):=by
  rintro (h|h|h|h|h|h|h)
  ·rw [hF1,f1] at h;cases h
  ·rw [hF2,f2] at h;cases h
  ·rw [hF3,f3] at h;cases h
  ·rcases whC_zero.mp h with h|h
   ·rw [hF4,f4] at h;cases h
   ·exact c1 h
  ·rw [fi] at h;cases h
  ·exact fk h
  ·rw [hD4,f5] at h;cases h
 rw [parG,if_neg (by rw [hB];decide),htg,finG,if_neg hN]
end Go.Proofs.YtnoopcenogbjiaaGreatDoor
