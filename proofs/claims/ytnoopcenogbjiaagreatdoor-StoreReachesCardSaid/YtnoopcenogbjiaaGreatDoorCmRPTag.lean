/-
  The walk of the reference's ParseTag.
-/
import Derived.Test.YtnoopcenogbjiaaGreatDoorCmRWho2Pk
import Derived.Test.YtnoopcenogbjiaaGreatDoorCmRTagPPk
import Derived.Test.YtnoopcenogbjiaaGreatDoorCmParsePk
import Derived.Deep.AppendLies
set_option linter.unusedVariables false
set_option linter.unusedSimpArgs false
namespace Go.Proofs.YtnoopcenogbjiaaGreatDoor
open Go Go.RowKit Go.Maps Go.WideMaps
theorem pre_tenG (l:List UInt8) (d:Nat):Lib.hasPrefix (l.drop d) [10]=decide (d<l.length∧l[d]?=some 10):=by
  rw [has_take,Bool.eq_iff_iff,decide_eq_true_eq,decide_eq_true_eq]
  by_cases h:d<l.length
  · rw [List.drop_eq_getElem_cons h,List.getElem?_eq_getElem h]
    show List.take 1 (l[d]::l.drop (d+1))=[10]↔_
    rw [List.take_succ_cons,List.take_zero]
    simp [h]
  · rw [List.drop_of_length_le (by omega)]
    simp [h]
set_option maxHeartbeats 8000000 in
set_option maxRecDepth 8000 in
theorem rgparse_any (s:ByteArray) (w:World) (hs:s.size≤1048576):Calls Tryz.prog 52 #[.string s] w (ParGR (parG s.data.toList) w):=by
  obtain ⟨R,hR⟩:∃ R,R=parG s.data.toList:=⟨_,rfl⟩
  rw [←hR]
  rw [parG_tail] at hR
  obtain ⟨l,hl⟩:∃ l,l=s.data.toList:=⟨_,rfl⟩
  have hll:l.length=s.size:=by rw [hl,list_len]
  have HLN:∀ (i:Nat) (wd:ByteArray) (w':World),i≤s.size→wd.size≤1048576→Calls Tryz.prog 86 #[.string s,.int .i64 (i:Int),.string wd] w' fun e w''=>e=.returned (.tuple #[.string (str (lnV l i wd.data.toList)),.int .i64 (lnN l i wd.data.toList:Int),.bool (lnF l i wd.data.toList)])∧w'=w'':=fun i wd w' hi hw=>by rw [hl];exact rline_any s wd i w' hi hs hw
  have HLE:∀ (i:Nat) (wd:List UInt8),i≤s.size→lnN l i wd≤s.size:=fun i wd hi=>by
    have:=lnN_le l wd i (by omega)
    omega
  have HSZ:∀ (i:Nat) (wd:List UInt8),(str (lnV l i wd)).size≤s.size:=fun i wd=>by rw [str_size,←hll];exact lnV_len l wd i
  rw [←hl] at hR
  obtain ⟨O,hO⟩:∃ O,O=str (lnV l 0 wObj):=⟨_,rfl⟩
  have hO2:lnV l 0 wObj=O.data.toList:=by rw [hO];rfl
  rw [hO2] at hR
  have hOs:O.size≤s.size:=by rw [hO];exact HSZ 0 wObj
  obtain ⟨a,ha⟩:∃ a,a=lnN l 0 wObj:=⟨_,rfl⟩
  obtain ⟨f1,hf1⟩:∃ f1,f1=lnF l 0 wObj:=⟨_,rfl⟩
  have HL1:Hid (∀ w',Calls Tryz.prog 86 #[.string s,.int .i64 0,.string ⟨#[111,98,106,101,99,116]⟩] w' fun e w''=>e=.returned (.tuple #[.string O,.int .i64 (a:Int),.bool f1])∧w'=w''):=fun w'=>by rw [hO,ha,hf1];exact HLN 0 ⟨#[111,98,106,101,99,116]⟩ w' (Nat.zero_le _) (by decide)
  rw [←ha,←hf1] at hR
  have hal:a≤s.size:=by rw [ha];exact HLE 0 wObj (Nat.zero_le _)
  clear hO hO2 ha hf1
  obtain ⟨V,hV⟩:∃ V,V=str (lnV l a wTyp):=⟨_,rfl⟩
  have hV2:lnV l a wTyp=V.data.toList:=by rw [hV];rfl
  rw [hV2] at hR
  obtain ⟨b,hb⟩:∃ b,b=lnN l a wTyp:=⟨_,rfl⟩
  obtain ⟨f2,hf2⟩:∃ f2,f2=lnF l a wTyp:=⟨_,rfl⟩
  have HL2:Hid (∀ w',Calls Tryz.prog 86 #[.string s,.int .i64 (a:Int),.string ⟨#[116,121,112,101]⟩] w' fun e w''=>e=.returned (.tuple #[.string V,.int .i64 (b:Int),.bool f2])∧w'=w''):=fun w'=>by rw [hV,hb,hf2];exact HLN a ⟨#[116,121,112,101]⟩ w' hal (by decide)
  rw [←hb,←hf2] at hR
  have hbl:b≤s.size:=by rw [hb];exact HLE a wTyp hal
  clear hV hV2 hb hf2
  obtain ⟨n,hn⟩:∃ n,n=str (lnV l b wTag):=⟨_,rfl⟩
  have hn2:lnV l b wTag=n.data.toList:=by rw [hn];rfl
  rw [hn2] at hR
  have hns:n.size≤s.size:=by rw [hn];exact HSZ b wTag
  obtain ⟨c,hc⟩:∃ c,c=lnN l b wTag:=⟨_,rfl⟩
  obtain ⟨f3,hf3⟩:∃ f3,f3=lnF l b wTag:=⟨_,rfl⟩
  have HL3:Hid (∀ w',Calls Tryz.prog 86 #[.string s,.int .i64 (b:Int),.string ⟨#[116,97,103]⟩] w' fun e w''=>e=.returned (.tuple #[.string n,.int .i64 (c:Int),.bool f3])∧w'=w''):=fun w'=>by rw [hn,hc,hf3];exact HLN b ⟨#[116,97,103]⟩ w' hbl (by decide)
  rw [←hc,←hf3] at hR
  have hcl:c≤s.size:=by rw [hc];exact HLE b wTag hbl
  clear hn hn2 hc hf3
  obtain ⟨x,hx⟩:∃ x,x=lnV l c wTgr:=⟨_,rfl⟩
  obtain ⟨d,hd⟩:∃ d,d=lnN l c wTgr:=⟨_,rfl⟩
  obtain ⟨f4,hf4⟩:∃ f4,f4=lnF l c wTgr:=⟨_,rfl⟩
  have HL4:Hid (∀ w',Calls Tryz.prog 86 #[.string s,.int .i64 (c:Int),.string ⟨#[116,97,103,103,101,114]⟩] w' fun e w''=>e=.returned (.tuple #[.string (str x),.int .i64 (d:Int),.bool f4])∧w'=w''):=fun w'=>by rw [hx,hd,hf4];exact HLN c ⟨#[116,97,103,103,101,114]⟩ w' hcl (by decide)
  rw [←hx,←hd,←hf4] at hR
  have hdl:d≤s.size:=by rw [hd];exact HLE c wTgr hcl
  have hxs:x.length≤s.size:=by
    have:=HSZ c wTgr
    rw [str_size] at this
    rw [hx]
    exact this
  clear hx hd hf4
  have lna:=whoR_len x
  have fA:=fun w'=>rwho2_any (str x) f4 w' (by rw [str_size];omega)
  rw [str_list] at fA
  obtain ⟨⟨ac,⟨an,am,aT,az⟩⟩,hq⟩:∃ q,q=whoR x:=⟨_,rfl⟩
  rw [←hq] at fA lna hR
  simp only at fA lna hR
  obtain ⟨M,hM⟩:∃ M,M=whC ac f4:=⟨_,rfl⟩
  rw [←hM] at fA hR
  have HWA:Hid (∀ w',Calls Tryz.prog 88 #[.string (str x),.bool f4] w' fun e w''=>e=.returned (.tuple #[.agg #[.string an,.string am,.int .i64 aT,.int .i64 az],.int .i64 (M:Int)])∧Below w'.heap.size w' w''):=fA
  obtain ⟨K,hK⟩:∃ K,K=kindL V.data.toList:=⟨_,rfl⟩
  have HKD:Hid (∀ w',Calls Tryz.prog 89 #[.string V] w' fun e w''=>e=.returned (.int .i64 (K:Int))∧w'=w''):=fun w'=>(rkind_any V w').mono fun e w'' ⟨he,hw⟩=>⟨by rw [he,hK],hw.symm⟩
  rw [←hK] at hR
  obtain ⟨X,hX⟩:∃ X,X=str (l.drop (d+1)):=⟨_,rfl⟩
  obtain ⟨D,hD⟩:∃ D,D=Lib.hasPrefix (l.drop d) [10]:=⟨_,rfl⟩
  obtain ⟨bi,hbi⟩:∃ bi,bi=isId O:=⟨_,rfl⟩
  have HIS:Hid (∀ w',Calls Tryz.prog 87 #[.string O] w' fun e w''=>e=.returned (.bool bi)∧w'=w''):=fun w'=>by rw [hbi];exact ris_any O w' (by omega)
  have HR:Hid (R=if f1=false∨f2=false∨f3=false∨M=0∨bi=false∨K=0∨D=false then (2,Tg.zero) else if chkG ⟨O,(K:Int),n,⟨an,am,aT,az⟩,X⟩=0 then (0,⟨O,(K:Int),n,⟨an,am,aT,az⟩,X⟩) else (chkG ⟨O,(K:Int),n,⟨an,am,aT,az⟩,X⟩,Tg.zero)):=by
    show _=_
    rw [hR,finG,←hX,←hD]
    have e1:str O.data.toList=O:=rfl
    have e2:str n.data.toList=n:=rfl
    rw [e1,e2,←hbi]
  have hDs:D=decide (d<s.size∧s.data.toList[d]?=some 10):=by
    rw [hD,hl,pre_tenG,list_len]
  have HDS:=Lib.hid hDs
  have hXs:X.size≤s.size:=by rw [hX,str_size,List.length_drop,hll];omega
  have hXe:d<s.size→X=s.extract (d+1) s.size:=fun h=>by
    rw [hX,hl]
    refine ba_ext ?_
    rw [str_list,ext_bytes,List.take_of_length_le (by rw [List.length_drop,list_len];omega)]
  have HXE:=Lib.hid hXe
  have HCK:Hid (∀ w',Calls Tryz.prog 90 #[.agg #[.string O,.int .i64 (K:Int),.string n,.string an,.string am,.int .i64 aT,.int .i64 az,.string X]] w' fun e w''=>e=.returned (.int .i64 (chkG ⟨O,(K:Int),n,⟨an,am,aT,az⟩,X⟩:Int))∧Below w'.heap.size w' w''):=fun w' =>
    rgcheck_any ⟨O,(K:Int),n,⟨an,am,aT,az⟩,X⟩ w' ⟨by simp only;omega,by simp only;omega,by simp only;omega,by simp only;omega,by simp only;omega⟩
  obtain ⟨A,hA⟩:∃ A,A=w.heap.size:=⟨_,rfl⟩
  obtain ⟨w1,hw1⟩:∃ w1,w1=w.alloc (.cells #[.string ⟨#[]⟩,.int .i64 0,.string ⟨#[]⟩,.string ⟨#[]⟩,.string ⟨#[]⟩,.int .i64 0,.int .i64 0,.string ⟨#[]⟩] 80):=⟨_,rfl⟩
  have hx1:w1.heap[A]?=some (.cells #[.string ⟨#[]⟩,.int .i64 0,.string ⟨#[]⟩,.string ⟨#[]⟩,.string ⟨#[]⟩,.int .i64 0,.int .i64 0,.string ⟨#[]⟩] 80 (0,0)):=by rw [hw1,hA];exact heap_alloc_new _ _
  have hb1:Below w.heap.size w w1:=by rw [hw1];exact below_new (Below.refl _ _) _
  have HX1:=Lib.hid hx1
  have HB1:=Lib.hid hb1
  have HA:=Lib.hid hA
  have HAL:Hid (w.heap.size≤A):=by show _≤_;rw [hA];exact Nat.le_refl _
  have HW1:=Lib.hid hw1
  clear hR hl hll HLN HLE HSZ hq hM fA lna hK hX hD hbi hDs hXs hXe hA hw1 hx1 hb1 hal hbl hcl hOs hns hxs
  go_enter Tryz.func52,Tryz.ntmps52
  go_upto_region 1 with fail
  rw [←HW1.out,←HA.out]
  go_upto_region 5 with (go_at_call 86;first
    | ((with_reducible refine (HL1.out _).mono ?_);rintro e wa ⟨rfl,rfl⟩)
    | ((with_reducible refine (HL2.out _).mono ?_);rintro e wa ⟨rfl,rfl⟩)
    | ((with_reducible refine (HL3.out _).mono ?_);rintro e wa ⟨rfl,rfl⟩)
    | ((with_reducible refine (HL4.out _).mono ?_);rintro e wa ⟨rfl,rfl⟩))
  go_upto_region 6 with (go_at_call 88;((with_reducible refine (HWA.out _).mono ?_);rintro e wa ⟨rfl,hba⟩))
  obtain ⟨P,hP⟩:∃ P,P=wa.heap.size:=⟨_,rfl⟩
  obtain ⟨w3,hw3⟩:∃ w3,w3=wa.alloc (.cells #[.string an,.string am,.int .i64 aT,.int .i64 az] 61):=⟨_,rfl⟩
  have hp3:w3.heap[P]?=some (.cells #[.string an,.string am,.int .i64 aT,.int .i64 az] 61 (0,0)):=by rw [hw3,hP];exact heap_alloc_new _ _
  have hb3:Below w1.heap.size w1 w3:=hba.trans (by rw [hw3];exact (below_new (Below.refl _ _) _).mono hba.size)
  rw [←hw3,←hP]
  have HB3:=Lib.hid hb3
  obtain ⟨y0,y1,y2,y3,-⟩:=pn_end hp3
  clear hw3 hP hba hp3 hb3 HL1 HL2 HL3 HL4 HWA HW1 HA
  go_cut [18] from 53 to 58 (fun pv wx=>∃ G,pv=.pointer (some ⟨G,0,none⟩)∧Hid (wx.heap[G]?=some (.cells #[.string O,.int .i64 (K:Int),.string n,.string an,.string am,.int .i64 aT,.int .i64 az,.string ⟨#[]⟩] 80 (0,0)))∧A<G∧Hid (Below w3.heap.size w3 wx))
  case first =>
    have za:∀ ob,Below w3.heap.size w3 (w3.alloc ob):=fun ob=>below_new (Below.refl _ _) _
    have zb:∀ ob,Below w3.heap.size w3 (w3.drew.alloc ob):=fun ob=>below_new (Below.refl _ _).drew _
    have za0:=fun ob=>cell_bel y0 (za ob)
    have za1:=fun ob=>cell_bel y1 (za ob)
    have za2:=fun ob=>cell_bel y2 (za ob)
    have za3:=fun ob=>cell_bel y3 (za ob)
    have zb0:=fun ob=>cell_bel y0 (zb ob)
    have zb1:=fun ob=>cell_bel y1 (zb ob)
    have zb2:=fun ob=>cell_bel y2 (zb ob)
    have zb3:=fun ob=>cell_bel y3 (zb ob)
    clear za zb
    have hAG:A<w3.heap.size:=Nat.lt_of_lt_of_le (row_lt HX1.out) HB3.out.size
    go_region_law (go_simp;go_at_call 89;((with_reducible refine (HKD.out _).mono ?_);rintro e wk ⟨rfl,rfl⟩))
    all_goals go_wp2_with fail
    all_goals go_meet
    all_goals first
      | exact ⟨_,rfl,heap_alloc_new w3 _,hAG,(below_new (Below.refl _ _) _).drew⟩
      | exact ⟨_,rfl,heap_alloc_new w3 _,hAG,(below_new (Below.refl _ _) _)⟩
      | exact ⟨_,rfl,heap_alloc_new w3.drew _,hAG,below_new (Below.refl _ _).drew _⟩
  case rest =>
    obtain ⟨G,rfl,HG,hAG,HBG⟩:=hcut
    have HBW:=Lib.hid (HB1.out.trans ((HB3.out.trans (HBG.out.mono HB3.out.size)).mono HB1.out.size))
    have HAX:=Lib.hid (((HB3.out.trans (HBG.out.mono HB3.out.size)).block _ (row_lt HX1.out)).trans HX1.out)
    clear y0 y1 y2 y3 HKD HB3 HBG HX1 HB1
    obtain ⟨u0,u1,u2,u3,u4,u5,u6,u7⟩:=tg_at HG.out
    rcases f1 with _|_
    · have HQ:Hid (R=(2,Tg.zero)):=by show _=_;rw [HR.out,if_pos (.inl rfl)]
      clear HR
      obtain ⟨p0,p1,p2,p3,p4,p5,p6,p7⟩:=tg_at HAX.out
      obtain ⟨q0,q1,q2,q3,q4,q5,q6,q7⟩:=tg_frz HAX.out
      go_wp2_with (go_at_call 87;((with_reducible refine (HIS.out _).mono ?_);rintro e wb ⟨rfl,rfl⟩))
      obtain ⟨d0,d1,d2,d3,d4,d5,d6,d7⟩:=tg_at (tg_row (v0:=.string ⟨#[]⟩) (v1:=.int .i64 0) (v2:=.string ⟨#[]⟩) (v3:=.string ⟨#[]⟩) (v4:=.string ⟨#[]⟩) (v5:=.int .i64 0) (v6:=.int .i64 0) (v7:=.string ⟨#[]⟩) HAX.out)
      refine bodyPost_ret (v:=.tuple #[.agg #[.string ⟨#[]⟩,.int .i64 0,.string ⟨#[]⟩,.string ⟨#[]⟩,.string ⟨#[]⟩,.int .i64 0,.int .i64 0,.string ⟨#[]⟩],.int .i64 2]) (by simp [results,Tryz.results52,go_sem,d0,d1,d2,d3,d4,d5,d6,d7]) rfl (parGR_bad HQ.out (set8_below HBW.out HAL.out))
    rcases f2 with _|_
    · have HQ:Hid (R=(2,Tg.zero)):=by show _=_;rw [HR.out,if_pos (.inr (.inl rfl))]
      clear HR
      obtain ⟨p0,p1,p2,p3,p4,p5,p6,p7⟩:=tg_at HAX.out
      obtain ⟨q0,q1,q2,q3,q4,q5,q6,q7⟩:=tg_frz HAX.out
      go_wp2_with (go_at_call 87;((with_reducible refine (HIS.out _).mono ?_);rintro e wb ⟨rfl,rfl⟩))
      obtain ⟨d0,d1,d2,d3,d4,d5,d6,d7⟩:=tg_at (tg_row (v0:=.string ⟨#[]⟩) (v1:=.int .i64 0) (v2:=.string ⟨#[]⟩) (v3:=.string ⟨#[]⟩) (v4:=.string ⟨#[]⟩) (v5:=.int .i64 0) (v6:=.int .i64 0) (v7:=.string ⟨#[]⟩) HAX.out)
      refine bodyPost_ret (v:=.tuple #[.agg #[.string ⟨#[]⟩,.int .i64 0,.string ⟨#[]⟩,.string ⟨#[]⟩,.string ⟨#[]⟩,.int .i64 0,.int .i64 0,.string ⟨#[]⟩],.int .i64 2]) (by simp [results,Tryz.results52,go_sem,d0,d1,d2,d3,d4,d5,d6,d7]) rfl (parGR_bad HQ.out (set8_below HBW.out HAL.out))
    rcases f3 with _|_
    · have HQ:Hid (R=(2,Tg.zero)):=by show _=_;rw [HR.out,if_pos (.inr (.inr (.inl rfl)))]
      clear HR
      obtain ⟨p0,p1,p2,p3,p4,p5,p6,p7⟩:=tg_at HAX.out
      obtain ⟨q0,q1,q2,q3,q4,q5,q6,q7⟩:=tg_frz HAX.out
      go_wp2_with (go_at_call 87;((with_reducible refine (HIS.out _).mono ?_);rintro e wb ⟨rfl,rfl⟩))
      obtain ⟨d0,d1,d2,d3,d4,d5,d6,d7⟩:=tg_at (tg_row (v0:=.string ⟨#[]⟩) (v1:=.int .i64 0) (v2:=.string ⟨#[]⟩) (v3:=.string ⟨#[]⟩) (v4:=.string ⟨#[]⟩) (v5:=.int .i64 0) (v6:=.int .i64 0) (v7:=.string ⟨#[]⟩) HAX.out)
      refine bodyPost_ret (v:=.tuple #[.agg #[.string ⟨#[]⟩,.int .i64 0,.string ⟨#[]⟩,.string ⟨#[]⟩,.string ⟨#[]⟩,.int .i64 0,.int .i64 0,.string ⟨#[]⟩],.int .i64 2]) (by simp [results,Tryz.results52,go_sem,d0,d1,d2,d3,d4,d5,d6,d7]) rfl (parGR_bad HQ.out (set8_below HBW.out HAL.out))
    by_cases k1:M=0
    · have HQ:Hid (R=(2,Tg.zero)):=by show _=_;rw [HR.out,if_pos (.inr (.inr (.inr (.inl k1))))]
      have g1:((M:Int)==0)=true:=by rw [k1];rfl
      clear HR k1
      obtain ⟨p0,p1,p2,p3,p4,p5,p6,p7⟩:=tg_at HAX.out
      obtain ⟨q0,q1,q2,q3,q4,q5,q6,q7⟩:=tg_frz HAX.out
      go_wp2_with (go_at_call 87;((with_reducible refine (HIS.out _).mono ?_);rintro e wb ⟨rfl,rfl⟩))
      obtain ⟨d0,d1,d2,d3,d4,d5,d6,d7⟩:=tg_at (tg_row (v0:=.string ⟨#[]⟩) (v1:=.int .i64 0) (v2:=.string ⟨#[]⟩) (v3:=.string ⟨#[]⟩) (v4:=.string ⟨#[]⟩) (v5:=.int .i64 0) (v6:=.int .i64 0) (v7:=.string ⟨#[]⟩) HAX.out)
      refine bodyPost_ret (v:=.tuple #[.agg #[.string ⟨#[]⟩,.int .i64 0,.string ⟨#[]⟩,.string ⟨#[]⟩,.string ⟨#[]⟩,.int .i64 0,.int .i64 0,.string ⟨#[]⟩],.int .i64 2]) (by simp [results,Tryz.results52,go_sem,d0,d1,d2,d3,d4,d5,d6,d7]) rfl (parGR_bad HQ.out (set8_below HBW.out HAL.out))
    have g1:((M:Int)==0)=false:=by rw [beq_eq_false_iff_ne];omega
    rcases bi with _|_
    · have HQ:Hid (R=(2,Tg.zero)):=by show _=_;rw [HR.out,if_pos (.inr (.inr (.inr (.inr (.inl rfl)))))]
      clear HR k1
      obtain ⟨p0,p1,p2,p3,p4,p5,p6,p7⟩:=tg_at HAX.out
      obtain ⟨q0,q1,q2,q3,q4,q5,q6,q7⟩:=tg_frz HAX.out
      go_wp2_with (go_at_call 87;((with_reducible refine (HIS.out _).mono ?_);rintro e wb ⟨rfl,rfl⟩))
      obtain ⟨d0,d1,d2,d3,d4,d5,d6,d7⟩:=tg_at (tg_row (v0:=.string ⟨#[]⟩) (v1:=.int .i64 0) (v2:=.string ⟨#[]⟩) (v3:=.string ⟨#[]⟩) (v4:=.string ⟨#[]⟩) (v5:=.int .i64 0) (v6:=.int .i64 0) (v7:=.string ⟨#[]⟩) HAX.out)
      refine bodyPost_ret (v:=.tuple #[.agg #[.string ⟨#[]⟩,.int .i64 0,.string ⟨#[]⟩,.string ⟨#[]⟩,.string ⟨#[]⟩,.int .i64 0,.int .i64 0,.string ⟨#[]⟩],.int .i64 2]) (by simp [results,Tryz.results52,go_sem,d0,d1,d2,d3,d4,d5,d6,d7]) rfl (parGR_bad HQ.out (set8_below HBW.out HAL.out))
    by_cases k2:K=0
    · have HQ:Hid (R=(2,Tg.zero)):=by show _=_;rw [HR.out,if_pos (.inr (.inr (.inr (.inr (.inr (.inl k2))))))]
      have g2:((K:Int)==0)=true:=by rw [k2];rfl
      clear HR k1 k2
      obtain ⟨p0,p1,p2,p3,p4,p5,p6,p7⟩:=tg_at HAX.out
      obtain ⟨q0,q1,q2,q3,q4,q5,q6,q7⟩:=tg_frz HAX.out
      go_wp2_with (go_at_call 87;((with_reducible refine (HIS.out _).mono ?_);rintro e wb ⟨rfl,rfl⟩))
      obtain ⟨d0,d1,d2,d3,d4,d5,d6,d7⟩:=tg_at (tg_row (v0:=.string ⟨#[]⟩) (v1:=.int .i64 0) (v2:=.string ⟨#[]⟩) (v3:=.string ⟨#[]⟩) (v4:=.string ⟨#[]⟩) (v5:=.int .i64 0) (v6:=.int .i64 0) (v7:=.string ⟨#[]⟩) HAX.out)
      refine bodyPost_ret (v:=.tuple #[.agg #[.string ⟨#[]⟩,.int .i64 0,.string ⟨#[]⟩,.string ⟨#[]⟩,.string ⟨#[]⟩,.int .i64 0,.int .i64 0,.string ⟨#[]⟩],.int .i64 2]) (by simp [results,Tryz.results52,go_sem,d0,d1,d2,d3,d4,d5,d6,d7]) rfl (parGR_bad HQ.out (set8_below HBW.out HAL.out))
    have g2:((K:Int)==0)=false:=by rw [beq_eq_false_iff_ne];omega
    by_cases k3:d<s.size
    case neg =>
      have HQ:Hid (R=(2,Tg.zero)):=by show _=_;rw [HR.out,if_pos (.inr (.inr (.inr (.inr (.inr (.inr (by rw [HDS.out];exact decide_eq_false fun h=>k3 h.1)))))))]
      have g3:(s.size:Int)≤(d:Int):=by omega
      clear HR k1 k2 k3
      obtain ⟨p0,p1,p2,p3,p4,p5,p6,p7⟩:=tg_at HAX.out
      obtain ⟨q0,q1,q2,q3,q4,q5,q6,q7⟩:=tg_frz HAX.out
      go_wp2_with (go_at_call 87;((with_reducible refine (HIS.out _).mono ?_);rintro e wb ⟨rfl,rfl⟩))
      obtain ⟨d0,d1,d2,d3,d4,d5,d6,d7⟩:=tg_at (tg_row (v0:=.string ⟨#[]⟩) (v1:=.int .i64 0) (v2:=.string ⟨#[]⟩) (v3:=.string ⟨#[]⟩) (v4:=.string ⟨#[]⟩) (v5:=.int .i64 0) (v6:=.int .i64 0) (v7:=.string ⟨#[]⟩) HAX.out)
      refine bodyPost_ret (v:=.tuple #[.agg #[.string ⟨#[]⟩,.int .i64 0,.string ⟨#[]⟩,.string ⟨#[]⟩,.string ⟨#[]⟩,.int .i64 0,.int .i64 0,.string ⟨#[]⟩],.int .i64 2]) (by simp [results,Tryz.results52,go_sem,d0,d1,d2,d3,d4,d5,d6,d7]) rfl (parGR_bad HQ.out (set8_below HBW.out HAL.out))
    have g3:¬ (s.size:Int)≤(d:Int):=by omega
    have hd10:s.data.toList[d]?=some (s[d]):=by rw [List.getElem?_eq_getElem (by rw [list_len];exact k3)];rfl
    by_cases k4:s[d]=10
    case neg =>
      have HQ:Hid (R=(2,Tg.zero)):=by show _=_;rw [HR.out,if_pos (.inr (.inr (.inr (.inr (.inr (.inr (by rw [HDS.out];exact decide_eq_false fun h=>k4 (by have h2:=h.2;rw [hd10] at h2;exact Option.some.inj h2))))))))]
      have g4:((s[d].toNat:Int) != 10)=true:=by
        rw [bne_iff_ne]
        intro e
        exact k4 (UInt8.toNat_inj.mp (by have h1 : s[d].toNat = 10 := by omega
                                         exact h1))
      clear HR k1 k2 k4 hd10
      obtain ⟨p0,p1,p2,p3,p4,p5,p6,p7⟩:=tg_at HAX.out
      obtain ⟨q0,q1,q2,q3,q4,q5,q6,q7⟩:=tg_frz HAX.out
      go_wp2_with (go_at_call 87;((with_reducible refine (HIS.out _).mono ?_);rintro e wb ⟨rfl,rfl⟩))
      obtain ⟨d0,d1,d2,d3,d4,d5,d6,d7⟩:=tg_at (tg_row (v0:=.string ⟨#[]⟩) (v1:=.int .i64 0) (v2:=.string ⟨#[]⟩) (v3:=.string ⟨#[]⟩) (v4:=.string ⟨#[]⟩) (v5:=.int .i64 0) (v6:=.int .i64 0) (v7:=.string ⟨#[]⟩) HAX.out)
      refine bodyPost_ret (v:=.tuple #[.agg #[.string ⟨#[]⟩,.int .i64 0,.string ⟨#[]⟩,.string ⟨#[]⟩,.string ⟨#[]⟩,.int .i64 0,.int .i64 0,.string ⟨#[]⟩],.int .i64 2]) (by simp [results,Tryz.results52,go_sem,d0,d1,d2,d3,d4,d5,d6,d7]) rfl (parGR_bad HQ.out (set8_below HBW.out HAL.out))
    have g4:((s[d].toNat:Int) != 10)=false:=by rw [k4];rfl
    have HR2:Hid (R=if chkG ⟨O,(K:Int),n,⟨an,am,aT,az⟩,X⟩=0 then (0,⟨O,(K:Int),n,⟨an,am,aT,az⟩,X⟩) else (chkG ⟨O,(K:Int),n,⟨an,am,aT,az⟩,X⟩,Tg.zero)):=by
      show _=_
      rw [HR.out,if_neg]
      rintro (h|h|h|h|h|h|h)
      · cases h
      · cases h
      · cases h
      · exact k1 h
      · cases h
      · exact k2 h
      · rw [HDS.out] at h
        exact of_decide_eq_false h ⟨k3,by rw [hd10,k4]⟩
    clear HR HDS k1 k2 k4 hd10
    obtain ⟨C,hC⟩:∃ C,C=chkG ⟨O,(K:Int),n,⟨an,am,aT,az⟩,X⟩:=⟨_,rfl⟩
    rw [←hC] at HCK HR2
    obtain ⟨-,-,-,-,-,-,-,v7⟩:=tg_frz HG.out
    obtain ⟨d1,hd1⟩:∃ d1,d1=d+1:=⟨_,rfl⟩
    have ed1:(d:Int)+1=(d1:Int):=by omega
    have ed2:IntKind.i64.wrap ((d:Int)+1)=(d1:Int):=by rw [IntWalk.i64_in _ (by omega)];omega
    have l1:(d1:Int)≤(s.size:Int):=by omega
    have l2:d1≤s.size:=by omega
    have hXE:=HXE.out k3
    rw [←hd1] at hXE
    have HXX:=Lib.hid hXE
    have hG2:(wc.setCell ⟨G,7,none⟩ (.string X)).heap[G]?=some (.cells #[.string O,.int .i64 (K:Int),.string n,.string an,.string am,.int .i64 aT,.int .i64 az,.string X] 80 (0,0)):=by
      have h:=heap_setCell_same wc G 7 _ 80 (.string X) HG.out
      simp only [List.setIfInBounds_toArray,List.set_cons_zero,List.set_cons_succ] at h
      exact h
    have hA2:(wc.setCell ⟨G,7,none⟩ (.string X)).heap[A]?=some (.cells #[.string ⟨#[]⟩,.int .i64 0,.string ⟨#[]⟩,.string ⟨#[]⟩,.string ⟨#[]⟩,.int .i64 0,.int .i64 0,.string ⟨#[]⟩] 80 (0,0)):=(Below.heap_setCell _ ⟨G,7,none⟩ _ A (by show A≠G;omega)).trans HAX.out
    have hB2:Below w.heap.size w (wc.setCell ⟨G,7,none⟩ (.string X)):=HBW.out.setCell (p:=⟨G,7,none⟩) (by show _≤G;have:=HAL.out;omega) _
    obtain ⟨w8,hw8⟩:∃ w8,w8=wc.setCell ⟨G,7,none⟩ (.string X):=⟨_,rfl⟩
    clear hXE HXE hd1 hC
    go_upto_region 10 with (go_at_call 87;((with_reducible refine (HIS.out _).mono ?_);rintro e wb ⟨rfl,rfl⟩))
    rw [←HXX.out]
    rw [←hw8] at hG2 hA2 hB2 ⊢
    have HG2:=Lib.hid hG2
    have HA2:=Lib.hid hA2
    have HB2:=Lib.hid hB2
    clear hw8 hG2 hA2 hB2 u0 u1 u2 u3 u4 u5 u6 u7 v7 HG HAX HBW
    obtain ⟨u0,u1,u2,u3,u4,u5,u6,u7⟩:=tg_at HG2.out
    by_cases h0:C=0
    · have HQ:Hid (R=(0,⟨O,(K:Int),n,⟨an,am,aT,az⟩,X⟩)):=by show _=_;rw [HR2.out,if_pos h0]
      have g0:((C:Int) != 0)=false:=by simp [h0]
      clear HR2 h0
      go_upto_region 13 with (go_at_call 90;((with_reducible refine (HCK.out _).mono ?_);rintro e wx ⟨rfl,hb5⟩))
      have hA9:=(hb5.block _ (row_lt HA2.out)).trans HA2.out
      have hB9:=HB2.out.trans (hb5.mono HB2.out.size)
      clear u0 u1 u2 u3 u4 u5 u6 u7
      obtain ⟨u0,u1,u2,u3,u4,u5,u6,u7⟩:=tg_at ((hb5.block _ (row_lt HG2.out)).trans HG2.out)
      obtain ⟨p0,p1,p2,p3,p4,p5,p6,p7⟩:=tg_at hA9
      obtain ⟨q0,q1,q2,q3,q4,q5,q6,q7⟩:=tg_frz hA9
      go_wp2
      obtain ⟨d0,d1,d2,d3,d4,d5,d6,d7⟩:=tg_at (tg_row (v0:=.string O) (v1:=.int .i64 (K:Int)) (v2:=.string n) (v3:=.string an) (v4:=.string am) (v5:=.int .i64 aT) (v6:=.int .i64 az) (v7:=.string X) hA9)
      refine bodyPost_ret (v:=.tuple #[.agg #[.string O,.int .i64 (K:Int),.string n,.string an,.string am,.int .i64 aT,.int .i64 az,.string X],.int .i64 0]) (by simp [results,Tryz.results52,go_sem,d0,d1,d2,d3,d4,d5,d6,d7]) rfl ?_
      rw [HQ.out]
      exact ⟨rfl,set8_below hB9 HAL.out⟩
    · have HQ:Hid (R=(C,Tg.zero)):=by show _=_;rw [HR2.out,if_neg h0]
      have g0:((C:Int) != 0)=true:=by simp;omega
      clear HR2 h0
      go_upto_region 12 with (go_at_call 90;((with_reducible refine (HCK.out _).mono ?_);rintro e wx ⟨rfl,hb5⟩))
      have hA9:=(hb5.block _ (row_lt HA2.out)).trans HA2.out
      have hB9:=HB2.out.trans (hb5.mono HB2.out.size)
      clear u0 u1 u2 u3 u4 u5 u6 u7
      obtain ⟨p0,p1,p2,p3,p4,p5,p6,p7⟩:=tg_at hA9
      obtain ⟨q0,q1,q2,q3,q4,q5,q6,q7⟩:=tg_frz hA9
      go_wp2
      obtain ⟨d0,d1,d2,d3,d4,d5,d6,d7⟩:=tg_at (tg_row (v0:=.string ⟨#[]⟩) (v1:=.int .i64 0) (v2:=.string ⟨#[]⟩) (v3:=.string ⟨#[]⟩) (v4:=.string ⟨#[]⟩) (v5:=.int .i64 0) (v6:=.int .i64 0) (v7:=.string ⟨#[]⟩) hA9)
      refine bodyPost_ret (v:=.tuple #[.agg #[.string ⟨#[]⟩,.int .i64 0,.string ⟨#[]⟩,.string ⟨#[]⟩,.string ⟨#[]⟩,.int .i64 0,.int .i64 0,.string ⟨#[]⟩],.int .i64 (C:Int)]) (by simp [results,Tryz.results52,go_sem,d0,d1,d2,d3,d4,d5,d6,d7]) rfl (parGR_bad HQ.out (set8_below hB9 HAL.out))
end Go.Proofs.YtnoopcenogbjiaaGreatDoor
