/-
  The walk of Parse.
-/
import Derived.Test.YtnoopcenogbjiaaGreatDoorCmIdsPk
import Derived.Deep.AppendLies
set_option linter.unusedVariables false
set_option linter.unusedSimpArgs false
namespace Go.Proofs.YtnoopcenogbjiaaGreatDoor
open Go Go.RowKit Go.Maps Go.WideMaps
structure PSt (w0 w:World) (A E b base:Nat) (cs:Array Value) (r:ByteArray) (B:Bool):Prop where
  rd:Rd w b r B
  e:w.heap[E]?=some (.cells cs 64 (0,0))
  a:w.heap[A]?=some (.cells #[.string ⟨#[]⟩,.slice none 0 0,.string ⟨#[]⟩,.string ⟨#[]⟩,.int .i64 0,.int .i64 0,.string ⟨#[]⟩,.string ⟨#[]⟩,.int .i64 0,.int .i64 0,.string ⟨#[]⟩] 64 (0,0))
  bel:Below w0.heap.size w0 w
  o1:w0.heap.size≤A
  o2:A<E
  o3:E<b
  o4:b<base
  o5:base≤w.heap.size
theorem PSt.call {w0 w w':World} {A E b base:Nat} {cs:Array Value} {r r':ByteArray} {B B':Bool} (h:PSt w0 w A E b base cs r B) (hg:w.grownBy w' (some b)) (hr:Rd w' b r' B'):PSt w0 w' A E b base cs r' B' :=
  ⟨hr,(hg.block E (row_lt h.e) (by have:=h.o3;simp;omega)).trans h.e,(hg.block A (row_lt h.a) (by have:=h.o2;have:=h.o3;simp;omega)).trans h.a,
   h.bel.grown hg (by have:=h.o1;have:=h.o2;have:=h.o3;have:=h.o4;have:=h.o5;omega) (fun j hj=>by cases hj;have:=h.o1;have:=h.o2;have:=h.o3;omega),h.o1,h.o2,h.o3,h.o4,Nat.le_trans h.o5 hg.size⟩
theorem PSt.below {w0 w w':World} {A E b base:Nat} {cs:Array Value} {r:ByteArray} {B:Bool} (h:PSt w0 w A E b base cs r B) (hb:Below w.heap.size w w'):PSt w0 w' A E b base cs r B :=
  h.call (gb_below b hb) (h.rd.below hb)
theorem PSt.store {w0 w:World} {A E b base:Nat} {cs cs':Array Value} {r:ByteArray} {B:Bool} (h:PSt w0 w A E b base cs r B) (k:Nat) (v:Value) (hc:cs.setIfInBounds k v=cs'):PSt w0 (w.setCell ⟨E,k,none⟩ v) A E b base cs' r B :=
  ⟨(Below.heap_setCell _ ⟨E,k,none⟩ v b (by show b≠E;have:=h.o3;omega)).trans h.rd,by rw [←hc];exact heap_setCell_same w E k cs 64 v h.e,
   (Below.heap_setCell _ ⟨E,k,none⟩ v A (by show A≠E;have:=h.o2;omega)).trans h.a,h.bel.setCell (p:=⟨E,k,none⟩) (by show _≤E;have:=h.o1;have:=h.o2;omega) v,h.o1,h.o2,h.o3,h.o4,by simpa using h.o5⟩
theorem SOw.store {w:World} {base E k:Nat} {v u:Value} {l:List (List UInt8)} (h:SOw w base v l) (hE:E<base):SOw (w.setCell ⟨E,k,none⟩ u) base v l :=
  h.grown (b:=E) ⟨rfl,rfl,rfl,by simp,fun i _ hi=>Below.heap_setCell _ ⟨E,k,none⟩ _ i (fun e=>hi (by rw [e]))⟩ hE
theorem SOw.srw {w:World} {base n c:Nat} {p:Option Addr} {ls:List (List UInt8)} (h:SOw w base (.slice p n c) ls):SRw w p ls:=by
  obtain ⟨p',c',he,hr⟩:=h.rw
  simp only [Value.slice.injEq] at he
  rw [he.1]
  exact hr
theorem SOw.store11 {w:World} {base E:Nat} {v:Value} {ls:List (List UInt8)} {v0 v1 v2 v3 v4 v5 v6 v7 v8 v9 v10:Value} (h:SOw w base v ls) (hE:E<base):SOw (((((((((((w.setCell ⟨E,0,none⟩ v0).setCell ⟨E,1,none⟩ v1).setCell ⟨E,2,none⟩ v2).setCell ⟨E,3,none⟩ v3).setCell ⟨E,4,none⟩ v4).setCell ⟨E,5,none⟩ v5).setCell ⟨E,6,none⟩ v6).setCell ⟨E,7,none⟩ v7).setCell ⟨E,8,none⟩ v8).setCell ⟨E,9,none⟩ v9).setCell ⟨E,10,none⟩ v10) base v ls :=
  (((((((((((h.store hE).store hE).store hE).store hE).store hE).store hE).store hE).store hE).store hE).store hE).store hE)
set_option maxHeartbeats 8000000 in
set_option maxRecDepth 8000 in
theorem cparse_any (s:ByteArray) (w:World) (hT:StrTab w) (hs:s.size≤1048576):Calls Tryz.prog 125 #[.string s] w (ParCR (parC s.data.toList) w):=by
  obtain ⟨R,hR⟩:∃ R,R=parC s.data.toList:=⟨_,rfl⟩
  rw [←hR]
  obtain ⟨l,hl⟩:∃ l,l=s.data.toList:=⟨_,rfl⟩
  have hll:l.length≤1048576:=by rw [hl,list_len];exact hs
  obtain ⟨T,hTT⟩:∃ T,T=str (valV l wTree):=⟨_,rfl⟩
  obtain ⟨r1,hr1⟩:∃ r1,r1=valR l:=⟨_,rfl⟩
  obtain ⟨B1,hB1⟩:∃ B1,B1=((false||!(valO l wTree))||!(isId (str (valV l wTree)))):=⟨_,rfl⟩
  obtain ⟨⟨ps',r2,B2⟩,hP⟩:∃ P,P=parsP r1 B1 []:=⟨_,rfl⟩
  obtain ⟨⟨ac,⟨an,am,aT,az⟩⟩,hA⟩:∃ q,q=whoR (valV r2 wAut):=⟨_,rfl⟩
  obtain ⟨B3,hB3⟩:∃ B3,B3=((B2||!(valO r2 wAut))||!(((ac:Nat):Int) != 2)):=⟨_,rfl⟩
  obtain ⟨r3,hr3⟩:∃ r3,r3=valR r2:=⟨_,rfl⟩
  obtain ⟨⟨cc',⟨cn,cm,cT,cz⟩⟩,hC⟩:∃ q,q=whoR (valV r3 wCom):=⟨_,rfl⟩
  obtain ⟨B4,hB4⟩:∃ B4,B4=((B3||!(valO r3 wCom))||!(((cc':Nat):Int) != 2)):=⟨_,rfl⟩
  obtain ⟨r4,hr4⟩:∃ r4,r4=valR r3:=⟨_,rfl⟩
  obtain ⟨X,hX⟩:∃ X,X=str (cutP r4 [10]):=⟨_,rfl⟩
  obtain ⟨B5,hB5⟩:∃ B5,B5=(B4||!(Lib.hasPrefix r4 [10])):=⟨_,rfl⟩
  have HR:Hid (R=if B5=true then (2,Cm.zero) else if chkC ⟨T,ps',⟨an,am,aT,az⟩,⟨cn,cm,cT,cz⟩,X⟩=0 then (0,⟨T,ps',⟨an,am,aT,az⟩,⟨cn,cm,cT,cz⟩,X⟩) else (chkC ⟨T,ps',⟨an,am,aT,az⟩,⟨cn,cm,cT,cz⟩,X⟩,Cm.zero)):=by
    show _=_
    rw [hR,parC,←hl]
    have hp:pcC l=⟨valV l wTree,ps',(ac,⟨an,am,aT,az⟩),(cc',⟨cn,cm,cT,cz⟩),cutP r4 [10],B5⟩:=by
      simp only [pcC]
      rw [←hB1,←hr1,←hP]
      simp only
      rw [←hA,←hr3,←hC,←hr4]
      simp only
      rw [←hB3,←hB4,←hB5]
    rw [hp]
    subst hTT hX
    rfl
  have k1:r1.length≤1048576:=by rw [hr1];have:=valR_len l;omega
  have ksum:=parsP_sum _ r1 B1 [] (Nat.le_refl _)
  rw [←hP] at ksum
  simp only [List.length_nil] at ksum
  have kall:=parsP_all _ r1 B1 [] 1048576 (Nat.le_refl _) k1 (by simp)
  rw [←hP] at kall
  simp only at kall
  have k2:r2.length≤1048576:=by omega
  have k3:r3.length≤1048576:=by rw [hr3];have:=valR_len r2;omega
  have k4:r4.length≤1048576:=by rw [hr4];have:=valR_len r3;omega
  have kT:T.size≤1048576:=by rw [hTT,str_size];have:=valV_len l wTree;omega
  have kA:=whoR_len (valV r2 wAut)
  have kC:=whoR_len (valV r3 wCom)
  rw [←hA] at kA
  rw [←hC] at kC
  simp only at kA kC
  have kv2:=valV_len r2 wAut
  have kv3:=valV_len r3 wCom
  have HSZ:Hid (T.size≤140737488355328∧an.size≤140737488355328∧am.size≤140737488355328∧cn.size≤140737488355328∧cm.size≤140737488355328):=⟨by omega,by omega,by omega,by omega,by omega⟩
  have HPL:Hid (ps'.length≤1048576):=by show _≤_;omega
  have HPA:Hid (∀ y∈ps',y.length≤140737488355328):=fun y hy=>Nat.le_trans (kall y hy) (by decide)
  -- the boxes
  obtain ⟨wA,hwA⟩:∃ wA,wA=w.alloc (.cells #[.string ⟨#[]⟩,.slice none 0 0,.string ⟨#[]⟩,.string ⟨#[]⟩,.int .i64 0,.int .i64 0,.string ⟨#[]⟩,.string ⟨#[]⟩,.int .i64 0,.int .i64 0,.string ⟨#[]⟩] 64):=⟨_,rfl⟩
  obtain ⟨wE,hwE⟩:∃ wE,wE=wA.alloc (.cells #[.string ⟨#[]⟩,.slice none 0 0,.string ⟨#[]⟩,.string ⟨#[]⟩,.int .i64 0,.int .i64 0,.string ⟨#[]⟩,.string ⟨#[]⟩,.int .i64 0,.int .i64 0,.string ⟨#[]⟩] 64):=⟨_,rfl⟩
  obtain ⟨wb,hwb⟩:∃ wb,wb=wE.alloc (.cells #[.string s,.bool false] 162):=⟨_,rfl⟩
  obtain ⟨A,hAA⟩:∃ A,A=w.heap.size:=⟨_,rfl⟩
  obtain ⟨E,hEE⟩:∃ E,E=wA.heap.size:=⟨_,rfl⟩
  obtain ⟨b,hbb⟩:∃ b,b=wE.heap.size:=⟨_,rfl⟩
  obtain ⟨base,hbase⟩:∃ base,base=wb.heap.size:=⟨_,rfl⟩
  have hAE:Below wA.heap.size wA wE:=by rw [hwE];exact below_new (Below.refl _ _) _
  have hEb:Below wE.heap.size wE wb:=by rw [hwb];exact below_new (Below.refl _ _) _
  have hwa1:wA.heap[A]?=some (.cells #[.string ⟨#[]⟩,.slice none 0 0,.string ⟨#[]⟩,.string ⟨#[]⟩,.int .i64 0,.int .i64 0,.string ⟨#[]⟩,.string ⟨#[]⟩,.int .i64 0,.int .i64 0,.string ⟨#[]⟩] 64 (0,0)):=by rw [hwA,hAA];exact heap_alloc_new w _
  have hwe1:wE.heap[E]?=some (.cells #[.string ⟨#[]⟩,.slice none 0 0,.string ⟨#[]⟩,.string ⟨#[]⟩,.int .i64 0,.int .i64 0,.string ⟨#[]⟩,.string ⟨#[]⟩,.int .i64 0,.int .i64 0,.string ⟨#[]⟩] 64 (0,0)):=by rw [hwE,hEE];exact heap_alloc_new wA _
  have hS0:PSt w wb A E b base #[.string ⟨#[]⟩,.slice none 0 0,.string ⟨#[]⟩,.string ⟨#[]⟩,.int .i64 0,.int .i64 0,.string ⟨#[]⟩,.string ⟨#[]⟩,.int .i64 0,.int .i64 0,.string ⟨#[]⟩] s false:=by
    refine ⟨by rw [hwb,hbb];exact heap_alloc_new wE _,(hEb.block E (row_lt hwe1)).trans hwe1,(hEb.block A ?_).trans ((hAE.block A (row_lt hwa1)).trans hwa1),?_,by omega,?_,?_,?_,by omega⟩
    · exact Nat.lt_of_lt_of_le (row_lt hwa1) hAE.size
    · have h1:Below w.heap.size w wA:=by rw [hwA];exact below_new (Below.refl _ _) _
      exact (h1.trans (hAE.mono h1.size)).trans (hEb.mono (Nat.le_trans h1.size hAE.size))
    · have:=row_lt hwa1;omega
    · have:=row_lt hwe1;omega
    · rw [hbase,hwb,hbb];simp
  have HS0:=Lib.hid hS0
  have HWA:=Lib.hid hwA
  have HWE:=Lib.hid hwE
  have HWB:=Lib.hid hwb
  have HAA:=Lib.hid hAA
  have HEE:=Lib.hid hEE
  have HBB:=Lib.hid hbb
  have HTT:=Lib.hid hT
  have HPP:=Lib.hid hP
  -- the calls
  have C1:Hid (Calls Tryz.prog 143 #[.pointer (some ⟨b,0,none⟩),.string ⟨#[116,114,101,101]⟩] wb fun e w'=>e=.returned (.string T)∧wb.grownBy w' (some b)∧Rd w' b (str r1) B1):=by
    have:=rdId_any b s ⟨#[116,114,101,101]⟩ false wb hS0.rd (hT.below hS0.bel) hs (by decide)
    rw [←hl] at this
    rw [hTT,hr1,hB1]
    exact this
  have C2:Hid (∀ w' ps'' r B,PSt w w' A E b base ps'' (str r) B→r.length≤1048576→Calls Tryz.prog 144 #[.pointer (some ⟨b,0,none⟩),.string ⟨#[112,97,114,101,110,116]⟩] w' fun e w''=>e=.returned (.bool (Lib.hasPrefix r (wPar++[32])))∧w''=w'):=fun w' _ r B h hr=>at_any b (str r) ⟨#[112,97,114,101,110,116]⟩ B w' h.rd (by decide)
  have C3:Hid (∀ w' ps'' r B,PSt w w' A E b base ps'' (str r) B→r.length≤1048576→Calls Tryz.prog 143 #[.pointer (some ⟨b,0,none⟩),.string ⟨#[112,97,114,101,110,116]⟩] w' fun e w''=>e=.returned (.string (str (valV r wPar)))∧w'.grownBy w'' (some b)∧Rd w'' b (str (valR r)) ((B||!(valO r wPar))||!(isId (str (valV r wPar))))):=fun w' _ r B h hr =>
    rdId_any b (str r) ⟨#[112,97,114,101,110,116]⟩ B w' h.rd (hT.below h.bel) (by rw [str_size];exact hr) (by decide)
  have C4:Hid (∀ w' cs,PSt w w' A E b base cs (str r2) B2→Calls Tryz.prog 145 #[.pointer (some ⟨b,0,none⟩),.string ⟨#[97,117,116,104,111,114]⟩] w' fun e w''=>e=.returned (.agg #[.string an,.string am,.int .i64 aT,.int .i64 az])∧w'.grownBy w'' (some b)∧Rd w'' b (str r3) B3):=fun w' cs h=>by
    have:=rwho_any b (str r2) ⟨#[97,117,116,104,111,114]⟩ B2 w w' h.rd hT h.bel (by have:=h.o1;have:=h.o2;have:=h.o3;omega) (by rw [str_size];exact k2) (by decide)
    rw [show (str r2).data.toList=r2 from rfl,show (⟨#[97,117,116,104,111,114]⟩:ByteArray).data.toList=wAut from rfl,←hA,←hr3] at this
    simp only at this
    rw [hB3]
    exact this
  have C5:Hid (∀ w' cs,PSt w w' A E b base cs (str r3) B3→Calls Tryz.prog 145 #[.pointer (some ⟨b,0,none⟩),.string ⟨#[99,111,109,109,105,116,116,101,114]⟩] w' fun e w''=>e=.returned (.agg #[.string cn,.string cm,.int .i64 cT,.int .i64 cz])∧w'.grownBy w'' (some b)∧Rd w'' b (str r4) B4):=fun w' cs h=>by
    have:=rwho_any b (str r3) ⟨#[99,111,109,109,105,116,116,101,114]⟩ B3 w w' h.rd hT h.bel (by have:=h.o1;have:=h.o2;have:=h.o3;omega) (by rw [str_size];exact k3) (by decide)
    rw [show (str r3).data.toList=r3 from rfl,show (⟨#[99,111,109,109,105,116,116,101,114]⟩:ByteArray).data.toList=wCom from rfl,←hC,←hr4] at this
    simp only at this
    rw [hB4]
    exact this
  have C6:Hid (∀ w' cs,PSt w w' A E b base cs (str r4) B4→Calls Tryz.prog 146 #[.pointer (some ⟨b,0,none⟩)] w' fun e w''=>e=.returned (.string X)∧w'.grownBy w'' (some b)∧Rd w'' b (str r4) B5):=fun w' cs h=>by
    have:=rtext_any b (str r4) B4 w' h.rd (by rw [str_size];exact k4)
    rw [hX,hB5]
    exact this
  have hsl:r1.length≤1048576:=k1
  clear hR hl hll hTT hr1 hB1 hP hA hB3 hr3 hC hB4 hr4 hX hB5 k1 ksum kall k2 k3 k4 kT kA kC kv2 kv3 hwA hwE hwb hAA hEE hbb hAE hEb hwa1 hwe1 hS0 hT hs
  go_enter Tryz.func125,Tryz.ntmps125
  go_upto_region 1 with fail
  rw [←HWA.out,←HAA.out]
  go_upto_region 2 with fail
  rw [←HWE.out,←HEE.out]
  have e5:=HS0.out.o5
  go_upto_region 3 with fail
  rw [←HWB.out,←HBB.out]
  go_upto_region 4 with (go_at_call 143;((with_reducible refine (C1.out).mono ?_);rintro e w4 ⟨rfl,hg4,hr4⟩;have hS4:=HS0.out.call hg4 hr4;have c4:=(cm_at hS4.e).1;have f4:=(cm_frz hS4.e).1))
  have hS5:=hS4.store 0 (.string T) (cs':=#[.string T,.slice none 0 0,.string ⟨#[]⟩,.string ⟨#[]⟩,.int .i64 0,.int .i64 0,.string ⟨#[]⟩,.string ⟨#[]⟩,.int .i64 0,.int .i64 0,.string ⟨#[]⟩]) (by simp)
  obtain ⟨w5,hw5⟩:∃ w5,w5=w4.setCell ⟨E,0,none⟩ (.string T):=⟨_,rfl⟩
  rw [←hw5] at hS5 ⊢
  have HS5:=Lib.hid hS5
  clear hS5 hw5 c4 f4 hS4 hg4 hr4 C1 HWA HWE HWB HAA HEE HBB e5
  go_loopw [] (fun wr=>∃ (r:List UInt8) (B:Bool) (ps:List (List UInt8)) (v:Value),PSt w wr A E b base #[.string T,v,.string ⟨#[]⟩,.string ⟨#[]⟩,.int .i64 0,.int .i64 0,.string ⟨#[]⟩,.string ⟨#[]⟩,.int .i64 0,.int .i64 0,.string ⟨#[]⟩] (str r) B∧SOw wr base v ps∧Hid ((ps',r2,B2)=parsP r B ps)∧ps.length+r.length≤1048576) (fun wr=>restLen wr b)
  case atStart=>exact ⟨r1,B1,[],.slice none 0 0,HS5.out,SOw.nil _ _,HPP.out,by simpa using hsl⟩
  case round =>
    clear HS5 HPP
    obtain ⟨r,B,ps,v,hS,ho,HPP,hpl⟩:=hrel
    have hrl:r.length≤1048576:=by omega
    have HC2:=Lib.hid (C2.out wr _ r B hS hrl)
    obtain ⟨H,hH⟩:∃ H,H=Lib.hasPrefix r (wPar++[32]):=⟨_,rfl⟩
    rw [←hH] at HC2
    have HRL:=Lib.hid (restLen_eq hS.rd)
    rcases H with _|_
    case true =>
      have HPX:Hid ((ps',r2,B2)=parsP (valR r) ((B||!(valO r wPar))||!(isId (str (valV r wPar)))) (ps++[valV r wPar])):=by show _=_;rw [HPP.out,parsP_go hH.symm]
      have hlt:=valR_lt (has_ne (by decide) hH.symm)
      have HC3:=Lib.hid (fun w' (hb:Below wr.heap.size wr w')=>C3.out w' _ r B (hS.below hb) hrl)
      obtain ⟨U,hU⟩:∃ U,U=str (valV r wPar):=⟨_,rfl⟩
      obtain ⟨r',hr'⟩:∃ r',r'=valR r:=⟨_,rfl⟩
      obtain ⟨B',hB'⟩:∃ B',B'=((B||!(valO r wPar))||!(isId U)):=⟨_,rfl⟩
      have hUl:valV r wPar=U.data.toList:=by rw [hU];rfl
      rw [←hU,←hr',←hB'] at HC3
      rw [←hU,←hr',←hB',hUl] at HPX
      rw [←hr'] at hlt
      obtain ⟨L,hL⟩:∃ L,L=ps.length:=⟨_,rfl⟩
      obtain ⟨pv,cv,rfl,-⟩:=ho.rw
      rw [←hL] at ho hpl hS
      have HL:=Lib.hid hL
      have HS:=Lib.hid hS
      have HO:=Lib.hid ho
      have hbd:Below wr.heap.size wr wr.drew:=(Below.refl _ _).drew
      have c1:wr.drew.cell? ⟨E,1,none⟩=some (.slice pv L cv):=cell_bel (cm_at hS.e).2.1 hbd
      have hLm:L+1≤1048576:=by omega
      have HPUT:Hid (∀ (w4 w6:World) (g6 c6:Nat) (ob:Obj),wr.drew.grownBy w4 (some b)→Rd w4 b (str r') B'→w6.ownsRow base 9 1 (.slice (some ⟨g6,0,none⟩) (L+1) c6) (L+1) (strs ps++[.string U])→(w4.alloc ob).grownBy w6 (Value.slice pv L cv).ownBlock →
          w6.cell? ⟨E,1,none⟩=some (.slice pv L cv)∧w6.frozen? ⟨E,1,none⟩=false∧PSt w (w6.setCell ⟨E,1,none⟩ (.slice (some ⟨g6,0,none⟩) (L+1) c6)) A E b base #[.string T,.slice (some ⟨g6,0,none⟩) (L+1) c6,.string ⟨#[]⟩,.string ⟨#[]⟩,.int .i64 0,.int .i64 0,.string ⟨#[]⟩,.string ⟨#[]⟩,.int .i64 0,.int .i64 0,.string ⟨#[]⟩] (str r') B'∧SOw (w6.setCell ⟨E,1,none⟩ (.slice (some ⟨g6,0,none⟩) (L+1) c6)) base (.slice (some ⟨g6,0,none⟩) (L+1) c6) (ps++[U.data.toList])):=fun w4 w6 g6 c6 ob hg4 hr4 ho6 hg6=>by
        have h4:=(HS.out.below hbd).call hg4 hr4
        have ho4:SOw w4 base (.slice pv L cv) ps:=(HO.out.below hbd).grown hg4 h4.o4
        have hEb:E<base:=by have:=h4.o3;have:=h4.o4;omega
        obtain ⟨q1,q2,q3,q4,q5,q6⟩:=par_put h4.rd h4.e ho4 h4.o4 hEb (by have:=h4.o3;omega) h4.o5 ho6 HL.out hg6
        have hA6:w6.heap[A]?=w4.heap[A]?:=(hg6.block A (by have:=row_lt h4.a;simp;omega) (ho4.apart (by have:=h4.o2;omega))).trans (Below.heap_alloc w4 ob A (row_lt h4.a))
        have hb6:Below w.heap.size w w6:=(ho4.bel1 h4.bel (by have:=h4.o1;have:=h4.o2;omega) (by have:=h4.o1;have:=h4.o2;have:=h4.o5;omega) hg6)
        exact ⟨q1,q2,⟨q3,q4,(Below.heap_setCell _ ⟨E,1,none⟩ _ A (by show A≠E;have:=h4.o2;omega)).trans (hA6.trans h4.a),hb6.setCell (p:=⟨E,1,none⟩) (by show _≤E;have:=h4.o1;have:=h4.o2;omega) _,h4.o1,h4.o2,h4.o3,h4.o4,q6⟩,q5⟩
      have HO4:Hid (∀ (w4:World) (ob:Obj),wr.drew.grownBy w4 (some b)→(w4.alloc ob).ownsRow base 9 1 (.slice pv L cv) L (strs ps)∧base≤(w4.alloc ob).heap.size):=fun w4 ob hg4=>by
        have h1:SOw w4 base (.slice pv L cv) ps:=(HO.out.below hbd).grown hg4 HS.out.o4
        have h2:w4.ownsRow base 9 1 (.slice pv L cv) L (strs ps):=by rw [HL.out];exact (by unfold SOw at h1;rw [←HL.out] at h1 ⊢;exact h1)
        exact ⟨h2.alloc _,by have:=HS.out.o5;have:=hg4.size;have:=hbd.size;simp;omega⟩
      have HCL:Hid (∀ (w4:World),wr.drew.grownBy w4 (some b)→w4.cell? ⟨E,1,none⟩=some (.slice pv L cv)∧∀ ob,(w4.alloc ob).cell? ⟨E,1,none⟩=some (.slice pv L cv)):=fun w4 hg4=>by
        have h1:w4.cell? ⟨E,1,none⟩=some (.slice pv L cv):=gb_cell hg4 (by have:=HS.out.o3;omega) c1
        exact ⟨h1,fun ob=>cell_bel h1 (below_new (Below.refl _ _) ob)⟩
      clear hU hr' hB' hUl hL hS ho hH HPP
      go_upto_region 5 with (go_at_call 144;((with_reducible refine HC2.out.mono ?_);rintro e w3 ⟨rfl,rfl⟩))
      obtain ⟨i0,hi,hz0,hz1,hz2⟩:=info_parts Tryz.infoStr
      go_region_law (first
        | (refine step_append_lies _ (by rfl) _ _ _ (by rfl) base 9 i0 (.string ⟨#[]⟩) 1 16 Tryz.underlying41 hi hz0 hz1 hz2 rfl (by omega) _ L _ (by rfl) (HO4.out _ _ hg4).1 ⟨w4.heap.size,0,none⟩ 1 1 [.string U] (by rfl) (by rfl) (World.news_of_block (heap_alloc_new _ _)) (by simp [Value.oneCell']) (by omega) (by unfold maxLen;omega) (by omega) (HO4.out _ _ hg4).2 _ rfl ?_;intro g6 c6 w6 ho6 hg6 hat6 hlt6;obtain ⟨m1,m2,m3,m4⟩:=HPUT.out _ _ _ _ _ hg4 hr4 ho6 hg6)
        | (go_simp;go_at_call 143;((with_reducible refine (HC3.out _ hbd).mono ?_);rintro e w4 ⟨rfl,hg4,hr4⟩;have c4:=(HCL.out w4 hg4).1;have c5:=(HCL.out w4 hg4).2)))
      all_goals
        have HM3:=Lib.hid m3
        have HM4:=Lib.hid m4
        clear m3 m4 ho6 hg6 hat6 hlt6 hi hz0 hz1 hz2 hg4 hr4
        go_wp2
        go_roundw
        case rel=>exact ⟨r',B',ps++[U.data.toList],_,HM3.out,HM4.out,HPX.out,by have:=HL.out;simp;omega⟩
        case measure =>
          rw [restLen_eq HM3.out.rd,HRL.out,str_size,str_size]
          exact hlt
    have hPX:(ps',r2,B2)=(ps,r,B):=by rw [HPP.out,parsP_end hH.symm]
    simp only [Prod.mk.injEq] at hPX
    obtain ⟨rfl,rfl,rfl⟩:=hPX
    have HS:=Lib.hid hS
    have HO:=Lib.hid ho
    clear hS ho HPP hH hpl hrl HRL C2 C3 hsl
    go_upto_region 6 with (go_at_call 144;((with_reducible refine HC2.out.mono ?_);rintro e w3 ⟨rfl,rfl⟩))
    go_upto_region 7 with (go_at_call 145;((with_reducible refine (C4.out _ _ HS.out).mono ?_);rintro e w4 ⟨rfl,hg4,hr4⟩;have hS4:=HS.out.call hg4 hr4;obtain ⟨-,-,c2,c3,c4,c5,-,-,-,-,-⟩:=cm_at hS4.e;obtain ⟨-,-,f2,f3,f4,f5,-,-,-,-,-⟩:=cm_frz hS4.e))
    have hEb:E<base:=by have:=HS.out.o3;have:=HS.out.o4;omega
    have HEB:=Lib.hid hEb
    have ho4:=HO.out.grown hg4 HS.out.o4
    have hS5:=(((hS4.store 2 (.string an) (cs':=#[.string T,v,.string an,.string ⟨#[]⟩,.int .i64 0,.int .i64 0,.string ⟨#[]⟩,.string ⟨#[]⟩,.int .i64 0,.int .i64 0,.string ⟨#[]⟩]) (by simp)).store 3 (.string am) (cs':=#[.string T,v,.string an,.string am,.int .i64 0,.int .i64 0,.string ⟨#[]⟩,.string ⟨#[]⟩,.int .i64 0,.int .i64 0,.string ⟨#[]⟩]) (by simp)).store 4 (.int .i64 aT) (cs':=#[.string T,v,.string an,.string am,.int .i64 aT,.int .i64 0,.string ⟨#[]⟩,.string ⟨#[]⟩,.int .i64 0,.int .i64 0,.string ⟨#[]⟩]) (by simp)).store 5 (.int .i64 az) (cs':=#[.string T,v,.string an,.string am,.int .i64 aT,.int .i64 az,.string ⟨#[]⟩,.string ⟨#[]⟩,.int .i64 0,.int .i64 0,.string ⟨#[]⟩]) (by simp)
    have HO5:=Lib.hid ((((ho4.store (k:=2) (u:=.string an) hEb).store (k:=3) (u:=.string am) hEb).store (k:=4) (u:=.int .i64 aT) hEb).store (k:=5) (u:=.int .i64 az) hEb)
    obtain ⟨w5,hw5⟩:∃ w5,w5=(((w4.setCell ⟨E,2,none⟩ (.string an)).setCell ⟨E,3,none⟩ (.string am)).setCell ⟨E,4,none⟩ (.int .i64 aT)).setCell ⟨E,5,none⟩ (.int .i64 az):=⟨_,rfl⟩
    rw [←hw5] at hS5 HO5 ⊢
    have HS5:=Lib.hid hS5
    clear hS5 hw5 c2 c3 c4 c5 f2 f3 f4 f5 hS4 hg4 hr4 ho4 hEb HS HO C4 HC2
    go_upto_region 8 with (go_at_call 145;((with_reducible refine (C5.out _ _ HS5.out).mono ?_);rintro e w6 ⟨rfl,hg4,hr4⟩;have hS4:=HS5.out.call hg4 hr4;obtain ⟨-,-,-,-,-,-,c2,c3,c4,c5,-⟩:=cm_at hS4.e;obtain ⟨-,-,-,-,-,-,f2,f3,f4,f5,-⟩:=cm_frz hS4.e))
    have hEb:=HEB.out
    have ho4:=HO5.out.grown hg4 HS5.out.o4
    have hS6:=(((hS4.store 6 (.string cn) (cs':=#[.string T,v,.string an,.string am,.int .i64 aT,.int .i64 az,.string cn,.string ⟨#[]⟩,.int .i64 0,.int .i64 0,.string ⟨#[]⟩]) (by simp)).store 7 (.string cm) (cs':=#[.string T,v,.string an,.string am,.int .i64 aT,.int .i64 az,.string cn,.string cm,.int .i64 0,.int .i64 0,.string ⟨#[]⟩]) (by simp)).store 8 (.int .i64 cT) (cs':=#[.string T,v,.string an,.string am,.int .i64 aT,.int .i64 az,.string cn,.string cm,.int .i64 cT,.int .i64 0,.string ⟨#[]⟩]) (by simp)).store 9 (.int .i64 cz) (cs':=#[.string T,v,.string an,.string am,.int .i64 aT,.int .i64 az,.string cn,.string cm,.int .i64 cT,.int .i64 cz,.string ⟨#[]⟩]) (by simp)
    have HO6:=Lib.hid ((((ho4.store (k:=6) (u:=.string cn) hEb).store (k:=7) (u:=.string cm) hEb).store (k:=8) (u:=.int .i64 cT) hEb).store (k:=9) (u:=.int .i64 cz) hEb)
    obtain ⟨w7,hw7⟩:∃ w7,w7=(((w6.setCell ⟨E,6,none⟩ (.string cn)).setCell ⟨E,7,none⟩ (.string cm)).setCell ⟨E,8,none⟩ (.int .i64 cT)).setCell ⟨E,9,none⟩ (.int .i64 cz):=⟨_,rfl⟩
    rw [←hw7] at hS6 HO6 ⊢
    have HS6:=Lib.hid hS6
    clear hS6 hw7 c2 c3 c4 c5 f2 f3 f4 f5 hS4 hg4 hr4 ho4 hEb HS5 HO5 C5
    go_upto_region 9 with (go_at_call 146;((with_reducible refine (C6.out _ _ HS6.out).mono ?_);rintro e w8 ⟨rfl,hg4,hr4⟩;have hS4:=HS6.out.call hg4 hr4;obtain ⟨-,-,-,-,-,-,-,-,-,-,c2⟩:=cm_at hS4.e;obtain ⟨-,-,-,-,-,-,-,-,-,-,f2⟩:=cm_frz hS4.e))
    have hEb:=HEB.out
    have ho4:=HO6.out.grown hg4 HS6.out.o4
    have hS7:=hS4.store 10 (.string X) (cs':=#[.string T,v,.string an,.string am,.int .i64 aT,.int .i64 az,.string cn,.string cm,.int .i64 cT,.int .i64 cz,.string X]) (by simp)
    have HO7:=Lib.hid (ho4.store (k:=10) (u:=.string X) hEb)
    obtain ⟨w9,hw9⟩:∃ w9,w9=w8.setCell ⟨E,10,none⟩ (.string X):=⟨_,rfl⟩
    rw [←hw9] at hS7 HO7 ⊢
    have HS7:=Lib.hid hS7
    obtain ⟨-,b1,-,-⟩:=hS7.rd.at
    clear hS7 hw9 c2 f2 hS4 hg4 hr4 ho4 hEb HS6 HO6 C6
    rcases B5 with _|_
    case true =>
      have HQ:Hid (R=(2,Cm.zero)):=by show _=_;rw [HR.out,if_pos rfl]
      obtain ⟨u0,u1,u2,u3,u4,u5,u6,u7,u8,u9,u10⟩:=cm_at HS7.out.a
      obtain ⟨f0,f1,f2,f3,f4,f5,f6,f7,f8,f9,f10⟩:=cm_frz HS7.out.a
      clear HR HO7
      go_wp2
      obtain ⟨d0,d1,d2,d3,d4,d5,d6,d7,d8,d9,d10⟩:=cm_at (cm_row (v0:=.string ⟨#[]⟩) (v1:=.slice none 0 0) (v2:=.string ⟨#[]⟩) (v3:=.string ⟨#[]⟩) (v4:=.int .i64 0) (v5:=.int .i64 0) (v6:=.string ⟨#[]⟩) (v7:=.string ⟨#[]⟩) (v8:=.int .i64 0) (v9:=.int .i64 0) (v10:=.string ⟨#[]⟩) HS7.out.a)
      refine bodyPost_ret (v:=.tuple #[.agg #[.string ⟨#[]⟩,.slice none 0 0,.string ⟨#[]⟩,.string ⟨#[]⟩,.int .i64 0,.int .i64 0,.string ⟨#[]⟩,.string ⟨#[]⟩,.int .i64 0,.int .i64 0,.string ⟨#[]⟩],.int .i64 2]) (by simp [results,Tryz.results125,go_sem,d0,d1,d2,d3,d4,d5,d6,d7,d8,d9,d10]) rfl (parCR_bad HQ.out (set11_below HS7.out.bel HS7.out.o1))
    have HR2:Hid (R=if chkC ⟨T,ps',⟨an,am,aT,az⟩,⟨cn,cm,cT,cz⟩,X⟩=0 then (0,⟨T,ps',⟨an,am,aT,az⟩,⟨cn,cm,cT,cz⟩,X⟩) else (chkC ⟨T,ps',⟨an,am,aT,az⟩,⟨cn,cm,cT,cz⟩,X⟩,Cm.zero)):=by show _=_;rw [HR.out,if_neg (by decide)]
    clear HR
    obtain ⟨pp,cc,rfl,hsr⟩:=HO7.out.rw
    obtain ⟨N,hN⟩:∃ N,N=ps'.length:=⟨_,rfl⟩
    have HCK:=Lib.hid (ccheck_any ⟨T,ps',⟨an,am,aT,az⟩,⟨cn,cm,cT,cz⟩,X⟩ pp N cc w9 hN hsr HPA.out (by have:=HPL.out;omega) HSZ.out)
    simp only at HCK
    have hSN:=HS7.out
    rw [←hN] at hSN
    have HSN:=Lib.hid hSN
    have HSR:=Lib.hid hsr
    have HN:=Lib.hid hN
    obtain ⟨K,hK⟩:∃ K,K=chkC ⟨T,ps',⟨an,am,aT,az⟩,⟨cn,cm,cT,cz⟩,X⟩:=⟨_,rfl⟩
    rw [←hK] at HCK HR2
    obtain ⟨u0,u1,u2,u3,u4,u5,u6,u7,u8,u9,u10⟩:=cm_at hSN.e
    clear hN hsr hSN HS7 hK HPA HPL HSZ
    by_cases h0:K=0
    · have HQ:Hid (R=(0,⟨T,ps',⟨an,am,aT,az⟩,⟨cn,cm,cT,cz⟩,X⟩)):=by show _=_;rw [HR2.out,if_pos h0]
      have g0:((K:Int) != 0)=false:=by simp [h0]
      clear HR2 h0
      go_upto_region 14 with (go_at_call 147;((with_reducible refine (HCK.out).mono ?_);rintro e wx ⟨rfl,hb5⟩;have hS5:=HSN.out.below hb5;obtain ⟨p0,p1,p2,p3,p4,p5,p6,p7,p8,p9,p10⟩:=cm_at hS5.a;obtain ⟨f0,f1,f2,f3,f4,f5,f6,f7,f8,f9,f10⟩:=cm_frz hS5.a;obtain ⟨q0,q1,q2,q3,q4,q5,q6,q7,q8,q9,q10⟩:=cm_at hS5.e))
      have HS8:=Lib.hid hS5
      have HB5:=Lib.hid hb5
      clear hS5 hb5 HCK u0 u1 u2 u3 u4 u5 u6 u7 u8 u9 u10
      go_wp2
      obtain ⟨d0,d1,d2,d3,d4,d5,d6,d7,d8,d9,d10⟩:=cm_at (cm_row (v0:=.string T) (v1:=.slice pp N cc) (v2:=.string an) (v3:=.string am) (v4:=.int .i64 aT) (v5:=.int .i64 az) (v6:=.string cn) (v7:=.string cm) (v8:=.int .i64 cT) (v9:=.int .i64 cz) (v10:=.string X) HS8.out.a)
      refine bodyPost_ret (v:=.tuple #[.agg #[.string T,.slice pp N cc,.string an,.string am,.int .i64 aT,.int .i64 az,.string cn,.string cm,.int .i64 cT,.int .i64 cz,.string X],.int .i64 0]) (by simp [results,Tryz.results125,go_sem,d0,d1,d2,d3,d4,d5,d6,d7,d8,d9,d10]) rfl ?_
      rw [HQ.out]
      refine ⟨⟨pp,cc,by rw [HN.out];rfl,?_⟩,set11_below HS8.out.bel HS8.out.o1⟩
      exact SOw.srw (SOw.store11 (HO7.out.below HB5.out) (by have:=HS8.out.o2;have:=HEB.out;omega))
    · have HQ:Hid (R=(K,Cm.zero)):=by show _=_;rw [HR2.out,if_neg h0]
      have g0:((K:Int) != 0)=true:=by simp;omega
      clear HR2 h0
      go_upto_region 13 with (go_at_call 147;((with_reducible refine (HCK.out).mono ?_);rintro e wx ⟨rfl,hb5⟩;have hS5:=HSN.out.below hb5;obtain ⟨p0,p1,p2,p3,p4,p5,p6,p7,p8,p9,p10⟩:=cm_at hS5.a;obtain ⟨f0,f1,f2,f3,f4,f5,f6,f7,f8,f9,f10⟩:=cm_frz hS5.a))
      have HS8:=Lib.hid hS5
      clear hS5 hb5 HCK u0 u1 u2 u3 u4 u5 u6 u7 u8 u9 u10
      go_wp2
      obtain ⟨d0,d1,d2,d3,d4,d5,d6,d7,d8,d9,d10⟩:=cm_at (cm_row (v0:=.string ⟨#[]⟩) (v1:=.slice none 0 0) (v2:=.string ⟨#[]⟩) (v3:=.string ⟨#[]⟩) (v4:=.int .i64 0) (v5:=.int .i64 0) (v6:=.string ⟨#[]⟩) (v7:=.string ⟨#[]⟩) (v8:=.int .i64 0) (v9:=.int .i64 0) (v10:=.string ⟨#[]⟩) HS8.out.a)
      refine bodyPost_ret (v:=.tuple #[.agg #[.string ⟨#[]⟩,.slice none 0 0,.string ⟨#[]⟩,.string ⟨#[]⟩,.int .i64 0,.int .i64 0,.string ⟨#[]⟩,.string ⟨#[]⟩,.int .i64 0,.int .i64 0,.string ⟨#[]⟩],.int .i64 (K:Int)]) (by simp [results,Tryz.results125,go_sem,d0,d1,d2,d3,d4,d5,d6,d7,d8,d9,d10]) rfl (parCR_bad HQ.out (set11_below HS8.out.bel HS8.out.o1))
theorem tg_at {w:World} {E:Nat} {v0 v1 v2 v3 v4 v5 v6 v7:Value} (h:w.heap[E]?=some (.cells #[v0,v1,v2,v3,v4,v5,v6,v7] 80 (0,0))) :
  w.cell? ⟨E,0,none⟩=some v0∧w.cell? ⟨E,1,none⟩=some v1∧w.cell? ⟨E,2,none⟩=some v2∧w.cell? ⟨E,3,none⟩=some v3∧w.cell? ⟨E,4,none⟩=some v4∧w.cell? ⟨E,5,none⟩=some v5∧w.cell? ⟨E,6,none⟩=some v6∧w.cell? ⟨E,7,none⟩=some v7 :=
 ⟨cell_of_row _ _ 0 _ _ _ h,cell_of_row _ _ 1 _ _ _ h,cell_of_row _ _ 2 _ _ _ h,cell_of_row _ _ 3 _ _ _ h,cell_of_row _ _ 4 _ _ _ h,cell_of_row _ _ 5 _ _ _ h,cell_of_row _ _ 6 _ _ _ h,cell_of_row _ _ 7 _ _ _ h⟩
theorem tg_frz {w:World} {E:Nat} {v0 v1 v2 v3 v4 v5 v6 v7:Value} (h:w.heap[E]?=some (.cells #[v0,v1,v2,v3,v4,v5,v6,v7] 80 (0,0))) :
  w.frozen? ⟨E,0,none⟩=false∧w.frozen? ⟨E,1,none⟩=false∧w.frozen? ⟨E,2,none⟩=false∧w.frozen? ⟨E,3,none⟩=false∧w.frozen? ⟨E,4,none⟩=false∧w.frozen? ⟨E,5,none⟩=false∧w.frozen? ⟨E,6,none⟩=false∧w.frozen? ⟨E,7,none⟩=false:=⟨frozen_of_row _ _ 0 _ _ h,frozen_of_row _ _ 1 _ _ h,frozen_of_row _ _ 2 _ _ h,frozen_of_row _ _ 3 _ _ h,frozen_of_row _ _ 4 _ _ h,frozen_of_row _ _ 5 _ _ h,frozen_of_row _ _ 6 _ _ h,frozen_of_row _ _ 7 _ _ h⟩
theorem tg_row {w:World} {E:Nat} {c0 c1 c2 c3 c4 c5 c6 c7 v0 v1 v2 v3 v4 v5 v6 v7:Value} (h0:w.heap[E]?=some (.cells #[c0,c1,c2,c3,c4,c5,c6,c7] 80 (0,0))) :
  ((((((((w.setCell ⟨E,0,none⟩ v0).setCell ⟨E,1,none⟩ v1).setCell ⟨E,2,none⟩ v2).setCell ⟨E,3,none⟩ v3).setCell ⟨E,4,none⟩ v4).setCell ⟨E,5,none⟩ v5).setCell ⟨E,6,none⟩ v6).setCell ⟨E,7,none⟩ v7).heap[E]?=some (.cells #[v0,v1,v2,v3,v4,v5,v6,v7] 80 (0,0)):=by
 have h1:(w.setCell ⟨E,0,none⟩ v0).heap[E]?=some (.cells #[v0,c1,c2,c3,c4,c5,c6,c7] 80 (0,0)):=by
  have h:=heap_setCell_same w E 0 _ 80 v0 h0
  simp only [List.setIfInBounds_toArray,List.set_cons_zero,List.set_cons_succ] at h
  exact h
 have h2:((w.setCell ⟨E,0,none⟩ v0).setCell ⟨E,1,none⟩ v1).heap[E]?=some (.cells #[v0,v1,c2,c3,c4,c5,c6,c7] 80 (0,0)):=by
  have h:=heap_setCell_same (w.setCell ⟨E,0,none⟩ v0) E 1 _ 80 v1 h1
  simp only [List.setIfInBounds_toArray,List.set_cons_zero,List.set_cons_succ] at h
  exact h
 have h3:(((w.setCell ⟨E,0,none⟩ v0).setCell ⟨E,1,none⟩ v1).setCell ⟨E,2,none⟩ v2).heap[E]?=some (.cells #[v0,v1,v2,c3,c4,c5,c6,c7] 80 (0,0)):=by
  have h:=heap_setCell_same ((w.setCell ⟨E,0,none⟩ v0).setCell ⟨E,1,none⟩ v1) E 2 _ 80 v2 h2
  simp only [List.setIfInBounds_toArray,List.set_cons_zero,List.set_cons_succ] at h
  exact h
 have h4:((((w.setCell ⟨E,0,none⟩ v0).setCell ⟨E,1,none⟩ v1).setCell ⟨E,2,none⟩ v2).setCell ⟨E,3,none⟩ v3).heap[E]?=some (.cells #[v0,v1,v2,v3,c4,c5,c6,c7] 80 (0,0)):=by
  have h:=heap_setCell_same (((w.setCell ⟨E,0,none⟩ v0).setCell ⟨E,1,none⟩ v1).setCell ⟨E,2,none⟩ v2) E 3 _ 80 v3 h3
  simp only [List.setIfInBounds_toArray,List.set_cons_zero,List.set_cons_succ] at h
  exact h
 have h5:(((((w.setCell ⟨E,0,none⟩ v0).setCell ⟨E,1,none⟩ v1).setCell ⟨E,2,none⟩ v2).setCell ⟨E,3,none⟩ v3).setCell ⟨E,4,none⟩ v4).heap[E]?=some (.cells #[v0,v1,v2,v3,v4,c5,c6,c7] 80 (0,0)):=by
  have h:=heap_setCell_same ((((w.setCell ⟨E,0,none⟩ v0).setCell ⟨E,1,none⟩ v1).setCell ⟨E,2,none⟩ v2).setCell ⟨E,3,none⟩ v3) E 4 _ 80 v4 h4
  simp only [List.setIfInBounds_toArray,List.set_cons_zero,List.set_cons_succ] at h
  exact h
 have h6:((((((w.setCell ⟨E,0,none⟩ v0).setCell ⟨E,1,none⟩ v1).setCell ⟨E,2,none⟩ v2).setCell ⟨E,3,none⟩ v3).setCell ⟨E,4,none⟩ v4).setCell ⟨E,5,none⟩ v5).heap[E]?=some (.cells #[v0,v1,v2,v3,v4,v5,c6,c7] 80 (0,0)):=by
  have h:=heap_setCell_same (((((w.setCell ⟨E,0,none⟩ v0).setCell ⟨E,1,none⟩ v1).setCell ⟨E,2,none⟩ v2).setCell ⟨E,3,none⟩ v3).setCell ⟨E,4,none⟩ v4) E 5 _ 80 v5 h5
  simp only [List.setIfInBounds_toArray,List.set_cons_zero,List.set_cons_succ] at h
  exact h
 have h7:(((((((w.setCell ⟨E,0,none⟩ v0).setCell ⟨E,1,none⟩ v1).setCell ⟨E,2,none⟩ v2).setCell ⟨E,3,none⟩ v3).setCell ⟨E,4,none⟩ v4).setCell ⟨E,5,none⟩ v5).setCell ⟨E,6,none⟩ v6).heap[E]?=some (.cells #[v0,v1,v2,v3,v4,v5,v6,c7] 80 (0,0)):=by
  have h:=heap_setCell_same ((((((w.setCell ⟨E,0,none⟩ v0).setCell ⟨E,1,none⟩ v1).setCell ⟨E,2,none⟩ v2).setCell ⟨E,3,none⟩ v3).setCell ⟨E,4,none⟩ v4).setCell ⟨E,5,none⟩ v5) E 6 _ 80 v6 h6
  simp only [List.setIfInBounds_toArray,List.set_cons_zero,List.set_cons_succ] at h
  exact h
 have h8:((((((((w.setCell ⟨E,0,none⟩ v0).setCell ⟨E,1,none⟩ v1).setCell ⟨E,2,none⟩ v2).setCell ⟨E,3,none⟩ v3).setCell ⟨E,4,none⟩ v4).setCell ⟨E,5,none⟩ v5).setCell ⟨E,6,none⟩ v6).setCell ⟨E,7,none⟩ v7).heap[E]?=some (.cells #[v0,v1,v2,v3,v4,v5,v6,v7] 80 (0,0)):=by
  have h:=heap_setCell_same (((((((w.setCell ⟨E,0,none⟩ v0).setCell ⟨E,1,none⟩ v1).setCell ⟨E,2,none⟩ v2).setCell ⟨E,3,none⟩ v3).setCell ⟨E,4,none⟩ v4).setCell ⟨E,5,none⟩ v5).setCell ⟨E,6,none⟩ v6) E 7 _ 80 v7 h7
  simp only [List.setIfInBounds_toArray,List.set_cons_zero,List.set_cons_succ] at h
  exact h
 exact h8
theorem set8_below {B E:Nat} {w0 w:World} {v0 v1 v2 v3 v4 v5 v6 v7:Value} (h:Below B w0 w) (hE:B≤E):Below B w0 ((((((((w.setCell ⟨E,0,none⟩ v0).setCell ⟨E,1,none⟩ v1).setCell ⟨E,2,none⟩ v2).setCell ⟨E,3,none⟩ v3).setCell ⟨E,4,none⟩ v4).setCell ⟨E,5,none⟩ v5).setCell ⟨E,6,none⟩ v6).setCell ⟨E,7,none⟩ v7) :=
 ((((((((h.setCell (p:=⟨E,0,none⟩) hE _).setCell (p:=⟨E,1,none⟩) hE _).setCell (p:=⟨E,2,none⟩) hE _).setCell (p:=⟨E,3,none⟩) hE _).setCell (p:=⟨E,4,none⟩) hE _).setCell (p:=⟨E,5,none⟩) hE _).setCell (p:=⟨E,6,none⟩) hE _).setCell (p:=⟨E,7,none⟩) hE _)
def codeG (b1 b2 b3 b4 z:Bool) (xs:Nat):Nat:=if b1=false∨b2=true∨b3=false∨b4=false∨z=true then 1 else if 4096<xs then 4 else 0
theorem chkG_code (g:Tg):chkG g=codeG (isId g.o) (decide (wordL g.k=[])) (tagN g.n.data.toList) (okPn g.g) (decide (0≤Lib.indexByte g.x.data.toList 0)) g.x.size:=by
 rw [ib_any,chkG,okG,noZ,codeG]
 rcases isId g.o with _|_
 ·simp
 by_cases hk:wordL g.k=[]
 ·simp [hk]
 rcases tagN g.n.data.toList with _|_
 ·simp
 rcases okPn g.g with _|_
 ·simp
 rcases (g.x.data.toList.any fun b=>b==0) with _|_
 ·simp [hk]
 ·simp
theorem str_eqn (l:List UInt8):((str l).toList==(⟨#[]⟩:ByteArray).toList)=decide (l=[]):=by
 rw [ByteArray.toList_eq,ByteArray.toList_eq,str_list]
 show (l==[])=_
 cases l<;>rfl
set_option maxHeartbeats 4000000 in
set_option maxRecDepth 4000 in
theorem gcheck_any (g:Tg) (w:World) (hO:WoTab w)
  (hs:g.o.size≤140737488355328∧g.n.size≤140737488355328∧g.g.n.size≤140737488355328∧g.g.m.size≤140737488355328) :
  Calls Tryz.prog 150 #[.agg #[.string g.o,.int .i64 g.k,.string g.n,.string g.g.n,.string g.g.m,.int .i64 g.g.t,.int .i64 g.g.z,.string g.x]] w
   fun e w'=>e=.returned (.int .i64 (chkG g:Int))∧Below w.heap.size w w':=by
 obtain ⟨R,hR⟩:∃ R,R=chkG g:=⟨_,rfl⟩
 rw [←hR]
 rw [chkG_code] at hR
 obtain ⟨t,k,n,⟨an,am,aT,az⟩,x⟩:=g
 simp only at *
 obtain ⟨hs1,hs2,hs3,hs4⟩:=hs
 obtain ⟨b1,hb1⟩:∃ b,b=isId t:=⟨_,rfl⟩
 obtain ⟨b2,hb2⟩:∃ b,b=decide (wordL k=[]):=⟨_,rfl⟩
 obtain ⟨b3,hb3⟩:∃ b,b=tagN n.data.toList:=⟨_,rfl⟩
 obtain ⟨b4,hb4⟩:∃ b,b=okPn ⟨an,am,aT,az⟩:=⟨_,rfl⟩
 obtain ⟨z,hz⟩:∃ b,b=decide (0≤Lib.indexByte x.data.toList 0):=⟨_,rfl⟩
 rw [←hb1,←hb2,←hb3,←hb4,←hz] at hR
 have HR:=Lib.hid hR
 obtain ⟨w1,hw1⟩:∃ w1,w1=w.alloc (.cells #[.string t,.int .i64 k,.string n,.string an,.string am,.int .i64 aT,.int .i64 az,.string x] 80):=⟨_,rfl⟩
 have hx:=heap_alloc_new w (.cells #[.string t,.int .i64 k,.string n,.string an,.string am,.int .i64 aT,.int .i64 az,.string x] 80)
 rw [←hw1] at hx
 have hbx:Below w.heap.size w w1:=by rw [hw1];exact below_new (Below.refl _ _) _
 have hlt:w.heap.size<w1.heap.size:=row_lt hx
 obtain ⟨W,hW⟩:∃ W,W=str (wordL k):=⟨_,rfl⟩
 have hWe:(W.toList==(⟨#[]⟩:ByteArray).toList)=b2:=by rw [hW,hb2];exact str_eqn _
 have hWe2:(W.toList==[])=b2:=by
  rw [←hWe,ByteArray.toList_eq ⟨#[]⟩]
 have HI:Hid (∀ w',Calls Tryz.prog 170 #[.string t] w' fun e w''=>e=.returned (.bool b1)∧w'=w''):=fun w'=>by rw [hb1];exact is_any t w' hs1
 have HD:Hid (Calls Tryz.prog 107 #[.int .i64 k] w1 fun e w''=>e=.returned (.string W)∧w1=w''):=(word_any k w1 (hO.below hbx)).mono fun e w' ⟨he,hw⟩=>⟨by rw [he,hW],hw.symm⟩
 have HN:Hid (∀ w',Calls Tryz.prog 179 #[.string n] w' fun e w''=>e=.returned (.bool b3)∧w'=w''):=fun w'=>by
  rw [hb3]
  exact (tagName_any n w' hs2).mono fun e w'' ⟨he,hw⟩=>⟨he,hw.symm⟩
 have HA:Hid (∀ w',Below w1.heap.size w1 w'→Calls Tryz.prog 175 #[.agg #[.string an,.string am,.int .i64 aT,.int .i64 az]] w' fun e w''=>e=.returned (.bool b4)∧Below w1.heap.size w1 w''):=fun w' hb=>by
  rw [hb4]
  exact (person_any ⟨an,am,aT,az⟩ w' hs3 hs4).mono fun e w'' ⟨he,hw⟩=>⟨he,hb.trans (hw.mono hb.size)⟩
 have HZ:Hid (∀ w',Calls Tryz.prog 176 #[.string x,.string ⟨#[0]⟩] w' fun e w''=>e=.returned (.bool z)∧w'=w''):=fun w'=>by
  rw [hz]
  exact (Tryz.strings_Contains_one x 0 w').mono fun e w'' ⟨he,hw⟩=>⟨he,hw.symm⟩
 have HX:=Lib.hid hx
 have HLT:=Lib.hid hlt
 have HBX:=Lib.hid hbx
 have HW1:=Lib.hid hw1
 have hb0:=Below.refl w1.heap.size w1
 obtain ⟨x0,x1,x2,x3,x4,x5,x6,x7⟩:=tg_at hx
 clear hR hs1 hs2 hs3 hs4 hb1 hb2 hb3 hb4 hz hw1 hx hbx hlt hW hO
 rcases b1 with _|_
 ·have HQ:Hid (R=1):=by show _=_;rw [HR.out,codeG,if_pos (.inl rfl)]
  clear HR
  go_enter Tryz.func150,Tryz.ntmps150
  go_upto_region 1 with fail
  rw [←HW1.out]
  go_wp2_with (first
     | (go_at_call 170;((with_reducible refine (HI.out _).mono ?_);rintro e wa ⟨rfl,rfl⟩))
     | (go_at_call 107;((with_reducible refine (HD.out).mono ?_);rintro e wb ⟨rfl,rfl⟩))
     | (go_at_call 179;((with_reducible refine (HN.out _).mono ?_);rintro e wc ⟨rfl,rfl⟩))
     | (go_at_call 175;((with_reducible refine (HA.out _ hb0).mono ?_);rintro e wd ⟨rfl,hb3⟩;obtain ⟨u0,u1,u2,u3,u4,u5,u6,u7⟩:=tg_at ((hb3.block _ HLT.out).trans HX.out)))
     | (go_at_call 176;((with_reducible refine (HZ.out _).mono ?_);rintro e we ⟨rfl,rfl⟩)))
  go_ret
  exact ⟨by rw [HQ.out];rfl,HBX.out.trans (hb0.mono HBX.out.size)⟩
 rcases b2 with _|_
 case true =>
  have HQ:Hid (R=1):=by show _=_;rw [HR.out,codeG,if_pos (.inr (.inl rfl))]
  clear HR
  go_enter Tryz.func150,Tryz.ntmps150
  go_upto_region 1 with fail
  rw [←HW1.out]
  go_wp2_with (first
     | (go_at_call 170;((with_reducible refine (HI.out _).mono ?_);rintro e wa ⟨rfl,rfl⟩))
     | (go_at_call 107;((with_reducible refine (HD.out).mono ?_);rintro e wb ⟨rfl,rfl⟩))
     | (go_at_call 179;((with_reducible refine (HN.out _).mono ?_);rintro e wc ⟨rfl,rfl⟩))
     | (go_at_call 175;((with_reducible refine (HA.out _ hb0).mono ?_);rintro e wd ⟨rfl,hb3⟩;obtain ⟨u0,u1,u2,u3,u4,u5,u6,u7⟩:=tg_at ((hb3.block _ HLT.out).trans HX.out)))
     | (go_at_call 176;((with_reducible refine (HZ.out _).mono ?_);rintro e we ⟨rfl,rfl⟩)))
  go_ret
  exact ⟨by rw [HQ.out];rfl,HBX.out.trans (hb0.mono HBX.out.size)⟩
 rcases b3 with _|_
 ·have HQ:Hid (R=1):=by show _=_;rw [HR.out,codeG,if_pos (.inr (.inr (.inl rfl)))]
  clear HR
  go_enter Tryz.func150,Tryz.ntmps150
  go_upto_region 1 with fail
  rw [←HW1.out]
  go_wp2_with (first
     | (go_at_call 170;((with_reducible refine (HI.out _).mono ?_);rintro e wa ⟨rfl,rfl⟩))
     | (go_at_call 107;((with_reducible refine (HD.out).mono ?_);rintro e wb ⟨rfl,rfl⟩))
     | (go_at_call 179;((with_reducible refine (HN.out _).mono ?_);rintro e wc ⟨rfl,rfl⟩))
     | (go_at_call 175;((with_reducible refine (HA.out _ hb0).mono ?_);rintro e wd ⟨rfl,hb3⟩;obtain ⟨u0,u1,u2,u3,u4,u5,u6,u7⟩:=tg_at ((hb3.block _ HLT.out).trans HX.out)))
     | (go_at_call 176;((with_reducible refine (HZ.out _).mono ?_);rintro e we ⟨rfl,rfl⟩)))
  go_ret
  exact ⟨by rw [HQ.out];rfl,HBX.out.trans (hb0.mono HBX.out.size)⟩
 rcases b4 with _|_
 ·have HQ:Hid (R=1):=by show _=_;rw [HR.out,codeG,if_pos (.inr (.inr (.inr (.inl rfl))))]
  clear HR
  go_enter Tryz.func150,Tryz.ntmps150
  go_upto_region 1 with fail
  rw [←HW1.out]
  go_wp2_with (first
     | (go_at_call 170;((with_reducible refine (HI.out _).mono ?_);rintro e wa ⟨rfl,rfl⟩))
     | (go_at_call 107;((with_reducible refine (HD.out).mono ?_);rintro e wb ⟨rfl,rfl⟩))
     | (go_at_call 179;((with_reducible refine (HN.out _).mono ?_);rintro e wc ⟨rfl,rfl⟩))
     | (go_at_call 175;((with_reducible refine (HA.out _ hb0).mono ?_);rintro e wd ⟨rfl,hb3⟩;obtain ⟨u0,u1,u2,u3,u4,u5,u6,u7⟩:=tg_at ((hb3.block _ HLT.out).trans HX.out)))
     | (go_at_call 176;((with_reducible refine (HZ.out _).mono ?_);rintro e we ⟨rfl,rfl⟩)))
  go_ret
  exact ⟨by rw [HQ.out];rfl,HBX.out.trans (hb3.mono HBX.out.size)⟩
 rcases z with _|_
 case true =>
  have HQ:Hid (R=1):=by show _=_;rw [HR.out,codeG,if_pos (.inr (.inr (.inr (.inr rfl))))]
  clear HR
  go_enter Tryz.func150,Tryz.ntmps150
  go_upto_region 1 with fail
  rw [←HW1.out]
  go_wp2_with (first
     | (go_at_call 170;((with_reducible refine (HI.out _).mono ?_);rintro e wa ⟨rfl,rfl⟩))
     | (go_at_call 107;((with_reducible refine (HD.out).mono ?_);rintro e wb ⟨rfl,rfl⟩))
     | (go_at_call 179;((with_reducible refine (HN.out _).mono ?_);rintro e wc ⟨rfl,rfl⟩))
     | (go_at_call 175;((with_reducible refine (HA.out _ hb0).mono ?_);rintro e wd ⟨rfl,hb3⟩;obtain ⟨u0,u1,u2,u3,u4,u5,u6,u7⟩:=tg_at ((hb3.block _ HLT.out).trans HX.out)))
     | (go_at_call 176;((with_reducible refine (HZ.out _).mono ?_);rintro e we ⟨rfl,rfl⟩)))
  go_ret
  exact ⟨by rw [HQ.out];rfl,HBX.out.trans (hb3.mono HBX.out.size)⟩
 have HR2:Hid (R=if 4096<x.size then 4 else 0):=by show _=_;rw [HR.out,codeG,if_neg (by simp)]
 clear HR
 by_cases h1:4096<x.size
 ·have HQ:Hid (R=4):=by show _=_;rw [HR2.out,if_pos h1]
  have g1:(4096:Int)<(x.size:Int):=by omega
  go_enter Tryz.func150,Tryz.ntmps150
  go_upto_region 1 with fail
  rw [←HW1.out]
  go_wp2_with (first
   | (go_at_call 170;((with_reducible refine (HI.out _).mono ?_);rintro e wa ⟨rfl,rfl⟩))
   | (go_at_call 107;((with_reducible refine (HD.out).mono ?_);rintro e wb ⟨rfl,rfl⟩))
   | (go_at_call 179;((with_reducible refine (HN.out _).mono ?_);rintro e wc ⟨rfl,rfl⟩))
   | (go_at_call 175;((with_reducible refine (HA.out _ hb0).mono ?_);rintro e wd ⟨rfl,hb3⟩;obtain ⟨u0,u1,u2,u3,u4,u5,u6,u7⟩:=tg_at ((hb3.block _ HLT.out).trans HX.out)))
   | (go_at_call 176;((with_reducible refine (HZ.out _).mono ?_);rintro e we ⟨rfl,rfl⟩)))
  go_ret
  exact ⟨by rw [HQ.out];rfl,HBX.out.trans (hb3.mono HBX.out.size)⟩
 ·have HQ:Hid (R=0):=by show _=_;rw [HR2.out,if_neg h1]
  have g1:¬ (4096:Int)<(x.size:Int):=by omega
  go_enter Tryz.func150,Tryz.ntmps150
  go_upto_region 1 with fail
  rw [←HW1.out]
  go_wp2_with (first
   | (go_at_call 170;((with_reducible refine (HI.out _).mono ?_);rintro e wa ⟨rfl,rfl⟩))
   | (go_at_call 107;((with_reducible refine (HD.out).mono ?_);rintro e wb ⟨rfl,rfl⟩))
   | (go_at_call 179;((with_reducible refine (HN.out _).mono ?_);rintro e wc ⟨rfl,rfl⟩))
   | (go_at_call 175;((with_reducible refine (HA.out _ hb0).mono ?_);rintro e wd ⟨rfl,hb3⟩;obtain ⟨u0,u1,u2,u3,u4,u5,u6,u7⟩:=tg_at ((hb3.block _ HLT.out).trans HX.out)))
   | (go_at_call 176;((with_reducible refine (HZ.out _).mono ?_);rintro e we ⟨rfl,rfl⟩)))
  go_ret
  exact ⟨by rw [HQ.out];rfl,HBX.out.trans (hb3.mono HBX.out.size)⟩
structure GSt (w0 w:World) (A E b:Nat) (cs:Array Value) (r:ByteArray) (B:Bool):Prop where
  rd:Rd w b r B
  e:w.heap[E]?=some (.cells cs 80 (0,0))
  a:w.heap[A]?=some (.cells #[.string ⟨#[]⟩,.int .i64 0,.string ⟨#[]⟩,.string ⟨#[]⟩,.string ⟨#[]⟩,.int .i64 0,.int .i64 0,.string ⟨#[]⟩] 80 (0,0))
  bel:Below w0.heap.size w0 w
  o1:w0.heap.size≤A
  o2:A<E
  o3:E<b
theorem GSt.call {w0 w w':World} {A E b:Nat} {cs:Array Value} {r r':ByteArray} {B B':Bool} (h:GSt w0 w A E b cs r B) (hg:w.grownBy w' (some b)) (hr:Rd w' b r' B'):GSt w0 w' A E b cs r' B' :=
  ⟨hr,(hg.block E (row_lt h.e) (by have:=h.o3;simp;omega)).trans h.e,(hg.block A (row_lt h.a) (by have:=h.o2;have:=h.o3;simp;omega)).trans h.a,
   h.bel.grown hg (by have:=h.o1;have:=row_lt h.a;omega) (fun j hj=>by cases hj;have:=h.o1;have:=h.o2;have:=h.o3;omega),h.o1,h.o2,h.o3⟩
theorem GSt.below {w0 w w':World} {A E b:Nat} {cs:Array Value} {r:ByteArray} {B:Bool} (h:GSt w0 w A E b cs r B) (hb:Below w.heap.size w w'):GSt w0 w' A E b cs r B :=
  h.call (gb_below b hb) (h.rd.below hb)
theorem GSt.store {w0 w:World} {A E b:Nat} {cs cs':Array Value} {r:ByteArray} {B:Bool} (h:GSt w0 w A E b cs r B) (k:Nat) (v:Value) (hc:cs.setIfInBounds k v=cs'):GSt w0 (w.setCell ⟨E,k,none⟩ v) A E b cs' r B :=
  ⟨(Below.heap_setCell _ ⟨E,k,none⟩ v b (by show b≠E;have:=h.o3;omega)).trans h.rd,by rw [←hc];exact heap_setCell_same w E k cs 80 v h.e,
   (Below.heap_setCell _ ⟨E,k,none⟩ v A (by show A≠E;have:=h.o2;omega)).trans h.a,h.bel.setCell (p:=⟨E,k,none⟩) (by show _≤E;have:=h.o1;have:=h.o2;omega) v,h.o1,h.o2,h.o3⟩
def ParGR (R:Nat×Tg) (w:World) (e:Ending) (w':World):Prop :=
  e=.returned (.tuple #[.agg #[.string R.2.o,.int .i64 R.2.k,.string R.2.n,.string R.2.g.n,.string R.2.g.m,.int .i64 R.2.g.t,.int .i64 R.2.g.z,.string R.2.x],.int .i64 (R.1:Int)])∧Below w.heap.size w w'
theorem parGR_bad {R:Nat×Tg} {w w':World} {c:Nat} (h:R=(c,Tg.zero)) (hb:Below w.heap.size w w') :
    ParGR R w (.returned (.tuple #[.agg #[.string ⟨#[]⟩,.int .i64 0,.string ⟨#[]⟩,.string ⟨#[]⟩,.string ⟨#[]⟩,.int .i64 0,.int .i64 0,.string ⟨#[]⟩],.int .i64 (c:Int)])) w':=by
  subst h
  exact ⟨rfl,hb⟩
set_option maxHeartbeats 8000000 in
set_option maxRecDepth 8000 in
theorem gparse_any (s:ByteArray) (w:World) (hT:StrTab w) (hO:WoTab w) (hs:s.size≤1048576):Calls Tryz.prog 126 #[.string s] w (ParGR (parG s.data.toList) w):=by
  obtain ⟨R,hR⟩:∃ R,R=parG s.data.toList:=⟨_,rfl⟩
  rw [←hR]
  obtain ⟨l,hl⟩:∃ l,l=s.data.toList:=⟨_,rfl⟩
  have hll:l.length≤1048576:=by rw [hl,list_len];exact hs
  obtain ⟨T,hTT⟩:∃ T,T=str (valV l wObj):=⟨_,rfl⟩
  obtain ⟨r1,hr1⟩:∃ r1,r1=valR l:=⟨_,rfl⟩
  obtain ⟨B1,hB1⟩:∃ B1,B1=((false||!(valO l wObj))||!(isId (str (valV l wObj)))):=⟨_,rfl⟩
  obtain ⟨k,hk⟩:∃ k,k=kindL (valV r1 wTyp):=⟨_,rfl⟩
  obtain ⟨B2,hB2⟩:∃ B2,B2=((B1||!(valO r1 wTyp))||!(((k:Nat):Int) != 0)):=⟨_,rfl⟩
  obtain ⟨r2,hr2⟩:∃ r2,r2=valR r1:=⟨_,rfl⟩
  obtain ⟨N,hN⟩:∃ N,N=str (valV r2 wTag):=⟨_,rfl⟩
  obtain ⟨B3,hB3⟩:∃ B3,B3=(B2||!(valO r2 wTag)):=⟨_,rfl⟩
  obtain ⟨r3,hr3⟩:∃ r3,r3=valR r2:=⟨_,rfl⟩
  obtain ⟨⟨ac,⟨an,am,aT,az⟩⟩,hA⟩:∃ q,q=whoR (valV r3 wTgr):=⟨_,rfl⟩
  obtain ⟨B4,hB4⟩:∃ B4,B4=((B3||!(valO r3 wTgr))||!(((ac:Nat):Int) != 2)):=⟨_,rfl⟩
  obtain ⟨r4,hr4⟩:∃ r4,r4=valR r3:=⟨_,rfl⟩
  obtain ⟨X,hX⟩:∃ X,X=str (cutP r4 [10]):=⟨_,rfl⟩
  obtain ⟨B5,hB5⟩:∃ B5,B5=(B4||!(Lib.hasPrefix r4 [10])):=⟨_,rfl⟩
  have HR:Hid (R=if B5=true then (2,Tg.zero) else if chkG ⟨T,(k:Int),N,⟨an,am,aT,az⟩,X⟩=0 then (0,⟨T,(k:Int),N,⟨an,am,aT,az⟩,X⟩) else (chkG ⟨T,(k:Int),N,⟨an,am,aT,az⟩,X⟩,Tg.zero)):=by
    show _=_
    rw [hR,parG,←hl]
    have hp:pcG l=⟨valV l wObj,k,valV r2 wTag,(ac,⟨an,am,aT,az⟩),cutP r4 [10],B5⟩:=by
      simp only [pcG]
      rw [←hB1,←hr1,←hk,←hr2,←hB2,←hr3,←hB3,←hA,←hr4]
      simp only
      rw [←hB4,←hB5]
    rw [hp]
    subst hTT hX hN
    rfl
  have k1:r1.length≤1048576:=by rw [hr1];have:=valR_len l;omega
  have k2:r2.length≤1048576:=by rw [hr2];have:=valR_len r1;omega
  have k3:r3.length≤1048576:=by rw [hr3];have:=valR_len r2;omega
  have k4:r4.length≤1048576:=by rw [hr4];have:=valR_len r3;omega
  have kT:T.size≤1048576:=by rw [hTT,str_size];have:=valV_len l wObj;omega
  have kN:N.size≤1048576:=by rw [hN,str_size];have:=valV_len r2 wTag;omega
  have kA:=whoR_len (valV r3 wTgr)
  rw [←hA] at kA
  simp only at kA
  have kv3:=valV_len r3 wTgr
  have HSZ:Hid (T.size≤140737488355328∧N.size≤140737488355328∧an.size≤140737488355328∧am.size≤140737488355328):=⟨by omega,by omega,by omega,by omega⟩
  obtain ⟨wA,hwA⟩:∃ wA,wA=w.alloc (.cells #[.string ⟨#[]⟩,.int .i64 0,.string ⟨#[]⟩,.string ⟨#[]⟩,.string ⟨#[]⟩,.int .i64 0,.int .i64 0,.string ⟨#[]⟩] 80):=⟨_,rfl⟩
  obtain ⟨wE,hwE⟩:∃ wE,wE=wA.alloc (.cells #[.string ⟨#[]⟩,.int .i64 0,.string ⟨#[]⟩,.string ⟨#[]⟩,.string ⟨#[]⟩,.int .i64 0,.int .i64 0,.string ⟨#[]⟩] 80):=⟨_,rfl⟩
  obtain ⟨wb,hwb⟩:∃ wb,wb=wE.alloc (.cells #[.string s,.bool false] 162):=⟨_,rfl⟩
  obtain ⟨A,hAA⟩:∃ A,A=w.heap.size:=⟨_,rfl⟩
  obtain ⟨E,hEE⟩:∃ E,E=wA.heap.size:=⟨_,rfl⟩
  obtain ⟨b,hbb⟩:∃ b,b=wE.heap.size:=⟨_,rfl⟩
  have hAE:Below wA.heap.size wA wE:=by rw [hwE];exact below_new (Below.refl _ _) _
  have hEb:Below wE.heap.size wE wb:=by rw [hwb];exact below_new (Below.refl _ _) _
  have hwa1:wA.heap[A]?=some (.cells #[.string ⟨#[]⟩,.int .i64 0,.string ⟨#[]⟩,.string ⟨#[]⟩,.string ⟨#[]⟩,.int .i64 0,.int .i64 0,.string ⟨#[]⟩] 80 (0,0)):=by rw [hwA,hAA];exact heap_alloc_new w _
  have hwe1:wE.heap[E]?=some (.cells #[.string ⟨#[]⟩,.int .i64 0,.string ⟨#[]⟩,.string ⟨#[]⟩,.string ⟨#[]⟩,.int .i64 0,.int .i64 0,.string ⟨#[]⟩] 80 (0,0)):=by rw [hwE,hEE];exact heap_alloc_new wA _
  have hS0:GSt w wb A E b #[.string ⟨#[]⟩,.int .i64 0,.string ⟨#[]⟩,.string ⟨#[]⟩,.string ⟨#[]⟩,.int .i64 0,.int .i64 0,.string ⟨#[]⟩] s false:=by
    refine ⟨by rw [hwb,hbb];exact heap_alloc_new wE _,(hEb.block E (row_lt hwe1)).trans hwe1,(hEb.block A ?_).trans ((hAE.block A (row_lt hwa1)).trans hwa1),?_,by omega,?_,?_⟩
    · exact Nat.lt_of_lt_of_le (row_lt hwa1) hAE.size
    · have h1:Below w.heap.size w wA:=by rw [hwA];exact below_new (Below.refl _ _) _
      exact (h1.trans (hAE.mono h1.size)).trans (hEb.mono (Nat.le_trans h1.size hAE.size))
    · have:=row_lt hwa1;omega
    · have:=row_lt hwe1;omega
  have HS0:=Lib.hid hS0
  have HWA:=Lib.hid hwA
  have HWE:=Lib.hid hwE
  have HWB:=Lib.hid hwb
  have HAA:=Lib.hid hAA
  have HEE:=Lib.hid hEE
  have HBB:=Lib.hid hbb
  have HWO:=Lib.hid hO
  have hWb:∀ w' cs r B,GSt w w' A E b cs r B→w.heap.size≤b:=fun w' cs r B h=>by have:=h.o1;have:=h.o2;have:=h.o3;omega
  have C1:Hid (Calls Tryz.prog 143 #[.pointer (some ⟨b,0,none⟩),.string ⟨#[111,98,106,101,99,116]⟩] wb fun e w'=>e=.returned (.string T)∧wb.grownBy w' (some b)∧Rd w' b (str r1) B1):=by
    have:=rdId_any b s ⟨#[111,98,106,101,99,116]⟩ false wb hS0.rd (hT.below hS0.bel) hs (by decide)
    rw [←hl] at this
    rw [hTT,hr1,hB1]
    exact this
  have C2:Hid (∀ w' cs,GSt w w' A E b cs (str r1) B1→Calls Tryz.prog 148 #[.pointer (some ⟨b,0,none⟩),.string ⟨#[116,121,112,101]⟩] w' fun e w''=>e=.returned (.int .i64 (k:Int))∧w'.grownBy w'' (some b)∧Rd w'' b (str r2) B2):=fun w' cs h=>by
    have:=rdKind_any b (str r1) ⟨#[116,121,112,101]⟩ B1 w w' h.rd hT hO h.bel (hWb _ _ _ _ h) (by rw [str_size];exact k1) (by decide)
    rw [show (str r1).data.toList=r1 from rfl,show (⟨#[116,121,112,101]⟩:ByteArray).data.toList=wTyp from rfl,←hk,←hr2,←hB2] at this
    exact this
  have C3:Hid (∀ w' cs,GSt w w' A E b cs (str r2) B2→Calls Tryz.prog 149 #[.pointer (some ⟨b,0,none⟩),.string ⟨#[116,97,103]⟩] w' fun e w''=>e=.returned (.string N)∧w'.grownBy w'' (some b)∧Rd w'' b (str r3) B3):=fun w' cs h=>by
    have:=value_any b (str r2) ⟨#[116,97,103]⟩ B2 w' h.rd (hT.below h.bel) (by rw [str_size];exact k2) (by decide)
    rw [hN,hr3,hB3]
    exact this
  have C4:Hid (∀ w' cs,GSt w w' A E b cs (str r3) B3→Calls Tryz.prog 145 #[.pointer (some ⟨b,0,none⟩),.string ⟨#[116,97,103,103,101,114]⟩] w' fun e w''=>e=.returned (.agg #[.string an,.string am,.int .i64 aT,.int .i64 az])∧w'.grownBy w'' (some b)∧Rd w'' b (str r4) B4):=fun w' cs h=>by
    have:=rwho_any b (str r3) ⟨#[116,97,103,103,101,114]⟩ B3 w w' h.rd hT h.bel (hWb _ _ _ _ h) (by rw [str_size];exact k3) (by decide)
    rw [show (str r3).data.toList=r3 from rfl,show (⟨#[116,97,103,103,101,114]⟩:ByteArray).data.toList=wTgr from rfl,←hA,←hr4] at this
    simp only at this
    rw [hB4]
    exact this
  have C6:Hid (∀ w' cs,GSt w w' A E b cs (str r4) B4→Calls Tryz.prog 146 #[.pointer (some ⟨b,0,none⟩)] w' fun e w''=>e=.returned (.string X)∧w'.grownBy w'' (some b)∧Rd w'' b (str r4) B5):=fun w' cs h=>by
    have:=rtext_any b (str r4) B4 w' h.rd (by rw [str_size];exact k4)
    rw [hX,hB5]
    exact this
  clear hR hl hll hTT hr1 hB1 hk hB2 hr2 hN hB3 hr3 hA hB4 hr4 hX hB5 k1 k2 k3 k4 kT kN kA kv3 hwA hwE hwb hAA hEE hbb hAE hEb hwa1 hwe1 hS0 hT hO hs hWb
  go_enter Tryz.func126,Tryz.ntmps126
  go_upto_region 1 with fail
  rw [←HWA.out,←HAA.out]
  go_upto_region 2 with fail
  rw [←HWE.out,←HEE.out]
  go_upto_region 3 with fail
  rw [←HWB.out,←HBB.out]
  go_upto_region 4 with (go_at_call 143;((with_reducible refine (C1.out).mono ?_);rintro e w1 ⟨rfl,hg4,hr4⟩;have hS4:=HS0.out.call hg4 hr4;have c4:=(tg_at hS4.e).1;have f4:=(tg_frz hS4.e).1))
  have hS5:=hS4.store 0 (.string T) (cs':=#[.string T,.int .i64 0,.string ⟨#[]⟩,.string ⟨#[]⟩,.string ⟨#[]⟩,.int .i64 0,.int .i64 0,.string ⟨#[]⟩]) (by simp)
  obtain ⟨w2,hw2⟩:∃ w2,w2=w1.setCell ⟨E,0,none⟩ (.string T):=⟨_,rfl⟩
  rw [←hw2] at hS5 ⊢
  have HS5:=Lib.hid hS5
  clear hS5 hw2 c4 f4 hS4 hg4 hr4 C1 HWA HWE HWB HAA HEE HBB HS0
  go_upto_region 5 with (go_at_call 148;((with_reducible refine (C2.out _ _ HS5.out).mono ?_);rintro e w3 ⟨rfl,hg4,hr4⟩;have hS4:=HS5.out.call hg4 hr4;have c4:=(tg_at hS4.e).2.1;have f4:=(tg_frz hS4.e).2.1))
  have hS6:=hS4.store 1 (.int .i64 (k:Int)) (cs':=#[.string T,.int .i64 (k:Int),.string ⟨#[]⟩,.string ⟨#[]⟩,.string ⟨#[]⟩,.int .i64 0,.int .i64 0,.string ⟨#[]⟩]) (by simp)
  obtain ⟨w4,hw4⟩:∃ w4,w4=w3.setCell ⟨E,1,none⟩ (.int .i64 (k:Int)):=⟨_,rfl⟩
  rw [←hw4] at hS6 ⊢
  have HS6:=Lib.hid hS6
  clear hS6 hw4 c4 f4 hS4 hg4 hr4 C2 HS5
  go_upto_region 6 with (go_at_call 149;((with_reducible refine (C3.out _ _ HS6.out).mono ?_);rintro e w5 ⟨rfl,hg4,hr4⟩;have hS4:=HS6.out.call hg4 hr4;have c4:=(tg_at hS4.e).2.2.1;have f4:=(tg_frz hS4.e).2.2.1))
  have hS7:=hS4.store 2 (.string N) (cs':=#[.string T,.int .i64 (k:Int),.string N,.string ⟨#[]⟩,.string ⟨#[]⟩,.int .i64 0,.int .i64 0,.string ⟨#[]⟩]) (by simp)
  obtain ⟨w6,hw6⟩:∃ w6,w6=w5.setCell ⟨E,2,none⟩ (.string N):=⟨_,rfl⟩
  rw [←hw6] at hS7 ⊢
  have HS7:=Lib.hid hS7
  clear hS7 hw6 c4 f4 hS4 hg4 hr4 C3 HS6
  go_upto_region 7 with (go_at_call 145;((with_reducible refine (C4.out _ _ HS7.out).mono ?_);rintro e w7 ⟨rfl,hg4,hr4⟩;have hS4:=HS7.out.call hg4 hr4;obtain ⟨-,-,-,c2,c3,c4,c5,-⟩:=tg_at hS4.e;obtain ⟨-,-,-,f2,f3,f4,f5,-⟩:=tg_frz hS4.e))
  have hS8:=(((hS4.store 3 (.string an) (cs':=#[.string T,.int .i64 (k:Int),.string N,.string an,.string ⟨#[]⟩,.int .i64 0,.int .i64 0,.string ⟨#[]⟩]) (by simp)).store 4 (.string am) (cs':=#[.string T,.int .i64 (k:Int),.string N,.string an,.string am,.int .i64 0,.int .i64 0,.string ⟨#[]⟩]) (by simp)).store 5 (.int .i64 aT) (cs':=#[.string T,.int .i64 (k:Int),.string N,.string an,.string am,.int .i64 aT,.int .i64 0,.string ⟨#[]⟩]) (by simp)).store 6 (.int .i64 az) (cs':=#[.string T,.int .i64 (k:Int),.string N,.string an,.string am,.int .i64 aT,.int .i64 az,.string ⟨#[]⟩]) (by simp)
  obtain ⟨w8,hw8⟩:∃ w8,w8=(((w7.setCell ⟨E,3,none⟩ (.string an)).setCell ⟨E,4,none⟩ (.string am)).setCell ⟨E,5,none⟩ (.int .i64 aT)).setCell ⟨E,6,none⟩ (.int .i64 az):=⟨_,rfl⟩
  rw [←hw8] at hS8 ⊢
  have HS8:=Lib.hid hS8
  clear hS8 hw8 c2 c3 c4 c5 f2 f3 f4 f5 hS4 hg4 hr4 C4 HS7
  go_upto_region 8 with (go_at_call 146;((with_reducible refine (C6.out _ _ HS8.out).mono ?_);rintro e w9 ⟨rfl,hg4,hr4⟩;have hS4:=HS8.out.call hg4 hr4;obtain ⟨-,-,-,-,-,-,-,c2⟩:=tg_at hS4.e;obtain ⟨-,-,-,-,-,-,-,f2⟩:=tg_frz hS4.e))
  have hS9:=hS4.store 7 (.string X) (cs':=#[.string T,.int .i64 (k:Int),.string N,.string an,.string am,.int .i64 aT,.int .i64 az,.string X]) (by simp)
  obtain ⟨wy,hwy⟩:∃ wy,wy=w9.setCell ⟨E,7,none⟩ (.string X):=⟨_,rfl⟩
  rw [←hwy] at hS9 ⊢
  have HS9:=Lib.hid hS9
  obtain ⟨-,b1,-,-⟩:=hS9.rd.at
  clear hS9 hwy c2 f2 hS4 hg4 hr4 HS8 C6
  rcases B5 with _|_
  case true =>
    have HQ:Hid (R=(2,Tg.zero)):=by show _=_;rw [HR.out,if_pos rfl]
    obtain ⟨u0,u1,u2,u3,u4,u5,u6,u7⟩:=tg_at HS9.out.a
    obtain ⟨f0,f1,f2,f3,f4,f5,f6,f7⟩:=tg_frz HS9.out.a
    clear HR
    go_wp2
    obtain ⟨d0,d1,d2,d3,d4,d5,d6,d7⟩:=tg_at (tg_row (v0:=.string ⟨#[]⟩) (v1:=.int .i64 0) (v2:=.string ⟨#[]⟩) (v3:=.string ⟨#[]⟩) (v4:=.string ⟨#[]⟩) (v5:=.int .i64 0) (v6:=.int .i64 0) (v7:=.string ⟨#[]⟩) HS9.out.a)
    refine bodyPost_ret (v:=.tuple #[.agg #[.string ⟨#[]⟩,.int .i64 0,.string ⟨#[]⟩,.string ⟨#[]⟩,.string ⟨#[]⟩,.int .i64 0,.int .i64 0,.string ⟨#[]⟩],.int .i64 2]) (by simp [results,Tryz.results126,go_sem,d0,d1,d2,d3,d4,d5,d6,d7]) rfl (parGR_bad HQ.out (set8_below HS9.out.bel HS9.out.o1))
  have HR2:Hid (R=if chkG ⟨T,(k:Int),N,⟨an,am,aT,az⟩,X⟩=0 then (0,⟨T,(k:Int),N,⟨an,am,aT,az⟩,X⟩) else (chkG ⟨T,(k:Int),N,⟨an,am,aT,az⟩,X⟩,Tg.zero)):=by show _=_;rw [HR.out,if_neg (by decide)]
  clear HR
  have HCK:=Lib.hid (gcheck_any ⟨T,(k:Int),N,⟨an,am,aT,az⟩,X⟩ wy (HWO.out.below HS9.out.bel) HSZ.out)
  simp only at HCK
  obtain ⟨K,hK⟩:∃ K,K=chkG ⟨T,(k:Int),N,⟨an,am,aT,az⟩,X⟩:=⟨_,rfl⟩
  rw [←hK] at HCK HR2
  obtain ⟨u0,u1,u2,u3,u4,u5,u6,u7⟩:=tg_at HS9.out.e
  clear hK HSZ
  by_cases h0:K=0
  · have HQ:Hid (R=(0,⟨T,(k:Int),N,⟨an,am,aT,az⟩,X⟩)):=by show _=_;rw [HR2.out,if_pos h0]
    have g0:((K:Int) != 0)=false:=by simp [h0]
    clear HR2 h0
    go_upto_region 13 with (go_at_call 150;((with_reducible refine (HCK.out).mono ?_);rintro e wx ⟨rfl,hb5⟩;have hS5:=HS9.out.below hb5;obtain ⟨p0,p1,p2,p3,p4,p5,p6,p7⟩:=tg_at hS5.a;obtain ⟨f0,f1,f2,f3,f4,f5,f6,f7⟩:=tg_frz hS5.a;obtain ⟨q0,q1,q2,q3,q4,q5,q6,q7⟩:=tg_at hS5.e))
    have HSX:=Lib.hid hS5
    clear hS5 hb5 HCK u0 u1 u2 u3 u4 u5 u6 u7
    go_wp2
    obtain ⟨d0,d1,d2,d3,d4,d5,d6,d7⟩:=tg_at (tg_row (v0:=.string T) (v1:=.int .i64 (k:Int)) (v2:=.string N) (v3:=.string an) (v4:=.string am) (v5:=.int .i64 aT) (v6:=.int .i64 az) (v7:=.string X) HSX.out.a)
    refine bodyPost_ret (v:=.tuple #[.agg #[.string T,.int .i64 (k:Int),.string N,.string an,.string am,.int .i64 aT,.int .i64 az,.string X],.int .i64 0]) (by simp [results,Tryz.results126,go_sem,d0,d1,d2,d3,d4,d5,d6,d7]) rfl ?_
    rw [HQ.out]
    exact ⟨rfl,set8_below HSX.out.bel HSX.out.o1⟩
  · have HQ:Hid (R=(K,Tg.zero)):=by show _=_;rw [HR2.out,if_neg h0]
    have g0:((K:Int) != 0)=true:=by simp;omega
    clear HR2 h0
    go_upto_region 12 with (go_at_call 150;((with_reducible refine (HCK.out).mono ?_);rintro e wx ⟨rfl,hb5⟩;have hS5:=HS9.out.below hb5;obtain ⟨p0,p1,p2,p3,p4,p5,p6,p7⟩:=tg_at hS5.a;obtain ⟨f0,f1,f2,f3,f4,f5,f6,f7⟩:=tg_frz hS5.a))
    have HSX:=Lib.hid hS5
    clear hS5 hb5 HCK u0 u1 u2 u3 u4 u5 u6 u7
    go_wp2
    obtain ⟨d0,d1,d2,d3,d4,d5,d6,d7⟩:=tg_at (tg_row (v0:=.string ⟨#[]⟩) (v1:=.int .i64 0) (v2:=.string ⟨#[]⟩) (v3:=.string ⟨#[]⟩) (v4:=.string ⟨#[]⟩) (v5:=.int .i64 0) (v6:=.int .i64 0) (v7:=.string ⟨#[]⟩) HSX.out.a)
    refine bodyPost_ret (v:=.tuple #[.agg #[.string ⟨#[]⟩,.int .i64 0,.string ⟨#[]⟩,.string ⟨#[]⟩,.string ⟨#[]⟩,.int .i64 0,.int .i64 0,.string ⟨#[]⟩],.int .i64 (K:Int)]) (by simp [results,Tryz.results126,go_sem,d0,d1,d2,d3,d4,d5,d6,d7]) rfl (parGR_bad HQ.out (set8_below HSX.out.bel HSX.out.o1))
end Go.Proofs.YtnoopcenogbjiaaGreatDoor
