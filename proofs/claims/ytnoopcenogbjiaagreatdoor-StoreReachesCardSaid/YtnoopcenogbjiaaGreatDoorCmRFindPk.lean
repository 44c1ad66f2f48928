/-
 The walk of the reference's find.
-/
import Derived.Test.YtnoopcenogbjiaaGreatDoorCmAnyPk
import Derived.Test.YtnoopcenogbjiaaGreatDoorObWordPk
import Derived.Test.YtnoopcenogbjiaaGreatDoorRow
import Derived.Test.YtnoopcenogbjiaaGreatDoorCmIdmPk
set_option linter.unusedVariables false
set_option linter.unusedSimpArgs false
namespace Go.Proofs.YtnoopcenogbjiaaGreatDoor
open Go Go.RowKit
def findI (l t:List UInt8) (i:Nat):Int:=if Lib.index (l.drop i) t==-1 then -1 else Lib.index (l.drop i) t+i
theorem findI_past {l t:List UInt8} {i:Nat} (ht:0<t.length) (h:l.length<i+t.length):findI l t i=-1:=by
 have:Lib.index (l.drop i) t=-1:=Lib.index_past (i:=0) (fun e=>by rw [e] at ht;simp at ht) (fun _ h=>absurd h (Nat.not_lt_zero _)) (by rw [List.length_drop];omega)
 rw [findI,this]
 rfl
theorem findI_hit {l t:List UInt8} {i:Nat} (h:t.isPrefixOf (l.drop i)=true):findI l t i=i:=by
 have:Lib.index (l.drop i) t=0:=Lib.index_hit (i:=0) (fun _ h=>absurd h (Nat.not_lt_zero _)) (Nat.zero_le _) h
 rw [findI,this]
 simp
theorem findI_next {l t:List UInt8} {i:Nat} (hi:i<l.length) (h:t.isPrefixOf (l.drop i)=false):findI l t i=findI l t (i+1):=by
 unfold findI
 have hge:=Lib.index_ge (l.drop (i+1)) t
 rw [List.drop_eq_getElem_cons hi] at h ⊢
 rw [Lib.index,h]
 simp only [Bool.false_eq_true,if_false]
 by_cases hm:Lib.index (l.drop (i+1)) t=-1
 ·rw [hm];rfl
 ·have e1:(Lib.index (l.drop (i+1)) t==-1)=false:=by simpa using hm
  have e2:(Lib.index (l.drop (i+1)) t+1==-1)=false:=by rw [beq_eq_false_iff_ne];omega
  rw [e1]
  simp only [Bool.false_eq_true,if_false]
  rw [e2]
  simp only [Bool.false_eq_true,if_false]
  omega
theorem ext_pre {s t:ByteArray} {i:Nat} (h:i+t.size≤s.size):t.data.toList.isPrefixOf (s.data.toList.drop i)=(((s.extract i (i+t.size)).toList==t.toList)):=by
 rw [ByteArray.toList_eq,ByteArray.toList_eq,ext_bytes,Nat.add_sub_cancel_left,Bool.eq_iff_iff,List.isPrefixOf_iff_prefix,beq_iff_eq,List.prefix_iff_eq_take,list_len]
 exact ⟨fun h=>h.symm,fun h=>h.symm⟩
set_option maxHeartbeats 1000000 in
set_option maxRecDepth 4000 in
theorem rfnd_any (s t:ByteArray) (i0:Nat) (w:World) (ht:0<t.size) (ht2:t.size≤1048576) (hs:s.size≤140737488355328) (hi0:i0≤140737488355328) :
  Calls Tryz.prog 120 #[.string s,.string t,.int .i64 (i0:Int)] w fun e w'=>e=.returned (.int .i64 (findI s.data.toList t.data.toList i0))∧w'=w:=by
 obtain ⟨R,hR⟩:∃ R,R=findI s.data.toList t.data.toList i0:=⟨_,rfl⟩
 rw [←hR]
 have HR:=Lib.hid hR
 clear hR
 go_enter Tryz.func120,Tryz.ntmps120
 go_wp2
 go_loopg [7] (s.size+1-i0) (fun g iv wx=>∃ i:Nat,iv=.int .i64 i∧i0≤i∧(i≤s.size+1∨i=i0)∧g=s.size+1-i∧Hid (R=findI s.data.toList t.data.toList i)∧wx=w)
 case atStart=>exact ⟨i0,rfl,Nat.le_refl _,.inr rfl,rfl,HR.out,rfl⟩
 case round =>
  obtain ⟨i,rfl,h0,h1,hg,HI,rfl⟩:=hrel
  by_cases hp:s.size<i+t.size
  ·have HQ:Hid (R=-1):=by show _=_;rw [HI.out];exact findI_past (by rw [list_len];exact ht) (by rw [list_len,list_len];exact hp)
   clear HI HR
   go_wp2
   go_ret
   exact ⟨by rw [HQ.out];rfl,rfl⟩
  ·have hin:i<s.size:=by omega
   have hpre:=ext_pre (s:=s) (t:=t) (i:=i) (by omega)
   by_cases he:((s.extract i (i+t.size)).toList==t.toList)=true
   ·have HQ:Hid (R=i):=by show _=_;rw [HI.out];exact findI_hit (hpre.trans he)
    clear HI HR hpre
    go_wp2
    go_ret
    exact ⟨by rw [HQ.out];rfl,rfl⟩
   ·have he:=Bool.eq_false_iff.mpr he
    have HQ:Hid (R=findI s.data.toList t.data.toList (i+1)):=by show _=_;rw [HI.out];exact findI_next (by rw [list_len];exact hin) (hpre.trans he)
    clear HI HR hpre
    go_wp2
    go_roundg (s.size+1-(i+1))
    case measure=>omega
    case rel=>exact ⟨i+1,rfl,by omega,.inl (by omega),rfl,HQ.out,rfl⟩
theorem decFrom_le:∀ (l:List UInt8) (m v:Nat),Lib.decFrom m l=some v→m≤v
 | [],m,v,h=>by
  rw [Lib.decFrom,Option.some.injEq] at h
  omega
 | c::l,m,v,h=>by
  rw [Lib.decFrom] at h
  cases hd:Lib.digitVal c with
  | none=>rw [hd] at h;cases h
  | some d =>
   rw [hd] at h
   have:=decFrom_le l _ v h
   omega
theorem decFrom_step {m v:Nat} {c:UInt8} {l:List UInt8} (h:Lib.decFrom m (c::l)=some v):∃ d,c.toNat=48+d∧d<10∧Lib.decFrom (m*10+d) l=some v:=by
 rw [Lib.decFrom] at h
 cases hd:Lib.digitVal c with
 | none=>rw [hd] at h;cases h
 | some d =>
  rw [hd] at h
  obtain ⟨h10,he⟩:=digitVal_lt hd
  exact ⟨d,by rw [he,UInt8.toNat_ofNat'];omega,h10,h⟩
set_option maxHeartbeats 1000000 in
set_option maxRecDepth 4000 in
theorem rvalue_any (s:ByteArray) (v:Nat) (w:World) (hv:Lib.decFrom 0 s.data.toList=some v) (hb:v<1000000000000000000) (hs:s.size≤1048576) :
  Calls Tryz.prog 142 #[.string s] w fun e w'=>e=.returned (.int .i64 (v:Int))∧w'=w:=by
 have HV:=Lib.hid hv
 clear hv
 go_enter Tryz.func142,Tryz.ntmps142
 go_wp2
 go_loopg [3,4] s.size (fun g nv iv wx=>∃ (k m:Nat),k+g=s.size∧nv=.int .i64 m∧iv=.int .i64 k∧Hid (Lib.decFrom m (s.data.toList.drop k)=some v)∧wx=w)
 case atStart=>exact ⟨0,0,by omega,rfl,rfl,by rw [List.drop_zero];exact HV.out,rfl⟩
 case round =>
  obtain ⟨k,m,hk,rfl,rfl,HM,rfl⟩:=hrel
  cases gk with
  | zero =>
   obtain rfl:k=s.size:=by omega
   have hm:m=v:=by
    have:=HM.out
    rw [List.drop_of_length_le (by rw [list_len];exact Nat.le_refl _),Lib.decFrom,Option.some.injEq] at this
    exact this
   subst hm
   go_wp2
   go_ret
   exact ⟨rfl,rfl⟩
  | succ g =>
   have hi:k<s.size:=by omega
   have hst:=HM.out
   rw [drop_byte s k hi] at hst
   obtain ⟨d,hd,hd10,hn⟩:=decFrom_step hst
   have hle:=decFrom_le _ _ _ hn
   have HN:=Lib.hid hn
   obtain ⟨x,hx⟩:∃ x,x=(s[k]'hi).toNat:=⟨_,rfl⟩
   rw [←hx] at hd
   clear hst hn
   go_wp2
   go_roundg g
   case measure=>omega
   case rel=>exact ⟨k+1,m*10+d,by omega,congrArg (Value.int .i64) (by omega),rfl,HN.out,rfl⟩
def dgs (l:List UInt8):Bool:=l.all fun c=>decide (48≤c.toNat)&&decide (c.toNat≤57)
theorem dgs_some:∀ (l:List UInt8) (m:Nat),(Lib.decFrom m l).isSome=dgs l
 | [],_=>rfl
 | c::l,m=>by
  rw [Lib.decFrom,Lib.digitVal,dgs,List.all_cons]
  by_cases h:48≤c.toNat∧c.toNat≤57
  ·rw [if_pos h,decide_eq_true h.1,decide_eq_true h.2]
   exact dgs_some l _
  ·rw [if_neg h]
   have:(decide (48≤c.toNat)&&decide (c.toNat≤57))=false:=by simpa using h
   rw [this]
   rfl
theorem dgs_cons {c:UInt8} {l:List UInt8} (h1:48≤c.toNat) (h2:c.toNat≤57):dgs (c::l)=dgs l:=by
 rw [dgs,List.all_cons,decide_eq_true h1,decide_eq_true h2]
 rfl
theorem dgs_bad {c:UInt8} {l:List UInt8} (h:c.toNat<48∨57<c.toNat):dgs (c::l)=false:=by
 rw [dgs,List.all_cons]
 have:(decide (48≤c.toNat)&&decide (c.toNat≤57))=false:=by simp;omega
 rw [this]
 rfl
set_option maxHeartbeats 1000000 in
set_option maxRecDepth 4000 in
theorem rdigs_any (s:ByteArray) (w:World) (hs:s.size≤140737488355328) :
  Calls Tryz.prog 141 #[.string s] w fun e w'=>e=.returned (.bool (timeB s.data.toList))∧w'=w:=by
 obtain ⟨R,hR⟩:∃ R,R=timeB s.data.toList:=⟨_,rfl⟩
 have hlen:s.data.toList.length=s.size:=list_len s
 rw [←hR]
 by_cases h1:s.size<1
 ·have HR:Hid (R=false):=by show _=_;rw [hR,timeB,numR,if_pos (.inl (by omega))];rfl
  clear hR hlen
  go_enter Tryz.func141,Tryz.ntmps141
  go_wp2
  go_ret
  exact ⟨by rw [HR.out];rfl,rfl⟩
 by_cases h2:18<s.size
 ·have HR:Hid (R=false):=by show _=_;rw [hR,timeB,numR,if_pos (.inr (.inl (by omega)))];rfl
  clear hR hlen
  go_enter Tryz.func141,Tryz.ntmps141
  go_wp2
  go_ret
  exact ⟨by rw [HR.out];rfl,rfl⟩
 have h0:0<s.size:=by omega
 have hhead:s.data.toList.head?=some s[0]:=by
  have:=drop_byte s 0 h0
  rw [List.drop_zero] at this
  rw [this]
  rfl
 by_cases h3:1<s.size∧s[0]=48
 ·have HR:Hid (R=false):=by show _=_;rw [hR,timeB,numR,if_pos (.inr (.inr ⟨by omega,by rw [hhead,h3.2]⟩))];rfl
  have hx:((s[0].toNat:Int)==48)=true:=by rw [h3.2];rfl
  have h31:=h3.1
  clear hR hlen h3 hhead
  go_enter Tryz.func141,Tryz.ntmps141
  go_wp2
  go_ret
  exact ⟨by rw [HR.out];rfl,rfl⟩
 have HR:Hid (R=dgs (s.data.toList.drop 0)):=by
  show _=_
  rw [hR,timeB,numR,if_neg,List.drop_zero,dgs_some]
  rintro (h|h|⟨h,h'⟩)
  ·omega
  ·omega
  ·exact h3 ⟨by omega,by rw [hhead,Option.some.injEq] at h';exact h'⟩
 have hx:s.size=1∨(1<s.size∧((s[0].toNat:Int)==48)=false):=by
  by_cases h:1<s.size
  ·refine .inr ⟨h,?_⟩
   rw [beq_eq_false_iff_ne]
   intro e
   exact h3 ⟨h,UInt8.toNat_inj.mp (by show _=48;omega)⟩
  ·exact .inl (by omega)
 clear hR hlen h3 hhead
 rcases hx with hx|⟨hx,hx2⟩
 all_goals
  go_enter Tryz.func141,Tryz.ntmps141
  go_wp2
  go_loopg [3] s.size (fun g iv wx=>∃ k:Nat,k+g=s.size∧iv=.int .i64 k∧Hid (R=dgs (s.data.toList.drop k))∧wx=w)
  case atStart=>exact ⟨0,by omega,rfl,HR.out,rfl⟩
  case round =>
   obtain ⟨k,hk,rfl,HM,rfl⟩:=hrel
   cases gk with
   | zero =>
    obtain rfl:k=s.size:=by omega
    have HQ:Hid (R=true):=by show _=_;rw [HM.out,List.drop_of_length_le (by rw [list_len];exact Nat.le_refl _)];rfl
    clear HM HR
    go_wp2
    go_ret
    exact ⟨by rw [HQ.out];rfl,rfl⟩
   | succ g =>
    have hi:k<s.size:=by omega
    have hM:=HM.out
    rw [drop_byte s k hi] at hM
    by_cases hlo:(s[k]'hi).toNat<48
    ·have HQ:Hid (R=false):=by show _=_;rw [hM,dgs_bad (.inl hlo)]
     clear HM HR hM
     go_wp2
     go_ret
     exact ⟨by rw [HQ.out];rfl,rfl⟩
    by_cases hup:57<(s[k]'hi).toNat
    ·have HQ:Hid (R=false):=by show _=_;rw [hM,dgs_bad (.inr hup)]
     clear HM HR hM
     go_wp2
     go_ret
     exact ⟨by rw [HQ.out];rfl,rfl⟩
    have HQ:Hid (R=dgs (s.data.toList.drop (k+1))):=by show _=_;rw [hM,dgs_cons (by omega) (by omega)]
    clear HM HR hM
    go_wp2
    go_roundg g
    case measure=>omega
    case rel=>exact ⟨k+1,by omega,rfl,HQ.out,rfl⟩
set_option maxHeartbeats 2000000 in
set_option maxRecDepth 4000 in
theorem rzone_any (s:ByteArray) (w:World) (hs:s.size≤140737488355328) :
    Calls Tryz.prog 140 #[.string s] w fun e w'=>e=.returned (.tuple #[.int .i64 (zoneI s.data.toList),.bool (zoneB s.data.toList)])∧w'=w:=by
  obtain ⟨I,hI⟩:∃ I,I=zoneI s.data.toList:=⟨_,rfl⟩
  obtain ⟨B,hB⟩:∃ B,B=zoneB s.data.toList:=⟨_,rfl⟩
  rw [←hI,←hB]
  have none_case:zonO s.data.toList=none→Hid (I=0∧B=false):=fun h=>⟨by rw [hI,zoneI,h],by rw [hB,zoneB,h];rfl⟩
  have some_case:∀ z,zonO s.data.toList=some z→Hid (I=z∧B=true):=fun m h=>⟨by rw [hI,zoneI,h],by rw [hB,zoneB,h];rfl⟩
  clear hI hB
  by_cases h5:s.size=5
  case neg =>
    have HR:=none_case (zon_len (by rw [list_len];exact h5))
    clear none_case some_case
    go_enter Tryz.func140,Tryz.ntmps140
    go_wp2
    go_ret2
    exact ⟨by rw [HR.out.1,HR.out.2];rfl,rfl⟩
  have hl:s.data.toList=[s[0],s[1],s[2],s[3],s[4]]:=by
    have e:=drop_byte s 0 (by omega)
    rw [drop_byte s 1 (by omega),drop_byte s 2 (by omega),drop_byte s 3 (by omega),drop_byte s 4 (by omega),show s.data.toList.drop (4+1)=[] from List.drop_eq_nil_of_le (by rw [list_len];omega)] at e
    simpa using e
  have h0:0<s.size:=by omega
  by_cases hsg:s[0]=43∨s[0]=45
  case neg =>
    have HR:=none_case (by rw [hl];exact zon_sign hsg)
    have n1:¬ (s[0].toNat:Int)=43:=fun e=>hsg (.inl (UInt8.toNat_inj.mp (by show _=43;omega)))
    have n2:¬ (s[0].toNat:Int)=45:=fun e=>hsg (.inr (UInt8.toNat_inj.mp (by show _=45;omega)))
    clear none_case some_case hl hsg
    go_enter Tryz.func140,Tryz.ntmps140
    go_wp2
    go_ret2
    exact ⟨by rw [HR.out.1,HR.out.2];rfl,rfl⟩
  by_cases hz:s=⟨#[45,48,48,48,48]⟩
  · have HR:=none_case (by rw [hz];exact zon_zero)
    have he:(s.toList==[45,48,48,48,48])=true:=by rw [hz,ByteArray.toList_eq];rfl
    have e45:s[0]=45:=by
      have:=congrArg ByteArray.data hz
      subst hz
      rfl
    have e0:¬ (s[0].toNat:Int)=43:=by rw [e45];decide
    have e1:(s[0].toNat:Int)=45:=by rw [e45];rfl
    clear none_case some_case hl hsg hz e45
    go_enter Tryz.func140,Tryz.ntmps140
    go_wp2
    go_ret2
    exact ⟨by rw [HR.out.1,HR.out.2];rfl,rfl⟩
  have hne:(s.toList==[45,48,48,48,48])=false:=by
    have e:=ba_ne hz
    rw [ByteArray.toList_eq ⟨#[45,48,48,48,48]⟩] at e
    exact e
  have hx:Hid (((s[0].toNat:Int)=43)∨(¬ (s[0].toNat:Int)=43∧(s[0].toNat:Int)=45)):=by
    rcases hsg with e|e
    · exact .inl (by rw [e];rfl)
    · exact .inr ⟨by rw [e];decide,by rw [e];rfl⟩
  have hd1:s.data.toList.drop 1=[s[1],s[2],s[3],s[4]]:=by rw [hl];rfl
  obtain ⟨D,hD⟩:∃ D,D=dgs (s.data.toList.drop 1):=⟨_,rfl⟩
  rcases D with _|_
  · have HR:=none_case (by
      rw [hd1] at hD
      rw [hl]
      unfold zonO
      simp only
      split
      · cases h1:Lib.decFrom 0 [s[1],s[2]] with
        | none=>rfl
        | some h =>
          cases h2:Lib.decFrom 0 [s[3],s[4]] with
          | none=>rfl
          | some m =>
            have e4:=dgs_some [s[1],s[2],s[3],s[4]] 0
            rw [dec_four,h1,h2,←hD] at e4
            cases e4
      · rfl)
    have HD:=Lib.hid hD
    clear none_case some_case hl hsg hz hD hd1
    rcases hx.out with e0|⟨e0,e1⟩
    all_goals
      go_enter Tryz.func140,Tryz.ntmps140
      go_wp2
      go_loopg [4] 4 (fun g iv wx=>∃ k:Nat,k+g=5∧1≤k∧iv=.int .i64 k∧Hid (false=dgs (s.data.toList.drop k))∧wx=w)
      case atStart=>exact ⟨1,rfl,Nat.le_refl _,rfl,HD.out,rfl⟩
      case round =>
        obtain ⟨k,hk,hk1,rfl,HM,rfl⟩:=hrel
        cases gk with
        | zero =>
          obtain rfl:k=5:=by omega
          have:=HM.out
          rw [List.drop_of_length_le (by rw [list_len];omega)] at this
          cases this
        | succ g =>
          have hi:k<s.size:=by omega
          have hM:=HM.out
          rw [drop_byte s k hi] at hM
          by_cases hlo:(s[k]'hi).toNat<48
          · clear HM hM HD
            go_wp2
            go_ret2
            exact ⟨by rw [HR.out.1,HR.out.2];rfl,rfl⟩
          by_cases hup:57<(s[k]'hi).toNat
          · clear HM hM HD
            go_wp2
            go_ret2
            exact ⟨by rw [HR.out.1,HR.out.2];rfl,rfl⟩
          have HQ:Hid (false=dgs (s.data.toList.drop (k+1))):=by show _=_;rw [hM,dgs_cons (by omega) (by omega)]
          clear HM hM HD
          go_wp2
          go_roundg g
          case measure=>omega
          case rel=>exact ⟨k+1,by omega,by omega,rfl,HQ.out,rfl⟩
  · rw [hd1] at hD
    have e4:=dgs_some [s[1],s[2],s[3],s[4]] 0
    rw [dec_four,←hD] at e4
    cases hh:Lib.decFrom 0 [s[1],s[2]] with
    | none=>rw [hh] at e4;cases e4
    | some h =>
      cases hm:Lib.decFrom 0 [s[3],s[4]] with
      | none=>rw [hh,hm] at e4;cases e4
      | some m =>
        have hb1:=dec_two_lt hh
        have hb2:=dec_two_lt hm
        have HV3:Hid (∀ w',Calls Tryz.prog 142 #[.string (s.extract 3 5)] w' fun e w''=>e=.returned (.int .i64 (m:Int))∧w''=w'):=fun w' =>
          rvalue_any _ m w' (by rw [ext_bytes,hl];exact hm) (by omega) (by simp;omega)
        have HV1:Hid (∀ w',Calls Tryz.prog 142 #[.string (s.extract 1 3)] w' fun e w''=>e=.returned (.int .i64 (h:Int))∧w''=w'):=fun w' =>
          rvalue_any _ h w' (by rw [ext_bytes,hl];exact hh) (by omega) (by simp;omega)
        have hzn:zonO s.data.toList=if m<60 then some (zonV s[0] h m) else none:=by
          rw [hl]
          unfold zonO
          simp only
          rw [if_pos ⟨hsg,fun e=>hz (ba_ext (by rw [hl,e]))⟩,hh,hm]
          rfl
        have HD:Hid (true=dgs (s.data.toList.drop 1)):=by show _=_;rw [hd1];exact hD
        have HQ:Hid ((m<60→(I=zonV s[0] h m∧B=true))∧(¬ m<60→(I=0∧B=false))):=by
          constructor
          · intro hm6
            rw [if_pos hm6] at hzn
            exact (some_case _ hzn).out
          · intro hm6
            rw [if_neg hm6] at hzn
            exact (none_case hzn).out
        have hs45:(s[0].toNat:Int)=45↔s[0]=45:=⟨fun e=>UInt8.toNat_inj.mp (by show _=45;omega),fun e=>by rw [e];rfl⟩
        have HS:Hid (zonV s[0] h m=if (s[0].toNat:Int)=45 then -((60*h+m:Nat):Int) else ((60*h+m:Nat):Int)):=by
          show _=_
          rw [zonV]
          by_cases e:s[0]=45
          · rw [if_pos e,if_pos (hs45.mpr e)]
          · rw [if_neg e,if_neg (fun e'=>e (hs45.mp e'))]
        clear none_case some_case hl hsg hz hD hd1 e4 hh hm hzn hs45
        rcases hx.out with e0|⟨e0,e1⟩
        all_goals
          go_enter Tryz.func140,Tryz.ntmps140
          go_wp2
          go_loopg [4] 4 (fun g iv wx=>∃ k:Nat,k+g=5∧1≤k∧iv=.int .i64 k∧Hid (true=dgs (s.data.toList.drop k))∧wx=w)
          case atStart=>exact ⟨1,rfl,Nat.le_refl _,rfl,HD.out,rfl⟩
          case round =>
            obtain ⟨k,hk,hk1,rfl,HM,rfl⟩:=hrel
            cases gk with
            | zero =>
              obtain rfl:k=5:=by omega
              clear HM HD
              by_cases hm6:m<60
              · have HX:=Lib.hid (HQ.out.1 hm6)
                have HS2:=HS.out
                first
                  | (rw [if_pos e1] at HS2
                     have HS3:=Lib.hid HS2
                     clear HQ HS HS2
                     go_wp2_with (go_at_call 142;first
                       | ((with_reducible refine (HV3.out _).mono ?_);rintro e wa ⟨rfl,rfl⟩)
                       | ((with_reducible refine (HV1.out _).mono ?_);rintro e wb ⟨rfl,rfl⟩))
                     go_ret2
                     exact ⟨by rw [HX.out.1,HX.out.2,HS3.out];exact congrArg Ending.returned (by simp),rfl⟩)
                  | (rw [if_neg (by omega)] at HS2
                     have HS3:=Lib.hid HS2
                     clear HQ HS HS2
                     go_wp2_with (go_at_call 142;first
                       | ((with_reducible refine (HV3.out _).mono ?_);rintro e wa ⟨rfl,rfl⟩)
                       | ((with_reducible refine (HV1.out _).mono ?_);rintro e wb ⟨rfl,rfl⟩))
                     go_ret2
                     exact ⟨by rw [HX.out.1,HX.out.2,HS3.out];exact congrArg Ending.returned (by simp),rfl⟩)
              · have HX:=Lib.hid (HQ.out.2 hm6)
                clear HQ HS
                go_wp2_with (go_at_call 142;first
                  | ((with_reducible refine (HV3.out _).mono ?_);rintro e wa ⟨rfl,rfl⟩)
                  | ((with_reducible refine (HV1.out _).mono ?_);rintro e wb ⟨rfl,rfl⟩))
                go_ret2
                exact ⟨by rw [HX.out.1,HX.out.2];rfl,rfl⟩
            | succ g =>
              have hi:k<s.size:=by omega
              have hM:=HM.out
              rw [drop_byte s k hi] at hM
              have hlo:48≤(s[k]'hi).toNat∧(s[k]'hi).toNat≤57:=by
                refine Decidable.byContradiction fun hc=>?_
                rw [dgs_bad (by omega)] at hM
                cases hM
              obtain ⟨hlo,hup⟩:=hlo
              have HQ2:Hid (true=dgs (s.data.toList.drop (k+1))):=by show _=_;rw [hM,dgs_cons hlo hup]
              clear HM hM HD HQ HS
              go_wp2
              go_roundg g
              case measure=>omega
              case rel=>exact ⟨k+1,by omega,by omega,rfl,HQ2.out,rfl⟩
def okB (c:UInt8):Bool:=decide (32≤c.toNat)&&(decide (c.toNat≠60)&&decide (c.toNat≠62))
theorem okB_all (l:List UInt8):(!(l.any fun b=>([60,62]:List UInt8).contains b)&&(l.all fun b=>decide (32≤b.toNat)))=l.all okB:=by
 induction l with
 | nil=>rfl
 | cons c l ih =>
  rw [List.any_cons,List.all_cons,List.all_cons,←ih]
  have:([60,62]:List UInt8).contains c=!(decide (c.toNat≠60)&&decide (c.toNat≠62)):=by
   rw [Bool.eq_iff_iff,List.contains_iff_mem]
   simp only [List.mem_cons,List.not_mem_nil,or_false,Bool.not_eq_true',Bool.and_eq_false_iff,decide_eq_false_iff_not,Decidable.not_not]
   constructor
   ·rintro (rfl|rfl)
    ·exact .inl rfl
    ·exact .inr rfl
   ·rintro (h|h)
    ·exact .inl (UInt8.toNat_inj.mp h)
    ·exact .inr (UInt8.toNat_inj.mp h)
  rw [this,okB]
  cases decide (32≤c.toNat)<;>cases decide (c.toNat≠60)<;>cases decide (c.toNat≠62)<;>simp
theorem pre_one {c:UInt8} {l:List UInt8}:Lib.hasPrefix (c::l) [32]=decide (c=32):=by
 unfold Lib.hasPrefix
 rw [Bool.eq_iff_iff,List.isPrefixOf_iff_prefix,decide_eq_true_eq,List.cons_prefix_cons]
 simp [eq_comm]
theorem suf_one {c:UInt8} {l:List UInt8}:Lib.hasSuffix (l++[c]) [32]=decide (c=32):=by
 unfold Lib.hasSuffix
 rw [Bool.eq_iff_iff,List.isSuffixOf_iff_suffix,decide_eq_true_eq]
 constructor
 ·rintro ⟨t,ht⟩
  have:=congrArg List.getLast? ht
  simpa using this.symm
 ·rintro rfl
  exact ⟨l,rfl⟩
theorem nameB_eq (s:ByteArray) (h:0<s.size):nameB s.data.toList=(decide (s.size≤64)&&(decide (s[0]≠32)&&(decide (s[s.size-1]≠32)&&s.data.toList.all okB))):=by
 have hn:decide (s.data.toList≠[])=true:=decide_eq_true (fun e=>by have:=list_len s;rw [e] at this;simp at this;omega)
 have hp:Lib.hasPrefix s.data.toList [32]=decide (s[0]=32):=by
  have:=drop_byte s 0 h
  rw [List.drop_zero] at this
  rw [this,pre_one]
 have hq:Lib.hasSuffix s.data.toList [32]=decide (s[s.size-1]=32):=by
  have:=take_snoc s (s.size-1) (by omega)
  rw [show s.size-1+1=s.size by omega,take_all] at this
  rw [this,suf_one]
 rw [nameB,hn,hp,hq,list_len,←okB_all]
 by_cases h1:s[0]=32<;>by_cases h2:s[s.size-1]=32<;>simp [h1,h2,Bool.and_assoc]
set_option maxHeartbeats 1000000 in
set_option maxRecDepth 4000 in
theorem rnamed_any (s:ByteArray) (w:World) (hs:s.size≤140737488355328) :
  Calls Tryz.prog 130 #[.string s] w fun e w'=>e=.returned (.bool (nameB s.data.toList))∧w'=w:=by
 obtain ⟨R,hR⟩:∃ R,R=nameB s.data.toList:=⟨_,rfl⟩
 rw [←hR]
 by_cases h1:s.size<1
 ·have HR:Hid (R=false):=by show _=_;rw [hR,nameB,show s.data.toList=[] from List.eq_nil_of_length_eq_zero (by rw [list_len];omega)];rfl
  clear hR
  go_enter Tryz.func130,Tryz.ntmps130
  go_wp2
  go_ret
  exact ⟨by rw [HR.out];rfl,rfl⟩
 have h0:0<s.size:=by omega
 have hl:s.size-1<s.size:=by omega
 rw [nameB_eq s h0] at hR
 by_cases h2:64<s.size
 ·have HR:Hid (R=false):=by show _=_;rw [hR,decide_eq_false (show ¬ s.size≤64 by omega)];rfl
  clear hR
  go_enter Tryz.func130,Tryz.ntmps130
  go_wp2
  go_ret
  exact ⟨by rw [HR.out];rfl,rfl⟩
 obtain ⟨x,hx⟩:∃ x,x=s[0]:=⟨_,rfl⟩
 obtain ⟨y,hy⟩:∃ y,y=s[s.size-1]:=⟨_,rfl⟩
 have hxn:(x.toNat:Int)=32↔x=32:=⟨fun e=>UInt8.toNat_inj.mp (by show _=32;omega),fun e=>by rw [e];rfl⟩
 have hyn:(y.toNat:Int)=32↔y=32:=⟨fun e=>UInt8.toNat_inj.mp (by show _=32;omega),fun e=>by rw [e];rfl⟩
 rw [decide_eq_true (show s.size≤64 by omega),Bool.true_and,←hx,←hy] at hR
 rw [hx] at hxn
 rw [hy] at hyn
 by_cases h3:(s[0].toNat:Int)=32
 ·have HR:Hid (R=false):=by show _=_;rw [hR,hx,decide_eq_false (by simpa using hxn.mp h3)];rfl
  clear hR hx hy hxn hyn
  go_enter Tryz.func130,Tryz.ntmps130
  go_wp2
  go_ret
  exact ⟨by rw [HR.out];rfl,rfl⟩
 rw [hx,decide_eq_true (show s[0]≠32 from fun e=>h3 (hxn.mpr e)),Bool.true_and] at hR
 by_cases h4:(s[s.size-1].toNat:Int)=32
 ·have HR:Hid (R=false):=by show _=_;rw [hR,hy,decide_eq_false (by simpa using hyn.mp h4)];rfl
  clear hR hx hy hxn hyn
  go_enter Tryz.func130,Tryz.ntmps130
  go_wp2
  go_ret
  exact ⟨by rw [HR.out];rfl,rfl⟩
 rw [hy,decide_eq_true (show s[s.size-1]≠32 from fun e=>h4 (hyn.mpr e)),Bool.true_and] at hR
 have HR:Hid (R=(s.data.toList.drop 0).all okB):=hR
 have e3:((s[0].toNat:Int)==32)=false:=beq_eq_false_iff_ne.mpr h3
 have e4:((s[s.size-1].toNat:Int)==32)=false:=beq_eq_false_iff_ne.mpr h4
 have e1:decide ((s.size:Int)<1)=false:=decide_eq_false (by omega)
 have e2:decide (64<(s.size:Int))=false:=decide_eq_false (by omega)
 clear hR hx hy hxn hyn h3 h4
 go_enter Tryz.func130,Tryz.ntmps130
 go_wp2
 go_loopg [3] s.size (fun g iv wx=>∃ k:Nat,k+g=s.size∧iv=.int .i64 k∧Hid (R=(s.data.toList.drop k).all okB)∧wx=w)
 case atStart=>exact ⟨0,by omega,rfl,HR.out,rfl⟩
 case round =>
  obtain ⟨k,hk,rfl,HM,rfl⟩:=hrel
  clear HR e1 e2 e3 e4
  cases gk with
  | zero =>
   obtain rfl:k=s.size:=by omega
   have HQ:Hid (R=true):=by show _=_;rw [HM.out,List.drop_of_length_le (by rw [list_len];exact Nat.le_refl _)];rfl
   clear HM
   go_wp2
   go_ret
   exact ⟨by rw [HQ.out];rfl,rfl⟩
  | succ g =>
   have hi:k<s.size:=by omega
   have hM:=HM.out
   rw [drop_byte s k hi,List.all_cons] at hM
   have hc:(s[k]'hi).toNat<32∨(¬ (s[k]'hi).toNat<32∧(s[k]'hi).toNat=60)∨(¬ (s[k]'hi).toNat<32∧¬ (s[k]'hi).toNat=60∧(s[k]'hi).toNat=62)∨(¬ (s[k]'hi).toNat<32∧¬ (s[k]'hi).toNat=60∧¬ (s[k]'hi).toNat=62):=by omega
   rcases hc with hc|⟨c1,c2⟩|⟨c1,c2,c3⟩|⟨c1,c2,c3⟩
   ·have HQ:Hid (R=false):=by show _=_;rw [hM,okB,decide_eq_false (by omega)];rfl
    clear HM hM
    go_wp2
    go_ret
    exact ⟨by rw [HQ.out];rfl,rfl⟩
   ·have HQ:Hid (R=false):=by show _=_;rw [hM,okB];simp [c2]
    clear HM hM
    go_wp2
    go_ret
    exact ⟨by rw [HQ.out];rfl,rfl⟩
   ·have HQ:Hid (R=false):=by show _=_;rw [hM,okB];simp [c3]
    clear HM hM
    go_wp2
    go_ret
    exact ⟨by rw [HQ.out];rfl,rfl⟩
   ·have HQ:Hid (R=(s.data.toList.drop (k+1)).all okB):=by show _=_;rw [hM,okB,decide_eq_true (show 32≤(s[k]'hi).toNat by omega),decide_eq_true c2,decide_eq_true c3];rfl
    have e5:decide (((s[k]'hi).toNat:Int)<32)=false:=decide_eq_false (by omega)
    have e6:(((s[k]'hi).toNat:Int)==60)=false:=beq_eq_false_iff_ne.mpr (by omega)
    have e7:(((s[k]'hi).toNat:Int)==62)=false:=beq_eq_false_iff_ne.mpr (by omega)
    clear HM hM c1 c2 c3
    go_wp2
    go_roundg g
    case measure=>omega
    case rel=>exact ⟨k+1,by omega,rfl,HQ.out,rfl⟩
set_option maxHeartbeats 2000000 in
set_option maxRecDepth 4000 in
theorem rperson_any (p:Pn) (w:World) (hn:p.n.size≤140737488355328) (hi:p.m.size≤140737488355328) :
    Calls Tryz.prog 100 #[.agg #[.string p.n,.string p.m,.int .i64 p.t,.int .i64 p.z]] w fun x w'=>x=.returned (.bool (okPn p))∧Below w.heap.size w w':=by
  obtain ⟨n,m,t,z⟩:=p
  simp only at hn hi ⊢
  obtain ⟨N,hN⟩:∃ N,N=nameB n.data.toList:=⟨_,rfl⟩
  obtain ⟨M,hM⟩:∃ M,M=nameB m.data.toList:=⟨_,rfl⟩
  obtain ⟨R,hR⟩:∃ R,R=okPn ⟨n,m,t,z⟩:=⟨_,rfl⟩
  rw [←hR]
  have HR:Hid (R=(N&&(M&&(decide (0≤t)&&(decide (t≤1099511627776)&&(decide (-840≤z)&&decide (z≤840))))))):=by
    show _=_
    rw [hR,okPn,hN,hM]
  have HN:Hid (∀ w',Calls Tryz.prog 130 #[.string n] w' fun e w''=>e=.returned (.bool N)∧Below w'.heap.size w' w''):=fun w'=>by
    rw [hN]
    exact (rnamed_any n w' hn).mono fun e w'' ⟨he,hw⟩=>⟨he,by rw [hw];exact Below.refl _ _⟩
  have HM:Hid (∀ w',Calls Tryz.prog 130 #[.string m] w' fun e w''=>e=.returned (.bool M)∧Below w'.heap.size w' w''):=fun w'=>by
    rw [hM]
    exact (rnamed_any m w' hi).mono fun e w'' ⟨he,hw⟩=>⟨he,by rw [hw];exact Below.refl _ _⟩
  have hx:=heap_alloc_new w (.cells #[.string n,.string m,.int .i64 t,.int .i64 z] 61)
  have hbx:Below w.heap.size w (w.alloc (.cells #[.string n,.string m,.int .i64 t,.int .i64 z] 61)):=below_new (Below.refl _ _) _
  have hbl:w.heap.size<(w.alloc (.cells #[.string n,.string m,.int .i64 t,.int .i64 z] 61)).heap.size:=by simp
  obtain ⟨w1,hw1⟩:∃ w1,w1=w.alloc (.cells #[.string n,.string m,.int .i64 t,.int .i64 z] 61):=⟨_,rfl⟩
  have HW1:=Lib.hid hw1
  rw [←hw1] at hx hbx hbl
  have a0:w1.cell? ⟨w.heap.size,0,none⟩=some (.string n):=cell_of_row w1 _ 0 _ _ _ hx
  have a1:w1.cell? ⟨w.heap.size,1,none⟩=some (.string m):=cell_of_row w1 _ 1 _ _ _ hx
  have a2:w1.cell? ⟨w.heap.size,2,none⟩=some (.int .i64 t):=cell_of_row w1 _ 2 _ _ _ hx
  have a3:w1.cell? ⟨w.heap.size,3,none⟩=some (.int .i64 z):=cell_of_row w1 _ 3 _ _ _ hx
  have HB:=Lib.hid hbx
  clear hN hM hR hw1 hx hbx hn hi
  rcases N with _|_
  · have HX:Hid (R=false):=by show _=_;rw [HR.out];rfl
    clear HR
    go_enter Tryz.func100,Tryz.ntmps100
    go_upto_region 1 with fail
    rw [←HW1.out]
    go_wp2_with (go_at_call 130;((with_reducible refine (HN.out _).mono ?_);rintro e w2 ⟨rfl,hb2⟩))
    go_ret
    exact ⟨by rw [HX.out];rfl,HB.out.trans (hb2.mono HB.out.size)⟩
  rcases M with _|_
  · have HX:Hid (R=false):=by show _=_;rw [HR.out];rfl
    clear HR
    go_enter Tryz.func100,Tryz.ntmps100
    go_upto_region 1 with fail
    rw [←HW1.out]
    go_wp2_with (first
      | (go_at_call 130;((with_reducible refine (HM.out _).mono ?_);rintro e w3 ⟨rfl,hb3⟩))
      | (go_at_call 130;((with_reducible refine (HN.out _).mono ?_);rintro e w2 ⟨rfl,hb2⟩;have b1:=cell_bel a1 hb2)))
    go_ret
    exact ⟨by rw [HX.out];rfl,HB.out.trans ((hb2.trans (hb3.mono hb2.size)).mono HB.out.size)⟩
  have hc:(¬ 0≤t)∨(0≤t∧¬ t≤1099511627776)∨(0≤t∧t≤1099511627776∧¬ -840≤z)∨(0≤t∧t≤1099511627776∧-840≤z∧¬ z≤840)∨(0≤t∧t≤1099511627776∧-840≤z∧z≤840):=by omega
  have HX:Hid (R=decide (0≤t∧t≤1099511627776∧-840≤z∧z≤840)):=by
    show _=_
    rw [HR.out]
    simp
  clear HR
  rcases hc with h1|⟨h1,h2⟩|⟨h1,h2,h3⟩|⟨h1,h2,h3,h4⟩|⟨h1,h2,h3,h4⟩
  all_goals
    go_enter Tryz.func100,Tryz.ntmps100
    go_upto_region 1 with fail
    rw [←HW1.out]
    go_wp2_with (first
      | (go_at_call 130;((with_reducible refine (HM.out _).mono ?_);rintro e w3 ⟨rfl,hb3⟩;have c2:=cell_bel b2 hb3;have c3:=cell_bel b3 hb3))
      | (go_at_call 130;((with_reducible refine (HN.out _).mono ?_);rintro e w2 ⟨rfl,hb2⟩;have b1:=cell_bel a1 hb2;have b2:=cell_bel a2 hb2;have b3:=cell_bel a3 hb2)))
    go_ret
    refine ⟨?_,HB.out.trans ((hb2.trans (hb3.mono hb2.size)).mono HB.out.size)⟩
    first
      | (have hy:R=true:=by rw [HX.out];exact decide_eq_true (by omega)
         rw [hy];rfl)
      | (have hy:R=false:=by rw [HX.out];exact decide_eq_false (by omega)
         rw [hy];rfl)
      | (have hy:R=decide (z≤840):=by rw [HX.out,Bool.eq_iff_iff];simp only [decide_eq_true_eq];omega
         rw [hy];rfl)
theorem findI_zero (l t:List UInt8):findI l t 0=Lib.index l t:=by
  unfold findI
  rw [List.drop_zero]
  by_cases h:Lib.index l t=-1
  · simp [h]
  · have:(Lib.index l t==-1)=false:=by rw [beq_eq_false_iff_ne];exact h
    simp [this]
theorem findI_cut {l t:List UInt8} {i:Nat} (h:(Lib.cut (l.drop i) t).2.2=true):findI l t i=((i+(Lib.cut (l.drop i) t).1.length:Nat):Int):=by
  have h1:=(ccut_yes h).2.2
  have:(Lib.index (l.drop i) t==-1)=false:=by rw [beq_eq_false_iff_ne,h1];omega
  unfold findI
  rw [this,h1]
  simp
  omega
theorem findI_none {l t:List UInt8} {i:Nat} (h:(Lib.cut (l.drop i) t).2.2=false):findI l t i=-1:=by
  unfold findI
  rw [(ccut_no h).2]
  rfl
theorem index_two (r:List UInt8):Lib.index (32::60::r) [62,32]=if Lib.index r [62,32]=-1 then -1 else Lib.index r [62,32]+2:=by
  have h1:List.isPrefixOf ([62,32]:List UInt8) (32::60::r)=false:=by simp [List.isPrefixOf]
  have h2:List.isPrefixOf ([62,32]:List UInt8) (60::r)=false:=by simp [List.isPrefixOf]
  have hge:=Lib.index_ge r [62,32]
  rw [Lib.index,h1,Lib.index,h2]
  by_cases h:Lib.index r [62,32]=-1
  · simp [h]
  · have e1:(Lib.index r [62,32]==-1)=false:=by rw [beq_eq_false_iff_ne];exact h
    have e2:(Lib.index r [62,32]+1==-1)=false:=by rw [beq_eq_false_iff_ne];omega
    simp only [e1,e2,Bool.false_eq_true,if_false,h]
    omega
theorem whoR_none {l:List UInt8} (h:whoZ l=[]):whoR l=(2,Pn.zero):=by
  rw [whoR,h,codeW,if_pos (.inr (.inl rfl))]
theorem ext_all (s:ByteArray) (a b:Nat) (x y z:List UInt8) (h:s.data.toList=x++(y++z)) (ha:a=x.length) (hb:b=x.length+y.length):s.extract a b=str y:=by
  refine ba_ext ?_
  rw [ext_bytes,h,ha,hb,str_list,List.drop_left,Nat.add_sub_cancel_left,List.take_left]
theorem ib_anyW (c:UInt8):∀ l:List UInt8,decide (0≤Lib.indexByte l c)=l.any fun b=>b==c
  | []=>rfl
  | b::l=>by
    have ih:=ib_anyW c l
    rw [Lib.indexByte,List.any_cons]
    cases hb:b==c with
    | true=>simp
    | false =>
      rw [←ih]
      by_cases h:Lib.indexByte l c=-1
      · rw [h];rfl
      · have h1:(Lib.indexByte l c==-1)=false:=by rw [beq_eq_false_iff_ne];exact h
        rw [h1]
        simp only [Bool.false_eq_true,if_false,Bool.false_or]
        rw [Bool.eq_iff_iff,decide_eq_true_eq,decide_eq_true_eq]
        have h2:-1≤Lib.indexByte l c:=by
          have:=Lib.index_ge l [c]
          rwa [Lib.index_one] at this
        omega
theorem angle_find (l:List UInt8):angle l=(decide (0≤Lib.index l [60])||decide (0≤Lib.index l [62])):=by
  rw [Lib.index_one,Lib.index_one,ib_anyW,ib_anyW]
  unfold angle
  induction l with
  | nil=>rfl
  | cons b l ih =>
    simp only [List.any_cons,ih]
    have:([60,62]:List UInt8).contains b=((b==60)||(b==62)):=by
      rw [List.contains_cons,List.contains_cons,List.contains_nil,Bool.or_false]
    rw [this]
    cases b==60<;>cases b==62<;>simp
theorem drop_at {α:Type} {l x y:List α} (h:l=x++y):l.drop x.length=y:=by
  subst h
  exact List.drop_left
theorem who_at (l:List UInt8) :
    (findI l [32,60] 0=-1∧whoR l=(2,Pn.zero)) ∨
    ∃ a:Nat,findI l [32,60] 0=(a:Int)∧a≤l.length ∧
      ((findI l [62,32] a=-1∧whoR l=(2,Pn.zero)) ∨
       ∃ b:Nat,findI l [62,32] a=(b:Int)∧a+2≤b∧b≤l.length ∧
        ((findI l [32] (b+2)=-1∧whoR l=(2,Pn.zero)) ∨
         ∃ c:Nat,findI l [32] (b+2)=(c:Int)∧b+2≤c∧c+1≤l.length ∧
          l=whoN l++([32,60]++(whoM l++([62,32]++(whoT l++([32]++whoZ l)))))∧a=(whoN l).length∧b=(whoN l).length+2+(whoM l).length∧c=(whoN l).length+2+(whoM l).length+2+(whoT l).length)):=by
  cases f1:(Lib.cut l [32,60]).2.2 with
  | false =>
    left
    refine ⟨by rw [findI_zero];exact (ccut_no f1).2,whoR_none ?_⟩
    unfold whoZ
    rw [(ccut_no f1).1,ccut_nil1,ccut_nil2]
  | true =>
    right
    have s1:=(ccut_yes f1).1
    refine ⟨(whoN l).length,by rw [findI_zero];exact (ccut_yes f1).2.2,?_,?_⟩
    · have:=congrArg List.length s1
      simp only [List.length_append] at this
      show (Lib.cut l [32,60]).1.length≤_
      omega
    have hd:l.drop (whoN l).length=32::60::(Lib.cut l [32,60]).2.1:=by
      show l.drop (Lib.cut l [32,60]).1.length=_
      exact drop_at s1
    cases f2:(Lib.cut (Lib.cut l [32,60]).2.1 [62,32]).2.2 with
    | false =>
      left
      refine ⟨?_,whoR_none ?_⟩
      · unfold findI
        rw [hd,index_two,if_pos (ccut_no f2).2]
        rfl
      · unfold whoZ
        rw [(ccut_no f2).1,ccut_nil2]
    | true =>
      right
      have s2:=(ccut_yes f2).1
      have i2:=(ccut_yes f2).2.2
      have hM:(whoM l)=(Lib.cut (Lib.cut l [32,60]).2.1 [62,32]).1:=rfl
      have hb:findI l [62,32] (whoN l).length=(((whoN l).length+2+(whoM l).length:Nat):Int):=by
        have hi:Lib.index (l.drop (whoN l).length) [62,32]=((whoM l).length:Int)+2:=by
          rw [hd,index_two,i2,if_neg (by omega)]
          rfl
        have:(((whoM l).length:Int)+2==-1)=false:=by rw [beq_eq_false_iff_ne];omega
        unfold findI
        rw [hi,this]
        simp
        omega
      have hl2:l.length=(whoN l).length+2+(whoM l).length+2+(Lib.cut (Lib.cut l [32,60]).2.1 [62,32]).2.1.length:=by
        have h1:=congrArg List.length s1
        have h2:=congrArg List.length s2
        have hN:(whoN l).length=(Lib.cut l [32,60]).1.length:=rfl
        simp only [List.length_append,List.length_cons,List.length_nil] at h1 h2
        rw [hM,hN]
        omega
      refine ⟨_,hb,by omega,by omega,?_⟩
      have hd2:l.drop ((whoN l).length+2+(whoM l).length+2)=(Lib.cut (Lib.cut l [32,60]).2.1 [62,32]).2.1:=by
        rw [show (whoN l).length+2+(whoM l).length+2=(whoN l).length+(2+((whoM l).length+2)) by omega,←List.drop_drop,hd,←List.drop_drop]
        show List.drop ((whoM l).length+2) (Lib.cut l [32,60]).2.1=_
        rw [←List.drop_drop,hM]
        rw [drop_at s2]
        rfl
      cases f3:(Lib.cut (Lib.cut (Lib.cut l [32,60]).2.1 [62,32]).2.1 [32]).2.2 with
      | false =>
        left
        refine ⟨?_,whoR_none ?_⟩
        · unfold findI
          rw [hd2,(ccut_no f3).2]
          rfl
        · unfold whoZ
          rw [(ccut_no f3).1]
      | true =>
        right
        have s3:=(ccut_yes f3).1
        have i3:=(ccut_yes f3).2.2
        have hT:(whoT l)=(Lib.cut (Lib.cut (Lib.cut l [32,60]).2.1 [62,32]).2.1 [32]).1:=rfl
        have hc:findI l [32] ((whoN l).length+2+(whoM l).length+2)=(((whoN l).length+2+(whoM l).length+2+(whoT l).length:Nat):Int):=by
          unfold findI
          rw [hd2,i3,hT]
          have:(((Lib.cut (Lib.cut (Lib.cut l [32,60]).2.1 [62,32]).2.1 [32]).1.length:Int)==-1)=false:=by rw [beq_eq_false_iff_ne];omega
          rw [this]
          simp
          omega
        have h3:=congrArg List.length s3
        simp only [List.length_append,List.length_cons,List.length_nil] at h3
        refine ⟨_,hc,by omega,by rw [hT];omega,?_,rfl,rfl,rfl⟩
        show l=(Lib.cut l [32,60]).1++([32,60]++((Lib.cut (Lib.cut l [32,60]).2.1 [62,32]).1++([62,32]++((Lib.cut (Lib.cut (Lib.cut l [32,60]).2.1 [62,32]).2.1 [32]).1++([32]++(Lib.cut (Lib.cut (Lib.cut l [32,60]).2.1 [62,32]).2.1 [32]).2.1)))))
        rw [←s3,←s2,←s1]
end Go.Proofs.YtnoopcenogbjiaaGreatDoor
