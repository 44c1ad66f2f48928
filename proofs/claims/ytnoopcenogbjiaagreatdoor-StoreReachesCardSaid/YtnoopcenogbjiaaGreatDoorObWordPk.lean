/-
 The walks of Word, Kind and length.
-/
import Derived.Test.YtnoopcenogbjiaaGreatDoorLawPostPk
import Derived.Test.YtnoopcenogbjiaaGreatDoorShelf
import Derived.Lib.AtoiErrMem
import Derived.Lib.AtoiBound
import Derived.Lib.AppendIntMem
set_option linter.unusedVariables false
set_option linter.unusedSimpArgs false
namespace Go.Proofs.YtnoopcenogbjiaaGreatDoor
open Go.RowKit
structure WoTab (w:World):Prop where
 a0:w.cell? ⟨1,0,none⟩=some (.string ⟨#[]⟩)
 a1:w.cell? ⟨1,1,none⟩=some (.string ⟨#[98,108,111,98]⟩)
 a2:w.cell? ⟨1,2,none⟩=some (.string ⟨#[116,114,101,101]⟩)
 a3:w.cell? ⟨1,3,none⟩=some (.string ⟨#[99,111,109,109,105,116]⟩)
 a4:w.cell? ⟨1,4,none⟩=some (.string ⟨#[116,97,103]⟩)
theorem WoTab.below {w w':World} (h:WoTab w) (hb:Below w.heap.size w w'):WoTab w':=⟨cell_bel h.a0 hb,cell_bel h.a1 hb,cell_bel h.a2 hb,cell_bel h.a3 hb,cell_bel h.a4 hb⟩
set_option maxHeartbeats 1000000 in
theorem word_any (k:Int) (w:World) (h:WoTab w) :
  Calls Tryz.prog 107 #[.int .i64 k] w fun e w'=>e=.returned (.string (str (wordL k)))∧w'=w:=by
 obtain ⟨c0,c1,c2,c3,c4⟩:=h
 by_cases hlo:k<0
 ·have HR:Hid (str (wordL k)=⟨#[]⟩):=by show _=_;rw [wordL_nil.mpr (by omega)];rfl
  go_enter Tryz.func107,Tryz.ntmps107
  go_wp2
  go_ret
  exact ⟨by rw [HR.out];rfl,rfl⟩
 by_cases hhi:5≤k
 ·have HR:Hid (str (wordL k)=⟨#[]⟩):=by show _=_;rw [wordL_nil.mpr (by omega)];rfl
  go_enter Tryz.func107,Tryz.ntmps107
  go_wp2
  go_ret
  exact ⟨by rw [HR.out];rfl,rfl⟩
 have hk:k=0∨k=1∨k=2∨k=3∨k=4:=by omega
 clear hlo hhi
 rcases hk with rfl|rfl|rfl|rfl|rfl
 all_goals
  go_enter Tryz.func107,Tryz.ntmps107
  go_wp2
  go_ret
  exact ⟨rfl,rfl⟩
theorem hne_lit (l:List UInt8) (s:ByteArray) (h:s.data.toList≠l):(l==s.toList)=false:=by
 rw [ByteArray.toList_eq,beq_eq_false_iff_ne]
 exact fun e=>h e.symm
set_option maxHeartbeats 2000000 in
set_option maxRecDepth 4000 in
theorem kind_any (s:ByteArray) (w:World) (h:WoTab w) :
  Calls Tryz.prog 177 #[.string s] w fun e w'=>e=.returned (.int .i64 (kindL s.data.toList:Int))∧w'=w:=by
 obtain ⟨c0,c1,c2,c3,c4⟩:=h
 go_enter Tryz.func177,Tryz.ntmps177
 go_wp2
 go_loop [6] (fun iv=>∃ k:Nat,k≤5∧iv=.int .i64 (k:Int)∧Hid (∀ j:Nat,j<k→s.data.toList≠wordL (j:Int))) (fun iv=>5-(intOf iv).toNat)
 case atStart=>exact ⟨0,by omega,rfl,fun j h=>by omega⟩
 case round =>
  obtain ⟨k,hk,rfl,HN⟩:=hrel
  have hk6:k=0∨k=1∨k=2∨k=3∨k=4∨k=5:=by omega
  clear hk
  rcases hk6 with rfl|rfl|rfl|rfl|rfl|rfl
  ·have ix:∀ w,(Instr.index 152 (.agg #[.string { data:=#[] },.string { data:=#[98,108,111,98] },.string { data:=#[116,114,101,101] },.string { data:=#[99,111,109,109,105,116] },.string { data:=#[116,97,103] }]) (.int .i64 0)).run Tryz.prog w=.ok (.string { data:=#[] }) w:=fun _=>by kernel_rfl
   by_cases hs:s=⟨#[]⟩
   ·subst hs
    go_wp2
    go_ret
    exact ⟨rfl,rfl⟩
   ·have hne:((⟨#[]⟩:ByteArray).toList==s.toList)=false:=ba_ne fun e=>hs e.symm
    have f1:s.toList.isEmpty=false:=by
     rw [ByteArray.toList_eq]
     cases hx:s.data.toList with
     | nil=>exact absurd (ba_ext (by rw [hx])) hs
     | cons a t=>rfl
    have f2:([]==s.toList)=false:=by
     rw [beq_eq_false_iff_ne]
     intro e
     rw [←e] at f1
     cases f1
    have HN2:Hid (∀ j:Nat,j<1→s.data.toList≠wordL (j:Int)):=fun j h=>by
     rcases Nat.lt_or_ge j 0 with h'|h'
     ·exact HN.out j h'
     ·obtain rfl:j=0:=by omega
      intro e
      exact hs (ba_ext (by rw [e];rfl))
    clear HN hs
    go_wp2
    go_round
    case rel=>exact ⟨1,by omega,rfl,HN2.out⟩
    case measure=>simp [intOf]
  ·have ix:∀ w,(Instr.index 152 (.agg #[.string { data:=#[] },.string { data:=#[98,108,111,98] },.string { data:=#[116,114,101,101] },.string { data:=#[99,111,109,109,105,116] },.string { data:=#[116,97,103] }]) (.int .i64 1)).run Tryz.prog w=.ok (.string { data:=#[98,108,111,98] }) w:=fun _=>by kernel_rfl
   by_cases hs:s=⟨#[98,108,111,98]⟩
   ·subst hs
    go_wp2
    go_ret
    exact ⟨rfl,rfl⟩
   ·have hne:((⟨#[98,108,111,98]⟩:ByteArray).toList==s.toList)=false:=ba_ne fun e=>hs e.symm
    have f2:([98,108,111,98]==s.toList)=false:=hne_lit [98,108,111,98] s (fun e=>hs (ba_ext (by rw [e])))
    have HN2:Hid (∀ j:Nat,j<2→s.data.toList≠wordL (j:Int)):=fun j h=>by
     rcases Nat.lt_or_ge j 1 with h'|h'
     ·exact HN.out j h'
     ·obtain rfl:j=1:=by omega
      intro e
      exact hs (ba_ext (by rw [e];rfl))
    clear HN hs
    go_wp2
    go_round
    case rel=>exact ⟨2,by omega,rfl,HN2.out⟩
    case measure=>simp [intOf]
  ·have ix:∀ w,(Instr.index 152 (.agg #[.string { data:=#[] },.string { data:=#[98,108,111,98] },.string { data:=#[116,114,101,101] },.string { data:=#[99,111,109,109,105,116] },.string { data:=#[116,97,103] }]) (.int .i64 2)).run Tryz.prog w=.ok (.string { data:=#[116,114,101,101] }) w:=fun _=>by kernel_rfl
   by_cases hs:s=⟨#[116,114,101,101]⟩
   ·subst hs
    go_wp2
    go_ret
    exact ⟨rfl,rfl⟩
   ·have hne:((⟨#[116,114,101,101]⟩:ByteArray).toList==s.toList)=false:=ba_ne fun e=>hs e.symm
    have f2:([116,114,101,101]==s.toList)=false:=hne_lit [116,114,101,101] s (fun e=>hs (ba_ext (by rw [e])))
    have HN2:Hid (∀ j:Nat,j<3→s.data.toList≠wordL (j:Int)):=fun j h=>by
     rcases Nat.lt_or_ge j 2 with h'|h'
     ·exact HN.out j h'
     ·obtain rfl:j=2:=by omega
      intro e
      exact hs (ba_ext (by rw [e];rfl))
    clear HN hs
    go_wp2
    go_round
    case rel=>exact ⟨3,by omega,rfl,HN2.out⟩
    case measure=>simp [intOf]
  ·have ix:∀ w,(Instr.index 152 (.agg #[.string { data:=#[] },.string { data:=#[98,108,111,98] },.string { data:=#[116,114,101,101] },.string { data:=#[99,111,109,109,105,116] },.string { data:=#[116,97,103] }]) (.int .i64 3)).run Tryz.prog w=.ok (.string { data:=#[99,111,109,109,105,116] }) w:=fun _=>by kernel_rfl
   by_cases hs:s=⟨#[99,111,109,109,105,116]⟩
   ·subst hs
    go_wp2
    go_ret
    exact ⟨rfl,rfl⟩
   ·have hne:((⟨#[99,111,109,109,105,116]⟩:ByteArray).toList==s.toList)=false:=ba_ne fun e=>hs e.symm
    have f2:([99,111,109,109,105,116]==s.toList)=false:=hne_lit [99,111,109,109,105,116] s (fun e=>hs (ba_ext (by rw [e])))
    have HN2:Hid (∀ j:Nat,j<4→s.data.toList≠wordL (j:Int)):=fun j h=>by
     rcases Nat.lt_or_ge j 3 with h'|h'
     ·exact HN.out j h'
     ·obtain rfl:j=3:=by omega
      intro e
      exact hs (ba_ext (by rw [e];rfl))
    clear HN hs
    go_wp2
    go_round
    case rel=>exact ⟨4,by omega,rfl,HN2.out⟩
    case measure=>simp [intOf]
  ·have ix:∀ w,(Instr.index 152 (.agg #[.string { data:=#[] },.string { data:=#[98,108,111,98] },.string { data:=#[116,114,101,101] },.string { data:=#[99,111,109,109,105,116] },.string { data:=#[116,97,103] }]) (.int .i64 4)).run Tryz.prog w=.ok (.string { data:=#[116,97,103] }) w:=fun _=>by kernel_rfl
   by_cases hs:s=⟨#[116,97,103]⟩
   ·subst hs
    go_wp2
    go_ret
    exact ⟨rfl,rfl⟩
   ·have hne:((⟨#[116,97,103]⟩:ByteArray).toList==s.toList)=false:=ba_ne fun e=>hs e.symm
    have f2:([116,97,103]==s.toList)=false:=hne_lit [116,97,103] s (fun e=>hs (ba_ext (by rw [e])))
    have HN2:Hid (∀ j:Nat,j<5→s.data.toList≠wordL (j:Int)):=fun j h=>by
     rcases Nat.lt_or_ge j 4 with h'|h'
     ·exact HN.out j h'
     ·obtain rfl:j=4:=by omega
      intro e
      exact hs (ba_ext (by rw [e];rfl))
    clear HN hs
    go_wp2
    go_round
    case rel=>exact ⟨5,by omega,rfl,HN2.out⟩
    case measure=>simp [intOf]
  ·have HK:Hid (kindL s.data.toList=0):=by
    show _=_
    rcases Nat.eq_zero_or_pos (kindL s.data.toList) with h|h
    ·exact h
    ·exact absurd (word_kind (by omega)).symm (HN.out _ (by have:=kindL_le s.data.toList;omega))
   clear HN
   go_wp2
   go_ret
   exact ⟨by rw [HK.out];rfl,rfl⟩
structure StrTab (w:World):Prop where
 p:Lib.TabIs Tryz.prog w "internal/strconv.uint64pow10" .u64 Lib.pow10Tab
 e:∃ te pe,w.cell? ⟨7,0,none⟩=some (.iface te pe)
 m:∃ m,w.cell? ⟨0,0,none⟩=some (.int .i64 m)
theorem tab_bel {P:Program} {w w':World} {n:String} {k:IntKind} {zs:List Int} (h:Lib.TabIs P w n k zs) (hb:Below w.heap.size w w'):Lib.TabIs P w' n k zs:=by
 unfold Lib.TabIs World.var? at *
 cases hg:P.globalNamed n with
 | none=>rw [hg] at h;cases h
 | some g =>
  rw [hg] at h
  simp only [Option.bind_some] at h ⊢
  have hlt:g<w.heap.size:=by
   rcases Nat.lt_or_ge g w.heap.size with h'|h'
   ·exact h'
   ·rw [Array.getElem?_eq_none h'] at h
    cases h
  rw [hb.block g hlt]
  exact h
theorem StrTab.below {w w':World} (h:StrTab w) (hb:Below w.heap.size w w'):StrTab w':=⟨tab_bel h.p hb,by obtain ⟨te,pe,h1⟩:=h.e;exact ⟨te,pe,cell_bel h1 hb⟩,by obtain ⟨m,h1⟩:=h.m;exact ⟨m,cell_bel h1 hb⟩⟩
theorem itoa_any (n:Int) (w:World) (h0:-9223372036854775808≤n) (h1:n≤9223372036854775807) (h:StrTab w) :
  Calls Tryz.prog 108 #[.int .i64 n] w fun e w'=>e=.returned (.string (str (Lib.itoa n)))∧Below w.heap.size w w' :=
 (Tryz.strconv_Itoa n h0 h1 w h.p).mono fun e w' ⟨he,k,os,hw⟩=>⟨he,by rw [hw];exact Lib.below_grow _ w (Nat.le_refl _) k os⟩
end Go.Proofs.YtnoopcenogbjiaaGreatDoor
/-
 The walk of parseTime: the time that digits state, if they are written as they must be.
-/
namespace Go.Proofs.YtnoopcenogbjiaaGreatDoor
open Go Go.RowKit
def timeI (l:List UInt8):Int:=match numR 18 l with
 | some m=>(m:Int)
 | none=>0
def timeB (l:List UInt8):Bool:=(numR 18 l).isSome
set_option maxHeartbeats 2000000 in
set_option maxRecDepth 4000 in
theorem time_any (s:ByteArray) (w:World) (h:StrTab w) (hs:s.size≤140737488355328) :
  Calls Tryz.prog 197 #[.string s] w fun e w'=>e=.returned (.tuple #[.int .i64 (timeI s.data.toList),.bool (timeB s.data.toList)])∧Below w.heap.size w w':=by
 obtain ⟨I,hI⟩:∃ I,I=timeI s.data.toList:=⟨_,rfl⟩
 obtain ⟨B,hB⟩:∃ B,B=timeB s.data.toList:=⟨_,rfl⟩
 rw [←hI,←hB]
 have none_case:numR 18 s.data.toList=none→Hid (I=0∧B=false):=fun h=>⟨by rw [hI,timeI,h],by rw [hB,timeB,h];rfl⟩
 have some_case:∀ m,numR 18 s.data.toList=some m→Hid (I=(m:Int)∧B=true):=fun m h=>⟨by rw [hI,timeI,h],by rw [hB,timeB,h];rfl⟩
 clear hI hB
 by_cases h7:18<s.size
 ·have HR:=none_case (by rw [numR,if_pos (.inr (.inl (by rw [list_len];exact h7)))])
  clear none_case some_case
  go_enter Tryz.func197,Tryz.ntmps197
  go_wp2
  go_ret2
  exact ⟨by rw [HR.out.1,HR.out.2];rfl,Below.refl _ _⟩
 cases ha:Lib.atoi s.data.toList with
 | none =>
  have HR:=none_case (by
   cases hn:numR 18 s.data.toList with
   | none=>rfl
   | some m=>rw [(atoiK_of_num hn).1] at ha;cases ha)
  obtain ⟨te,pe,hev⟩:=h.e
  have HA:=Lib.hid (Tryz.strconv_Atoi_err s (by omega) ha (.iface te pe) w hev (.inr ⟨te,pe,rfl⟩))
  clear none_case some_case ha hev
  go_enter Tryz.func197,Tryz.ntmps197
  go_wp2_with (go_at_call 217;((with_reducible refine HA.out.mono ?_);rintro e w1 ⟨N,rfl,hN,hN2,hb1⟩))
  go_ret2
  exact ⟨by rw [HR.out.1,HR.out.2];rfl,hb1⟩
 | some n =>
  have hbd:=Lib.atoi_bound ha (by rw [list_len];omega)
  have HA:Hid (Calls Tryz.prog 217 #[.string s] w fun e w'=>e=.returned (.tuple #[.int .i64 n,.nilIface])∧Below w.heap.size w w') :=
   (Tryz.strconv_Atoi s n (by omega) ha w).mono fun e w' ⟨he,t,hw⟩=>⟨he,by rw [hw];exact Lib.bytesWorld_below w _ t⟩
  by_cases hneg:n<0
  ·have HR:=none_case (by
    cases hn:numR 18 s.data.toList with
    | none=>rfl
    | some m =>
     rw [(atoiK_of_num hn).1] at ha
     simp only [Option.some.injEq] at ha
     omega)
   clear none_case some_case ha
   go_enter Tryz.func197,Tryz.ntmps197
   go_wp2_with (go_at_call 217;((with_reducible refine HA.out.mono ?_);rintro e w1 ⟨rfl,hb1⟩))
   go_ret2
   exact ⟨by rw [HR.out.1,HR.out.2];rfl,hb1⟩
  ·obtain ⟨t,ht⟩:∃ t,t=str (Lib.itoa n):=⟨_,rfl⟩
   have HT:Hid (∀ w',Below w.heap.size w w'→Calls Tryz.prog 108 #[.int .i64 n] w' fun e w''=>e=.returned (.string t)∧Below w.heap.size w w''):=fun w' hb =>
    (itoa_any n w' (by omega) (by omega) (h.below hb)).mono fun e w'' ⟨he,hb2⟩=>⟨by rw [he,ht],hb.trans (hb2.mono hb.size)⟩
   by_cases hst:t=s
   ·have hnum:=atoiK_back (n:=n) (k:=18) (l:=s.data.toList) (by omega) (by rw [←hst,ht];rfl) (by rw [list_len];omega)
    have HR:=some_case _ hnum
    have HN:Hid (((n.toNat:Nat):Int)=n):=by show _=_;omega
    subst hst
    clear none_case some_case ha hnum ht
    go_enter Tryz.func197,Tryz.ntmps197
    go_wp2_with (first
     | (go_at_call 217;((with_reducible refine HA.out.mono ?_);rintro e w1 ⟨rfl,hb1⟩))
     | (go_at_call 108;((with_reducible refine (HT.out _ hb1).mono ?_);rintro e w2 ⟨rfl,hb2⟩)))
    go_ret2
    exact ⟨by rw [HR.out.1,HR.out.2,HN.out];rfl,hb2⟩
   ·have HR:=none_case (by
     cases hn:numR 18 s.data.toList with
     | none=>rfl
     | some m =>
      have h1:=atoiK_of_num hn
      rw [h1.1] at ha
      simp only [Option.some.injEq] at ha
      subst ha
      exact absurd (ba_ext (by rw [ht,h1.2];rfl)) hst)
    have hne:(t.toList==s.toList)=false:=ba_ne hst
    have hne2:(t.toList != s.toList)=true:=by rw [bne,hne];rfl
    clear none_case some_case ha ht hst
    go_enter Tryz.func197,Tryz.ntmps197
    go_wp2_with (first
     | (go_at_call 217;((with_reducible refine HA.out.mono ?_);rintro e w1 ⟨rfl,hb1⟩))
     | (go_at_call 108;((with_reducible refine (HT.out _ hb1).mono ?_);rintro e w2 ⟨rfl,hb2⟩)))
    go_ret2
    exact ⟨by rw [HR.out.1,HR.out.2];rfl,hb2⟩
def zoneI (l:List UInt8):Int:=match zonO l with
 | some z=>z
 | none=>0
def zoneB (l:List UInt8):Bool:=(zonO l).isSome
theorem zon_len {l:List UInt8} (h:l.length≠5):zonO l=none:=by
 unfold zonO
 split
 ·simp at h
 ·rfl
theorem zon_sign {s a b c d:UInt8} (h:¬ (s=43∨s=45)):zonO [s,a,b,c,d]=none:=by
 unfold zonO
 simp only
 rw [if_neg (fun h'=>h h'.1)]
theorem zon_zero:zonO [45,48,48,48,48]=none:=by
 unfold zonO
 simp only
 rw [if_neg (fun h'=>h'.2 rfl)]
theorem zon_atoi {s a b c d:UInt8} (hs:s=43∨s=45) (hne:[s,a,b,c,d]≠[45,48,48,48,48]) :
  (Lib.atoi [s,a,b,c,d]=none∧zonO [s,a,b,c,d]=none) ∨
  ∃ n H M:Int,Lib.atoi [s,a,b,c,d]=some n∧n.tdiv 100=H∧n.tmod 100=M∧-100<H∧H<100∧-100<M∧M<100∧zonO [s,a,b,c,d]=if -60<M∧M<60 then some (H*60+M) else none:=by
 rw [atoi_sign a b c d hs,dec_four]
 unfold zonO
 simp only
 rw [if_pos ⟨hs,hne⟩]
 cases h1:Lib.decFrom 0 [a,b] with
 | none=>exact .inl ⟨rfl,rfl⟩
 | some h =>
  cases h2:Lib.decFrom 0 [c,d] with
  | none=>exact .inl ⟨rfl,rfl⟩
  | some m =>
   have b1:=dec_two_lt h1
   have b2:=dec_two_lt h2
   have hp:=zon_parts s h m b2
   refine .inr ⟨_,_,_,rfl,hp.1,hp.2,?_,?_,?_,?_,?_⟩
   ·split<;>omega
   ·split<;>omega
   ·split<;>omega
   ·split<;>omega
   ·simp only [Option.bind_some]
    unfold zonV
    by_cases hs5:s=45
    ·simp only [if_pos hs5]
     by_cases hm:m<60
     ·rw [if_pos hm,if_pos (by omega)]
      congr 1
      omega
     ·rw [if_neg hm,if_neg (by omega)]
    ·simp only [if_neg hs5]
     by_cases hm:m<60
     ·rw [if_pos hm,if_pos (by omega)]
      congr 1
      omega
     ·rw [if_neg hm,if_neg (by omega)]
theorem five_bytes (s:ByteArray) (h:s.size=5):∃ a b c d,s.data.toList=[s[0],a,b,c,d]:=by
 refine ⟨s[1],s[2],s[3],s[4],?_⟩
 have e:=drop_byte s 0 (by omega)
 rw [drop_byte s 1 (by omega),drop_byte s 2 (by omega),drop_byte s 3 (by omega),drop_byte s 4 (by omega),show s.data.toList.drop (4+1)=[] from List.drop_eq_nil_of_le (by rw [list_len];omega)] at e
 simpa using e
set_option maxHeartbeats 2000000 in
set_option maxRecDepth 4000 in
theorem zone_any (s:ByteArray) (w:World) (h:StrTab w) (hs:s.size≤140737488355328) :
  Calls Tryz.prog 198 #[.string s] w fun e w'=>e=.returned (.tuple #[.int .i64 (zoneI s.data.toList),.bool (zoneB s.data.toList)])∧Below w.heap.size w w':=by
 obtain ⟨I,hI⟩:∃ I,I=zoneI s.data.toList:=⟨_,rfl⟩
 obtain ⟨B,hB⟩:∃ B,B=zoneB s.data.toList:=⟨_,rfl⟩
 rw [←hI,←hB]
 have none_case:zonO s.data.toList=none→Hid (I=0∧B=false):=fun h=>⟨by rw [hI,zoneI,h],by rw [hB,zoneB,h];rfl⟩
 have some_case:∀ z,zonO s.data.toList=some z→Hid (I=z∧B=true):=fun m h=>⟨by rw [hI,zoneI,h],by rw [hB,zoneB,h];rfl⟩
 clear hI hB
 by_cases h5:s.size=5
 case neg =>
  have HR:=none_case (zon_len (by rw [list_len];exact h5))
  clear none_case some_case
  go_enter Tryz.func198,Tryz.ntmps198
  go_wp2
  go_ret2
  exact ⟨by rw [HR.out.1,HR.out.2];rfl,Below.refl _ _⟩
 obtain ⟨a,b,c,d,hl⟩:=five_bytes s h5
 have h0:0<s.size:=by omega
 by_cases hsg:s[0]=43∨s[0]=45
 case neg =>
  have HR:=none_case (by rw [hl];exact zon_sign hsg)
  have n1:¬ (s[0].toNat:Int)=43:=fun e=>hsg (.inl (UInt8.toNat_inj.mp (by show _=43;omega)))
  have n2:¬ (s[0].toNat:Int)=45:=fun e=>hsg (.inr (UInt8.toNat_inj.mp (by show _=45;omega)))
  clear none_case some_case hl hsg
  go_enter Tryz.func198,Tryz.ntmps198
  go_wp2
  go_ret2
  exact ⟨by rw [HR.out.1,HR.out.2];rfl,Below.refl _ _⟩
 by_cases hz:s=⟨#[45,48,48,48,48]⟩
 ·have HR:=none_case (by rw [hz];exact zon_zero)
  have he:(s.toList==[45,48,48,48,48])=true:=by rw [hz,ByteArray.toList_eq];rfl
  have e45:s[0]=45:=by
   have:=congrArg ByteArray.data hz
   subst hz
   rfl
  have e0:¬ (s[0].toNat:Int)=43:=by rw [e45];decide
  have e1:(s[0].toNat:Int)=45:=by rw [e45];rfl
  clear none_case some_case hl hsg hz e45
  go_enter Tryz.func198,Tryz.ntmps198
  go_wp2
  go_ret2
  exact ⟨by rw [HR.out.1,HR.out.2];rfl,Below.refl _ _⟩
 have hne:(s.toList==[45,48,48,48,48])=false:=by
  have e:=ba_ne hz
  rw [ByteArray.toList_eq ⟨#[45,48,48,48,48]⟩] at e
  exact e
 have hx:Hid (((s[0].toNat:Int)=43)∨(¬ (s[0].toNat:Int)=43∧(s[0].toNat:Int)=45)):=by
  rcases hsg with e|e
  ·exact .inl (by rw [e];rfl)
  ·exact .inr ⟨by rw [e];decide,by rw [e];rfl⟩
 rcases zon_atoi (s:=s[0]) (a:=a) (b:=b) (c:=c) (d:=d) hsg (fun e=>hz (ba_ext (by rw [hl,e]))) with ⟨ha,hzn⟩|⟨n,H,M,ha,hq,hm,h1,h2,h3,h4,hzn⟩
 ·rw [←hl] at ha hzn
  have HR:=none_case hzn
  obtain ⟨te,pe,hev⟩:=h.e
  have HA:=Lib.hid (Tryz.strconv_Atoi_err s (by omega) ha (.iface te pe) w hev (.inr ⟨te,pe,rfl⟩))
  clear none_case some_case ha hev hl hsg hz hzn
  rcases hx.out with e0|⟨e0,e1⟩
  all_goals
   go_enter Tryz.func198,Tryz.ntmps198
   go_wp2_with (go_at_call 217;((with_reducible refine HA.out.mono ?_);rintro e w1 ⟨N,rfl,hN,hN2,hb1⟩))
   go_ret2
   exact ⟨by rw [HR.out.1,HR.out.2];rfl,hb1⟩
 ·rw [←hl] at ha hzn
  have HA:Hid (Calls Tryz.prog 217 #[.string s] w fun e w'=>e=.returned (.tuple #[.int .i64 n,.nilIface])∧Below w.heap.size w w') :=
   (Tryz.strconv_Atoi s n (by omega) ha w).mono fun e w' ⟨he,t,hw⟩=>⟨he,by rw [hw];exact Lib.bytesWorld_below w _ t⟩
  have hbd:=Lib.atoi_bound ha (by rw [list_len];omega)
  by_cases hM:-60<M∧M<60
  ·rw [if_pos hM] at hzn
   have HR:=some_case _ hzn
   obtain ⟨hM1,hM2⟩:=hM
   obtain ⟨Z,hZ⟩:∃ Z,Z=H*60+M:=⟨_,rfl⟩
   rw [←hZ] at HR
   have HZ:=Lib.hid hZ
   clear none_case some_case ha hl hsg hz hzn hZ
   rcases hx.out with e0|⟨e0,e1⟩
   all_goals
    rcases Int.lt_or_le n 0 with hn0|hn0
   all_goals
    go_enter Tryz.func198,Tryz.ntmps198
    go_wp2_with (go_at_call 217;((with_reducible refine HA.out.mono ?_);rintro e w1 ⟨rfl,hb1⟩))
    go_ret2
    exact ⟨by rw [HR.out.1,HR.out.2,HZ.out];rfl,hb1⟩
  ·rw [if_neg hM] at hzn
   have HR:=none_case hzn
   have HM:Hid (M≤-60∨60≤M):=by show _∨_;omega
   clear none_case some_case ha hl hsg hz hzn hM
   rcases hx.out with e0|⟨e0,e1⟩
   all_goals
    rcases Int.lt_or_le n 0 with hn0|hn0
   all_goals
    rcases HM.out with hM|hM
   all_goals
    go_enter Tryz.func198,Tryz.ntmps198
    go_wp2_with (go_at_call 217;((with_reducible refine HA.out.mono ?_);rintro e w1 ⟨rfl,hb1⟩))
    go_ret2
    exact ⟨by rw [HR.out.1,HR.out.2];rfl,hb1⟩
end Go.Proofs.YtnoopcenogbjiaaGreatDoor
