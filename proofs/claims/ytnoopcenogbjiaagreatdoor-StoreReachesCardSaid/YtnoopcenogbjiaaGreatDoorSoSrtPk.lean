/-
 The reference's sorted lists of strings, plain.
-/
import Derived.Test.YtnoopcenogbjiaaGreatDoorSoReachPk
import Derived.Test.YtnoopcenogbjiaaGreatDoorSoValPk
import Derived.Test.YtnoopcenogbjiaaGreatDoorSoLivesPk
import Derived.Test.YtnoopcenogbjiaaGreatDoorSoRingPk
import Derived.Test.YtnoopcenogbjiaaGreatDoorSoLkoPk
set_option linter.unusedVariables false
set_option linter.unusedSimpArgs false
namespace Go.Proofs.YtnoopcenogbjiaaGreatDoor
open Go Go.RowKit
theorem bsN_spec (f:Nat→Bool):∀ (d lo hi:Nat),hi-lo≤d→lo≤hi→(∀ i j,lo≤i→i≤j→j<hi→f j=true→f i=true) →
  (∀ j,lo≤j→j<bsN f lo hi→f j=true)∧(∀ j,bsN f lo hi≤j→j<hi→f j=false)
 | d,lo,hi,hd,hl,hm=>by
  by_cases h:lo<hi
  ·cases d with
   | zero=>omega
   | succ d =>
    cases hf:f ((lo+hi) / 2) with
    | true =>
     obtain ⟨h1,h2⟩:=bsN_spec f d ((lo+hi) / 2+1) hi (by omega) (by omega) (fun i j a b c e=>hm i j (by omega) b c e)
     rw [bsN_up h hf]
     refine ⟨fun j hj hb=>?_,h2⟩
     by_cases hj2:j≤(lo+hi) / 2
     ·exact hm j _ hj hj2 (by omega) hf
     ·exact h1 j (by omega) hb
    | false =>
     obtain ⟨h1,h2⟩:=bsN_spec f d lo ((lo+hi) / 2) (by omega) (by omega) (fun i j a b c e=>hm i j a b (by omega) e)
     rw [bsN_dn h hf]
     refine ⟨h1,fun j hj hb=>?_⟩
     by_cases hj2:j<(lo+hi) / 2
     ·exact h2 j hj hj2
     ·cases hfj:f j with
      | false=>rfl
      | true=>rw [hm _ j (by omega) (by omega) hb hfj] at hf;cases hf
  ·rw [bsN_end h]
   exact ⟨fun j a b=>by omega,fun j a b=>by omega⟩
theorem spotS_lt {l:List (List UInt8)} (h:SrtS l) (s:ByteArray) {j:Nat} (hj:j<spotS l s):ltB (str (l.getD j [])) s=true :=
 (bsN_spec (fun m=>ltB (str (l.getD m [])) s) _ 0 l.length (Nat.le_refl _) (Nat.zero_le _) (fun i j _ hij hl hf=>by
  rcases Nat.lt_or_ge i j with h1|h1
  ·exact ltB_trans (srt_getS h h1 hl) hf
  ·obtain rfl:i=j:=by omega
   exact hf)).1 j (Nat.zero_le _) hj
theorem spotS_ge {l:List (List UInt8)} (h:SrtS l) (s:ByteArray) {j:Nat} (hj:spotS l s≤j) (hl:j<l.length):ltB (str (l.getD j [])) s=false :=
 (bsN_spec (fun m=>ltB (str (l.getD m [])) s) _ 0 l.length (Nat.le_refl _) (Nat.zero_le _) (fun i j _ hij hl hf=>by
  rcases Nat.lt_or_ge i j with h1|h1
  ·exact ltB_trans (srt_getS h h1 hl) hf
  ·obtain rfl:i=j:=by omega
   exact hf)).2 j hj hl
theorem mem_getS {l:List (List UInt8)} {x:List UInt8} (h:x∈l):∃ j,j<l.length∧l.getD j []=x:=by
 obtain ⟨j,hj,e⟩:=List.getElem_of_mem h
 exact ⟨j,hj,by rw [List.getD_eq_getElem?_getD,List.getElem?_eq_getElem hj];exact e⟩
theorem dl_str (x:List UInt8):(str x).data.toList=x:=rfl
theorem insS_srt {l:List (List UInt8)} (h:SrtS l) (s:ByteArray):SrtS (insS l s):=by
 unfold insS
 by_cases hh:holdsS l s=true
 ·rw [if_pos hh];exact h
 rw [if_neg hh]
 have hn:s.data.toList∉l:=fun hm=>hh ((holdsS_iff h s).mpr hm)
 have hlt:∀ x∈l.take (spotS l s),ltB (str x) s=true:=fun x hx=>by
  obtain ⟨j,hj,e⟩:=mem_getS hx
  rw [List.length_take] at hj
  have h1:=spotS_lt h s (j:=j) (by omega)
  rw [List.getD_eq_getElem?_getD,List.getElem?_take_of_lt (by omega),←List.getD_eq_getElem?_getD] at e
  rw [e] at h1
  exact h1
 have hgt:∀ x∈l.drop (spotS l s),ltB s (str x)=true:=fun x hx=>by
  obtain ⟨j,hj,e⟩:=mem_getS hx
  rw [List.length_drop] at hj
  have h1:=spotS_ge h s (j:=spotS l s+j) (by omega) (by omega)
  rw [List.getD_eq_getElem?_getD,List.getElem?_drop,←List.getD_eq_getElem?_getD] at e
  rw [e] at h1
  have hne:s≠str x:=fun e2=>hn (by rw [e2,dl_str];exact List.mem_of_mem_drop hx)
  rcases ltB_total hne with h2|h2
  ·exact h2
  ·rw [h1] at h2;cases h2
 have h2:SrtS (l.take (spotS l s)++l.drop (spotS l s)):=by rw [List.take_append_drop];exact h
 unfold SrtS at h2 ⊢
 rw [List.pairwise_append] at h2 ⊢
 refine ⟨h2.1,List.pairwise_cons.mpr ⟨fun x hx=>hgt x hx,h2.2.1⟩,fun a ha b hb=>?_⟩
 rcases List.mem_cons.mp hb with rfl|hb
 ·exact hlt a ha
 ·exact h2.2.2 a ha b hb
theorem mem_insS {l:List (List UInt8)} (h:SrtS l) (s:ByteArray) (x:List UInt8):x∈insS l s↔x∈l∨x=s.data.toList:=by
 unfold insS
 by_cases hh:holdsS l s=true
 ·rw [if_pos hh]
  have:=(holdsS_iff h s).mp hh
  constructor
  ·exact .inl
  ·rintro (h1|rfl)
   ·exact h1
   ·exact this
 ·rw [if_neg hh]
  conv=>rhs;rw [←List.take_append_drop (spotS l s) l]
  simp only [List.mem_append,List.mem_cons]
  constructor
  ·rintro (h1|h1|h1)
   ·exact .inl (.inl h1)
   ·exact .inr h1
   ·exact .inl (.inr h1)
  ·rintro ((h1|h1)|h1)
   ·exact .inl h1
   ·exact .inr (.inr h1)
   ·exact .inr (.inl h1)
theorem insS_len (l:List (List UInt8)) (s:ByteArray):(insS l s).length≤l.length+1:=by
 unfold insS
 split
 ·omega
 ·simp only [List.length_append,List.length_cons,List.length_take,List.length_drop]
  have:=spotS_le l s
  omega
def srtS (l:List (List UInt8)):List (List UInt8):=l.foldl (fun a x=>insS a (str x)) []
theorem srtS_more {l:List (List UInt8)} {k:Nat} (h:k<l.length):srtS (l.take (k+1))=insS (srtS (l.take k)) (str l[k]):=by
 unfold srtS
 rw [List.take_succ_eq_append_getElem h,List.foldl_append]
 rfl
theorem srtS_at (l:List (List UInt8)):SrtS (srtS l)∧∀ x,x∈srtS l↔x∈l:=by
 have all:∀ k,k≤l.length→SrtS (srtS (l.take k))∧∀ x,x∈srtS (l.take k)↔x∈l.take k:=fun k=>by
  induction k with
  | zero=>exact fun _=>⟨List.Pairwise.nil,fun x=>by simp [srtS]⟩
  | succ k ih =>
   intro hk
   obtain ⟨h1,h2⟩:=ih (by omega)
   rw [srtS_more (by omega)]
   refine ⟨insS_srt h1 _,fun x=>?_⟩
   rw [mem_insS h1,h2,List.take_succ_eq_append_getElem (by omega),List.mem_append,List.mem_singleton,dl_str]
 have h:=all l.length (Nat.le_refl _)
 rw [List.take_length] at h
 exact h
theorem srtS_len (l:List (List UInt8)):(srtS l).length≤l.length:=by
 have all:∀ k,k≤l.length→(srtS (l.take k)).length≤k:=fun k=>by
  induction k with
  | zero=>exact fun _=>by simp [srtS]
  | succ k ih =>
   intro hk
   rw [srtS_more (by omega)]
   have:=insS_len (srtS (l.take k)) (str l[k])
   have:=ih (by omega)
   omega
 have h:=all l.length (Nat.le_refl _)
 rw [List.take_length] at h
 exact h
end Go.Proofs.YtnoopcenogbjiaaGreatDoor
/-
 The walks of the reference's Holds, Insert and Sorted.
-/
namespace Go.Proofs.YtnoopcenogbjiaaGreatDoor
open Go Go.RowKit Go.Maps Go.WideMaps
theorem SRw.takeS {w:World} {p:Option Addr} {ls:List (List UInt8)} (h:SRw w p ls) (k:Nat):SRw w p (ls.take k):=fun i hi=>by
 have h2:i<ls.length:=by rw [List.length_take] at hi;omega
 obtain ⟨g,o,rfl,hg,hc⟩:=h i h2
 exact ⟨g,o,rfl,hg,by rw [hc];congr 3;simp⟩
theorem SRw.dropS {w:World} {p:Option Addr} {ls:List (List UInt8)} {c n:Nat} (h:SRw w p ls) (i:Nat) (hn:n=ls.length) (hc:n≤c) (hi:i≤n):SRw w (if c=i then p else p.map (·.add i)) (ls.drop i):=fun k hk=>by
 rw [List.length_drop] at hk
 have h2:i+k<ls.length:=by omega
 obtain ⟨g,o,rfl,hg,hx⟩:=h (i+k) h2
 rw [if_neg (by omega)]
 refine ⟨g,o+i,by rw [Option.map_some,Addr.add_lit],hg,?_⟩
 rw [Nat.add_assoc,hx,List.getElem_drop]
theorem SOw.empty (w:World) {base:Nat} (hb:base≤w.heap.size):SOw (w.alloc (.cells #[] 9)) base (.slice (some ⟨w.heap.size,0,none⟩) 0 0) [] :=
 ⟨rfl,.inr ⟨w.heap.size,0,#[],rfl,hb,heap_alloc_new _ _,Nat.le_refl _,Nat.zero_le _,rfl,rfl⟩⟩
theorem SOw.rw2 {w:World} {base:Nat} {v:Value} {l:List (List UInt8)} (h:SOw w base v l):∃ p n cap,v=.slice p n cap∧n=l.length∧n≤cap∧(p=none→cap=0)∧SRw w p l:=by
 obtain ⟨p,cap,hv,hr⟩:=h.rw
 refine ⟨p,l.length,cap,hv,rfl,?_,?_,hr⟩
 ·rcases h.2 with ⟨hx,h0⟩|⟨g,cap',cur,hx,_,_,hc,_⟩
  ·omega
  ·rw [hv] at hx
   injection hx with _ _ h3
   omega
 ·intro hp
  rcases h.2 with ⟨hx,_⟩|⟨g,cap',cur,hx,_⟩
  ·rw [hv] at hx;injection hx
  ·rw [hv,hp] at hx;cases hx
set_option maxHeartbeats 1000000 in
set_option maxRecDepth 4000 in
theorem rholds_any (l:List (List UInt8)) (s:ByteArray) (p:Option Addr) (n c:Nat) (w:World) (hn:n=l.length) (hp:SRw w p l) (hn2:n≤140737488355328) :
  Calls Tryz.prog 36 #[.slice p n c,.string s] w fun e w'=>e=.returned (.bool (holdsS l s))∧w=w':=by
 have HC:=Lib.hid (rspot_any l s p n c w hn hp hn2)
 obtain ⟨A,hA⟩:∃ A,A=spotS l s:=⟨_,rfl⟩
 have hhs:holdsS l s=(decide (A<n)&&decide (str (l.getD A [])=s)):=by rw [holdsS,hA,hn]
 rw [hhs]
 rw [←hA] at HC
 have hAn:A≤n:=by rw [hA,hn];exact spotS_le l s
 by_cases hlt:A<n
 ·have hAl:A<l.length:=by rw [←hn];exact hlt
  obtain ⟨g,o,hpe,hg,a9⟩:=hp A hAl
  subst hpe
  obtain ⟨x,hx⟩:∃ x,x=str l[A]:=⟨_,rfl⟩
  rw [getS_at hAl,←hx]
  have a0:w.cell? ⟨g,o+A,none⟩=some (.string x):=by rw [hx];exact a9
  have q1:(A:Int)<(n:Int):=by omega
  obtain ⟨B,hB⟩:∃ B,B=decide (x=s):=⟨_,rfl⟩
  have gB:(x.toList==s.toList)=B:=by rw [hB];exact str_dec
  have HQ:Hid ((decide (A<n)&&decide (x=s))=B):=by show _=_;rw [decide_eq_true hlt,hB];rfl
  clear hn hp hA hhs a9 hAl hg hx hB
  go_enter Tryz.func36,Tryz.ntmps36
  go_wp2_with (go_at_call 69;((with_reducible refine HC.out.mono ?_);rintro e w2 ⟨rfl,rfl⟩))
  go_ret
  exact ⟨by rw [HQ.out];rfl,rfl⟩
 ·have q1:¬ (A:Int)<(n:Int):=by omega
  have HQ:Hid ((decide (A<n)&&decide (str (l.getD A [])=s))=false):=by show _=_;rw [decide_eq_false hlt];rfl
  clear hn hp hA hhs hlt hAn
  go_enter Tryz.func36,Tryz.ntmps36
  go_wp2_with (go_at_call 69;((with_reducible refine HC.out.mono ?_);rintro e w2 ⟨rfl,rfl⟩))
  go_ret
  exact ⟨by rw [HQ.out];rfl,rfl⟩
set_option maxHeartbeats 4000000 in
set_option maxRecDepth 4000 in
theorem rinsert_any (l:List (List UInt8)) (s:ByteArray) (p:Option Addr) (n c:Nat) (w:World) (hn:n=l.length) (hnc:n≤c) (hpc:p=none→c=0) (hp:SRw w p l) (hn2:n≤1000000) :
  Calls Tryz.prog 91 #[.slice p n c,.string s] w fun e w'=>(∃ q m d,e=.returned (.slice q m d)∧m=(insS l s).length∧m≤d∧(q=none→d=0)∧SRw w' q (insS l s))∧Below w.heap.size w w':=by
 have HC:=Lib.hid (rspot_any l s p n c w hn hp (by omega))
 obtain ⟨A,hA⟩:∃ A,A=spotS l s:=⟨_,rfl⟩
 have hhs:holdsS l s=(decide (A<n)&&decide (str (l.getD A [])=s)):=by rw [holdsS,hA,hn]
 rw [←hA] at HC
 have hAn:A≤n:=by rw [hA,hn];exact spotS_le l s
 obtain ⟨I,hI⟩:∃ I,I=insS l s:=⟨_,rfl⟩
 rw [←hI]
 have hins:holdsS l s=false→I=l.take A++[s.data.toList]++l.drop A:=fun h=>by rw [hI,insS,if_neg (by rw [h];decide),←hA];simp
 have hsame:holdsS l s=true→I=l:=fun h=>by rw [hI,insS,if_pos h]
 rw [hhs] at hins hsame
 have HN:=Lib.hid hn
 have HP:=Lib.hid hp
 have HPC:=Lib.hid hpc
 have HINS:=Lib.hid hins
 have HSAME:=Lib.hid hsame
 have hAc:A≤c:=by omega
 have HT:=Lib.hid (hp.takeS A)
 have HD:=Lib.hid (hp.dropS A hn hnc hAn)
 obtain ⟨Q,hQ⟩:∃ Q,(if c=A then p else p.map (·.add A))=Q:=⟨_,rfl⟩
 rw [hQ] at HD
 have HTL:Hid (A=(l.take A).length):=by show A=_;rw [List.length_take];omega
 have HDL:Hid (n-A=(l.drop A).length):=by show _=_;rw [List.length_drop];omega
 have HO:=fun w'=>SOw.empty (base:=w.heap.size) w'
 clear hn hpc hA hhs hI hins hsame
 by_cases hlt:A<n
 ·have hAl:A<l.length:=by rw [←HN.out];exact hlt
  obtain ⟨g,o,hpe,hg,a9⟩:=hp A hAl
  have HPE:=Lib.hid hpe
  obtain ⟨x,hx⟩:∃ x,x=str l[A]:=⟨_,rfl⟩
  have hgd:=getS_at hAl
  have a0:w.cell? ⟨g,o+A,none⟩=some (.string x):=by rw [hx];exact a9
  have q1:(A:Int)<(n:Int):=by omega
  have HX:Hid (str (l.getD A [])=x):=by show _=_;rw [hgd,hx]
  clear a9 hx hgd hp
  by_cases hxs:x=s
  ·have gB:(x.toList==s.toList)=true:=by rw [str_dec];exact decide_eq_true hxs
   have HQ:Hid (I=l):=HSAME.out (by rw [decide_eq_true hlt,HX.out,decide_eq_true hxs];rfl)
   clear hxs
   subst hpe
   go_enter Tryz.func91,Tryz.ntmps91
   go_wp2_with (go_at_call 69;((with_reducible refine HC.out.mono ?_);rintro e w2 ⟨rfl,rfl⟩))
   go_ret
   exact ⟨⟨_,_,_,rfl,by rw [HQ.out];exact HN.out,hnc,HPC.out,by rw [HQ.out];exact HP.out⟩,Below.refl _ _⟩
  ·have gB:(x.toList==s.toList)=false:=by rw [str_dec];exact decide_eq_false hxs
   have HQ:Hid (I=l.take A++[s.data.toList]++l.drop A):=HINS.out (by rw [decide_eq_true hlt,HX.out,decide_eq_false hxs];rfl)
   clear hxs
   subst hpe
   rw [Option.map_some,Addr.add_lit,if_neg (by omega)] at hQ
   subst hQ
   go_enter Tryz.func91,Tryz.ntmps91
   go_upto_region 4 with (go_at_call 69;((with_reducible refine HC.out.mono ?_);rintro e w2 ⟨rfl,rfl⟩))
   go_upto_region 5 with (at_builtin;refine wp_so_many rfl _ _ rfl rfl (HO w (Nat.le_refl _)) _ A c rfl HTL.out (HT.out.below (below_new (Below.refl _ _) _)) (by simp<;>omega) (by simp) ?_;intro v1 w1 h1 g1;have H1:=Lib.hid h1;have B1:=Lib.hid ((below_new (Below.refl w.heap.size w) (.cells #[] 9)).grown g1 (by simp) (fun j hj=>((HO w (Nat.le_refl _)).lt j hj).1));clear h1 g1)
   go_upto_region 6 with (at_builtin;refine wp_so_one rfl _ _ rfl rfl H1.out s rfl (by simp<;>omega) B1.out.size ?_;intro v2 w2 h2 g2;have H2:=Lib.hid h2;have B2:=Lib.hid (H1.out.bel1 B1.out (Nat.le_refl _) B1.out.size g2);clear h2 g2)
   go_wp2_with (at_builtin;refine wp_so_many rfl _ _ rfl rfl H2.out _ (n-A) (c-A) rfl HDL.out (HD.out.below B2.out) (by simp<;>omega) B2.out.size ?_;intro v3 w3 h3 g3;have H3:=Lib.hid h3;have B3:=Lib.hid (app_step0 B2.out H2.out g3 (Nat.le_refl _) B2.out.size);clear h3 g3;obtain ⟨q,m,d,rfl,hm,hmd,hqd,hr⟩:=H3.out.rw2;have HM:=Lib.hid hm;clear hm)
   go_ret
   have hm:=HM.out
   rw [List.nil_append,←HQ.out] at hm hr
   exact ⟨⟨q,m,d,rfl,hm,hmd,hqd,hr⟩,B3.out⟩
 ·have q1:¬ (A:Int)<(n:Int):=by omega
  have HQ:Hid (I=l.take A++[s.data.toList]++l.drop A):=HINS.out (by rw [decide_eq_false hlt];rfl)
  clear hlt
  rcases p with _|a
  ·obtain rfl:c=0:=HPC.out rfl
   obtain rfl:n=0:=by omega
   obtain rfl:A=0:=by omega
   rw [if_pos rfl] at hQ
   subst hQ
   clear q1
   go_enter Tryz.func91,Tryz.ntmps91
   go_upto_region 4 with (go_at_call 69;((with_reducible refine HC.out.mono ?_);rintro e w2 ⟨rfl,rfl⟩))
   go_upto_region 5 with (at_builtin;refine wp_so_many rfl _ _ rfl rfl (HO w (Nat.le_refl _)) _ 0 0 rfl HTL.out (HT.out.below (below_new (Below.refl _ _) _)) (by simp<;>omega) (by simp) ?_;intro v1 w1 h1 g1;have H1:=Lib.hid h1;have B1:=Lib.hid ((below_new (Below.refl w.heap.size w) (.cells #[] 9)).grown g1 (by simp) (fun j hj=>((HO w (Nat.le_refl _)).lt j hj).1));clear h1 g1)
   go_upto_region 6 with (at_builtin;refine wp_so_one rfl _ _ rfl rfl H1.out s rfl (by simp<;>omega) B1.out.size ?_;intro v2 w2 h2 g2;have H2:=Lib.hid h2;have B2:=Lib.hid (H1.out.bel1 B1.out (Nat.le_refl _) B1.out.size g2);clear h2 g2)
   go_wp2_with (at_builtin;refine wp_so_many rfl _ _ rfl rfl H2.out _ 0 0 rfl HDL.out (HD.out.below B2.out) (by simp<;>omega) B2.out.size ?_;intro v3 w3 h3 g3;have H3:=Lib.hid h3;have B3:=Lib.hid (app_step0 B2.out H2.out g3 (Nat.le_refl _) B2.out.size);clear h3 g3;obtain ⟨q,m,d,rfl,hm,hmd,hqd,hr⟩:=H3.out.rw2;have HM:=Lib.hid hm;clear hm)
   go_ret
   have hm:=HM.out
   rw [List.nil_append,←HQ.out] at hm hr
   exact ⟨⟨q,m,d,rfl,hm,hmd,hqd,hr⟩,B3.out⟩
  ·have HDN:Hid (∀ w' p',SRw w' p' (l.drop A)):=fun w' p'=>by
    rw [List.drop_eq_nil_of_le (by have:=HN.out;omega)]
    exact SRw.none _ _
   clear HD hQ
   by_cases hcA:c=A
   ·obtain rfl:A=c:=hcA.symm
    have HD0:Hid (0=(l.drop A).length):=by show 0=_;rw [←HDL.out];omega
    go_enter Tryz.func91,Tryz.ntmps91
    go_upto_region 4 with (go_at_call 69;((with_reducible refine HC.out.mono ?_);rintro e w2 ⟨rfl,rfl⟩))
    go_upto_region 5 with (at_builtin;refine wp_so_many rfl _ _ rfl rfl (HO w (Nat.le_refl _)) _ A A rfl HTL.out (HT.out.below (below_new (Below.refl _ _) _)) (by simp<;>omega) (by simp) ?_;intro v1 w1 h1 g1;have H1:=Lib.hid h1;have B1:=Lib.hid ((below_new (Below.refl w.heap.size w) (.cells #[] 9)).grown g1 (by simp) (fun j hj=>((HO w (Nat.le_refl _)).lt j hj).1));clear h1 g1)
    go_upto_region 6 with (at_builtin;refine wp_so_one rfl _ _ rfl rfl H1.out s rfl (by simp<;>omega) B1.out.size ?_;intro v2 w2 h2 g2;have H2:=Lib.hid h2;have B2:=Lib.hid (H1.out.bel1 B1.out (Nat.le_refl _) B1.out.size g2);clear h2 g2)
    go_wp2_with (at_builtin;refine wp_so_many rfl _ _ rfl rfl H2.out _ 0 0 rfl HD0.out (HDN.out _ _) (by simp<;>omega) B2.out.size ?_;intro v3 w3 h3 g3;have H3:=Lib.hid h3;have B3:=Lib.hid (app_step0 B2.out H2.out g3 (Nat.le_refl _) B2.out.size);clear h3 g3;obtain ⟨q,m,d,rfl,hm,hmd,hqd,hr⟩:=H3.out.rw2;have HM:=Lib.hid hm;clear hm)
    go_ret
    have hm:=HM.out
    rw [List.nil_append,←HQ.out] at hm hr
    exact ⟨⟨q,m,d,rfl,hm,hmd,hqd,hr⟩,B3.out⟩
   ·have hcA2:¬ (c:Int)=(A:Int):=by omega
    go_enter Tryz.func91,Tryz.ntmps91
    go_upto_region 4 with (go_at_call 69;((with_reducible refine HC.out.mono ?_);rintro e w2 ⟨rfl,rfl⟩))
    go_upto_region 5 with (at_builtin;refine wp_so_many rfl _ _ rfl rfl (HO w (Nat.le_refl _)) _ A c rfl HTL.out (HT.out.below (below_new (Below.refl _ _) _)) (by simp<;>omega) (by simp) ?_;intro v1 w1 h1 g1;have H1:=Lib.hid h1;have B1:=Lib.hid ((below_new (Below.refl w.heap.size w) (.cells #[] 9)).grown g1 (by simp) (fun j hj=>((HO w (Nat.le_refl _)).lt j hj).1));clear h1 g1)
    go_upto_region 6 with (at_builtin;refine wp_so_one rfl _ _ rfl rfl H1.out s rfl (by simp<;>omega) B1.out.size ?_;intro v2 w2 h2 g2;have H2:=Lib.hid h2;have B2:=Lib.hid (H1.out.bel1 B1.out (Nat.le_refl _) B1.out.size g2);clear h2 g2)
    go_wp2_with (at_builtin;refine wp_so_many rfl _ _ rfl rfl H2.out _ (n-A) (c-A) rfl HDL.out (HDN.out _ _) (by simp<;>omega) B2.out.size ?_;intro v3 w3 h3 g3;have H3:=Lib.hid h3;have B3:=Lib.hid (app_step0 B2.out H2.out g3 (Nat.le_refl _) B2.out.size);clear h3 g3;obtain ⟨q,m,d,rfl,hm,hmd,hqd,hr⟩:=H3.out.rw2;have HM:=Lib.hid hm;clear hm)
    go_ret
    have hm:=HM.out
    rw [List.nil_append,←HQ.out] at hm hr
    exact ⟨⟨q,m,d,rfl,hm,hmd,hqd,hr⟩,B3.out⟩
set_option maxHeartbeats 4000000 in
set_option maxRecDepth 4000 in
theorem rsorted_any (ids:List (List UInt8)) (p:Option Addr) (n c:Nat) (w:World) (hn:n=ids.length) (hp:SRw w p ids) (hn2:n≤1000000) :
  Calls Tryz.prog 56 #[.slice p n c] w fun e w'=>(∃ q m d,e=.returned (.slice q m d)∧m=(srtS ids).length∧m≤d∧(q=none→d=0)∧SRw w' q (srtS ids))∧Below w.heap.size w w':=by
 have HN:=Lib.hid hn
 have HP:=Lib.hid hp
 clear hn hp
 go_enter Tryz.func56,Tryz.ntmps56
 go_wp2
 go_loopw [3,4] (fun ov iv wr=>∃ (k m d:Nat) (q:Option Addr),k≤n∧ov=.slice q m d∧iv=.int .i64 (k:Int)∧Hid (m=(srtS (ids.take k)).length∧m≤d∧(q=none→d=0)∧SRw wr q (srtS (ids.take k)))∧Hid (Below w.heap.size w wr)) (fun _ iv _=>n-(intOf iv).toNat)
 case atStart=>exact ⟨0,0,0,none,by omega,rfl,rfl,⟨rfl,Nat.le_refl _,fun _=>rfl,SRw.none _ _⟩,Below.refl _ _⟩
 case round =>
  obtain ⟨k,m,d,q,hk,rfl,rfl,HJ,HB⟩:=hrel
  by_cases hlt:k<n
  ·have hkl:k<ids.length:=by rw [←HN.out];exact hlt
   have q1:(k:Int)<(n:Int):=by omega
   obtain ⟨g,o,rfl,hg,a0⟩:=HP.out.below HB.out k hkl
   obtain ⟨x,hx⟩:∃ x,x=str ids[k]:=⟨_,rfl⟩
   rw [←hx] at a0
   have hl:m≤1000000:=by
    have h1:=srtS_len (ids.take k)
    rw [List.length_take] at h1
    have h2:=HJ.out.1
    omega
   have HI:=Lib.hid (rinsert_any (srtS (ids.take k)) x q m d wr HJ.out.1 HJ.out.2.1 HJ.out.2.2.1 HJ.out.2.2.2 hl)
   have hmo:=srtS_more hkl
   rw [←hx] at hmo
   rw [←hmo] at HI
   clear hmo hx hg hkl
   go_wp2_with (go_at_call 91;((with_reducible refine HI.out.mono ?_);rintro e w2 ⟨⟨q2,m2,d2,rfl,hm2,hmd2,hqd2,hr2⟩,hb2⟩;have HJ2:=Lib.hid (And.intro hm2 (And.intro hmd2 (And.intro hqd2 hr2)));clear hm2 hmd2 hqd2 hr2))
   go_roundw
   case rel=>exact ⟨k+1,m2,d2,q2,by omega,rfl,by go_num,HJ2.out,HB.out.trans (hb2.mono HB.out.size)⟩
   case measure=>simp [intOf];omega
  ·obtain rfl:n=k:=by omega
   have HX:Hid (ids.take n=ids):=by show _=_;rw [List.take_of_length_le (by have:=HN.out;omega)]
   rw [HX.out] at HJ
   go_wp2
   go_ret
   exact ⟨⟨q,m,d,rfl,HJ.out.1,HJ.out.2.1,HJ.out.2.2.1,HJ.out.2.2.2⟩,HB.out⟩
theorem keepS1 {w0 wa wb:World} {a1 a2:Nat} {x:Value} (hb:Below wa.heap.size wa wb) (h:Below w0.heap.size w0 wa∧wa.cell? ⟨a1,a2,none⟩=some x):Below w0.heap.size w0 wb∧wb.cell? ⟨a1,a2,none⟩=some x :=
 ⟨h.1.trans (hb.mono h.1.size),cell_bel h.2 hb⟩
def runA {σ:Type} (l:List It) (acc:σ→Lk→Int→σ×Bool):List Lk→σ→σ×Bool
 | [],s=>(s,true)
 | lk::r,s=>if (acc s lk (getI l lk.i).k).2=true then runA l acc r (acc s lk (getI l lk.i).k).1 else ((acc s lk (getI l lk.i).k).1,false)
inductive Ls (l:List It) (cuts:List (List UInt8)) (L0:List Lk):Lk→Prop
 | base {lk:Lk}:lk∈L0→Ls l cuts L0 lk
 | step {lk lk':Lk}:Ls l cuts L0 lk→lk'∈getL l cuts lk.i→Ls l cuts L0 lk'
theorem fol_trace {σ:Type} (l:List It) (cuts:List (List UInt8)) (acc:σ→Lk→Int→σ×Bool) (P:Lk→Prop) (hP:∀ lk,P lk→∀ lk'∈getL l cuts lk.i,P lk') :
  ∀ (f:Nat) (kf:Kf) (ws:List (List Lk)) (cur:List Lk) (s:σ),phi l cuts kf ws cur<f→(∀ (i:ByteArray) kd,kf i.data.toList=some kd→kd=(getI l i).k)→(∀ w∈ws,∀ lk∈w,P lk)→(∀ lk∈cur,P lk) →
   ∃ T:List Lk,(∀ lk∈T,P lk)∧fol l cuts acc f kf ws cur s=runA l acc T s∧((fol l cuts acc f kf ws cur s).2=true→(∀ w∈ws,∀ lk∈w,lk∈T)∧(∀ lk∈cur,lk∈T)∧∀ lk∈T,kf lk.i.data.toList=none→∀ lk'∈getL l cuts lk.i,lk'∈T)
 | 0,_,_,_,_,h,_,_,_=>absurd h (Nat.not_lt_zero _)
 | f+1,kf,[],[],s,_,_,_,_=>by
  refine ⟨[],by simp,?_,fun _=>⟨by simp,by simp,by simp⟩⟩
  rw [fol_end,runA]
 | f+1,kf,w::ws,[],s,hf,hk,hw,hc=>by
  have h0:=phi_pop (l:=l) (cuts:=cuts) (kf:=kf) (w:=w) (ws:=ws)
  obtain ⟨T,h1,h2,h3⟩:=fol_trace l cuts acc P hP f kf ws w s (by omega) hk (fun v hv=>hw v (List.mem_cons_of_mem _ hv)) (hw w List.mem_cons_self)
  refine ⟨T,h1,by rw [fol_pop,h2],fun h=>?_⟩
  rw [fol_pop] at h
  obtain ⟨h4,h5,h6⟩:=h3 h
  refine ⟨fun v hv=>?_,by simp,h6⟩
  rcases List.mem_cons.1 hv with rfl|hv
  ·exact h5
  ·exact h4 v hv
 | f+1,kf,ws,lk::cur,s,hf,hk,hw,hc=>by
  have hlk:=hc lk List.mem_cons_self
  have hcu:∀ x∈cur,P x:=fun x hx=>hc x (List.mem_cons_of_mem _ hx)
  obtain ⟨⟨s',b⟩,ha⟩:∃ x,acc s lk (getI l lk.i).k=x:=⟨_,rfl⟩
  cases hkf:kf lk.i.data.toList with
  | some kd =>
   obtain rfl:=hk _ _ hkf
   cases b with
   | false =>
    refine ⟨[lk],by simpa using hlk,?_,fun h=>?_⟩
    ·rw [fol_met_no hkf ha,runA,ha];simp
    ·rw [fol_met_no hkf ha] at h;simp at h
   | true =>
    have h0:=phi_met (l:=l) (cuts:=cuts) (kf:=kf) (ws:=ws) (cur:=cur) (lk:=lk)
    obtain ⟨T,h1,h2,h3⟩:=fol_trace l cuts acc P hP f kf ws cur s' (by omega) hk hw hcu
    refine ⟨lk::T,?_,?_,fun h=>?_⟩
    ·intro x hx
     rcases List.mem_cons.1 hx with rfl|hx
     ·exact hlk
     ·exact h1 x hx
    ·rw [fol_met hkf ha,h2,runA,ha];simp
    ·rw [fol_met hkf ha] at h
     obtain ⟨h4,h5,h6⟩:=h3 h
     refine ⟨fun v hv x hx=>List.mem_cons_of_mem _ (h4 v hv x hx),fun x hx=>?_,fun x hx hn y hy=>?_⟩
     ·rcases List.mem_cons.1 hx with rfl|hx
      ·exact List.mem_cons_self
      ·exact List.mem_cons_of_mem _ (h5 x hx)
     ·rcases List.mem_cons.1 hx with rfl|hx
      ·rw [hkf] at hn;cases hn
      ·exact List.mem_cons_of_mem _ (h6 x hx hn y hy)
  | none =>
   cases b with
   | false =>
    refine ⟨[lk],by simpa using hlk,?_,fun h=>?_⟩
    ·rw [fol_new_no hkf rfl ha,runA,ha];simp
    ·rw [fol_new_no hkf rfl ha] at h;simp at h
   | true =>
    have h0:=phi_new (l:=l) (cuts:=cuts) (kf:=kf) (ws:=ws) (cur:=cur) (lk:=lk) (kd:=(getI l lk.i).k) hkf
    obtain ⟨T,h1,h2,h3⟩:=fol_trace l cuts acc P hP f (kput kf lk.i.data.toList (getI l lk.i).k) (getL l cuts lk.i::ws) cur s' (by omega)
     (fun i kd h=>by
      unfold kput at h
      by_cases hi:i.data.toList=lk.i.data.toList
      ·rw [if_pos hi] at h
       cases h
       rw [ba_ext hi]
      ·rw [if_neg hi] at h
       exact hk i kd h)
     (fun v hv=>by
      rcases List.mem_cons.1 hv with rfl|hv
      ·exact hP lk hlk
      ·exact hw v hv) hcu
    refine ⟨lk::T,?_,?_,fun h=>?_⟩
    ·intro x hx
     rcases List.mem_cons.1 hx with rfl|hx
     ·exact hlk
     ·exact h1 x hx
    ·rw [fol_new hkf rfl ha,h2,runA,ha];simp
    ·rw [fol_new hkf rfl ha] at h
     obtain ⟨h4,h5,h6⟩:=h3 h
     refine ⟨fun v hv x hx=>List.mem_cons_of_mem _ (h4 v (List.mem_cons_of_mem _ hv) x hx),fun x hx=>?_,fun x hx hn y hy=>?_⟩
     ·rcases List.mem_cons.1 hx with rfl|hx
      ·exact List.mem_cons_self
      ·exact List.mem_cons_of_mem _ (h5 x hx)
     ·by_cases hi:x.i.data.toList=lk.i.data.toList
      ·rw [ba_ext hi] at hy
       exact List.mem_cons_of_mem _ (h4 _ List.mem_cons_self y hy)
      ·rcases List.mem_cons.1 hx with rfl|hx
       ·exact absurd rfl hi
       ·exact List.mem_cons_of_mem _ (h6 x hx (by rw [kput,if_neg hi];exact hn) y hy)
theorem fol_runs {σ:Type} (l:List It) (cuts ids:List (List UInt8)) (acc:σ→Lk→Int→σ×Bool) (s:σ) :
  ∃ T:List Lk,(∀ lk∈T,Ls l cuts (toL 0 ids) lk)∧fol l cuts acc (rndS l cuts ids) (fun _=>none) [toL 0 ids] [] s=runA l acc T s∧((fol l cuts acc (rndS l cuts ids) (fun _=>none) [toL 0 ids] [] s).2=true→∀ lk,Ls l cuts (toL 0 ids) lk→lk∈T):=by
 obtain ⟨T,h1,h2,h3⟩:=fol_trace l cuts acc (Ls l cuts (toL 0 ids)) (fun lk h lk' h'=>.step h h') (rndS l cuts ids) (fun _=>none) [toL 0 ids] [] s (Nat.lt_succ_self _) (fun _ _ h=>by cases h) (fun w hw lk hlk=>by
  obtain rfl:=List.mem_singleton.1 hw
  exact .base hlk) (by simp)
 refine ⟨T,h1,h2,fun h lk hlk=>?_⟩
 obtain ⟨h4,-,h6⟩:=h3 h
 induction hlk with
 | base h=>exact h4 _ (List.mem_singleton.2 rfl) _ h
 | step _ h ih=>exact h6 _ ih rfl _ h
def rwk (pr:List UInt8→Bool) (nm:List UInt8→List (List UInt8)):Nat→List (List UInt8)→List (List UInt8)→List (List UInt8)→List (List UInt8)×List (List UInt8)
 | 0,h,k,_=>(h,k)
 | _+1,h,k,[]=>(h,k)
 | f+1,h,k,x::r=>if x∈h∨x∈k then rwk pr nm f h k r else if pr x=true then rwk pr nm f (insS h (str x)) k (r++nm x) else rwk pr nm f h (insS k (str x)) r
section
variable {pr:List UInt8→Bool} {nm:List UInt8→List (List UInt8)} {f:Nat} {h k:List (List UInt8)} {x:List UInt8} {r:List (List UInt8)}
theorem rwk_end:rwk pr nm (f+1) h k []=(h,k):=rfl
theorem rwk_met (hx:x∈h∨x∈k):rwk pr nm (f+1) h k (x::r)=rwk pr nm f h k r:=by rw [rwk,if_pos hx]
theorem rwk_new (hx:¬ (x∈h∨x∈k)) (hp:pr x=true):rwk pr nm (f+1) h k (x::r)=rwk pr nm f (insS h (str x)) k (r++nm x):=by rw [rwk,if_neg hx,if_pos hp]
theorem rwk_lack (hx:¬ (x∈h∨x∈k)) (hp:pr x=false):rwk pr nm (f+1) h k (x::r)=rwk pr nm f h (insS k (str x)) r:=by rw [rwk,if_neg hx,if_neg (by rw [hp];decide)]
end
theorem mem_ins {l:List (List UInt8)} (h:SrtS l) (x y:List UInt8):y∈insS l (str x)↔y∈l∨y=x:=by rw [mem_insS h,str_list]
structure RwOk (pr:List UInt8→Bool) (nm:List UInt8→List (List UInt8)) (R:List UInt8→Prop) (h k td H K:List (List UInt8)):Prop where
 sh:SrtS H
 sk:SrtS K
 ph:∀ x∈h,x∈H
 pk:∀ x∈k,x∈K
 pt:∀ x∈td,x∈H∨x∈K
 cl:∀ x∈H,x∈h∨∀ y∈nm x,y∈H∨y∈K
 rh:∀ x∈H,x∈h∨(R x∧pr x=true)
 rk:∀ x∈K,x∈k∨(R x∧pr x=false)
theorem rwk_ok (pr:List UInt8→Bool) (nm:List UInt8→List (List UInt8)) (R:List UInt8→Prop) (pn:List (List UInt8)→Nat) (hR:∀ x,R x→pr x=true→∀ y∈nm x,R y)
  (hpn:∀ h x,SrtS h→x∉h→pr x=true→pn (insS h (str x))+(nm x).length≤pn h) :
  ∀ (f:Nat) (h k td:List (List UInt8)),pn h+td.length<f→SrtS h→SrtS k→(∀ x∈td,R x)→RwOk pr nm R h k td (rwk pr nm f h k td).1 (rwk pr nm f h k td).2
 | 0,_,_,_,hf,_,_,_=>absurd hf (Nat.not_lt_zero _)
 | f+1,h,k,[],_,sh,sk,_=>by
  rw [rwk_end]
  exact ⟨sh,sk,fun _ h=>h,fun _ h=>h,by simp,fun _ h=>.inl h,fun _ h=>.inl h,fun _ h=>.inl h⟩
 | f+1,h,k,x::r,hf,sh,sk,ht=>by
  have hx:=ht x List.mem_cons_self
  have hr:∀ y∈r,R y:=fun y hy=>ht y (List.mem_cons_of_mem _ hy)
  rw [List.length_cons] at hf
  by_cases hm:x∈h∨x∈k
  ·obtain ⟨a1,a2,a3,a4,a5,a6,a7,a8⟩:=rwk_ok pr nm R pn hR hpn f h k r (by omega) sh sk hr
   rw [rwk_met hm]
   refine ⟨a1,a2,a3,a4,fun y hy=>?_,a6,a7,a8⟩
   rcases List.mem_cons.1 hy with rfl|hy
   ·exact hm.imp (a3 _) (a4 _)
   ·exact a5 y hy
  ·have hnh:x∉h:=fun e=>hm (.inl e)
   cases hp:pr x with
   | true =>
    have h0:=hpn h x sh hnh hp
    obtain ⟨a1,a2,a3,a4,a5,a6,a7,a8⟩:=rwk_ok pr nm R pn hR hpn f (insS h (str x)) k (r++nm x) (by rw [List.length_append];omega) (insS_srt sh _) sk (fun y hy=>by
     rcases List.mem_append.1 hy with hy|hy
     ·exact hr y hy
     ·exact hR x hx hp y hy)
    rw [rwk_new hm hp]
    refine ⟨a1,a2,fun y hy=>a3 y ((mem_ins sh x y).2 (.inl hy)),a4,fun y hy=>?_,fun y hy=>?_,fun y hy=>?_,a8⟩
    ·rcases List.mem_cons.1 hy with rfl|hy
     ·exact .inl (a3 _ ((mem_ins sh _ _).2 (.inr rfl)))
     ·exact a5 y (List.mem_append_left _ hy)
    ·rcases a6 y hy with h1|h1
     ·rcases (mem_ins sh x y).1 h1 with h1|rfl
      ·exact .inl h1
      ·exact .inr fun z hz=>a5 z (List.mem_append_right _ hz)
     ·exact .inr h1
    ·rcases a7 y hy with h1|h1
     ·rcases (mem_ins sh x y).1 h1 with h1|rfl
      ·exact .inl h1
      ·exact .inr ⟨hx,hp⟩
     ·exact .inr h1
   | false =>
    obtain ⟨a1,a2,a3,a4,a5,a6,a7,a8⟩:=rwk_ok pr nm R pn hR hpn f h (insS k (str x)) r (by omega) sh (insS_srt sk _) hr
    rw [rwk_lack hm hp]
    refine ⟨a1,a2,a3,fun y hy=>a4 y ((mem_ins sk x y).2 (.inl hy)),fun y hy=>?_,a6,a7,fun y hy=>?_⟩
    ·rcases List.mem_cons.1 hy with rfl|hy
     ·exact .inr (a4 _ ((mem_ins sk _ _).2 (.inr rfl)))
     ·exact a5 y hy
    ·rcases a8 y hy with h1|h1
     ·rcases (mem_ins sk x y).1 h1 with h1|rfl
      ·exact .inl h1
      ·exact .inr ⟨hx,hp⟩
     ·exact .inr h1
theorem rwk_all (pr:List UInt8→Bool) (nm:List UInt8→List (List UInt8)) (R:List UInt8→Prop) (pn:List (List UInt8)→Nat) (ids:List (List UInt8)) (hR:∀ x,R x→pr x=true→∀ y∈nm x,R y)
  (hmin:∀ S:List UInt8→Prop,(∀ x∈ids,S x)→(∀ x,S x→pr x=true→∀ y∈nm x,S y)→∀ x,R x→S x)
  (hpn:∀ h x,SrtS h→x∉h→pr x=true→pn (insS h (str x))+(nm x).length≤pn h) (f:Nat) (hf:pn []+ids.length<f) (hi:∀ x∈ids,R x) :
  SrtS (rwk pr nm f [] [] ids).1∧SrtS (rwk pr nm f [] [] ids).2∧(∀ x,x∈(rwk pr nm f [] [] ids).1↔R x∧pr x=true)∧∀ x,x∈(rwk pr nm f [] [] ids).2↔R x∧pr x=false:=by
 obtain ⟨a1,a2,-,-,a5,a6,a7,a8⟩:=rwk_ok pr nm R pn hR hpn f [] [] ids hf List.Pairwise.nil List.Pairwise.nil hi
 have hall:∀ x,R x→x∈(rwk pr nm f [] [] ids).1∨x∈(rwk pr nm f [] [] ids).2:=hmin _ a5 fun x hx hp y hy=>by
  rcases hx with hx|hx
  ·rcases a6 x hx with h|h
   ·cases h
   ·exact h y hy
  ·rcases a8 x hx with h|h
   ·cases h
   ·rw [h.2] at hp;cases hp
 have hh:∀ x∈(rwk pr nm f [] [] ids).1,R x∧pr x=true:=fun x hx=>(a7 x hx).resolve_left (by simp)
 have hk:∀ x∈(rwk pr nm f [] [] ids).2,R x∧pr x=false:=fun x hx=>(a8 x hx).resolve_left (by simp)
 refine ⟨a1,a2,fun x=>⟨hh x,fun ⟨h1,h2⟩=>?_⟩,fun x=>⟨hk x,fun ⟨h1,h2⟩=>?_⟩⟩
 ·rcases hall x h1 with h|h
  ·exact h
  ·have:=(hk x h).2;rw [h2] at this;cases this
 ·rcases hall x h1 with h|h
  ·have:=(hh x h).2;rw [h2] at this;cases this
  ·exact h
def Rch (l:List It) (cuts ids:List (List UInt8)) (x:List UInt8):Prop:=∃ lk,Ls l cuts (toL 0 ids) lk∧lk.i.data.toList=x
def kndI (l:List It) (x:List UInt8):Int:=(getI l (str x)).k
def nmI (l:List It) (cuts:List (List UInt8)) (x:List UInt8):List (List UInt8):=(getL l cuts (str x)).map fun lk=>lk.i.data.toList
theorem str_data (b:ByteArray):str b.data.toList=b:=ba_ext (str_list _)
theorem knd_data (l:List It) (b:ByteArray):kndI l b.data.toList=(getI l b).k:=by rw [kndI,str_data]
theorem toL_mem {k:Int} {ids:List (List UInt8)} {lk:Lk}:lk∈toL k ids↔lk.i.data.toList∈ids∧lk.k=k:=by
 unfold toL
 rw [List.mem_map]
 constructor
 ·rintro ⟨x,hx,rfl⟩
  exact ⟨by rw [str_list];exact hx,rfl⟩
 ·rintro ⟨h1,h2⟩
  exact ⟨_,h1,by cases lk;simp only at h2 ⊢;rw [str_data,h2]⟩
theorem rch_base {l:List It} {cuts ids:List (List UInt8)} {x:List UInt8} (h:x∈ids):Rch l cuts ids x:=⟨⟨str x,0⟩,.base (toL_mem.2 ⟨by rw [str_list];exact h,rfl⟩),str_list _⟩
theorem rch_step {l:List It} {cuts ids:List (List UInt8)} {x y:List UInt8} (h:Rch l cuts ids x) (hy:y∈nmI l cuts x):Rch l cuts ids y:=by
 obtain ⟨lk,h1,rfl⟩:=h
 rw [nmI,str_data] at hy
 obtain ⟨lk',h2,rfl⟩:=List.mem_map.1 hy
 exact ⟨lk',.step h1 h2,rfl⟩
theorem rch_min {l:List It} {cuts ids:List (List UInt8)} (S:List UInt8→Prop) (h0:∀ x∈ids,S x) (h1:∀ x,S x→∀ y∈nmI l cuts x,S y):∀ x,Rch l cuts ids x→S x:=by
 rintro _ ⟨lk,h,rfl⟩
 induction h with
 | base h=>exact h0 _ (toL_mem.1 h).1
 | step _ h ih=>exact h1 _ ih _ (by rw [nmI,str_data];exact List.mem_map.2 ⟨_,h,rfl⟩)
theorem runR (l:List It):∀ (T:List Lk) (s:List (List UInt8)),((runA l accR T s).2=true↔∀ lk∈T,(getI l lk.i).k≠0)∧((runA l accR T s).2=true→(runA l accR T s).1=s++T.map fun lk=>lk.i.data.toList)
 | [],s=>by simp [runA]
 | lk::r,s=>by
  obtain ⟨h1,h2⟩:=runR l r (s++[lk.i.data.toList])
  by_cases h:(getI l lk.i).k=0
  ·have e:runA l accR (lk::r) s=(s++[lk.i.data.toList],false):=by rw [runA];simp [accR,h]
   rw [e]
   refine ⟨⟨fun h=>by simp at h,fun h3=>absurd h (h3 _ List.mem_cons_self)⟩,fun h=>by simp at h⟩
  ·have e:runA l accR (lk::r) s=runA l accR r (s++[lk.i.data.toList]):=by rw [runA];simp [accR,h]
   rw [e]
   refine ⟨by rw [h1,List.forall_mem_cons];exact ⟨fun h3=>⟨h,h3⟩,fun h3=>h3.2⟩,fun h3=>?_⟩
   rw [h2 h3,List.map_cons,List.append_assoc]
   rfl
theorem runM (l:List It):∀ (T:List Lk) (s:List (List UInt8)),(runA l accM T s).2=true∧∀ x,x∈(runA l accM T s).1↔x∈s∨∃ lk∈T,lk.i.data.toList=x∧(getI l lk.i).k=0
 | [],s=>by simp [runA]
 | lk::r,s=>by
  by_cases h:(getI l lk.i).k=0
  ·have e:runA l accM (lk::r) s=runA l accM r (s++[lk.i.data.toList]):=by rw [runA];simp [accM,h]
   obtain ⟨h1,h2⟩:=runM l r (s++[lk.i.data.toList])
   rw [e]
   refine ⟨h1,fun x=>?_⟩
   rw [h2 x,List.mem_append,List.mem_singleton]
   constructor
   ·rintro ((h3|rfl)|⟨y,h3,h4⟩)
    ·exact .inl h3
    ·exact .inr ⟨lk,List.mem_cons_self,rfl,h⟩
    ·exact .inr ⟨y,List.mem_cons_of_mem _ h3,h4⟩
   ·rintro (h3|⟨y,h3,h4,h5⟩)
    ·exact .inl (.inl h3)
    ·rcases List.mem_cons.1 h3 with rfl|h3
     ·exact .inl (.inr h4.symm)
     ·exact .inr ⟨y,h3,h4,h5⟩
  ·have e:runA l accM (lk::r) s=runA l accM r s:=by rw [runA];simp [accM,h]
   obtain ⟨h1,h2⟩:=runM l r s
   rw [e]
   refine ⟨h1,fun x=>?_⟩
   rw [h2 x]
   constructor
   ·rintro (h3|⟨y,h3,h4⟩)
    ·exact .inl h3
    ·exact .inr ⟨y,List.mem_cons_of_mem _ h3,h4⟩
   ·rintro (h3|⟨y,h3,h4,h5⟩)
    ·exact .inl h3
    ·rcases List.mem_cons.1 h3 with rfl|h3
     ·exact absurd h5 h
     ·exact .inr ⟨y,h3,h4,h5⟩
def fitL (l:List It) (lk:Lk):Prop:=(getI l lk.i).k≠0∧(lk.k=0∨lk.k=(getI l lk.i).k)
theorem runW (l:List It):∀ (T:List Lk),(runA l accW T ()).2=true↔∀ lk∈T,fitL l lk
 | []=>by simp [runA]
 | lk::r=>by
  have ih:=runW l r
  by_cases h:fitL l lk
  ·have e:runA l accW (lk::r) ()=runA l accW r ():=by
    obtain ⟨h1,h2⟩:=h
    rw [runA];rcases h2 with h2|h2<;>simp [accW,h1,h2]
   rw [e,ih,List.forall_mem_cons]
   exact ⟨fun h3=>⟨h,h3⟩,fun h3=>h3.2⟩
  ·have e:runA l accW (lk::r) ()=((),false):=by
    have h2:(accW () lk (getI l lk.i).k).2=false:=by
     unfold fitL at h
     cases h3:(accW () lk (getI l lk.i).k).2 with
     | false=>rfl
     | true =>
      simp only [accW,Bool.and_eq_true,Bool.or_eq_true,decide_eq_true_eq] at h3
      exact absurd h3 h
    rw [runA,h2,if_neg (by decide)]
   rw [e]
   exact ⟨fun h=>by simp at h,fun h3=>absurd (h3 _ List.mem_cons_self) h⟩
theorem reach_all (l:List It) (ids:List (List UInt8)):((reachF l ids).2=true↔∀ x,Rch l [] ids x→kndI l x≠0)∧((reachF l ids).2=true→∀ x,x∈(reachF l ids).1↔Rch l [] ids x):=by
 obtain ⟨T,h1,h2,h3⟩:=fol_runs l [] ids accR []
 obtain ⟨h4,h5⟩:=runR l T []
 unfold reachF
 rw [h2] at h3 ⊢
 refine ⟨⟨fun h=>?_,fun h=>?_⟩,fun h x=>?_⟩
 ·rintro _ ⟨lk,hl,rfl⟩
  rw [knd_data]
  exact h4.1 h lk (h3 h lk hl)
 ·exact h4.2 fun lk hl=>by rw [←knd_data];exact h _ ⟨lk,h1 lk hl,rfl⟩
 ·rw [h5 h,List.nil_append,List.mem_map]
  constructor
  ·rintro ⟨lk,hl,rfl⟩
   exact ⟨lk,h1 lk hl,rfl⟩
  ·rintro ⟨lk,hl,rfl⟩
   exact ⟨lk,h3 h lk hl,rfl⟩
theorem miss_all (l:List It) (ids:List (List UInt8)) (x:List UInt8):x∈(missF l ids).1↔Rch l [] ids x∧kndI l x=0:=by
 obtain ⟨T,h1,h2,h3⟩:=fol_runs l [] ids accM []
 obtain ⟨h4,h5⟩:=runM l T []
 unfold missF
 rw [h2] at h3 ⊢
 rw [h5 x]
 constructor
 ·rintro (h|⟨lk,hl,rfl,h⟩)
  ·cases h
  ·exact ⟨⟨lk,h1 lk hl,rfl⟩,by rw [knd_data];exact h⟩
 ·rintro ⟨⟨lk,hl,rfl⟩,h⟩
  rw [knd_data] at h
  exact .inr ⟨lk,h3 h4 lk hl,rfl,h⟩
theorem whole_all (l:List It) (cuts ids:List (List UInt8)):wholeI l cuts ids=true↔∀ lk,Ls l cuts (toL 0 ids) lk→fitL l lk:=by
 obtain ⟨T,h1,h2,h3⟩:=fol_runs l cuts ids accW ()
 unfold wholeI
 rw [h2] at h3 ⊢
 refine ⟨fun h lk hl=>(runW l T).1 h lk (h3 h lk hl),fun h=>(runW l T).2 fun lk hl=>h lk (h1 lk hl)⟩
end Go.Proofs.YtnoopcenogbjiaaGreatDoor
