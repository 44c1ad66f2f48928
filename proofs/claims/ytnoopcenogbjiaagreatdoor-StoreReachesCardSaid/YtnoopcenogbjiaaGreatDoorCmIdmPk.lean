/-
 The walks of the reader's id, text and who.
-/
import Derived.Test.YtnoopcenogbjiaaGreatDoorCmAnyPk
import Derived.Test.YtnoopcenogbjiaaGreatDoorIdDigitPk
import Derived.Test.YtnoopcenogbjiaaGreatDoorObWordPk
set_option linter.unusedVariables false
set_option linter.unusedSimpArgs false
namespace Go.Proofs.YtnoopcenogbjiaaGreatDoor
open Go Go.RowKit
theorem gb_low {w w':World} {b B:Nat} (h:w.grownBy w' (some b)) (hb:B≤b) (hB:B≤w.heap.size):Below B w w' :=
 ⟨h.os,h.tape,h.output,h.size,fun k hk=>h.block k (by omega) (by simp;omega)⟩
set_option maxHeartbeats 1000000 in
set_option maxRecDepth 4000 in
theorem rdId_any (b:Nat) (s word:ByteArray) (B:Bool) (w:World) (h:Rd w b s B) (hT:StrTab w) (hs:s.size≤1048576) (hw:word.size≤1048576) :
  Calls Tryz.prog 143 #[.pointer (some ⟨b,0,none⟩),.string word] w fun e w'=>e=.returned (.string (str (valV s.data.toList word.data.toList)))∧w.grownBy w' (some b)∧Rd w' b (str (valR s.data.toList)) ((B||!(valO s.data.toList word.data.toList))||!(isId (str (valV s.data.toList word.data.toList)))):=by
 have hv:=value_any b s word B w h hT hs hw
 obtain ⟨V,hV⟩:∃ V,V=str (valV s.data.toList word.data.toList):=⟨_,rfl⟩
 obtain ⟨C,hC⟩:∃ C,C=(B||!(valO s.data.toList word.data.toList)):=⟨_,rfl⟩
 obtain ⟨r,hr⟩:∃ r,r=str (valR s.data.toList):=⟨_,rfl⟩
 obtain ⟨I,hI⟩:∃ I,I=isId V:=⟨_,rfl⟩
 rw [←hV,←hC,←hr] at hv
 rw [←hV,←hC,←hr,←hI]
 have hVs:V.size≤140737488355328:=by
  have:=(val_len s.data.toList word.data.toList).1
  rw [list_len] at this
  rw [hV,str_size]
  exact Nat.le_trans this (Nat.le_trans hs (by decide))
 have HV:=Lib.hid hv
 have HI:Hid (∀ w',Calls Tryz.prog 170 #[.string V] w' fun e w''=>e=.returned (.bool I)∧w'=w''):=fun w'=>by rw [hI];exact is_any V w' hVs
 have HE:=Lib.hid (fun w' (h:Rd w' b r C)=>expect_any b r C I w' h)
 clear hv hV hC hr hI h hT hVs hs
 go_enter Tryz.func143,Tryz.ntmps143
 go_wp2_with (first
  | (go_at_call 149;((with_reducible refine (HV.out).mono ?_);rintro e w1 ⟨rfl,hg1,hr1⟩))
  | (go_at_call 170;((with_reducible refine (HI.out _).mono ?_);rintro e w2 ⟨rfl,rfl⟩))
  | (go_at_call 169;((with_reducible refine (HE.out _ hr1).mono ?_);rintro e w3 ⟨rfl,hg3,hr3⟩)))
 go_ret
 exact ⟨rfl,hg1.trans hg3,hr3⟩
set_option maxHeartbeats 1000000 in
set_option maxRecDepth 4000 in
theorem rtext_any (b:Nat) (s:ByteArray) (B:Bool) (w:World) (h:Rd w b s B) (hs:s.size≤1048576) :
  Calls Tryz.prog 146 #[.pointer (some ⟨b,0,none⟩)] w fun e w'=>e=.returned (.string (str (cutP s.data.toList [10])))∧w.grownBy w' (some b)∧Rd w' b s (B||!(Lib.hasPrefix s.data.toList [10])):=by
 have hc:∀ w',_:=fun w'=>cutPre_any s ⟨#[10]⟩ w' (Nat.le_trans hs (by decide))
 have e10:(⟨#[10]⟩:ByteArray).data.toList=[10]:=rfl
 rw [e10] at hc
 obtain ⟨V,hV⟩:∃ V,V=str (cutP s.data.toList [10]):=⟨_,rfl⟩
 obtain ⟨I,hI⟩:∃ I,I=Lib.hasPrefix s.data.toList [10]:=⟨_,rfl⟩
 rw [←hV,←hI] at hc
 rw [←hV,←hI]
 have HC:=Lib.hid hc
 have HE:=Lib.hid (fun w' (h:Rd w' b s B)=>expect_any b s B I w' h)
 have HH:=Lib.hid h
 obtain ⟨a0,a1,f0,f1⟩:=h.at
 clear hc hV hI h hs e10
 go_enter Tryz.func146,Tryz.ntmps146
 go_wp2_with (first
  | (go_at_call 173;((with_reducible refine (HC.out _).mono ?_);rintro e w1 ⟨rfl,rfl⟩))
  | (go_at_call 169;((with_reducible refine (HE.out _ HH.out).mono ?_);rintro e w3 ⟨rfl,hg3,hr3⟩)))
 go_ret
 exact ⟨rfl,hg3,hr3⟩
theorem gb_new {w x:World} {b R:Nat} (h:w.grownBy x (some b)) (hR:w.heap.size≤R) (o:Nat) (v:Value):w.grownBy (x.setCell ⟨R,o,none⟩ v) (some b) :=
 ⟨h.os,h.tape,h.output,Nat.le_trans h.size (by simp),fun i hi hne=>(Below.heap_setCell _ ⟨R,o,none⟩ v i (by show i≠R;omega)).trans (h.block i hi hne)⟩
theorem rd_set {x:World} {b R:Nat} {s:ByteArray} {B:Bool} (h:Rd x b s B) (hne:R≠b) (o:Nat) (v:Value):Rd (x.setCell ⟨R,o,none⟩ v) b s B :=
 (Below.heap_setCell _ ⟨R,o,none⟩ v b (fun e=>hne e.symm)).trans h
set_option maxHeartbeats 2000000 in
set_option maxRecDepth 4000 in
theorem rwho_any (b:Nat) (s word:ByteArray) (B:Bool) (W w:World) (h:Rd w b s B) (hT:StrTab W) (hW:Below W.heap.size W w) (hbW:W.heap.size≤b) (hs:s.size≤1048576) (hw:word.size≤1048576) :
  Calls Tryz.prog 145 #[.pointer (some ⟨b,0,none⟩),.string word] w fun e w' =>
   e=.returned (.agg #[.string (whoR (valV s.data.toList word.data.toList)).2.n,.string (whoR (valV s.data.toList word.data.toList)).2.m,.int .i64 (whoR (valV s.data.toList word.data.toList)).2.t,.int .i64 (whoR (valV s.data.toList word.data.toList)).2.z])∧w.grownBy w' (some b) ∧
   Rd w' b (str (valR s.data.toList)) ((B||!(valO s.data.toList word.data.toList))||!((((whoR (valV s.data.toList word.data.toList)).1:Nat):Int) != 2)):=by
 have hx:=heap_alloc_new w (.cells #[.string ⟨#[]⟩,.string ⟨#[]⟩,.int .i64 0,.int .i64 0] 61)
 have hbx:Below w.heap.size w (w.alloc (.cells #[.string ⟨#[]⟩,.string ⟨#[]⟩,.int .i64 0,.int .i64 0] 61)):=(Below.refl _ _).alloc (Nat.le_refl _) _
 obtain ⟨w1,hw1⟩:∃ w1,w1=w.alloc (.cells #[.string ⟨#[]⟩,.string ⟨#[]⟩,.int .i64 0,.int .i64 0] 61):=⟨_,rfl⟩
 have HW1:=Lib.hid hw1
 rw [←hw1] at hx hbx
 have hlt1:w.heap.size<w1.heap.size:=by rw [hw1,World.size_alloc];omega
 have hWw:=hW.size
 have hW1:Below W.heap.size W w1:=hW.trans (hbx.mono hWw)
 have hv:=value_any b s word B w1 (h.below hbx) (hT.below hW1) hs hw
 obtain ⟨V,hV⟩:∃ V,V=str (valV s.data.toList word.data.toList):=⟨_,rfl⟩
 have hV2:valV s.data.toList word.data.toList=V.data.toList:=by rw [hV];rfl
 obtain ⟨C,hC⟩:∃ C,C=(B||!(valO s.data.toList word.data.toList)):=⟨_,rfl⟩
 obtain ⟨r,hr⟩:∃ r,r=str (valR s.data.toList):=⟨_,rfl⟩
 rw [←hV,←hC,←hr] at hv
 rw [hV2,←hC,←hr]
 have hVs:V.size≤1048576:=by
  have:=(val_len s.data.toList word.data.toList).1
  rw [list_len] at this
  rw [hV,str_size]
  exact Nat.le_trans this hs
 obtain ⟨⟨c,⟨n,m,t,z⟩⟩,hq⟩:∃ q,q=whoR V.data.toList:=⟨_,rfl⟩
 rw [←hq]
 simp only
 have hblt:=h.lt
 have hne:w.heap.size≠b:=by omega
 have HV:Hid (Calls Tryz.prog 149 #[.pointer (some ⟨b,0,none⟩),.string word] w1 fun e w'=>e=.returned (.string V)∧w1.grownBy w' (some b)∧Rd w' b r C):=hv
 have HQ:Hid (∀ w',w1.grownBy w' (some b)→Calls Tryz.prog 172 #[.string V] w' fun e w''=>e=.returned (.tuple #[.agg #[.string n,.string m,.int .i64 t,.int .i64 z],.int .i64 (c:Int)])∧Below w'.heap.size w' w''):=fun w' hg =>
  (who_any V w' (hT.below (hW1.trans (gb_low hg hbW hW1.size))) hVs).mono fun e w'' ⟨he,hb⟩=>⟨by rw [he,←hq],hb⟩
 have HE:=Lib.hid (fun w' ok (h:Rd w' b r C)=>expect_any b r C ok w' h)
 have HX:=Lib.hid hx
 have HBX:=Lib.hid hbx
 have HNE:=Lib.hid hne
 have HLT:=Lib.hid hlt1
 clear hv hV hV2 hC hr hVs hq hne hblt hW1 hWw hw1 hx hbx h hT hW hbW hs hlt1
 go_enter Tryz.func145,Tryz.ntmps145
 go_upto_region 1 with fail
 rw [←HW1.out]
 go_upto_region 2 with (first
  | (go_at_call 149;((with_reducible refine (HV.out).mono ?_);rintro e wa ⟨rfl,hga,hra⟩))
  | (go_at_call 172;((with_reducible refine (HQ.out _ hga).mono ?_);rintro e wb ⟨rfl,hbb⟩)))
 obtain ⟨P,hP⟩:∃ P,P=wb.heap.size:=⟨_,rfl⟩
 obtain ⟨w8,hw8⟩:∃ w8,w8=wb.alloc (.cells #[.string n,.string m,.int .i64 t,.int .i64 z] 61):=⟨_,rfl⟩
 rw [←hw8,←hP]
 have hg8:w1.grownBy w8 (some b):=(hga.trans (gb_below b hbb)).trans (by rw [hw8];exact gb_below b ((Below.refl _ _).alloc (Nat.le_refl _) _))
 have hr8:Rd w8 b r C:=(hra.below hbb).below (by rw [hw8];exact (Below.refl _ _).alloc (Nat.le_refl _) _)
 have hP1:w8.heap[P]?=some (.cells #[.string n,.string m,.int .i64 t,.int .i64 z] 61 (0,0)):=by rw [hw8,hP];exact heap_alloc_new _ _
 have hP0:w8.heap[w.heap.size]?=some (.cells #[.string ⟨#[]⟩,.string ⟨#[]⟩,.int .i64 0,.int .i64 0] 61 (0,0)):=(hg8.block w.heap.size HLT.out (by simpa using HNE.out)).trans HX.out
 have hPb:P≠b:=by have h1:=hra.lt;have h2:=hbb.size;omega
 have hPl:P<w8.heap.size:=by rw [hP,hw8,World.size_alloc];omega
 have hWl:w.heap.size<w8.heap.size:=by have:=HLT.out;have:=hg8.size;omega
 have HG8:=Lib.hid hg8
 have HE8:=Lib.hid (fun ok=>HE.out w8 ok hr8)
 have HP0:=Lib.hid hP0
 have HP1:=Lib.hid hP1
 have HPB:=Lib.hid hPb
 have HPL:=Lib.hid hPl
 have HWL:=Lib.hid hWl
 clear hga hra hbb hP hw8 hg8 hr8 hP0 hP1 hPb hPl hWl
 go_upto_region 3 with (go_at_call 169;((with_reducible refine (HE8.out _).mono ?_);rintro e w9 ⟨rfl,hg9,hr9⟩))
 have hrow:=(hg9.block w.heap.size HWL.out (by simpa using HNE.out)).trans HP0.out
 have hrow1:=(hg9.block P HPL.out (by simpa using HPB.out)).trans HP1.out
 have HRW:=Lib.hid hrow
 have HR9:=Lib.hid hr9
 have HG9:=Lib.hid ((gb_below b HBX.out).trans (HG8.out.trans hg9))
 obtain ⟨y0,y1,y2,y3,z0,z1,z2,z3⟩:=pn_end hrow
 obtain ⟨v0,v1,v2,v3,-,-,-,-⟩:=pn_end hrow1
 clear hrow hrow1 hg9 hr9
 go_wp2
 obtain ⟨d0,d1,d2,d3,_⟩:=pn_end (pn_row (v0:=.string n) (v1:=.string m) (v2:=.int .i64 t) (v3:=.int .i64 z) HRW.out)
 refine bodyPost_ret (v:=.agg #[.string n,.string m,.int .i64 t,.int .i64 z]) (by simp [results,Tryz.results145,go_sem,d0,d1,d2,d3]) rfl ⟨rfl,?_,?_⟩
 ·exact gb_new (gb_new (gb_new (gb_new HG9.out (Nat.le_refl _) _ _) (Nat.le_refl _) _ _) (Nat.le_refl _) _ _) (Nat.le_refl _) _ _
 ·exact rd_set (rd_set (rd_set (rd_set HR9.out HNE.out _ _) HNE.out _ _) HNE.out _ _) HNE.out _ _
set_option maxHeartbeats 1000000 in
set_option maxRecDepth 4000 in
theorem rdKind_any (b:Nat) (s word:ByteArray) (B:Bool) (W w:World) (h:Rd w b s B) (hT:StrTab W) (hO:WoTab W) (hW:Below W.heap.size W w) (hbW:W.heap.size≤b) (hs:s.size≤1048576) (hw:word.size≤1048576) :
    Calls Tryz.prog 148 #[.pointer (some ⟨b,0,none⟩),.string word] w fun e w'=>e=.returned (.int .i64 ((kindL (valV s.data.toList word.data.toList):Nat):Int))∧w.grownBy w' (some b) ∧
      Rd w' b (str (valR s.data.toList)) ((B||!(valO s.data.toList word.data.toList))||!(((kindL (valV s.data.toList word.data.toList):Nat):Int) != 0)):=by
  have hv:=value_any b s word B w h (hT.below hW) hs hw
  obtain ⟨V,hV⟩:∃ V,V=str (valV s.data.toList word.data.toList):=⟨_,rfl⟩
  have hV2:valV s.data.toList word.data.toList=V.data.toList:=by rw [hV];rfl
  obtain ⟨C,hC⟩:∃ C,C=(B||!(valO s.data.toList word.data.toList)):=⟨_,rfl⟩
  obtain ⟨r,hr⟩:∃ r,r=str (valR s.data.toList):=⟨_,rfl⟩
  rw [←hV,←hC,←hr] at hv
  rw [hV2,←hC,←hr]
  obtain ⟨k,hk⟩:∃ k,k=kindL V.data.toList:=⟨_,rfl⟩
  rw [←hk]
  have hk4:k≤4:=by rw [hk];exact kindL_le _
  have hWw:=hW.size
  have HV:=Lib.hid hv
  have HK:Hid (∀ w',w.grownBy w' (some b)→Calls Tryz.prog 177 #[.string V] w' fun e w''=>e=.returned (.int .i64 (k:Int))∧w'=w''):=fun w' hg =>
    (kind_any V w' (hO.below (hW.trans (gb_low hg hbW hWw)))).mono fun e w'' ⟨he,hb⟩=>⟨by rw [he,hk],hb.symm⟩
  have HE:=Lib.hid (fun w' ok (h:Rd w' b r C)=>expect_any b r C ok w' h)
  clear hv hV hV2 hC hr hk h hT hO hW hbW hWw hs
  go_enter Tryz.func148,Tryz.ntmps148
  go_wp2_with (first
    | (go_at_call 149;((with_reducible refine (HV.out).mono ?_);rintro e w1 ⟨rfl,hg1,hr1⟩))
    | (go_at_call 177;((with_reducible refine (HK.out _ hg1).mono ?_);rintro e w2 ⟨rfl,rfl⟩))
    | (go_at_call 169;((with_reducible refine (HE.out _ _ hr1).mono ?_);rintro e w3 ⟨rfl,hg3,hr3⟩)))
  go_ret
  exact ⟨rfl,hg1.trans hg3,hr3⟩
def tagN (l:List UInt8):Bool:=decide (l≠[])&&(decide (l.length≤64)&&(l.all fun b=>decide (33≤b.toNat)))
set_option maxHeartbeats 1000000 in
set_option maxRecDepth 4000 in
theorem tagName_any (s:ByteArray) (w:World) (hs:s.size≤140737488355328) :
    Calls Tryz.prog 179 #[.string s] w fun e w'=>e=.returned (.bool (tagN s.data.toList))∧w'=w:=by
  obtain ⟨B,hB⟩:∃ B,B=tagN s.data.toList:=⟨_,rfl⟩
  rw [←hB]
  have hlen:=list_len s
  by_cases h0:s=⟨#[]⟩
  · have HR:Hid (B=false):=by show _=_;rw [hB,h0];rfl
    have he:(s.toList==[])=true:=by rw [h0,ByteArray.toList_eq];rfl
    clear hB hlen h0
    go_enter Tryz.func179,Tryz.ntmps179
    go_wp2
    go_ret
    exact ⟨by rw [HR.out];rfl,rfl⟩
  have he:(s.toList==[])=false:=by
    have e:=ba_ne h0
    rw [ByteArray.toList_eq ⟨#[]⟩] at e
    exact e
  have hpos:0<s.size:=by
    rcases Nat.eq_zero_or_pos s.size with h|h
    · exact absurd (ba_ext (List.eq_nil_of_length_eq_zero (by rw [hlen];exact h))) h0
    · exact h
  have hnil:decide (s.data.toList≠[])=true:=decide_eq_true (fun h=>by rw [h] at hlen;simp at hlen;omega)
  by_cases h64:s.size≤64
  case neg =>
    have HR:Hid (B=false):=by show _=_;rw [hB,tagN,decide_eq_false (show ¬ s.data.toList.length≤64 by omega)];simp
    clear hB hlen h0 hnil
    go_enter Tryz.func179,Tryz.ntmps179
    go_wp2
    go_ret
    exact ⟨by rw [HR.out];rfl,rfl⟩
  obtain ⟨L,hL⟩:∃ L,L=leastN s[0].toNat s.data.toList:=⟨_,rfl⟩
  have hall:(s.data.toList.all fun b=>decide (33≤b.toNat))=decide (33≤L):=by
    rw [hL,Bool.eq_iff_iff,List.all_eq_true,decide_eq_true_eq,leastN_ge]
    simp only [decide_eq_true_eq]
    refine ⟨fun h=>⟨h _ ?_,h⟩,fun h=>h.2⟩
    have:=drop_byte s 0 hpos
    rw [List.drop_zero] at this
    rw [this]
    exact List.mem_cons_self
  have HB:Hid (B=decide (33≤L)):=by
    show _=_
    rw [hB,tagN,hnil,decide_eq_true (show s.data.toList.length≤64 by omega),hall]
    rfl
  have HE:Hid (∀ w',Calls Tryz.prog 204 #[.string s] w' fun e w''=>e=.returned (.int .u8 (L:Int))∧w''=w'):=fun w'=>by rw [hL];exact least_any s w' hpos hs
  have hL2:L≤255:=by
    have:=leastN_le s.data.toList s[0].toNat
    have:=s[0].toNat_lt
    omega
  clear hB hL hall hlen h0 hnil
  by_cases h33:33≤L
  · have HR:Hid (B=true):=by show _=_;rw [HB.out];exact decide_eq_true h33
    clear HB
    go_enter Tryz.func179,Tryz.ntmps179
    go_wp2_with (go_at_call 204;((with_reducible refine (HE.out _).mono ?_);rintro e w2 ⟨rfl,rfl⟩))
    go_ret
    refine ⟨?_,rfl⟩
    rw [HR.out]
    first
      | rfl
      | (show Ending.returned (.bool (decide ((32:Int)<(L:Int))))=_
         rw [decide_eq_true (by omega)])
  · have HR:Hid (B=false):=by show _=_;rw [HB.out];exact decide_eq_false h33
    clear HB
    go_enter Tryz.func179,Tryz.ntmps179
    go_wp2_with (go_at_call 204;((with_reducible refine (HE.out _).mono ?_);rintro e w2 ⟨rfl,rfl⟩))
    go_ret
    refine ⟨?_,rfl⟩
    rw [HR.out]
    first
      | rfl
      | (show Ending.returned (.bool (decide ((32:Int)<(L:Int))))=_
         rw [decide_eq_false (by omega)])
theorem cocc_one {l:List UInt8} {c:UInt8} {j:Nat} (h:j<l.length):Lib.occAt l [c] j=(c==l[j]):=by
 unfold Lib.occAt
 rw [List.drop_eq_getElem_cons h]
 simp [List.isPrefixOf]
theorem cocc_split {l sep:List UInt8} {i:Nat} (h:Lib.occAt l sep i=true):l=l.take i++(sep++l.drop (i+sep.length)):=by
 obtain ⟨t,ht⟩:=List.isPrefixOf_iff_prefix.mp h
 have h1:l.drop (i+sep.length)=t:=by
  rw [←List.drop_drop,←ht,List.drop_left]
 rw [h1,ht,List.take_append_drop]
theorem ccut_yes {l sep:List UInt8} (h:(Lib.cut l sep).2.2=true):l=(Lib.cut l sep).1++(sep++(Lib.cut l sep).2.1)∧Lib.NoOcc l sep (Lib.cut l sep).1.length∧Lib.index l sep=(Lib.cut l sep).1.length:=by
 rcases Lib.index_spec l sep with ⟨h1,_⟩|⟨i,h1,h2,h3,h4⟩
 ·rw [Lib.cut,if_neg (by omega)] at h
  cases h
 ·have hc:Lib.cut l sep=(l.take i,l.drop (i+sep.length),true):=by rw [Lib.cut,h1,if_pos (by omega),Int.toNat_natCast]
  rw [hc]
  have hl:(l.take i).length=i:=by simp;omega
  simp only [hl]
  exact ⟨cocc_split h3,h4,h1⟩
theorem ccut_no {l sep:List UInt8} (h:(Lib.cut l sep).2.2=false):Lib.cut l sep=(l,[],false)∧Lib.index l sep=-1:=by
 rcases Lib.index_spec l sep with ⟨h1,_⟩|⟨i,h1,h2,h3,h4⟩
 ·exact ⟨by rw [Lib.cut,if_neg (by omega)],h1⟩
 ·rw [Lib.cut,h1,if_pos (by omega)] at h
  cases h
theorem cnot_mem_cut {l:List UInt8} {c:UInt8} (h:(Lib.cut l [c]).2.2=true):c∉(Lib.cut l [c]).1:=fun hm=>by
 obtain ⟨h1,h2,_⟩:=ccut_yes h
 obtain ⟨j,hj,he⟩:=List.mem_iff_getElem.mp hm
 have h3:=h2 j hj
 have hjl:j<l.length:=by
  have:=congrArg List.length h1
  simp at this
  omega
 rw [cocc_one hjl,beq_eq_false_iff_ne] at h3
 refine h3 ?_
 have h4:l[j]=(Lib.cut l [c]).1[j]:=by
  have h5:l[j]?=((Lib.cut l [c]).1++([c]++(Lib.cut l [c]).2.1))[j]?:=by rw [←h1]
  rw [List.getElem?_append_left hj,List.getElem?_eq_getElem hjl,List.getElem?_eq_getElem hj] at h5
  exact Option.some.inj h5
 rw [h4,he]
theorem val_back {l wd:List UInt8} (h:valO l wd=true):l=wd++32::valV l wd++10::valR l∧(10:UInt8)∉valV l wd:=by
 rw [valO,Bool.and_eq_true] at h
 obtain ⟨h1,_⟩:=ccut_yes h.1
 have hn:=cnot_mem_cut h.1
 obtain ⟨t,ht⟩:=List.isPrefixOf_iff_prefix.mp h.2
 have hv:valV l wd=t:=by
  rw [valV,cutP,if_pos h.2,←ht,List.drop_left]
 have hr:valR l=(Lib.cut l [10]).2.1:=rfl
 rw [hv,hr]
 refine ⟨?_,fun hm=>hn (by rw [←ht];simp [hm])⟩
 rw [←ht] at h1
 obtain ⟨R,hR⟩:∃ R,R=(Lib.cut l [10]).2.1:=⟨_,rfl⟩
 rw [←hR] at h1 ⊢
 rw [h1]
 simp
theorem nameB_parts {l:List UInt8} (h:nameB l=true):l≠[]∧l.length≤64∧(l.any fun b=>([60,62]:List UInt8).contains b)=false∧∀ b∈l,32≤b.toNat:=by
 simp only [nameB,Bool.and_eq_true,decide_eq_true_eq,Bool.not_eq_true',List.all_eq_true] at h
 obtain ⟨⟨⟨⟨⟨h1,h2⟩,h3⟩,h4⟩,_⟩,_⟩:=h
 exact ⟨h1,h2,h3,h4⟩
theorem okPn_parts {p:Pn} (h:okPn p=true):nameB p.n.data.toList=true∧nameB p.m.data.toList=true∧0≤p.t∧p.t≤1099511627776∧-840≤p.z∧p.z≤840:=by
 simp only [okPn,Bool.and_eq_true,decide_eq_true_eq] at h
 exact h
theorem whoL_list (p:Pn):(whoL p).data.toList=p.n.data.toList++32::60::(p.m.data.toList++62::32::(Lib.itoa p.t++32::zonL p.z)):=by
 unfold whoL
 simp [str_list,ByteArray.data_append]
theorem angle_app (a b:List UInt8):angle (a++b)=(angle a||angle b):=by
 unfold angle
 rw [List.any_append]
theorem ccut_nil2:Lib.cut [] [32]=([],[],false):=by decide
theorem ccut_nil1:Lib.cut [] [62,32]=([],[],false):=by decide
theorem codeW_ok {T Z A O:Bool} {p:Pn} (h:(codeW T Z A O p).1=0):T=true∧Z=true∧A=false∧O=true∧codeW T Z A O p=(0,p):=by
 unfold codeW at *
 split at h
 ·cases h
 ·rename_i hc
  split at h
  ·cases h
  ·rename_i ho
   refine ⟨?_,?_,?_,?_,?_⟩
   ·cases T
    ·exact absurd (.inl rfl) hc
    ·rfl
   ·cases Z
    ·exact absurd (.inr (.inl rfl)) hc
    ·rfl
   ·cases A
    ·rfl
    ·exact absurd (.inr (.inr rfl)) hc
   ·cases O
    ·exact absurd rfl ho
    ·rfl
   ·rw [if_neg hc,if_neg ho]
theorem who_found {l:List UInt8} (h:whoZ l≠[]):(Lib.cut l [32,60]).2.2=true∧(Lib.cut (Lib.cut l [32,60]).2.1 [62,32]).2.2=true∧(Lib.cut (Lib.cut (Lib.cut l [32,60]).2.1 [62,32]).2.1 [32]).2.2=true:=by
 unfold whoZ at h
 refine ⟨?_,?_,?_⟩
 ·rw [←Bool.not_eq_false]
  intro hc
  rw [(ccut_no hc).1,ccut_nil1,ccut_nil2] at h
  exact h rfl
 ·rw [←Bool.not_eq_false]
  intro hc
  rw [(ccut_no hc).1,ccut_nil2] at h
  exact h rfl
 ·rw [←Bool.not_eq_false]
  intro hc
  rw [(ccut_no hc).1] at h
  exact h rfl
theorem who_whole {l:List UInt8} (h:whoZ l≠[]):l=whoN l++32::60::(whoM l++62::32::(whoT l++32::whoZ l)):=by
 obtain ⟨f1,f2,f3⟩:=who_found h
 have h1:=(ccut_yes f1).1
 have h2:=(ccut_yes f2).1
 have h3:=(ccut_yes f3).1
 have e:l=whoN l++([32,60]++(whoM l++([62,32]++(whoT l++([32]++whoZ l))))):=by
  show l=(Lib.cut l [32,60]).1++([32,60]++((Lib.cut (Lib.cut l [32,60]).2.1 [62,32]).1++([62,32]++((Lib.cut (Lib.cut (Lib.cut l [32,60]).2.1 [62,32]).2.1 [32]).1++([32]++(Lib.cut (Lib.cut (Lib.cut l [32,60]).2.1 [62,32]).2.1 [32]).2.1)))))
  rw [←h3,←h2,←h1]
 exact e
theorem whoR_back {l:List UInt8} (h:(whoR l).1=0):okPn (whoR l).2=true∧(whoL (whoR l).2).data.toList=l:=by
 rw [whoR] at h ⊢
 obtain ⟨hT,hZ,hA,hO,he⟩:=codeW_ok h
 rw [he]
 refine ⟨hO,?_⟩
 obtain ⟨z,hz⟩:=Option.isSome_iff_exists.mp hZ
 obtain ⟨t,ht⟩:=Option.isSome_iff_exists.mp hT
 have hne:whoZ l≠[]:=fun e=>by
  rw [e] at hz
  cases hz
 have hw:=who_whole hne
 have ez:zonL (whoP l).z=whoZ l:=by
  show zonL (zoneI (whoZ l))=_
  rw [zoneI,hz]
  exact (zon_text hz).1
 have et:Lib.itoa (whoP l).t=whoT l:=by
  show Lib.itoa (timeI (whoT l))=_
  rw [timeI,ht]
  exact (atoiK_of_num ht).2
 rw [whoL_list,ez,et]
 exact hw.symm
def wTree:List UInt8:=[116,114,101,101]
def wPar:List UInt8:=[112,97,114,101,110,116]
def wAut:List UInt8:=[97,117,116,104,111,114]
def wCom:List UInt8:=[99,111,109,109,105,116,116,101,114]
def wObj:List UInt8:=[111,98,106,101,99,116]
def wTyp:List UInt8:=[116,121,112,101]
def wTag:List UInt8:=[116,97,103]
def wTgr:List UInt8:=[116,97,103,103,101,114]
structure Cm where
 t:ByteArray
 ps:List (List UInt8)
 a:Pn
 c:Pn
 x:ByteArray
def Cm.zero:Cm:=⟨⟨#[]⟩,[],Pn.zero,Pn.zero,⟨#[]⟩⟩
structure Tg where
 o:ByteArray
 k:Int
 n:ByteArray
 g:Pn
 x:ByteArray
def Tg.zero:Tg:=⟨⟨#[]⟩,0,⟨#[]⟩,Pn.zero,⟨#[]⟩⟩
def noZ (l:List UInt8):Bool:=!(l.any fun b=>b==0)
def allId (ps:List (List UInt8)):Bool:=ps.all fun p=>isId (str p)
def okC (c:Cm):Bool:=isId c.t&&(allId c.ps&&(okPn c.a&&(okPn c.c&&noZ c.x.data.toList)))
def chkC (c:Cm):Nat:=if okC c=false then 1 else if 4096<c.x.size∨8<c.ps.length then 4 else if c.ps.Nodup then 0 else 6
def lineL (wd v:List UInt8):List UInt8:=wd++32::v++[10]
def encC (c:Cm):List UInt8:=lineL wTree c.t.data.toList++(c.ps.flatMap (lineL wPar)++(lineL wAut (whoL c.a).data.toList++(lineL wCom (whoL c.c).data.toList++10::c.x.data.toList)))
def bodyC (c:Cm):List UInt8:=if chkC c=0 then encC c else []
def okG (g:Tg):Bool:=isId g.o&&(decide (wordL g.k≠[])&&(tagN g.n.data.toList&&(okPn g.g&&noZ g.x.data.toList)))
def chkG (g:Tg):Nat:=if okG g=false then 1 else if 4096<g.x.size then 4 else 0
def encG (g:Tg):List UInt8:=lineL wObj g.o.data.toList++(lineL wTyp (wordL g.k)++(lineL wTag g.n.data.toList++(lineL wTgr (whoL g.g).data.toList++10::g.x.data.toList)))
theorem valR_lt {l:List UInt8} (h:l≠[]):(valR l).length<l.length:=by
 have hpos:0<l.length:=List.length_pos_iff.mpr h
 unfold valR
 cases hc:(Lib.cut l [10]).2.2 with
 | false=>rw [(ccut_no hc).1];exact hpos
 | true =>
  have h1:=congrArg List.length (ccut_yes hc).1
  simp at h1
  omega
theorem has_ne {l p:List UInt8} (hp:p≠[]) (h:Lib.hasPrefix l p=true):l≠[]:=fun e=>by
 have:=has_len h
 rw [e] at this
 exact hp (List.eq_nil_of_length_eq_zero (by simpa using this))
def parsP (l:List UInt8) (B:Bool) (ps:List (List UInt8)):List (List UInt8)×List UInt8×Bool :=
 if h:Lib.hasPrefix l (wPar++[32])=true then parsP (valR l) ((B||!(valO l wPar))||!(isId (str (valV l wPar)))) (ps++[valV l wPar]) else (ps,l,B)
termination_by l.length
decreasing_by exact valR_lt (has_ne (by decide) h)
theorem parsP_go {l:List UInt8} {B:Bool} {ps:List (List UInt8)} (h:Lib.hasPrefix l (wPar++[32])=true):parsP l B ps=parsP (valR l) ((B||!(valO l wPar))||!(isId (str (valV l wPar)))) (ps++[valV l wPar]):=by rw [parsP,dif_pos h]
theorem parsP_end {l:List UInt8} {B:Bool} {ps:List (List UInt8)} (h:Lib.hasPrefix l (wPar++[32])=false):parsP l B ps=(ps,l,B):=by rw [parsP,dif_neg (by rw [h];decide)]
theorem parsP_bad:∀ (n:Nat) (l:List UInt8) (ps:List (List UInt8)),l.length≤n→(parsP l true ps).2.2=true
 | n,l,ps,hn=>by
  cases h:Lib.hasPrefix l (wPar++[32]) with
  | false=>rw [parsP_end h]
  | true =>
   have:=valR_lt (has_ne (by decide) h)
   rw [parsP_go h,Bool.true_or,Bool.true_or]
   cases n with
   | zero=>omega
   | succ n=>exact parsP_bad n _ _ (by omega)
structure PcC where
 t:List UInt8
 ps:List (List UInt8)
 a:Nat×Pn
 c:Nat×Pn
 x:List UInt8
 B:Bool
def pcC (l:List UInt8):PcC :=
 let P:=parsP (valR l) ((false||!(valO l wTree))||!(isId (str (valV l wTree)))) []
 let A:=whoR (valV P.2.1 wAut)
 let r3:=valR P.2.1
 let C:=whoR (valV r3 wCom)
 let r4:=valR r3
 ⟨valV l wTree,P.1,A,C,cutP r4 [10],((((P.2.2||!(valO P.2.1 wAut))||!(((A.1:Nat):Int) != 2))||!(valO r3 wCom))||!(((C.1:Nat):Int) != 2))||!(Lib.hasPrefix r4 [10])⟩
def PcC.cm (p:PcC):Cm:=⟨str p.t,p.ps,p.a.2,p.c.2,str p.x⟩
def parC (l:List UInt8):Nat×Cm:=if (pcC l).B=true then (2,Cm.zero) else if chkC (pcC l).cm=0 then (0,(pcC l).cm) else (chkC (pcC l).cm,Cm.zero)
structure PcG where
 o:List UInt8
 k:Nat
 n:List UInt8
 g:Nat×Pn
 x:List UInt8
 B:Bool
def pcG (l:List UInt8):PcG :=
 let B1:=(false||!(valO l wObj))||!(isId (str (valV l wObj)))
 let r1:=valR l
 let K:=kindL (valV r1 wTyp)
 let B2:=(B1||!(valO r1 wTyp))||!(((K:Nat):Int) != 0)
 let r2:=valR r1
 let B3:=B2||!(valO r2 wTag)
 let r3:=valR r2
 let G:=whoR (valV r3 wTgr)
 let B4:=(B3||!(valO r3 wTgr))||!(((G.1:Nat):Int) != 2)
 let r4:=valR r3
 ⟨valV l wObj,K,valV r2 wTag,G,cutP r4 [10],B4||!(Lib.hasPrefix r4 [10])⟩
def PcG.tg (p:PcG):Tg:=⟨str p.o,(p.k:Int),str p.n,p.g.2,str p.x⟩
def parG (l:List UInt8):Nat×Tg:=if (pcG l).B=true then (2,Tg.zero) else if chkG (pcG l).tg=0 then (0,(pcG l).tg) else (chkG (pcG l).tg,Tg.zero)
theorem okC_parts {c:Cm} (h:okC c=true):isId c.t=true∧allId c.ps=true∧okPn c.a=true∧okPn c.c=true∧noZ c.x.data.toList=true:=by
 simpa only [okC,Bool.and_eq_true] using h
theorem chkC_ok {c:Cm} (h:chkC c=0):okC c=true∧c.x.size≤4096∧c.ps.length≤8∧c.ps.Nodup:=by
 unfold chkC at h
 split at h
 ·cases h
 ·split at h
  ·cases h
  ·split at h
   ·rename_i h1 h2 h3
    exact ⟨by simpa using h1,by omega,by omega,h3⟩
   ·cases h
theorem parsP_back:∀ (n:Nat) (l:List UInt8) (qs:List (List UInt8)),l.length≤n→(parsP l false qs).2.2=false→∃ ps,(parsP l false qs).1=qs++ps∧l=ps.flatMap (lineL wPar)++(parsP l false qs).2.1
 | n,l,qs,hn,hB=>by
  cases h:Lib.hasPrefix l (wPar++[32]) with
  | false=>rw [parsP_end h];exact ⟨[],by simp,by simp⟩
  | true =>
   have hlt:=valR_lt (has_ne (by decide) h)
   rw [parsP_go h] at hB ⊢
   cases hx:((false||!(valO l wPar))||!(isId (str (valV l wPar)))) with
   | true =>
    rw [hx,parsP_bad _ _ _ (Nat.le_refl _)] at hB
    cases hB
   | false =>
    rw [hx] at hB
    cases n with
    | zero=>omega
    | succ n =>
     obtain ⟨ps,h1,h2⟩:=parsP_back n (valR l) (qs++[valV l wPar]) (by omega) hB
     simp only [Bool.false_or,Bool.or_eq_false_iff,Bool.not_eq_false'] at hx
     have h3:=(val_back hx.1).1
     refine ⟨valV l wPar::ps,?_,?_⟩
     ·rw [h1,List.append_assoc];rfl
     ·rw [List.flatMap_cons,List.append_assoc,←h2]
      have e:lineL wPar (valV l wPar)++valR l=wPar++32::valV l wPar++10::valR l:=by simp [lineL]
      rw [e]
      exact h3
theorem line_back {l wd:List UInt8} (h:valO l wd=true):l=lineL wd (valV l wd)++valR l:=by
 have e:lineL wd (valV l wd)++valR l=wd++32::valV l wd++10::valR l:=by simp [lineL]
 rw [e]
 exact (val_back h).1
theorem who_zero {l:List UInt8} (h:okPn (whoR l).2=true):(whoR l).1=0:=by
 rw [whoR] at h ⊢
 unfold codeW at h ⊢
 split at h
 ·exact absurd h (by decide)
 ·split at h
  ·exact absurd h (by decide)
  ·rename_i h1 h2
   rw [if_neg h1,if_neg h2]
theorem text_back {l:List UInt8} (h:Lib.hasPrefix l [10]=true):l=10::cutP l [10]:=by
 obtain ⟨t,ht⟩:=List.isPrefixOf_iff_prefix.mp h
 rw [cutP,if_pos h,←ht]
 rfl
theorem parC_back {l:List UInt8} (h:(parC l).1=0):chkC (parC l).2=0∧encC (parC l).2=l:=by
 unfold parC at h ⊢
 split at h
 ·cases h
 ·rename_i hB
  split at h
  ·rename_i h0
   rw [if_neg hB,if_pos h0]
   refine ⟨h0,?_⟩
   obtain ⟨p1,p2,p3,p4,p5⟩:=okC_parts (chkC_ok h0).1
   rw [Bool.not_eq_true] at hB
   unfold pcC at hB
   simp only [Bool.or_eq_false_iff,Bool.not_eq_false'] at hB
   obtain ⟨⟨⟨⟨⟨q1,q2⟩,q3⟩,q4⟩,q5⟩,q6⟩:=hB
   have hx:((false||!(valO l wTree))||!(isId (str (valV l wTree))))=false:=by
    rw [←Bool.not_eq_true]
    intro hx
    rw [hx,parsP_bad _ _ _ (Nat.le_refl _)] at q1
    cases q1
   obtain ⟨ps,e1,e2⟩:=parsP_back _ (valR l) [] (Nat.le_refl _) (by rw [hx] at q1;exact q1)
   rw [hx] at q2 q3 q4 q5 q6
   have hv:valO l wTree=true:=by
    simp only [Bool.false_or,Bool.or_eq_false_iff,Bool.not_eq_false'] at hx
    exact hx.1
   have e3:=line_back hv
   have e4:=line_back q2
   have e5:=line_back q4
   have e6:=text_back q6
   have wa:=(whoR_back (who_zero p3)).2
   have wc:=(whoR_back (who_zero p4)).2
   unfold PcC.cm encC
   simp only [pcC,hx] at wa wc ⊢
   rw [wa,wc,e1,List.nil_append]
   show lineL wTree (valV l wTree)++(ps.flatMap (lineL wPar)++(lineL wAut _++(lineL wCom _++10::cutP _ [10])))=l
   rw [←e6,←e5,←e4,←e2,←e3]
  ·rename_i h0
   exact absurd h h0
theorem okG_parts {g:Tg} (h:okG g=true):isId g.o=true∧wordL g.k≠[]∧tagN g.n.data.toList=true∧okPn g.g=true∧noZ g.x.data.toList=true:=by
 simpa only [okG,Bool.and_eq_true,decide_eq_true_eq] using h
theorem chkG_ok {g:Tg} (h:chkG g=0):okG g=true∧g.x.size≤4096:=by
 unfold chkG at h
 split at h
 ·cases h
 ·split at h
  ·cases h
  ·rename_i h1 h2
   exact ⟨by simpa using h1,by omega⟩
theorem parG_back {l:List UInt8} (h:(parG l).1=0):chkG (parG l).2=0∧encG (parG l).2=l:=by
 unfold parG at h ⊢
 split at h
 ·cases h
 ·rename_i hB
  split at h
  ·rename_i h0
   rw [if_neg hB,if_pos h0]
   refine ⟨h0,?_⟩
   obtain ⟨p1,p2,p3,p4,p5⟩:=okG_parts (chkG_ok h0).1
   rw [Bool.not_eq_true] at hB
   unfold pcG at hB
   simp only [Bool.or_eq_false_iff,Bool.not_eq_false',Bool.false_or] at hB
   obtain ⟨⟨⟨⟨⟨⟨⟨q1,q2⟩,q3⟩,q4⟩,q5⟩,q6⟩,q7⟩,q8⟩:=hB
   have e1:=line_back q1
   have e2:=line_back q3
   have e3:=line_back q5
   have e4:=line_back q6
   have e5:=text_back q8
   have hk:wordL ((kindL (valV (valR l) wTyp):Nat):Int)=valV (valR l) wTyp:=word_kind (by
    simp only [bne_iff_ne,ne_eq] at q4
    omega)
   have hg2:(pcG l).tg.g=(whoR (valV (valR (valR (valR l))) wTgr)).2:=by
    simp only [PcG.tg,pcG]
   have p4':=p4
   rw [hg2] at p4'
   have wg:=(whoR_back (who_zero p4')).2
   have hg:pcG l=⟨valV l wObj,kindL (valV (valR l) wTyp),valV (valR (valR l)) wTag,whoR (valV (valR (valR (valR l))) wTgr),cutP (valR (valR (valR (valR l)))) [10],(pcG l).B⟩:=rfl
   rw [hg]
   unfold PcG.tg encG
   simp only
   rw [wg,hk]
   clear hg
   clear h h0 p1 p2 p3 p4 p4' p5 q1 q2 q3 q4 q5 q6 q7 q8 wg hk
   generalize hv1:valV l wObj=v1 at *
   generalize hr1:valR l=r1 at *
   generalize hv2:valV r1 wTyp=v2 at *
   generalize hr2:valR r1=r2 at *
   generalize hv3:valV r2 wTag=v3 at *
   generalize hr3:valR r2=r3 at *
   generalize hv4:valV r3 wTgr=v4 at *
   generalize hr4:valR r3=r4 at *
   generalize hx:cutP r4 [10]=x at *
   show lineL wObj v1++(lineL wTyp v2++(lineL wTag v3++(lineL wTgr v4++10::x)))=l
   rw [←e5,←e4,←e3,←e2,←e1]
  ·rename_i h0
   exact absurd h h0
end Go.Proofs.YtnoopcenogbjiaaGreatDoor
