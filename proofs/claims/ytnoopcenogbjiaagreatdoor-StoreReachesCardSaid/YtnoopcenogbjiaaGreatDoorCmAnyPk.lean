/-
  What strings.IndexAny and ContainsAny answer for any string and the two angles.
-/
import Derived.Test.YtnoopcenogbjiaaGreatDoorObWordPk
import Derived.Test.YtnoopcenogbjiaaGreatDoorRow
import Derived.Lib.OthersKept
import Derived.Laws.RangeAny
import Derived.WalkMore
import Derived.Deep.WholeRow
import Derived.Deep.RegionWith
import Derived.Lib.IndexLaws
import Derived.RegionTactic
import Derived.Maps.Own
set_option linter.unusedVariables false
set_option linter.unusedSimpArgs false
namespace Go.Proofs.YtnoopcenogbjiaaGreatDoor
open Go.RowKit Go.Lib
theorem get_list (s:ByteArray) (j:Nat) (b:UInt8) (h:s.data.toList[j]?=some b):s.get! j=b:=by
  have hj:j<s.size:=by
    have:=(List.getElem?_eq_some_iff.mp h).1
    rw [list_len] at this
    exact this
  have h2:s[j]'hj=b:=by
    have:=(List.getElem?_eq_some_iff.mp h).2
    rw [←this]
    rfl
  have h3:s.get! (j+0)=s[j]'hj:=get_at s j hj
  rw [←h2,←h3,Nat.add_zero]
theorem dec_hi (s:ByteArray) (i:Nat) (h:i<s.size) (ha:128≤(s[i]'h).toNat) :
    ∃ c k,Utf8.decode s i=(c,k+1)∧128≤c∧Utf8.valid (c:Int)=true∧i+k<s.size∧∀ j,j≤k→128≤(s.get! (i+j)).toNat:=by
  have hn:¬ (s[i]'h).toNat<128:=by omega
  have h0:s.get! (i+0)=s[i]'h:=get_at s i h
  have hb:∀ k,(s.get! (i+k)).toNat<256:=fun k=>(s.get! (i+k)).toNat_lt
  have b1:=hb 1;have b2:=hb 2;have b3:=hb 3
  have hbad:∃ c k,(Utf8.runeError,1)=(c,k+1)∧128≤c∧Utf8.valid (c:Int)=true∧i+k<s.size∧∀ j,j≤k→128≤(s.get! (i+j)).toNat :=
    ⟨65533, 0, rfl, by decide, by decide, by omega, fun j hj => by obtain rfl : j = 0 := by omega
                                                                   rw [h0];exact ha⟩
  simp only [Utf8.decode,h0,hn,if_false]
  split
  · rename_i h1
    rw [Bool.and_eq_true,Bool.and_eq_true,decide_eq_true_eq,beq_iff_eq,beq_iff_eq] at h1
    split
    · rename_i h2
      refine ⟨_,1,rfl,h2,?_,h1.2.1,fun j hj=>?_⟩
      · rw [Utf8.valid]
        have:((s[i]'h).toNat%32*64+(s.get! (i+1)).toNat%64)<55296:=by omega
        simp only [Bool.or_eq_true,Bool.and_eq_true,decide_eq_true_eq]
        left
        omega
      · rcases j with _|_|j
        · rw [h0];exact ha
        · show 128≤(s.get! (i+1)).toNat
          omega
        · omega
    · exact hbad
  · split
    · rename_i h1
      rw [Bool.and_eq_true,Bool.and_eq_true,Bool.and_eq_true,Bool.and_eq_true,decide_eq_true_eq,decide_eq_true_eq,beq_iff_eq,beq_iff_eq,beq_iff_eq] at h1
      split
      · rename_i h2
        rw [Bool.and_eq_true,decide_eq_true_eq] at h2
        refine ⟨_,2,rfl,by omega,h2.2,h1.2.1,fun j hj=>?_⟩
        rcases j with _|_|_|j
        · rw [h0];exact ha
        · show 128≤(s.get! (i+1)).toNat
          omega
        · show 128≤(s.get! (i+2)).toNat
          omega
        · omega
      · exact hbad
    · split
      · rename_i h1
        rw [Bool.and_eq_true,Bool.and_eq_true,Bool.and_eq_true,Bool.and_eq_true,Bool.and_eq_true,Bool.and_eq_true,decide_eq_true_eq,decide_eq_true_eq,decide_eq_true_eq,beq_iff_eq,beq_iff_eq,beq_iff_eq,beq_iff_eq] at h1
        split
        · rename_i h2
          rw [Bool.and_eq_true,decide_eq_true_eq] at h2
          refine ⟨_,3,rfl,by omega,h2.2,h1.2.1,fun j hj=>?_⟩
          rcases j with _|_|_|_|j
          · rw [h0];exact ha
          · show 128≤(s.get! (i+1)).toNat
            omega
          · show 128≤(s.get! (i+2)).toNat
            omega
          · show 128≤(s.get! (i+3)).toNat
            omega
          · omega
        · exact hbad
      · exact hbad
theorem u8_hi (n:Nat):128≤(UInt8.ofNat (128+n%64)).toNat:=by
  rw [UInt8.toNat_ofNat']
  omega
theorem enc_hi (c:Nat) (hv:Utf8.valid (c:Int)=true) (h:128≤c) :
    (∃ a b,Utf8.encode c=⟨#[a,b]⟩∧128≤b.toNat)∨(∃ a a2 b,Utf8.encode c=⟨#[a,a2,b]⟩∧128≤b.toNat)∨(∃ a a2 a3 b,Utf8.encode c=⟨#[a,a2,a3,b]⟩∧128≤b.toNat):=by
  simp only [Utf8.encode,hv,if_true,Int.toNat_natCast]
  rw [if_neg (by omega)]
  split
  · exact .inl ⟨_,_,rfl,u8_hi c⟩
  · split
    · exact .inr (.inl ⟨_,_,_,rfl,u8_hi c⟩)
    · exact .inr (.inr ⟨_,_,_,_,rfl,u8_hi c⟩)
theorem met_bytes (a b:Nat) (x:UInt8) (h:x∈((⟨#[60,62]⟩:ByteArray).extract a b).data.toList):x.toNat<128:=by
  rw [ext_bytes] at h
  have h2:x∈([60,62]:List UInt8):=List.mem_of_mem_drop (List.mem_of_mem_take h)
  simp only [List.mem_cons,List.not_mem_nil,or_false] at h2
  rcases h2 with rfl|rfl<;>decide
theorem met_no (a b:Nat) (y:UInt8) (hy:128≤y.toNat):Lib.indexByte ((⟨#[60,62]⟩:ByteArray).extract a b).data.toList y=-1:=by
  have hm:=met_bytes a b y
  obtain ⟨l,hl⟩:∃ l,l=((⟨#[60,62]⟩:ByteArray).extract a b).data.toList:=⟨_,rfl⟩
  rw [←hl] at hm ⊢
  have hge:=Lib.indexByte_ge l y
  refine Decidable.byContradiction fun hne=>?_
  obtain ⟨o,ho⟩:∃ o:Nat,Lib.indexByte l y=o:=⟨(Lib.indexByte l y).toNat,by omega⟩
  obtain ⟨h2,_⟩:=Lib.indexByte_some ho
  have:=hm (List.mem_of_getElem? h2)
  omega
set_option maxHeartbeats 2000000 in
set_option maxRecDepth 4000 in
theorem rune_err (w:World):Calls Tryz.prog 228 #[.string ⟨#[60,62]⟩,.int .i32 65533] w fun e w'=>e=.returned (.int .i64 (-1))∧Below w.heap.size w w':=by
  go_enter Tryz.func228,Tryz.ntmps228
  go_wp2
  go_loopg [5,6] 2 (fun g _ _ wx=>∃ i:Nat,i+g=2∧wx=w.iter ⟨#[60,62]⟩ i)
  case atStart=>exact ⟨0,by omega,rfl⟩
  case round =>
    obtain ⟨i,hig,rfl⟩:=hrel
    cases gk with
    | zero =>
      obtain rfl:i=2:=by omega
      have hnx:=run_next_end (P:=Tryz.prog) w ⟨#[60,62]⟩ 2
      go_wp2
      go_ret
      exact ⟨rfl,(Below.refl _ _).alloc (Nat.le_refl _) _⟩
    | succ g =>
      have hi:i<(⟨#[60,62]⟩:ByteArray).size:=by show i<2;omega
      obtain ⟨x,hx⟩:∃ x:UInt8,(⟨#[60,62]⟩:ByteArray)[i]'hi=x:=⟨_,rfl⟩
      have hx128:x.toNat<128:=by
        rw [←hx]
        rcases i with _|_|i
        · show (60:UInt8).toNat<128
          decide
        · show (62:UInt8).toNat<128
          decide
        · exact absurd hi (by show ¬ (i+1+1<2);omega)
      have hnx:=fun ty=>run_next_ascii (P:=Tryz.prog) w ⟨#[60,62]⟩ i ty hi (by rw [hx];exact hx128)
      rw [hx] at hnx
      have hne:((x.toNat:Int)==65533)=false:=beq_eq_false_iff_ne.mpr (by omega)
      clear hx
      go_wp2
      go_roundg g
      case measure=>omega
      case rel=>exact ⟨i+1,by omega,rfl⟩
theorem ne_hi {n:Int} (b:UInt8) (h:128≤b.toNat) (hn:n<128):(n != (b.toNat:Int))=true:=bne_iff_ne.mpr (by omega)
set_option maxHeartbeats 4000000 in
set_option maxRecDepth 4000 in
theorem rune_hi2 (r:Int) (hr:128≤r) (h65:(r==65533)=false) (hv:Lib.validRune r=true) (a b:UInt8) (hE:Utf8.encode r=⟨#[a,b]⟩) (hb:128≤b.toNat) (w:World) :
    Calls Tryz.prog 228 #[.string ⟨#[60,62]⟩,.int .i32 r] w fun e w'=>e=.returned (.int .i64 (-1))∧Below w.heap.size w w':=by
  have HV:Hid (∀ w,Calls Tryz.prog 244 #[.int .i32 r] w fun e w'=>e=.returned (.bool true)∧w'=w):=fun w=>by rw [←hv];exact Tryz.utf8_ValidRune _ w
  have HI:Hid (∀ w,Calls Tryz.prog 243 #[.string ⟨#[]⟩,.int .u8 (((⟨#[a,b]⟩:ByteArray)[1]'(by show 1<2;decide)).toNat:Int)] w fun e w'=>e=.returned (.int .i64 (-1))∧w'=w):=fun w =>
    (Tryz.strings_IndexByte _ (b.toNat:Int) w).mono fun _ _ z=>⟨by rw [z.1];rfl,z.2⟩
  have hne:=ne_hi (n:=62) b hb (by decide)
  have hne2:(((((⟨#[60,62]⟩:ByteArray)[1]'(by decide)).toNat:Nat):Int) != (((⟨#[a,b]⟩:ByteArray)[1]'(by show 1<2;decide)).toNat:Int))=true:=hne
  have hsl:∀ w,(Instr.slice 9 (.string ⟨#[60,62]⟩) (some (.int .i64 2)) none none).run Tryz.prog w=.ok (.string ⟨#[]⟩) w:=fun w=>by kernel_rfl
  have HE:=Lib.hid hE
  clear hv hb hE
  go_enter Tryz.func228,Tryz.ntmps228
  go_upto_region 1 with (go_at_call 244;((with_reducible refine (HV.out _).mono ?_);rintro e w1 ⟨rfl,rfl⟩))
  go_step3
  go_upto_region 2 with (fail)
  rw [HE.out]
  go_wp2
  go_loopw [9,10] (fun i f wr=>i=.int .i64 1∧f=.int .i64 0∧wr=w1) (fun _ _ _=>0)
  case atStart=>exact ⟨rfl,rfl,rfl⟩
  case round =>
    obtain ⟨rfl,rfl,rfl⟩:=hrel
    go_wp2
    go_step3
    go_wp2
    go_quiet (fail)
    go_wp2
    go_quiet ((go_at_call 243;go_loud (exact (HI.out _).mono fun e w' h=>⟨h.1,_,h.2⟩)))
    go_wp2
    rw [Exit.noGoto_ret]
    show bodyPost Tryz.prog Tryz.f228 (fun e w'=>e=.returned (.int .i64 (-1))∧Below wr.heap.size wr w') .ret _ _
    go_ret
    exact ⟨rfl,below_drewN (Below.refl _ _) _⟩
set_option maxHeartbeats 4000000 in
set_option maxRecDepth 4000 in
theorem rune_hi3 (r:Int) (hr:128≤r) (h65:(r==65533)=false) (hv:Lib.validRune r=true) (a a2 b:UInt8) (hE:Utf8.encode r=⟨#[a,a2,b]⟩) (w:World) :
    Calls Tryz.prog 228 #[.string ⟨#[60,62]⟩,.int .i32 r] w fun e w'=>e=.returned (.int .i64 (-1))∧Below w.heap.size w w':=by
  have HV:Hid (∀ w,Calls Tryz.prog 244 #[.int .i32 r] w fun e w'=>e=.returned (.bool true)∧w'=w):=fun w=>by rw [←hv];exact Tryz.utf8_ValidRune _ w
  have HE:=Lib.hid hE
  clear hv hE
  go_enter Tryz.func228,Tryz.ntmps228
  go_upto_region 1 with (go_at_call 244;((with_reducible refine (HV.out _).mono ?_);rintro e w1 ⟨rfl,rfl⟩))
  go_step3
  go_upto_region 2 with (fail)
  rw [HE.out]
  go_wp2
  go_loopw [9,10] (fun i f wr=>i=.int .i64 2∧f=.int .i64 0∧wr=w1) (fun _ _ _=>0)
  case atStart=>exact ⟨rfl,rfl,rfl⟩
  case round =>
    obtain ⟨rfl,rfl,rfl⟩:=hrel
    go_wp2
    rw [Exit.noGoto_ret]
    show bodyPost Tryz.prog Tryz.f228 (fun e w'=>e=.returned (.int .i64 (-1))∧Below wr.heap.size wr w') .ret _ _
    go_ret
    exact ⟨rfl,Below.refl _ _⟩
set_option maxHeartbeats 4000000 in
set_option maxRecDepth 4000 in
theorem rune_hi4 (r:Int) (hr:128≤r) (h65:(r==65533)=false) (hv:Lib.validRune r=true) (a a2 a3 b:UInt8) (hE:Utf8.encode r=⟨#[a,a2,a3,b]⟩) (w:World) :
    Calls Tryz.prog 228 #[.string ⟨#[60,62]⟩,.int .i32 r] w fun e w'=>e=.returned (.int .i64 (-1))∧Below w.heap.size w w':=by
  have HV:Hid (∀ w,Calls Tryz.prog 244 #[.int .i32 r] w fun e w'=>e=.returned (.bool true)∧w'=w):=fun w=>by rw [←hv];exact Tryz.utf8_ValidRune _ w
  have HE:=Lib.hid hE
  clear hv hE
  go_enter Tryz.func228,Tryz.ntmps228
  go_upto_region 1 with (go_at_call 244;((with_reducible refine (HV.out _).mono ?_);rintro e w1 ⟨rfl,rfl⟩))
  go_step3
  go_upto_region 2 with (fail)
  rw [HE.out]
  go_wp2
  go_loopw [9,10] (fun i f wr=>i=.int .i64 3∧f=.int .i64 0∧wr=w1) (fun _ _ _=>0)
  case atStart=>exact ⟨rfl,rfl,rfl⟩
  case round =>
    obtain ⟨rfl,rfl,rfl⟩:=hrel
    go_wp2
    rw [Exit.noGoto_ret]
    show bodyPost Tryz.prog Tryz.f228 (fun e w'=>e=.returned (.int .i64 (-1))∧Below wr.heap.size wr w') .ret _ _
    go_ret
    exact ⟨rfl,Below.refl _ _⟩
theorem rune_any (c:Nat) (hc:128≤c) (hv:Utf8.valid (c:Int)=true) (w:World) :
    Calls Tryz.prog 228 #[.string ⟨#[60,62]⟩,.int .i32 (c:Int)] w fun e w'=>e=.returned (.int .i64 (-1))∧Below w.heap.size w w':=by
  by_cases he:c=65533
  · subst he
    exact rune_err w
  · have h65:((c:Int)==65533)=false:=beq_eq_false_iff_ne.mpr (by omega)
    have hR:Lib.validRune (c:Int)=true:=by
      rw [Utf8.valid] at hv
      simp only [Bool.or_eq_true,Bool.and_eq_true,decide_eq_true_eq] at hv
      exact decide_eq_true (by omega)
    rcases enc_hi c hv hc with ⟨a,b,hE,hb⟩|⟨a,a2,b,hE,hb⟩|⟨a,a2,a3,b,hE,hb⟩
    · exact rune_hi2 c (by omega) h65 hR a b hE hb w
    · exact rune_hi3 c (by omega) h65 hR a a2 b hE w
    · exact rune_hi4 c (by omega) h65 hR a a2 a3 b hE w
theorem met_noc (x:UInt8) (h:128≤x.toNat):([60,62]:List UInt8).contains x=false:=by
  rw [Bool.eq_false_iff]
  intro e
  rw [List.contains_iff_mem] at e
  simp only [List.mem_cons,List.not_mem_nil,or_false] at e
  rcases e with rfl|rfl<;>revert h<;>decide
theorem noAny_skip {s:ByteArray} {i k:Nat} (h:Lib.NoAny s.data.toList [60,62] i) (hb:∀ j,j≤k→128≤(s.get! (i+j)).toNat):Lib.NoAny s.data.toList [60,62] (i+k+1):=fun j b hj hjb=>by
  by_cases h1:j<i
  · exact h j b h1 hjb
  · have h2:=hb (j-i) (by omega)
    rw [show i+(j-i)=j by omega,get_list s j b hjb] at h2
    exact met_noc b h2
set_option maxHeartbeats 8000000 in
set_option maxRecDepth 4000 in
theorem idx_short (s:ByteArray) (w:World) (h8:s.size≤8) :
    Calls Tryz.prog 218 #[.string s,.string ⟨#[60,62]⟩] w fun e w'=>e=.returned (.int .i64 (Lib.indexAny s.data.toList [60,62]))∧Below w.heap.size w w':=by
  have h8z:decide ((8:Int)<(s.size:Int))=false:=decide_eq_false (by omega)
  have HS:Hid (∀ w,Calls Tryz.prog 229 #[.int .i64 (s.size:Int)] w fun e w'=>e=.returned (.bool false)∧w'=w):=fun w=>(Tryz.strings_shouldUseASCIISet _ w).mono fun _ _ z=>⟨by rw [z.1,h8z],z.2⟩
  have HR:Hid (∀ (c:Nat) (w:World),128≤c→Utf8.valid (c:Int)=true→Calls Tryz.prog 228 #[.string ⟨#[60,62]⟩,.int .i32 (c:Int)] w fun e w'=>e=.returned (.int .i64 (-1))∧Below w.heap.size w w'):=fun c w h1 h2=>rune_any c h1 h2 w
  clear h8z
  go_enter Tryz.func218,Tryz.ntmps218
  go_wp2_with (go_at_call 229;((with_reducible refine (HS.out _).mono ?_);rintro e w1 ⟨rfl,rfl⟩))
  go_loopg [9,10] s.size (fun g _ _ wx=>∃ i:Nat,i+g=s.size∧wx.heap[w1.heap.size]?=some (.stringIter s i)∧Below w1.heap.size w1 wx∧Hid (Lib.NoAny s.data.toList [60,62] i))
  case atStart=>exact ⟨0,by omega,World.iter_heap _ _ _,(Below.refl _ _).alloc (Nat.le_refl _) _,Lib.NoAny.zero _ _⟩
  case round =>
    obtain ⟨i,hig,hk,hb,HN⟩:=hrel
    have HK:=Lib.hid hk
    cases gk with
    | zero =>
      obtain rfl:i=s.size:=by omega
      have hnx:=fun ty=>run_next_end_at (P:=Tryz.prog) _ _ s s.size ty hk (by omega)
      clear hk
      go_wp2
      go_ret
      exact ⟨by rw [Lib.indexAny_none (by rw [list_len];exact HN.out)];rfl,hb⟩
    | succ g =>
      have hi:i<s.size:=by omega
      obtain ⟨x,hx⟩:∃ x:UInt8,s[i]'hi=x:=⟨_,rfl⟩
      have hxl:s.data.toList[i]?=some x:=by rw [←hx];exact Lib.data_getElem? s i hi
      by_cases hx8:x.toNat<128
      · have hnx:=fun ty=>run_next_ascii_at (P:=Tryz.prog) _ _ s i ty hk hi (by rw [hx];exact hx8)
        rw [hx] at hnx
        have Hx:Hid (s.data.toList[i]?=some x):=hxl
        have hcon:=Lib.contains_iff_indexByte [60,62] x
        have HA:Hid (∀ w,Calls Tryz.prog 228 #[.string ⟨#[60,62]⟩,.int .i32 (x.toNat:Int)] w fun e w'=>e=.returned (.int .i64 (Lib.indexByte [60,62] x))∧w'=w):=fun w=>(Tryz.strings_IndexRune_ascii _ _ w (by omega) (by omega)).mono fun _ _ z=>⟨by rw [z.1,show ((x.toNat:Int)).toNat.toUInt8=x by simp],z.2⟩
        obtain ⟨o,ho⟩:∃ o,o=Lib.indexByte [60,62] x:=⟨_,rfl⟩
        rw [←ho] at hcon HA
        have hb2:=below_iterAt hb (Nat.le_refl _) s (i+1)
        have hk2:=iterAt_heap _ _ s i (i+1) hk
        clear hxl hx hx8 ho hk
        cases hin:([60,62]:List UInt8).contains x
        · rw [hin] at hcon
          have HIN:=Lib.hid hin
          have hlt:¬ ((0:Int)≤o):=of_decide_eq_false hcon.symm
          clear hcon hin
          go_wp2_with (go_at_call 228;((with_reducible refine (HA.out _).mono ?_);rintro e w2 ⟨rfl,rfl⟩))
          go_roundg g
          case measure=>omega
          case rel=>exact ⟨i+1,by omega,hk2,hb2,HN.out.succ Hx.out HIN.out⟩
        · rw [hin] at hcon
          have HIN:=Lib.hid hin
          have hge:(0:Int)≤o:=of_decide_eq_true hcon.symm
          clear hcon hin
          go_wp2_with (go_at_call 228;((with_reducible refine (HA.out _).mono ?_);rintro e w2 ⟨rfl,rfl⟩))
          go_ret
          exact ⟨by rw [Lib.indexAny_hit HN.out Hx.out HIN.out];rfl,hb2⟩
      · obtain ⟨c,k,hd,hc,hv,hik,hby⟩:=dec_hi s i hi (by rw [hx];omega)
        have hnx:=fun ty=>run_next_any_at (P:=Tryz.prog) _ _ s i ty hk hi
        rw [hd] at hnx
        simp only at hnx
        have hb2:=below_iterAt hb (Nat.le_refl _) s (i+(k+1))
        have hk2:=iterAt_heap _ _ s i (i+(k+1)) hk
        have HN2:Hid (Lib.NoAny s.data.toList [60,62] (i+(k+1))):=noAny_skip HN.out hby
        have HC:Hid (∀ w,Calls Tryz.prog 228 #[.string ⟨#[60,62]⟩,.int .i32 (c:Int)] w fun e w'=>e=.returned (.int .i64 (-1))∧Below w.heap.size w w'):=fun w=>HR.out c w hc hv
        clear hxl hx hx8 hd hc hv hby hk
        go_wp2_with (go_at_call 228;((with_reducible refine (HC.out _).mono ?_);rintro e w2 ⟨rfl,hb3⟩))
        go_roundg (g-k)
        case measure=>omega
        case rel=>exact ⟨i+(k+1),by omega,(hb3.block _ (Array.getElem?_eq_some_iff.mp hk2).1).trans hk2,hb2.trans (hb3.mono hb2.size),HN2⟩
theorem idx_any (s:ByteArray) (w:World) (hs:s.size≤1048576) :
    Calls Tryz.prog 218 #[.string s,.string ⟨#[60,62]⟩] w fun e w'=>e=.returned (.int .i64 (Lib.indexAny s.data.toList [60,62]))∧Below w.heap.size w w':=by
  by_cases h8:s.size≤8
  · exact idx_short s w h8
  · refine (Tryz.strings_IndexAny_long (zero_of_info (P:=Tryz.prog) (n:=256) (by kernel_rfl)).1 s ⟨#[60,62]⟩ w (by decide) (by omega) (by omega) (by decide) (fun j b hb=>?_)).mono fun e w' z=>⟨z.1,?_⟩
    · rcases j with _|_|j<;>simp at hb<;>subst hb<;>decide
    · rw [z.2]
      exact below_new (below_new (Below.refl _ _) _) _
set_option maxHeartbeats 1000000 in
set_option maxRecDepth 4000 in
theorem cany (s:ByteArray) (B:Bool) (w:World) (hs:s.size≤1048576) (hB:B=s.data.toList.any (fun b=>([60,62]:List UInt8).contains b)) :
    Calls Tryz.prog 199 #[.string s,.string ⟨#[60,62]⟩] w fun e w'=>e=.returned (.bool B)∧Below w.heap.size w w':=by
  have h:=idx_any s w hs
  obtain ⟨o,ho⟩:∃ o,o=Lib.indexAny s.data.toList [60,62]:=⟨_,rfl⟩
  have hBo:B=decide ((0:Int)≤o):=by
    rw [hB,ho]
    clear hB ho h hs
    induction s.data.toList with
    | nil=>rfl
    | cons b l ih =>
      rw [List.any_cons,Lib.indexAny]
      have hge:=Lib.indexAny_ge [60,62] l
      cases hc:([60,62]:List UInt8).contains b
      · rw [Bool.false_or,ih]
        simp only [Bool.false_eq_true,if_false]
        split
        · rename_i h1
          rw [beq_iff_eq] at h1
          rw [h1]
        · rename_i h1
          rw [beq_iff_eq] at h1
          rw [decide_eq_true (by omega),decide_eq_true (by omega)]
      · simp
  rw [←ho] at h
  have HI:=Lib.hid h
  have HB:=Lib.hid hBo
  clear hB ho h hBo
  go_enter Tryz.func199,Tryz.ntmps199
  go_wp2_with (go_at_call 218;((with_reducible refine (HI.out).mono ?_);rintro e w1 ⟨rfl,hb⟩))
  go_ret
  exact ⟨by rw [HB.out];rfl,hb⟩
end Go.Proofs.YtnoopcenogbjiaaGreatDoor
/-
 The walks of least and isName: which strings a person may have as a name or a mail address.
-/
namespace Go.Proofs.YtnoopcenogbjiaaGreatDoor
open Go Go.RowKit
def leastN (a:Nat) (l:List UInt8):Nat:=l.foldl (fun a x=>min a x.toNat) a
theorem leastN_snoc (a:Nat) (l:List UInt8) (x:UInt8):leastN a (l++[x])=min (leastN a l) x.toNat:=by
 unfold leastN
 rw [List.foldl_append]
 rfl
theorem leastN_ge:∀ (l:List UInt8) (a n:Nat),n≤leastN a l↔n≤a∧∀ x∈l,n≤x.toNat
 | [],a,n=>by simp [leastN]
 | x::l,a,n=>by
  have h:leastN a (x::l)=leastN (min a x.toNat) l:=rfl
  rw [h,leastN_ge l]
  simp only [List.mem_cons,forall_eq_or_imp]
  constructor
  ·rintro ⟨h1,h2⟩
   exact ⟨by omega,by omega,h2⟩
  ·rintro ⟨h1,h2,h3⟩
   exact ⟨by omega,h3⟩
theorem leastN_le (l:List UInt8) (a:Nat):leastN a l≤a:=((leastN_ge l a _).mp (Nat.le_refl _)).1
set_option maxHeartbeats 2000000 in
set_option maxRecDepth 4000 in
theorem least_any (s:ByteArray) (w:World) (h0:0<s.size) (hs:s.size≤140737488355328) :
  Calls Tryz.prog 204 #[.string s] w fun e w'=>e=.returned (.int .u8 (leastN s[0].toNat s.data.toList))∧w'=w:=by
 obtain ⟨R,hR⟩:∃ R,R=leastN s[0].toNat s.data.toList:=⟨_,rfl⟩
 rw [←hR]
 have HR:=Lib.hid hR
 clear hR
 go_enter Tryz.func204,Tryz.ntmps204
 go_wp2
 go_loopg [3,4,9] s.size (fun g b _ at' wx=>∃ (k m:Nat),k+g=s.size∧at'=.int .i64 k∧b=.int .u8 m∧Hid (m=leastN s[0].toNat (s.data.toList.take k))∧m≤255∧wx=w)
 case atStart=>exact ⟨0,s[0].toNat,by omega,rfl,rfl,rfl,by have:=s[0].toNat_lt;omega,rfl⟩
 case round =>
  obtain ⟨k,m,hk,rfl,rfl,HM,hm,rfl⟩:=hrel
  cases gk with
  | zero =>
   obtain rfl:k=s.size:=by omega
   go_wp2
   go_ret
   refine ⟨?_,rfl⟩
   have:=HM.out
   rw [take_all] at this
   rw [this,HR.out]
   rfl
  | succ g =>
   have hi:k<s.size:=by omega
   obtain ⟨x,hx⟩:∃ x,x=(s[k]'hi).toNat:=⟨_,rfl⟩
   have hx2:x≤255:=by have:=(s[k]'hi).toNat_lt;omega
   have HX:Hid (min m x=leastN s[0].toNat (s.data.toList.take (k+1))):=by
    show _=_
    rw [take_snoc s k hi,leastN_snoc,←HM.out,hx]
   go_wp2
   go_roundg g
   case measure=>omega
   case rel=>exact ⟨k+1,min m x,by omega,rfl,by rw [hx];exact congrArg (Value.int .u8) (by omega),HX,by omega,rfl⟩
def nameB (l:List UInt8):Bool:=decide (l≠[])&&decide (l.length≤64)&&!(l.any fun b=>([60,62]:List UInt8).contains b)&&(l.all fun b=>decide (32≤b.toNat))&&!Lib.hasPrefix l [32]&&!Lib.hasSuffix l [32]
set_option maxHeartbeats 2000000 in
set_option maxRecDepth 4000 in
theorem pname_any (s:ByteArray) (w:World) (hs:s.size≤140737488355328) :
  Calls Tryz.prog 201 #[.string s] w fun e w'=>e=.returned (.bool (nameB s.data.toList))∧Below w.heap.size w w':=by
 obtain ⟨B,hB⟩:∃ B,B=nameB s.data.toList:=⟨_,rfl⟩
 rw [←hB]
 have hlen:=list_len s
 by_cases h0:s=⟨#[]⟩
 ·have HR:Hid (B=false):=by show _=_;rw [hB,h0];rfl
  have he:(s.toList==[])=true:=by rw [h0,ByteArray.toList_eq];rfl
  have hz:s.size=0:=by rw [h0];rfl
  clear hB hlen h0
  go_enter Tryz.func201,Tryz.ntmps201
  go_wp2
  go_ret
  exact ⟨by rw [HR.out];rfl,Below.refl _ _⟩
 have he:(s.toList==[])=false:=by
  have e:=ba_ne h0
  rw [ByteArray.toList_eq ⟨#[]⟩] at e
  exact e
 have hpos:0<s.size:=by
  rcases Nat.eq_zero_or_pos s.size with h|h
  ·exact absurd (ba_ext (List.eq_nil_of_length_eq_zero (by rw [hlen];exact h))) h0
  ·exact h
 have hnil:decide (s.data.toList≠[])=true:=decide_eq_true (fun h=>by rw [h] at hlen;simp at hlen;omega)
 by_cases h64:s.size≤64
 case neg =>
  have HR:Hid (B=false):=by show _=_;rw [hB,nameB,decide_eq_false (show ¬ s.data.toList.length≤64 by omega)];simp
  clear hB hlen h0 hnil
  go_enter Tryz.func201,Tryz.ntmps201
  go_wp2
  go_ret
  exact ⟨by rw [HR.out];rfl,Below.refl _ _⟩
 obtain ⟨A,hA⟩:∃ A,A=s.data.toList.any fun b=>([60,62]:List UInt8).contains b:=⟨_,rfl⟩
 obtain ⟨L,hL⟩:∃ L,L=leastN s[0].toNat s.data.toList:=⟨_,rfl⟩
 obtain ⟨p,hp⟩:∃ p,p=Lib.hasPrefix s.data.toList [32]:=⟨_,rfl⟩
 obtain ⟨q,hq⟩:∃ q,q=Lib.hasSuffix s.data.toList [32]:=⟨_,rfl⟩
 have hall:(s.data.toList.all fun b=>decide (32≤b.toNat))=decide (32≤L):=by
  rw [hL,Bool.eq_iff_iff,List.all_eq_true,decide_eq_true_eq,leastN_ge]
  simp only [decide_eq_true_eq]
  refine ⟨fun h=>⟨h _ ?_,h⟩,fun h=>h.2⟩
  have:=drop_byte s 0 hpos
  rw [List.drop_zero] at this
  rw [this]
  exact List.mem_cons_self
 have HB:Hid (B=(!A&&decide (32≤L)&&!p&&!q)):=by
  show _=_
  rw [hB,nameB,hnil,decide_eq_true (show s.data.toList.length≤64 by omega),←hA,hall,←hp,←hq]
  rfl
 have HC:Hid (∀ w',Below w.heap.size w w'→Calls Tryz.prog 199 #[.string s,.string ⟨#[60,62]⟩] w' fun e w''=>e=.returned (.bool A)∧Below w.heap.size w w''):=fun w' h=>(cany s A w' (by omega) hA).mono fun _ _ x=>⟨x.1,h.trans (x.2.mono h.size)⟩
 have HE:Hid (∀ w',Calls Tryz.prog 204 #[.string s] w' fun e w''=>e=.returned (.int .u8 (L:Int))∧w''=w'):=fun w'=>by rw [hL];exact least_any s w' hpos hs
 have HP:Hid (∀ w',Calls Tryz.prog 171 #[.string s,.string ⟨#[32]⟩] w' fun e w''=>e=.returned (.bool p)∧w''=w'):=fun w'=>by rw [hp];exact Tryz.strings_HasPrefix s ⟨#[32]⟩ w'
 have HQ:Hid (∀ w',Calls Tryz.prog 219 #[.string s,.string ⟨#[32]⟩] w' fun e w''=>e=.returned (.bool q)∧w''=w'):=fun w'=>by rw [hq];exact Tryz.strings_HasSuffix s ⟨#[32]⟩ w' (by omega)
 have hL2:L≤255:=by
  have:=leastN_le s.data.toList s[0].toNat
  have:=s[0].toNat_lt
  omega
 have hb0:Below w.heap.size w w:=Below.refl _ _
 clear hB hA hL hp hq hall hlen h0 hnil
 cases A
 case true =>
  go_enter Tryz.func201,Tryz.ntmps201
  go_wp2_with (go_at_call 199;((with_reducible refine (HC.out _ hb0).mono ?_);rintro e w1 ⟨rfl,hb1⟩))
  go_ret
  exact ⟨by rw [HB.out];rfl,hb1⟩
 by_cases h32:32≤L
 case neg =>
  have HR:Hid (B=false):=by show _=_;rw [HB.out,decide_eq_false h32];rfl
  go_enter Tryz.func201,Tryz.ntmps201
  go_wp2_with (first
   | (go_at_call 199;((with_reducible refine (HC.out _ hb0).mono ?_);rintro e w1 ⟨rfl,hb1⟩))
   | (go_at_call 204;((with_reducible refine (HE.out _).mono ?_);rintro e w2 ⟨rfl,rfl⟩)))
  go_ret
  exact ⟨by rw [HR.out];rfl,hb1⟩
 have HR:Hid (B=(!p&&!q)):=by show _=_;rw [HB.out,decide_eq_true h32];rfl
 cases p<;>cases q
 all_goals
  go_enter Tryz.func201,Tryz.ntmps201
  go_wp2_with (first
   | (go_at_call 199;((with_reducible refine (HC.out _ hb0).mono ?_);rintro e w1 ⟨rfl,hb1⟩))
   | (go_at_call 204;((with_reducible refine (HE.out _).mono ?_);rintro e w2 ⟨rfl,rfl⟩))
   | (go_at_call 171;((with_reducible refine (HP.out _).mono ?_);rintro e w3 ⟨rfl,rfl⟩))
   | (go_at_call 219;((with_reducible refine (HQ.out _).mono ?_);rintro e w4 ⟨rfl,rfl⟩)))
  go_ret
  exact ⟨by rw [HR.out];rfl,hb1⟩
structure Pn where
  n:ByteArray
  m:ByteArray
  t:Int
  z:Int
def Pn.val (p:Pn):Value:=.agg #[.string p.n,.string p.m,.int .i64 p.t,.int .i64 p.z]
def Pn.zero:Pn:=⟨⟨#[]⟩,⟨#[]⟩,0,0⟩
def okPn (p:Pn):Bool:=nameB p.n.data.toList&&(nameB p.m.data.toList&&(decide (0≤p.t)&&(decide (p.t≤1099511627776)&&(decide (-840≤p.z)&&decide (p.z≤840)))))
set_option maxHeartbeats 2000000 in
set_option maxRecDepth 4000 in
theorem person_any (p:Pn) (w:World) (hn:p.n.size≤140737488355328) (hi:p.m.size≤140737488355328) :
    Calls Tryz.prog 175 #[.agg #[.string p.n,.string p.m,.int .i64 p.t,.int .i64 p.z]] w fun x w'=>x=.returned (.bool (okPn p))∧Below w.heap.size w w':=by
  obtain ⟨n,m,t,z⟩:=p
  simp only at hn hi ⊢
  obtain ⟨N,hN⟩:∃ N,N=nameB n.data.toList:=⟨_,rfl⟩
  obtain ⟨M,hM⟩:∃ M,M=nameB m.data.toList:=⟨_,rfl⟩
  obtain ⟨R,hR⟩:∃ R,R=okPn ⟨n,m,t,z⟩:=⟨_,rfl⟩
  rw [←hR]
  have HR:Hid (R=(N&&(M&&(decide (0≤t)&&(decide (t≤1099511627776)&&(decide (-840≤z)&&decide (z≤840))))))):=by
    show _=_
    rw [hR,okPn,hN,hM]
  have HN:Hid (∀ w',Calls Tryz.prog 201 #[.string n] w' fun e w''=>e=.returned (.bool N)∧Below w'.heap.size w' w''):=fun w'=>by
    rw [hN]
    exact pname_any n w' hn
  have HM:Hid (∀ w',Calls Tryz.prog 201 #[.string m] w' fun e w''=>e=.returned (.bool M)∧Below w'.heap.size w' w''):=fun w'=>by
    rw [hM]
    exact pname_any m w' hi
  have hx:=heap_alloc_new w (.cells #[.string n,.string m,.int .i64 t,.int .i64 z] 61)
  have hbx:Below w.heap.size w (w.alloc (.cells #[.string n,.string m,.int .i64 t,.int .i64 z] 61)):=below_new (Below.refl _ _) _
  have hbl:w.heap.size<(w.alloc (.cells #[.string n,.string m,.int .i64 t,.int .i64 z] 61)).heap.size:=by simp
  obtain ⟨w1,hw1⟩:∃ w1,w1=w.alloc (.cells #[.string n,.string m,.int .i64 t,.int .i64 z] 61):=⟨_,rfl⟩
  have HW1:=Lib.hid hw1
  rw [←hw1] at hx hbx hbl
  have a0:w1.cell? ⟨w.heap.size,0,none⟩=some (.string n):=cell_of_row w1 _ 0 _ _ _ hx
  have a1:w1.cell? ⟨w.heap.size,1,none⟩=some (.string m):=cell_of_row w1 _ 1 _ _ _ hx
  have a2:w1.cell? ⟨w.heap.size,2,none⟩=some (.int .i64 t):=cell_of_row w1 _ 2 _ _ _ hx
  have a3:w1.cell? ⟨w.heap.size,3,none⟩=some (.int .i64 z):=cell_of_row w1 _ 3 _ _ _ hx
  have HB:=Lib.hid hbx
  clear hN hM hR hw1 hx hbx hn hi
  rcases N with _|_
  · have HX:Hid (R=false):=by show _=_;rw [HR.out];rfl
    clear HR
    go_enter Tryz.func175,Tryz.ntmps175
    go_upto_region 1 with fail
    rw [←HW1.out]
    go_wp2_with (go_at_call 201;((with_reducible refine (HN.out _).mono ?_);rintro e w2 ⟨rfl,hb2⟩))
    go_ret
    exact ⟨by rw [HX.out];rfl,HB.out.trans (hb2.mono HB.out.size)⟩
  rcases M with _|_
  · have HX:Hid (R=false):=by show _=_;rw [HR.out];rfl
    clear HR
    go_enter Tryz.func175,Tryz.ntmps175
    go_upto_region 1 with fail
    rw [←HW1.out]
    go_wp2_with (first
      | (go_at_call 201;((with_reducible refine (HM.out _).mono ?_);rintro e w3 ⟨rfl,hb3⟩))
      | (go_at_call 201;((with_reducible refine (HN.out _).mono ?_);rintro e w2 ⟨rfl,hb2⟩;have b1:=cell_bel a1 hb2)))
    go_ret
    exact ⟨by rw [HX.out];rfl,HB.out.trans ((hb2.trans (hb3.mono hb2.size)).mono HB.out.size)⟩
  have hc:(¬ 0≤t)∨(0≤t∧¬ t≤1099511627776)∨(0≤t∧t≤1099511627776∧¬ -840≤z)∨(0≤t∧t≤1099511627776∧-840≤z∧¬ z≤840)∨(0≤t∧t≤1099511627776∧-840≤z∧z≤840):=by omega
  have HX:Hid (R=decide (0≤t∧t≤1099511627776∧-840≤z∧z≤840)):=by
    show _=_
    rw [HR.out]
    simp
  clear HR
  rcases hc with h1|⟨h1,h2⟩|⟨h1,h2,h3⟩|⟨h1,h2,h3,h4⟩|⟨h1,h2,h3,h4⟩
  all_goals
    go_enter Tryz.func175,Tryz.ntmps175
    go_upto_region 1 with fail
    rw [←HW1.out]
    go_wp2_with (first
      | (go_at_call 201;((with_reducible refine (HM.out _).mono ?_);rintro e w3 ⟨rfl,hb3⟩;have c2:=cell_bel b2 hb3;have c3:=cell_bel b3 hb3))
      | (go_at_call 201;((with_reducible refine (HN.out _).mono ?_);rintro e w2 ⟨rfl,hb2⟩;have b1:=cell_bel a1 hb2;have b2:=cell_bel a2 hb2;have b3:=cell_bel a3 hb2)))
    go_ret
    refine ⟨?_,HB.out.trans ((hb2.trans (hb3.mono hb2.size)).mono HB.out.size)⟩
    first
      | (have hy:R=true:=by rw [HX.out];exact decide_eq_true (by omega)
         rw [hy];rfl)
      | (have hy:R=false:=by rw [HX.out];exact decide_eq_false (by omega)
         rw [hy];rfl)
      | (have hy:R=decide (z≤840):=by rw [HX.out,Bool.eq_iff_iff];simp only [decide_eq_true_eq];omega
         rw [hy];rfl)
theorem cutLen_le (l sep:List UInt8):(Lib.cut l sep).1.length+(Lib.cut l sep).2.1.length≤l.length:=by
 unfold Lib.cut
 split
 ·simp only [List.length_take,List.length_drop]
  omega
 ·simp
def codeW (T Z A O:Bool) (p:Pn):Nat×Pn:=if T=false∨Z=false∨A=true then (2,Pn.zero) else if O=false then (1,Pn.zero) else (0,p)
def angle (l:List UInt8):Bool:=l.any fun b=>([60,62]:List UInt8).contains b
def whoN (l:List UInt8):List UInt8:=(Lib.cut l [32,60]).1
def whoM (l:List UInt8):List UInt8:=(Lib.cut (Lib.cut l [32,60]).2.1 [62,32]).1
def whoT (l:List UInt8):List UInt8:=(Lib.cut (Lib.cut (Lib.cut l [32,60]).2.1 [62,32]).2.1 [32]).1
def whoZ (l:List UInt8):List UInt8:=(Lib.cut (Lib.cut (Lib.cut l [32,60]).2.1 [62,32]).2.1 [32]).2.1
def whoP (l:List UInt8):Pn:=⟨str (whoN l),str (whoM l),timeI (whoT l),zoneI (whoZ l)⟩
def whoR (l:List UInt8):Nat×Pn:=codeW (timeB (whoT l)) (zoneB (whoZ l)) (angle (whoN l++whoM l)) (okPn (whoP l)) (whoP l)
theorem pn_row {w:World} {E:Nat} {c0 c1 c2 c3 v0 v1 v2 v3:Value} (h:w.heap[E]?=some (.cells #[c0,c1,c2,c3] 61 (0,0))) :
  ((((w.setCell ⟨E,0,none⟩ v0).setCell ⟨E,1,none⟩ v1).setCell ⟨E,2,none⟩ v2).setCell ⟨E,3,none⟩ v3).heap[E]?=some (.cells #[v0,v1,v2,v3] 61 (0,0)):=by
 have h0:(w.setCell ⟨E,0,none⟩ v0).heap[E]?=some (.cells #[v0,c1,c2,c3] 61 (0,0)):=by
  have h:=heap_setCell_same w E 0 _ 61 v0 h
  simp only [List.setIfInBounds_toArray,List.set_cons_zero] at h
  exact h
 have h1:((w.setCell ⟨E,0,none⟩ v0).setCell ⟨E,1,none⟩ v1).heap[E]?=some (.cells #[v0,v1,c2,c3] 61 (0,0)):=by
  have h:=heap_setCell_same (w.setCell ⟨E,0,none⟩ v0) E 1 _ 61 v1 h0
  simp only [List.setIfInBounds_toArray,List.set_cons_zero,List.set_cons_succ] at h
  exact h
 have h2:(((w.setCell ⟨E,0,none⟩ v0).setCell ⟨E,1,none⟩ v1).setCell ⟨E,2,none⟩ v2).heap[E]?=some (.cells #[v0,v1,v2,c3] 61 (0,0)):=by
  have h:=heap_setCell_same ((w.setCell ⟨E,0,none⟩ v0).setCell ⟨E,1,none⟩ v1) E 2 _ 61 v2 h1
  simp only [List.setIfInBounds_toArray,List.set_cons_zero,List.set_cons_succ] at h
  exact h
 have h:=heap_setCell_same (((w.setCell ⟨E,0,none⟩ v0).setCell ⟨E,1,none⟩ v1).setCell ⟨E,2,none⟩ v2) E 3 _ 61 v3 h2
 simp only [List.setIfInBounds_toArray,List.set_cons_zero,List.set_cons_succ] at h
 exact h
theorem pn_end {w:World} {E:Nat} {v0 v1 v2 v3:Value} (h:w.heap[E]?=some (.cells #[v0,v1,v2,v3] 61 (0,0))) :
  w.cell? ⟨E,0,none⟩=some v0∧w.cell? ⟨E,1,none⟩=some v1∧w.cell? ⟨E,2,none⟩=some v2∧w.cell? ⟨E,3,none⟩=some v3∧w.frozen? ⟨E,0,none⟩=false∧w.frozen? ⟨E,1,none⟩=false∧w.frozen? ⟨E,2,none⟩=false∧w.frozen? ⟨E,3,none⟩=false :=
 ⟨cell_of_row _ _ 0 _ _ _ h,cell_of_row _ _ 1 _ _ _ h,cell_of_row _ _ 2 _ _ _ h,cell_of_row _ _ 3 _ _ _ h,frozen_of_row _ _ 0 _ _ h,frozen_of_row _ _ 1 _ _ h,frozen_of_row _ _ 2 _ _ h,frozen_of_row _ _ 3 _ _ h⟩
theorem set4_below {B E:Nat} {w0 w:World} {v0 v1 v2 v3:Value} (h:Below B w0 w) (hE:B≤E):Below B w0 ((((w.setCell ⟨E,0,none⟩ v0).setCell ⟨E,1,none⟩ v1).setCell ⟨E,2,none⟩ v2).setCell ⟨E,3,none⟩ v3) :=
 (((h.setCell (p:=⟨E,0,none⟩) hE _).setCell (p:=⟨E,1,none⟩) hE _).setCell (p:=⟨E,2,none⟩) hE _).setCell (p:=⟨E,3,none⟩) hE _
def WhoR (p:Nat×Pn) (w:World) (e:Ending) (w':World):Prop:=e=.returned (.tuple #[.agg #[.string p.2.n,.string p.2.m,.int .i64 p.2.t,.int .i64 p.2.z],.int .i64 (p.1:Int)])∧Below w.heap.size w w'
theorem whoR_bad {p:Nat×Pn} {w w':World} {c:Nat} (h:p=(c,Pn.zero)) (hb:Below w.heap.size w w'):WhoR p w (.returned (.tuple #[.agg #[.string ⟨#[]⟩,.string ⟨#[]⟩,.int .i64 0,.int .i64 0],.int .i64 (c:Int)])) w':=by
 subst h
 exact ⟨rfl,hb⟩
set_option maxHeartbeats 4000000 in
set_option maxRecDepth 4000 in
theorem who_any (s:ByteArray) (w:World) (h:StrTab w) (hs:s.size≤1048576) :
  Calls Tryz.prog 172 #[.string s] w (WhoR (whoR s.data.toList) w):=by
 obtain ⟨R,hR⟩:∃ R,R=whoR s.data.toList:=⟨_,rfl⟩
 rw [←hR]
 have hl:=list_len s
 have l1:=cutLen_le s.data.toList [32,60]
 obtain ⟨n,hn⟩:∃ n,n=str (Lib.cut s.data.toList [32,60]).1:=⟨_,rfl⟩
 obtain ⟨r1,hr1⟩:∃ r1,r1=str (Lib.cut s.data.toList [32,60]).2.1:=⟨_,rfl⟩
 obtain ⟨x1,hx1⟩:∃ x1,x1=(Lib.cut s.data.toList [32,60]).2.2:=⟨_,rfl⟩
 have hr1':r1.data.toList=(Lib.cut s.data.toList [32,60]).2.1:=by rw [hr1];rfl
 have hn':n.data.toList=(Lib.cut s.data.toList [32,60]).1:=by rw [hn];rfl
 have l2:=cutLen_le r1.data.toList [62,32]
 obtain ⟨m,hm⟩:∃ m,m=str (Lib.cut r1.data.toList [62,32]).1:=⟨_,rfl⟩
 obtain ⟨r2,hr2⟩:∃ r2,r2=str (Lib.cut r1.data.toList [62,32]).2.1:=⟨_,rfl⟩
 obtain ⟨x2,hx2⟩:∃ x2,x2=(Lib.cut r1.data.toList [62,32]).2.2:=⟨_,rfl⟩
 have hr2':r2.data.toList=(Lib.cut r1.data.toList [62,32]).2.1:=by rw [hr2];rfl
 have hm':m.data.toList=(Lib.cut r1.data.toList [62,32]).1:=by rw [hm];rfl
 have l3:=cutLen_le r2.data.toList [32]
 obtain ⟨d,hd⟩:∃ d,d=str (Lib.cut r2.data.toList [32]).1:=⟨_,rfl⟩
 obtain ⟨g,hg⟩:∃ g,g=str (Lib.cut r2.data.toList [32]).2.1:=⟨_,rfl⟩
 obtain ⟨x3,hx3⟩:∃ x3,x3=(Lib.cut r2.data.toList [32]).2.2:=⟨_,rfl⟩
 have hd':d.data.toList=(Lib.cut r2.data.toList [32]).1:=by rw [hd];rfl
 have hg':g.data.toList=(Lib.cut r2.data.toList [32]).2.1:=by rw [hg];rfl
 have hns:n.size+m.size≤1048576∧r1.size≤1048576∧r2.size≤1048576∧d.size≤1048576∧g.size≤1048576:=by
  rw [←hr1',←hn'] at l1
  rw [←hr2',←hm'] at l2
  rw [←hd',←hg'] at l3
  simp only [list_len] at l1 l2 l3
  omega
 obtain ⟨I,hI⟩:∃ I,I=timeI d.data.toList:=⟨_,rfl⟩
 obtain ⟨T,hT⟩:∃ T,T=timeB d.data.toList:=⟨_,rfl⟩
 obtain ⟨K,hK⟩:∃ K,K=zoneI g.data.toList:=⟨_,rfl⟩
 obtain ⟨Z,hZ⟩:∃ Z,Z=zoneB g.data.toList:=⟨_,rfl⟩
 obtain ⟨A,hA⟩:∃ A,A=angle (n++m).data.toList:=⟨_,rfl⟩
 obtain ⟨O,hO⟩:∃ O,O=okPn ⟨n,m,I,K⟩:=⟨_,rfl⟩
 have HR:Hid (R=codeW T Z A O ⟨n,m,I,K⟩):=by
  show _=_
  have e1:whoN s.data.toList=n.data.toList:=hn'.symm
  have e2:whoM s.data.toList=m.data.toList:=by rw [whoM,←hr1',hm']
  have e3:whoT s.data.toList=d.data.toList:=by rw [whoT,←hr1',←hr2',hd']
  have e4:whoZ s.data.toList=g.data.toList:=by rw [whoZ,←hr1',←hr2',hg']
  have e5:whoP s.data.toList=⟨n,m,I,K⟩:=by rw [whoP,e1,e2,e3,e4,hI,hK];rfl
  rw [hR,whoR,e1,e2,e3,e4,e5,hT,hZ,hA,hO]
  congr 2
 obtain ⟨ml,hml⟩:=h.m
 have hx:=heap_alloc_new w (.cells #[.string ⟨#[]⟩,.string ⟨#[]⟩,.int .i64 0,.int .i64 0] 61)
 have hbx:Below w.heap.size w (w.alloc (.cells #[.string ⟨#[]⟩,.string ⟨#[]⟩,.int .i64 0,.int .i64 0] 61)):=(Below.refl _ _).alloc (Nat.le_refl _) _
 obtain ⟨w1,hw1⟩:∃ w1,w1=w.alloc (.cells #[.string ⟨#[]⟩,.string ⟨#[]⟩,.int .i64 0,.int .i64 0] 61):=⟨_,rfl⟩
 have HW1:=Lib.hid hw1
 rw [←hw1] at hx hbx
 have HX:=Lib.hid hx
 have HBX:=Lib.hid hbx
 have hlt1:w.heap.size<w1.heap.size:=by rw [hw1,World.size_alloc];omega
 have h1:=h.below hbx
 have hml1:=cell_bel hml hbx
 obtain ⟨q1,q2,q3,q4,q5⟩:=hns
 have HC1:Hid (∀ w',Below w1.heap.size w1 w'→Calls Tryz.prog 178 #[.string s,.string ⟨#[32,60]⟩] w' fun e w''=>e=.returned (.tuple #[.string n,.string r1,.bool x1])∧Below w1.heap.size w1 w''):=fun w' hb =>
  (Tryz.strings_Cut s ⟨#[32,60]⟩ ml w' (by omega) (cell_bel hml1 hb)).mono fun e w'' ⟨he,n,hw⟩=>⟨by rw [he,hn,hr1,hx1];rfl,by rw [hw];exact below_drewN hb n⟩
 have HC2:Hid (∀ w',Below w1.heap.size w1 w'→Calls Tryz.prog 178 #[.string r1,.string ⟨#[62,32]⟩] w' fun e w''=>e=.returned (.tuple #[.string m,.string r2,.bool x2])∧Below w1.heap.size w1 w''):=fun w' hb =>
  (Tryz.strings_Cut r1 ⟨#[62,32]⟩ ml w' (by omega) (cell_bel hml1 hb)).mono fun e w'' ⟨he,n,hw⟩=>⟨by rw [he,hm,hr2,hx2];rfl,by rw [hw];exact below_drewN hb n⟩
 have HC3:Hid (∀ w',Below w1.heap.size w1 w'→Calls Tryz.prog 178 #[.string r2,.string ⟨#[32]⟩] w' fun e w''=>e=.returned (.tuple #[.string d,.string g,.bool x3])∧Below w1.heap.size w1 w''):=fun w' hb =>
  (Tryz.strings_Cut r2 ⟨#[32]⟩ ml w' (by omega) (cell_bel hml1 hb)).mono fun e w'' ⟨he,n,hw⟩=>⟨by rw [he,hd,hg,hx3];rfl,by rw [hw];exact below_drewN hb n⟩
 have HT:Hid (∀ w',Below w1.heap.size w1 w'→Calls Tryz.prog 197 #[.string d] w' fun e w''=>e=.returned (.tuple #[.int .i64 I,.bool T])∧Below w1.heap.size w1 w''):=fun w' hb =>
  (time_any d w' (h1.below hb) (by omega)).mono fun e w'' ⟨he,hw⟩=>⟨by rw [he,hI,hT],hb.trans (hw.mono hb.size)⟩
 have HZ:Hid (∀ w',Below w1.heap.size w1 w'→Calls Tryz.prog 198 #[.string g] w' fun e w''=>e=.returned (.tuple #[.int .i64 K,.bool Z])∧Below w1.heap.size w1 w''):=fun w' hb =>
  (zone_any g w' (h1.below hb) (by omega)).mono fun e w'' ⟨he,hw⟩=>⟨by rw [he,hK,hZ],hb.trans (hw.mono hb.size)⟩
 have HA:Hid (∀ w',Below w1.heap.size w1 w'→Calls Tryz.prog 199 #[.string (n++m),.string ⟨#[60,62]⟩] w' fun e w''=>e=.returned (.bool A)∧Below w1.heap.size w1 w''):=fun w' hb =>
  (cany (n++m) A w' (by simp;omega) hA).mono fun e w'' ⟨he,hw⟩=>⟨he,hb.trans (hw.mono hb.size)⟩
 have HO:Hid (∀ w',Below w1.heap.size w1 w'→Calls Tryz.prog 175 #[.agg #[.string n,.string m,.int .i64 I,.int .i64 K]] w' fun e w''=>e=.returned (.bool O)∧Below w'.heap.size w' w''):=fun w' hb =>
  (person_any ⟨n,m,I,K⟩ w' (by simp only;omega) (by simp only;omega)).mono fun e w'' ⟨he,hw⟩=>⟨by rw [he,hO],hw⟩
 have hb0:Below w1.heap.size w1 w1:=Below.refl _ _
 have HLT:=Lib.hid hlt1
 clear hR hl l1 hn hr1 hx1 hr1' hn' l2 hm hr2 hx2 hr2' hm' l3 hd hg hx3 hd' hg' hI hT hK hZ hA hO hml hx hbx hw1 h1 hml1 h q2 q3 q4 q5 hlt1 hs
 rcases T with _|_
 ·have HQ:Hid (R=(2,Pn.zero)):=by show _=_;rw [HR.out,codeW,if_pos (.inl rfl)]
  clear HR
  go_enter Tryz.func172,Tryz.ntmps172
  go_upto_region 1 with fail
  rw [←HW1.out]
  go_upto_region 7 with (first
   | (go_at_call 178;first
    | ((with_reducible refine (HC1.out _ hb0).mono ?_);rintro e wa ⟨rfl,hba⟩)
    | ((with_reducible refine (HC2.out _ hba).mono ?_);rintro e wb ⟨rfl,hbb⟩)
    | ((with_reducible refine (HC3.out _ hbb).mono ?_);rintro e wc ⟨rfl,hbc⟩))
   | (go_at_call 197;((with_reducible refine (HT.out _ hbc).mono ?_);rintro e wd ⟨rfl,hbd⟩))
   | (go_at_call 198;((with_reducible refine (HZ.out _ hbd).mono ?_);rintro e we ⟨rfl,hbe⟩))
   | (go_at_call 199;((with_reducible refine (HA.out _ hbe).mono ?_);rintro e wf ⟨rfl,hbf⟩)))
  have hrow:=(hbe.block w.heap.size HLT.out).trans HX.out
  have HRW:=Lib.hid hrow
  have HB5:=Lib.hid (HBX.out.trans (hbe.mono HBX.out.size))
  obtain ⟨y0,y1,y2,y3,z0,z1,z2,z3⟩:=pn_end hrow
  go_wp2
  obtain ⟨d0,d1,d2,d3,_⟩:=pn_end (pn_row (v0:=.string ⟨#[]⟩) (v1:=.string ⟨#[]⟩) (v2:=.int .i64 0) (v3:=.int .i64 0) HRW.out)
  refine bodyPost_ret (v:=.tuple #[.agg #[.string ⟨#[]⟩,.string ⟨#[]⟩,.int .i64 0,.int .i64 0],.int .i64 2]) (by simp [results,Tryz.results172,go_sem,d0,d1,d2,d3]) rfl (whoR_bad HQ.out (set4_below HB5.out (Nat.le_refl _)))
 rcases Z with _|_
 ·have HQ:Hid (R=(2,Pn.zero)):=by show _=_;rw [HR.out,codeW,if_pos (.inr (.inl rfl))]
  clear HR
  go_enter Tryz.func172,Tryz.ntmps172
  go_upto_region 1 with fail
  rw [←HW1.out]
  go_upto_region 7 with (first
   | (go_at_call 178;first
    | ((with_reducible refine (HC1.out _ hb0).mono ?_);rintro e wa ⟨rfl,hba⟩)
    | ((with_reducible refine (HC2.out _ hba).mono ?_);rintro e wb ⟨rfl,hbb⟩)
    | ((with_reducible refine (HC3.out _ hbb).mono ?_);rintro e wc ⟨rfl,hbc⟩))
   | (go_at_call 197;((with_reducible refine (HT.out _ hbc).mono ?_);rintro e wd ⟨rfl,hbd⟩))
   | (go_at_call 198;((with_reducible refine (HZ.out _ hbd).mono ?_);rintro e we ⟨rfl,hbe⟩))
   | (go_at_call 199;((with_reducible refine (HA.out _ hbe).mono ?_);rintro e wf ⟨rfl,hbf⟩)))
  have hrow:=(hbe.block w.heap.size HLT.out).trans HX.out
  have HRW:=Lib.hid hrow
  have HB5:=Lib.hid (HBX.out.trans (hbe.mono HBX.out.size))
  obtain ⟨y0,y1,y2,y3,z0,z1,z2,z3⟩:=pn_end hrow
  go_wp2
  obtain ⟨d0,d1,d2,d3,_⟩:=pn_end (pn_row (v0:=.string ⟨#[]⟩) (v1:=.string ⟨#[]⟩) (v2:=.int .i64 0) (v3:=.int .i64 0) HRW.out)
  refine bodyPost_ret (v:=.tuple #[.agg #[.string ⟨#[]⟩,.string ⟨#[]⟩,.int .i64 0,.int .i64 0],.int .i64 2]) (by simp [results,Tryz.results172,go_sem,d0,d1,d2,d3]) rfl (whoR_bad HQ.out (set4_below HB5.out (Nat.le_refl _)))
 rcases A with _|_
 case true =>
  have HQ:Hid (R=(2,Pn.zero)):=by show _=_;rw [HR.out,codeW,if_pos (.inr (.inr rfl))]
  clear HR
  go_enter Tryz.func172,Tryz.ntmps172
  go_upto_region 1 with fail
  rw [←HW1.out]
  go_upto_region 7 with (first
   | (go_at_call 178;first
    | ((with_reducible refine (HC1.out _ hb0).mono ?_);rintro e wa ⟨rfl,hba⟩)
    | ((with_reducible refine (HC2.out _ hba).mono ?_);rintro e wb ⟨rfl,hbb⟩)
    | ((with_reducible refine (HC3.out _ hbb).mono ?_);rintro e wc ⟨rfl,hbc⟩))
   | (go_at_call 197;((with_reducible refine (HT.out _ hbc).mono ?_);rintro e wd ⟨rfl,hbd⟩))
   | (go_at_call 198;((with_reducible refine (HZ.out _ hbd).mono ?_);rintro e we ⟨rfl,hbe⟩))
   | (go_at_call 199;((with_reducible refine (HA.out _ hbe).mono ?_);rintro e wf ⟨rfl,hbf⟩)))
  have hrow:=(hbf.block w.heap.size HLT.out).trans HX.out
  have HRW:=Lib.hid hrow
  have HB5:=Lib.hid (HBX.out.trans (hbf.mono HBX.out.size))
  obtain ⟨y0,y1,y2,y3,z0,z1,z2,z3⟩:=pn_end hrow
  go_wp2
  obtain ⟨d0,d1,d2,d3,_⟩:=pn_end (pn_row (v0:=.string ⟨#[]⟩) (v1:=.string ⟨#[]⟩) (v2:=.int .i64 0) (v3:=.int .i64 0) HRW.out)
  refine bodyPost_ret (v:=.tuple #[.agg #[.string ⟨#[]⟩,.string ⟨#[]⟩,.int .i64 0,.int .i64 0],.int .i64 2]) (by simp [results,Tryz.results172,go_sem,d0,d1,d2,d3]) rfl (whoR_bad HQ.out (set4_below HB5.out (Nat.le_refl _)))
 go_enter Tryz.func172,Tryz.ntmps172
 go_upto_region 1 with fail
 rw [←HW1.out]
 go_upto_region 9 with (first
   | (go_at_call 178;first
    | ((with_reducible refine (HC1.out _ hb0).mono ?_);rintro e wa ⟨rfl,hba⟩)
    | ((with_reducible refine (HC2.out _ hba).mono ?_);rintro e wb ⟨rfl,hbb⟩)
    | ((with_reducible refine (HC3.out _ hbb).mono ?_);rintro e wc ⟨rfl,hbc⟩))
   | (go_at_call 197;((with_reducible refine (HT.out _ hbc).mono ?_);rintro e wd ⟨rfl,hbd⟩))
   | (go_at_call 198;((with_reducible refine (HZ.out _ hbd).mono ?_);rintro e we ⟨rfl,hbe⟩))
   | (go_at_call 199;((with_reducible refine (HA.out _ hbe).mono ?_);rintro e wf ⟨rfl,hbf⟩)))
 obtain ⟨P,hP⟩:∃ P,P=wf.heap.size:=⟨_,rfl⟩
 obtain ⟨w8,hw8⟩:∃ w8,w8=wf.alloc (.cells #[.string n,.string m,.int .i64 I,.int .i64 K] 61):=⟨_,rfl⟩
 rw [←hw8,←hP]
 have hb8:Below w1.heap.size w1 w8:=by rw [hw8];exact hbf.alloc hbf.size _
 have hP1:w8.heap[P]?=some (.cells #[.string n,.string m,.int .i64 I,.int .i64 K] 61 (0,0)):=by rw [hw8,hP];exact heap_alloc_new _ _
 have hP0:w8.heap[w.heap.size]?=some (.cells #[.string ⟨#[]⟩,.string ⟨#[]⟩,.int .i64 0,.int .i64 0] 61 (0,0)):=(hb8.block w.heap.size HLT.out).trans HX.out
 have hne:w.heap.size≠P:=by have:=HLT.out;have:=hbf.size;omega
 have hPl:P<w8.heap.size:=by rw [hP,hw8,World.size_alloc];omega
 have hWl:w.heap.size<w8.heap.size:=by have:=HLT.out;have:=hb8.size;omega
 have H8:=Lib.hid hb8
 have HP0:=Lib.hid hP0
 have HP1:=Lib.hid hP1
 have HPL:=Lib.hid hPl
 have HWL:=Lib.hid hWl
 have HNE:=Lib.hid hne
 obtain ⟨u0,u1,u2,u3,-,-,-,-⟩:=pn_end hP1
 have HO8:=Lib.hid (HO.out _ hb8)
 clear hba hbb hbc hbd hbe hbf hP hw8 hP0 hP1 hne hPl hWl hb8
 rcases O with _|_
 ·have HQ:Hid (R=(1,Pn.zero)):=by show _=_;rw [HR.out,codeW,if_neg (by simp),if_pos rfl]
  clear HR
  go_upto_region 10 with (go_at_call 175;((with_reducible refine (HO8.out).mono ?_);rintro e w9 ⟨rfl,hb9⟩))
  have hrow:=(hb9.block w.heap.size HWL.out).trans HP0.out
  have HRW:=Lib.hid hrow
  have HB5:=Lib.hid (HBX.out.trans ((H8.out.trans (hb9.mono H8.out.size)).mono HBX.out.size))
  obtain ⟨y0,y1,y2,y3,z0,z1,z2,z3⟩:=pn_end hrow
  go_wp2
  obtain ⟨d0,d1,d2,d3,_⟩:=pn_end (pn_row (v0:=.string ⟨#[]⟩) (v1:=.string ⟨#[]⟩) (v2:=.int .i64 0) (v3:=.int .i64 0) HRW.out)
  refine bodyPost_ret (v:=.tuple #[.agg #[.string ⟨#[]⟩,.string ⟨#[]⟩,.int .i64 0,.int .i64 0],.int .i64 1]) (by simp [results,Tryz.results172,go_sem,d0,d1,d2,d3]) rfl (whoR_bad HQ.out (set4_below HB5.out (Nat.le_refl _)))
 ·have HQ:Hid (R=(0,⟨n,m,I,K⟩)):=by show _=_;rw [HR.out,codeW,if_neg (by simp),if_neg (by simp)]
  clear HR
  go_upto_region 11 with (go_at_call 175;((with_reducible refine (HO8.out).mono ?_);rintro e w9 ⟨rfl,hb9⟩))
  have hrow:=(hb9.block w.heap.size HWL.out).trans HP0.out
  have hrow1:=(hb9.block P HPL.out).trans HP1.out
  have HRW:=Lib.hid hrow
  have HB5:=Lib.hid (HBX.out.trans ((H8.out.trans (hb9.mono H8.out.size)).mono HBX.out.size))
  obtain ⟨y0,y1,y2,y3,z0,z1,z2,z3⟩:=pn_end hrow
  obtain ⟨v0,v1,v2,v3,-,-,-,-⟩:=pn_end hrow1
  go_wp2
  obtain ⟨d0,d1,d2,d3,_⟩:=pn_end (pn_row (v0:=.string n) (v1:=.string m) (v2:=.int .i64 I) (v3:=.int .i64 K) HRW.out)
  refine bodyPost_ret (v:=.tuple #[.agg #[.string n,.string m,.int .i64 I,.int .i64 K],.int .i64 0]) (by simp [results,Tryz.results172,go_sem,d0,d1,d2,d3]) rfl ?_
  rw [HQ.out]
  exact ⟨rfl,set4_below HB5.out (Nat.le_refl _)⟩
def whoL (p:Pn):ByteArray:=p.n++⟨#[32,60]⟩++p.m++⟨#[62,32]⟩++str (Lib.itoa p.t)++⟨#[32]⟩++str (zonL p.z)
theorem zonL_len (z:Int):(str (zonL z)).size=5:=rfl
theorem nDig_le:∀ (k u:Nat),u<10^(k+1)→Lib.nDigits u≤k+1
 | 0,u,h=>by rw [Lib.nDigits_small (by simpa using h)];omega
 | k+1,u,h=>by
  by_cases h1:u<10
  ·rw [Lib.nDigits_small h1];omega
  ·rw [Lib.nDigits_big h1]
   have:=nDig_le k (u / 10) (by rw [Nat.pow_succ] at h;omega)
   omega
theorem itoa_len {n:Int} (h0:0≤n) (h1:n≤9223372036854775807):(str (Lib.itoa n)).size≤19:=by
 rw [str_size,Lib.itoa,if_neg (by omega),Lib.decDigits_length]
 have h10:(10:Nat)^(18+1)=10000000000000000000:=by decide
 exact nDig_le 18 _ (by omega)
def Rd (w:World) (b:Nat) (s:ByteArray) (B:Bool):Prop:=w.heap[b]?=some (.cells #[.string s,.bool B] 162 (0,0))
theorem Rd.lt {w:World} {b:Nat} {s:ByteArray} {B:Bool} (h:Rd w b s B):b<w.heap.size:=row_lt h
theorem Rd.at {w:World} {b:Nat} {s:ByteArray} {B:Bool} (h:Rd w b s B):w.cell? ⟨b,0,none⟩=some (.string s)∧w.cell? ⟨b,1,none⟩=some (.bool B)∧w.frozen? ⟨b,0,none⟩=false∧w.frozen? ⟨b,1,none⟩=false :=
 ⟨cell_of_row _ _ 0 _ _ _ h,cell_of_row _ _ 1 _ _ _ h,frozen_of_row _ _ 0 _ _ h,frozen_of_row _ _ 1 _ _ h⟩
theorem Rd.set0 {w:World} {b:Nat} {s t:ByteArray} {B:Bool} (h:Rd w b s B):Rd (w.setCell ⟨b,0,none⟩ (.string t)) b t B:=by
 have h:=heap_setCell_same w b 0 _ 162 (.string t) h
 simp only [List.setIfInBounds_toArray,List.set_cons_zero] at h
 exact h
theorem Rd.set1 {w:World} {b:Nat} {s:ByteArray} {B C:Bool} (h:Rd w b s B):Rd (w.setCell ⟨b,1,none⟩ (.bool C)) b s C:=by
 have h:=heap_setCell_same w b 1 _ 162 (.bool C) h
 simp only [List.setIfInBounds_toArray,List.set_cons_zero,List.set_cons_succ] at h
 exact h
theorem gb_below {w w':World} (b:Nat) (h:Below w.heap.size w w'):w.grownBy w' (some b):=⟨h.os,h.tape,h.output,h.size,fun i hi _=>h.block i hi⟩
theorem gb_set (w:World) (b o:Nat) (v:Value):w.grownBy (w.setCell ⟨b,o,none⟩ v) (some b) :=
 ⟨rfl,rfl,rfl,by simp,fun i _ hne=>Below.heap_setCell _ ⟨b,o,none⟩ v i (fun e=>hne (by rw [e]))⟩
theorem Rd.below {w w':World} {b:Nat} {s:ByteArray} {B:Bool} (h:Rd w b s B) (hb:Below w.heap.size w w'):Rd w' b s B:=(hb.block b h.lt).trans h
set_option maxHeartbeats 2000000 in
theorem expect_any (b:Nat) (s:ByteArray) (B ok:Bool) (w:World) (h:Rd w b s B) :
  Calls Tryz.prog 169 #[.pointer (some ⟨b,0,none⟩),.bool ok] w fun e w'=>e=.returned (.tuple #[])∧w.grownBy w' (some b)∧Rd w' b s (B||!ok):=by
 have HH:=Lib.hid h
 obtain ⟨a0,a1,f0,f1⟩:=h.at
 clear h
 rcases B with _|_<;>rcases ok with _|_
 all_goals
  go_enter Tryz.func169,Tryz.ntmps169
  go_wp2
  refine bodyPost_end (results_none rfl _ _ _) rfl ?_
  exact ⟨rfl,gb_set _ _ _ _,HH.out.set1⟩
theorem Rd.drewN {w:World} {b:Nat} {s:ByteArray} {B:Bool} (h:Rd w b s B) (n:Nat):Rd (w.drewN n) b s B:=h.below (below_drewN (Below.refl _ _) n)
theorem gb_cell {w w':World} {b g o:Nat} {v:Value} (h:w.grownBy w' (some b)) (hne:g≠b) (hc:w.cell? ⟨g,o,none⟩=some v):w'.cell? ⟨g,o,none⟩=some v :=
 (World.cell?_of_block (h.block g (World.block_lt_of_cell? w _ hc) (by simpa using hne))).trans hc
theorem StrTab.grown {w w':World} {b:Nat} (h:StrTab w) (hg:w.grownBy w' (some b)) (hb:7≠b∧0≠b) (hp:∀ g,Tryz.prog.globalNamed "internal/strconv.uint64pow10" = some g→g≠b):StrTab w':=by
 refine ⟨?_,?_,?_⟩
 ·have h:=h.p
  unfold Lib.TabIs World.var? at *
  cases hq:Program.globalNamed Tryz.prog "internal/strconv.uint64pow10" with
  | none=>rw [hq] at h;cases h
  | some g =>
   rw [hq] at h
   simp only [Option.bind_some] at h ⊢
   have hlt:g<w.heap.size:=by
    rcases Nat.lt_or_ge g w.heap.size with h'|h'
    ·exact h'
    ·rw [Array.getElem?_eq_none h'] at h
     cases h
   rw [hg.block g hlt (by simpa using hp g hq)]
   exact h
 ·obtain ⟨te,pe,h1⟩:=h.e
  exact ⟨te,pe,gb_cell hg hb.1 h1⟩
 ·obtain ⟨m,h1⟩:=h.m
  exact ⟨m,gb_cell hg hb.2 h1⟩
set_option maxHeartbeats 2000000 in
theorem at_any (b:Nat) (s word:ByteArray) (B:Bool) (w:World) (h:Rd w b s B) (hw:word.size≤1048576) :
  Calls Tryz.prog 144 #[.pointer (some ⟨b,0,none⟩),.string word] w fun e w'=>e=.returned (.bool (Lib.hasPrefix s.data.toList (word.data.toList++[32])))∧w'=w:=by
 obtain ⟨a0,a1,f0,f1⟩:=h.at
 obtain ⟨R,hR⟩:∃ R,R=Lib.hasPrefix s.data.toList (word.data.toList++[32]):=⟨_,rfl⟩
 rw [←hR]
 have HP:Hid (∀ w',Calls Tryz.prog 171 #[.string s,.string (word++⟨#[32]⟩)] w' fun e w''=>e=.returned (.bool R)∧w''=w'):=fun w'=>by
  rw [hR,show word.data.toList++[32]=(word++⟨#[32]⟩:ByteArray).data.toList by simp]
  exact Tryz.strings_HasPrefix s _ w'
 clear h hR
 go_enter Tryz.func144,Tryz.ntmps144
 go_wp2_with (go_at_call 171;((with_reducible refine (HP.out _).mono ?_);rintro e w1 ⟨rfl,rfl⟩))
 go_ret
 exact ⟨rfl,rfl⟩
def cutP (l p:List UInt8):List UInt8:=if Lib.hasPrefix l p=true then l.drop p.length else l
theorem has_len {l p:List UInt8} (h:Lib.hasPrefix l p=true):p.length≤l.length:=by
 unfold Lib.hasPrefix at h
 have:=List.IsPrefix.length_le (List.isPrefixOf_iff_prefix.mp h)
 exact this
set_option maxHeartbeats 2000000 in
theorem cutPre_lite (s p:ByteArray) (w:World) (hs:s.size≤140737488355328) :
  Calls Tryz.prog 200 #[.string s,.string p] w fun e w'=>e=.returned (.tuple #[.string (str (cutP s.data.toList p.data.toList)),.bool (Lib.hasPrefix s.data.toList p.data.toList)])∧w'=w:=by
 obtain ⟨R,hR⟩:∃ R,R=str (cutP s.data.toList p.data.toList):=⟨_,rfl⟩
 obtain ⟨B,hB⟩:∃ B,B=Lib.hasPrefix s.data.toList p.data.toList:=⟨_,rfl⟩
 rw [←hR,←hB]
 have HP:Hid (∀ w',Calls Tryz.prog 196 #[.string s,.string p] w' fun e w''=>e=.returned (.bool B)∧w''=w'):=fun w'=>by
  rw [hB]
  exact Tryz.stringslite_HasPrefix s p w'
 rcases B with _|_
 ·have HR:Hid (R=s):=by show _=_;rw [hR,cutP,←hB];rfl
  clear hR hB
  go_enter Tryz.func200,Tryz.ntmps200
  go_wp2_with (go_at_call 196;((with_reducible refine (HP.out _).mono ?_);rintro e w1 ⟨rfl,rfl⟩))
  go_ret2
  exact ⟨by rw [HR.out];rfl,rfl⟩
 ·have hl:=has_len hB.symm
  rw [list_len,list_len] at hl
  have HR:Hid (R=s.extract p.size s.size):=by
   show _=_
   rw [hR,cutP,←hB,if_pos rfl]
   refine ba_ext ?_
   rw [ext_bytes]
   show List.drop _ _=_
   rw [list_len,List.take_of_length_le (by simp)]
  clear hR hB
  go_enter Tryz.func200,Tryz.ntmps200
  go_wp2_with (go_at_call 196;((with_reducible refine (HP.out _).mono ?_);rintro e w1 ⟨rfl,rfl⟩))
  go_ret2
  exact ⟨by rw [HR.out];rfl,rfl⟩
theorem cutPre_any (s p:ByteArray) (w:World) (hs:s.size≤140737488355328) :
  Calls Tryz.prog 173 #[.string s,.string p] w fun e w'=>e=.returned (.tuple #[.string (str (cutP s.data.toList p.data.toList)),.bool (Lib.hasPrefix s.data.toList p.data.toList)])∧w'=w:=by
 have HP:=Lib.hid (fun w'=>cutPre_lite s p w' hs)
 go_enter Tryz.func173,Tryz.ntmps173
 go_wp2_with (go_at_call 200;((with_reducible refine (HP.out _).mono ?_);rintro e w1 ⟨rfl,rfl⟩))
 go_ret2
 exact ⟨rfl,rfl⟩
def valV (l wd:List UInt8):List UInt8:=cutP (Lib.cut l [10]).1 (wd++[32])
def valO (l wd:List UInt8):Bool:=(Lib.cut l [10]).2.2&&Lib.hasPrefix (Lib.cut l [10]).1 (wd++[32])
def valR (l:List UInt8):List UInt8:=(Lib.cut l [10]).2.1
theorem cutP_len (l p:List UInt8):(cutP l p).length≤l.length:=by
 unfold cutP
 split
 ·simp
 ·exact Nat.le_refl _
theorem val_len (l wd:List UInt8):(valV l wd).length≤l.length∧(valR l).length≤l.length:=by
 have h:=cutLen_le l [10]
 have h2:=cutP_len (Lib.cut l [10]).1 (wd++[32])
 unfold valV valR
 omega
set_option maxHeartbeats 1000000 in
set_option maxRecDepth 4000 in
theorem value_any (b:Nat) (s word:ByteArray) (B:Bool) (w:World) (h:Rd w b s B) (hT:StrTab w) (hs:s.size≤1048576) (hw:word.size≤1048576) :
  Calls Tryz.prog 149 #[.pointer (some ⟨b,0,none⟩),.string word] w fun e w'=>e=.returned (.string (str (valV s.data.toList word.data.toList)))∧w.grownBy w' (some b)∧Rd w' b (str (valR s.data.toList)) (B||!(valO s.data.toList word.data.toList)):=by
 obtain ⟨V,hV⟩:∃ V,V=str (valV s.data.toList word.data.toList):=⟨_,rfl⟩
 obtain ⟨O,hO⟩:∃ O,O=valO s.data.toList word.data.toList:=⟨_,rfl⟩
 obtain ⟨r,hr⟩:∃ r,r=str (valR s.data.toList):=⟨_,rfl⟩
 rw [←hV,←hO,←hr]
 obtain ⟨t,ht⟩:∃ t,t=str (Lib.cut s.data.toList [10]).1:=⟨_,rfl⟩
 obtain ⟨x,hx⟩:∃ x,x=(Lib.cut s.data.toList [10]).2.2:=⟨_,rfl⟩
 obtain ⟨y,hy⟩:∃ y,y=Lib.hasPrefix t.data.toList (word.data.toList++[32]):=⟨_,rfl⟩
 have ht':t.data.toList=(Lib.cut s.data.toList [10]).1:=by rw [ht];rfl
 have HO:Hid (O=(x&&y)):=by show _=_;rw [hO,valO,hx,hy,ht']
 obtain ⟨m,hm⟩:=hT.m
 have hts:t.size≤1048576:=by
  have:=cutLen_le s.data.toList [10]
  rw [list_len] at this
  rw [ht,str_size]
  omega
 obtain ⟨a0,a1,f0,f1⟩:=h.at
 have HC:Hid (Calls Tryz.prog 178 #[.string s,.string ⟨#[10]⟩] w fun e w'=>e=.returned (.tuple #[.string t,.string r,.bool x])∧Below w.heap.size w w') :=
  (Tryz.strings_Cut s ⟨#[10]⟩ m w (by omega) hm).mono fun e w' ⟨he,n,hw⟩=>⟨by rw [he,ht,hr,hx];rfl,by rw [hw];exact below_drewN (Below.refl _ _) n⟩
 have HPE:∀ w',Calls Tryz.prog 173 #[.string t,.string (word++(⟨#[32]⟩:ByteArray))] w' fun e w''=>e=.returned (.tuple #[.string (str (cutP t.data.toList (word++(⟨#[32]⟩:ByteArray)).data.toList)),.bool (Lib.hasPrefix t.data.toList (word++(⟨#[32]⟩:ByteArray)).data.toList)])∧w''=w':=fun w'=>cutPre_any t _ w' (Nat.le_trans hts (by decide))
 have e32:(word++(⟨#[32]⟩:ByteArray)).data.toList=word.data.toList++[32]:=by simp
 have eV:str (cutP t.data.toList (word.data.toList++[32]))=V:=by rw [hV,ht'];rfl
 rw [e32,eV,←hy] at HPE
 have HP:=Lib.hid HPE
 clear HPE e32 eV
 have HE:Hid (∀ w' ok,Below w.heap.size w w'→Calls Tryz.prog 169 #[.pointer (some ⟨b,0,none⟩),.bool ok] w' fun e w''=>e=.returned (.tuple #[])∧w.grownBy w'' (some b)∧Rd w'' b s (B||!ok)):=fun w' ok hb =>
  (expect_any b s B ok w' (h.below hb)).mono fun e w'' ⟨he,hg,hr⟩=>⟨he,(gb_below b hb).trans hg,hr⟩
 clear hV hO hr ht hx hy ht' hm hts h hT hs
 rcases x with _|_
 ·go_enter Tryz.func149,Tryz.ntmps149
  go_upto_region 4 with (first
   | (go_at_call 178;((with_reducible refine (HC.out).mono ?_);rintro e w1 ⟨rfl,hb1⟩))
   | (go_at_call 173;((with_reducible refine (HP.out _).mono ?_);rintro e w2 ⟨rfl,rfl⟩))
   | (go_at_call 169;((with_reducible refine (HE.out _ _ hb1).mono ?_);rintro e w3 ⟨rfl,hg3,hr3⟩)))
  have HR3:=Lib.hid hr3
  obtain ⟨c0,c1,g0,g1⟩:=hr3.at
  clear hr3
  go_wp2
  go_ret
  exact ⟨rfl,hg3.trans (gb_set _ _ _ _),by rw [HO.out];exact HR3.out.set0⟩
 ·go_enter Tryz.func149,Tryz.ntmps149
  go_upto_region 4 with (first
   | (go_at_call 178;((with_reducible refine (HC.out).mono ?_);rintro e w1 ⟨rfl,hb1⟩))
   | (go_at_call 173;((with_reducible refine (HP.out _).mono ?_);rintro e w2 ⟨rfl,rfl⟩))
   | (go_at_call 169;((with_reducible refine (HE.out _ _ hb1).mono ?_);rintro e w3 ⟨rfl,hg3,hr3⟩)))
  have HR3:=Lib.hid hr3
  obtain ⟨c0,c1,g0,g1⟩:=hr3.at
  clear hr3
  go_wp2
  go_ret
  exact ⟨rfl,hg3.trans (gb_set _ _ _ _),by rw [HO.out,Bool.true_and];exact HR3.out.set0⟩
end Go.Proofs.YtnoopcenogbjiaaGreatDoor
