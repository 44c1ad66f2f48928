/-
 The tables of store's laws out of their rows' lists; a world that holds them.
-/
import Derived.Test.YtnoopcenogbjiaaGreatDoorLawPostPk
import Derived.Test.YtnoopcenogbjiaaGreatDoorTrBackPPk
import Derived.Test.YtnoopcenogbjiaaGreatDoorShaPlainPk
import Derived.Stop.LaidErr
import Derived.Lib.LaidTab
import Derived.Lib.SmallJoins
import Derived.Deep.Slices
import Derived.Test.YtnoopcenogbjiaaGreatDoorOwBPk
import Derived.Test.YtnoopcenogbjiaaGreatDoorStOwPk
import Derived.Test.YtnoopcenogbjiaaGreatDoorShelf
set_option linter.unusedVariables false
set_option linter.unusedSimpArgs false
namespace Go.Proofs.YtnoopcenogbjiaaGreatDoor
open Go.ChangeShapes Go.WideShapes Go.ChangeAt Go.RowKit
open Go.WideMaps Go.WideElems
theorem Tryz.gWords:Tryz.prog.globalNamed "graftage/object.words" = some 1:=by kernel_rfl
theorem Tryz.gWordsType:(Tryz.prog.globals[1]?).map (·.type)=some 152:=by kernel_rfl
theorem Tryz.cellsWords:Tryz.prog.cellsOf 152=5:=by kernel_rfl
theorem Tryz.cellsStr:Tryz.prog.cellsOf 9=1:=by kernel_rfl
theorem Tryz.gPow:Tryz.prog.globalNamed "internal/strconv.uint64pow10" = some 4:=by kernel_rfl
theorem Tryz.gPowType:(Tryz.prog.globals[4]?).map (·.type)=some 210:=by kernel_rfl
theorem Tryz.cellsPow:Tryz.prog.cellsOf 210=20:=by kernel_rfl
theorem Tryz.cellsU64:Tryz.prog.cellsOf 136=1:=by kernel_rfl
theorem Tryz.gErr:Tryz.prog.globalNamed "strconv.ErrSyntax" = some 7:=by kernel_rfl
theorem Tryz.gErrType:(Tryz.prog.globals[7]?).map (·.type)=some 216:=by kernel_rfl
theorem Tryz.cellsErrStr:Tryz.prog.cellsOf 251=1:=by kernel_rfl
theorem Tryz.star : "*" ++ "errors.errorString" = "*errors.errorString" := by decide
theorem Tryz.rowErr (u:TypeId) (h:Tryz.prog.typeName? 3 u=some "*errors.errorString"):u=249 :=
 typeName_ptr_named (nm := "errors.errorString") (by rw [Tryz.star];kernel_rfl) (by kernel_rfl) (by decide) u (by rw [Tryz.star];exact h)
theorem words_of {W:World} {r:List (String×DataW Unit)} (h:laidMet Tryz.prog (("graftage/object.words", Rows.laid_graftage_object_words)::r) W):WoTab W:=by
 obtain ⟨ps,⟨g',t',cs,fuel,p,q,hg',ht',hvar,hd,_,_⟩,_⟩:=h
 obtain rfl:=Option.some.inj (Tryz.gWords.symm.trans hg')
 obtain rfl:=Option.some.inj (Tryz.gWordsType.symm.trans ht')
 have hc:=cells_of_strs (zs:=[[],[98,108,111,98],[116,114,101,101],[99,111,109,109,105,116],[116,97,103]]) Tryz.underlying152 Tryz.underlying9 Tryz.cellsStr Tryz.cellsWords hd
 have hcell:∀ i,W.cell? ⟨1,i,none⟩=cs.toList[i]?:=fun i=>by
  have:=World.var?_cell Tryz.gWords hvar i
  rw [this]
  simp
 exact ⟨by rw [hcell,hc];rfl,by rw [hcell,hc];rfl,by rw [hcell,hc];rfl,by rw [hcell,hc];rfl,by rw [hcell,hc];rfl⟩
theorem pow_of {W:World} {r:List (String×DataW Unit)} (h:laidMet Tryz.prog (("internal/strconv.uint64pow10", Rows.laid_internal_strconv_uint64pow10)::r) W):Lib.TabIs Tryz.prog W "internal/strconv.uint64pow10" .u64 Lib.pow10Tab :=
 Lib.tabIs_of_head Tryz.gPow Tryz.gPowType Tryz.underlying210 Tryz.underlying136 Tryz.cellsU64 Tryz.cellsPow h
theorem err_of {W:World} {r:List (String×DataW Unit)} (h:laidMet Tryz.prog (("strconv.ErrSyntax", Rows.laid_strconv_ErrSyntax)::r) W):∃ te pe,W.cell? ⟨7,0,none⟩=some (.iface te pe):=by
 obtain ⟨a0,s0,hv0,-,-,-⟩:=laid_sentinel h Tryz.gErr Tryz.gErrType Tryz.underlying216 Tryz.rowErr Tryz.underlying249 Tryz.underlying251 rfl rfl Tryz.underlying9 Tryz.cellsErrStr Tryz.cellsStr
 have h0:=World.var?_cell Tryz.gErr hv0 0
 exact ⟨_,_,by simpa using h0⟩
theorem Tryz.gModes:Tryz.prog.globalNamed "graftage/tree.modeWords" = some 3:=by kernel_rfl
theorem Tryz.gModesType:(Tryz.prog.globals[3]?).map (·.type)=some 152:=by kernel_rfl
theorem Tryz.cellsModes:Tryz.prog.cellsOf 152=5:=by kernel_rfl
theorem modes_of {W:World} {r:List (String×DataW Unit)} (h:laidMet Tryz.prog (("graftage/tree.modeWords", Rows.laid_graftage_tree_modeWords)::r) W):∀ q:Nat,q<5→W.cell? ⟨3,q,none⟩=some (.string (str (wordM q))):=by
 obtain ⟨ps,⟨g',t',cs,fuel,p,q,hg',ht',hvar,hd,_,_⟩,_⟩:=h
 obtain rfl:=Option.some.inj (Tryz.gModes.symm.trans hg')
 obtain rfl:=Option.some.inj (Tryz.gModesType.symm.trans ht')
 have hc:=cells_of_strs (zs:=[[],wordM 1,wordM 2,wordM 3,wordM 4]) Tryz.underlying152 Tryz.underlying9 Tryz.cellsStr Tryz.cellsModes hd
 have hcell:∀ i,W.cell? ⟨3,i,none⟩=cs.toList[i]?:=fun i=>by
  have:=World.var?_cell Tryz.gModes hvar i
  rw [this]
  simp
 intro q hq
 rw [hcell,hc]
 have:q=0∨q=1∨q=2∨q=3∨q=4:=by omega
 rcases this with rfl|rfl|rfl|rfl|rfl<;>rfl
structure SoTab (w:World):Prop where
 s:StrTab w
 o:WoTab w
 t:TrTab w
 k:KTab w
theorem Tryz.gKw:Tryz.prog.globalNamed "graftage/ident.roundWords" = some 2:=by kernel_rfl
theorem Tryz.gKwType:(Tryz.prog.globals[2]?).map (·.type)=some 178:=by kernel_rfl
theorem Tryz.cellsKw:Tryz.prog.cellsOf 178=64:=by kernel_rfl
theorem Tryz.cellsU32:Tryz.prog.cellsOf 141=1:=by kernel_rfl
abbrev kwList:List Int:=[1116352408,1899447441,3049323471,3921009573,961987163,1508970993,2453635748,2870763221,3624381080,310598401,607225278,1426881987,1925078388,2162078206,2614888103,3248222580,3835390401,4022224774,264347078,604807628,770255983,1249150122,1555081692,1996064986,2554220882,2821834349,2952996808,3210313671,3336571891,3584528711,113926993,338241895,666307205,773529912,1294757372,1396182291,1695183700,1986661051,2177026350,2456956037,2730485921,2820302411,3259730800,3345764771,3516065817,3600352804,4094571909,275423344,430227734,506948616,659060556,883997877,958139571,1322822218,1537002063,1747873779,1955562222,2024104815,2227730452,2361852424,2428436474,2756734187,3204031479,3329325298]
theorem ktab_of {W:World} {r:List (String×DataW Unit)} (h:laidMet Tryz.prog (("graftage/ident.roundWords", Rows.laid_graftage_ident_roundWords)::r) W):KTab W:=by
 have ht:Lib.TabIs Tryz.prog W "graftage/ident.roundWords" .u32 kwList:=Lib.tabIs_of_head Tryz.gKw Tryz.gKwType Tryz.underlying178 Tryz.underlying141 Tryz.cellsU32 Tryz.cellsKw h
 intro i hi
 have hc:=ht.cell Tryz.gKw i (by simpa using hi)
 rw [hc]
 have e:∀ i,i<64→([1116352408,1899447441,3049323471,3921009573,961987163,1508970993,2453635748,2870763221,3624381080,310598401,607225278,1426881987,1925078388,2162078206,2614888103,3248222580,3835390401,4022224774,264347078,604807628,770255983,1249150122,1555081692,1996064986,2554220882,2821834349,2952996808,3210313671,3336571891,3584528711,113926993,338241895,666307205,773529912,1294757372,1396182291,1695183700,1986661051,2177026350,2456956037,2730485921,2820302411,3259730800,3345764771,3516065817,3600352804,4094571909,275423344,430227734,506948616,659060556,883997877,958139571,1322822218,1537002063,1747873779,1955562222,2024104815,2227730452,2361852424,2428436474,2756734187,3204031479,3329325298]:List Int).getD i 0=(kw.getD i 0:Nat):=by decide +kernel
 rw [e i hi]
theorem sotab_of {W:World} (h:laidMetH Tryz.prog Rows.storeRightsRow.laid W) (hsh:W.ShapedOpen Tryz.prog):SoTab W:=by
 have h0:laidMet Tryz.prog [("math/bits.deBruijn32tab", Rows.laid_math_bits_deBruijn32tab),("math/bits.deBruijn64tab", Rows.laid_math_bits_deBruijn64tab),("internal/strconv.uint64pow10", Rows.laid_internal_strconv_uint64pow10),("unicode/utf8.acceptRanges", Rows.laid_unicode_utf8_acceptRanges),("strconv.ErrRange", Rows.laid_strconv_ErrRange),("strconv.ErrSyntax", Rows.laid_strconv_ErrSyntax),("graftage/ident.roundWords", Rows.laid_graftage_ident_roundWords),("graftage/object.words", Rows.laid_graftage_object_words),("graftage/tree.modeWords", Rows.laid_graftage_tree_modeWords),("unicode/utf8.first", Rows.laid_unicode_utf8_first)] W:=h
 have hm:=modes_of h0.tail.tail.tail.tail.tail.tail.tail.tail
 have hl:=Tryz.laysM145.s1_3 W hsh
 exact ⟨⟨pow_of h0.tail.tail,err_of h0.tail.tail.tail.tail.tail,hl⟩,words_of h0.tail.tail.tail.tail.tail.tail.tail,⟨hl,hm 1 (by decide),hm 2 (by decide),hm 3 (by decide),hm 4 (by decide)⟩,ktab_of h0.tail.tail.tail.tail.tail.tail⟩
def setRow (cs:Array Value):Obj→Obj
 | .cells _ t frozen=>.cells cs t frozen
 | o=>o
noncomputable def low:Nat:=(World.holding Tryz.prog default ⟨#[],#[],[]⟩).heap.size
noncomputable def soWorld (os:Os):World :=
 let w0:=World.holding Tryz.prog os ⟨#[.cells #[.string ⟨#[105,110,118,97,108,105,100,32,115,121,110,116,97,120]⟩] 251,.cells #[.string ⟨#[118,97,108,117,101,32,111,117,116,32,111,102,32,114,97,110,103,101]⟩] 251],#[],[]⟩
 { w0 with heap:=((((((((((w0.heap.modify 7 (setRow #[.iface 249 (.pointer (some ⟨low,0,none⟩))])).modify 8 (setRow #[.iface 249 (.pointer (some ⟨low+1,0,none⟩))])).modify 2 (setRow #[.int .u32 1116352408,.int .u32 1899447441,.int .u32 3049323471,.int .u32 3921009573,.int .u32 961987163,.int .u32 1508970993,.int .u32 2453635748,.int .u32 2870763221,.int .u32 3624381080,.int .u32 310598401,.int .u32 607225278,.int .u32 1426881987,.int .u32 1925078388,.int .u32 2162078206,.int .u32 2614888103,.int .u32 3248222580,.int .u32 3835390401,.int .u32 4022224774,.int .u32 264347078,.int .u32 604807628,.int .u32 770255983,.int .u32 1249150122,.int .u32 1555081692,.int .u32 1996064986,.int .u32 2554220882,.int .u32 2821834349,.int .u32 2952996808,.int .u32 3210313671,.int .u32 3336571891,.int .u32 3584528711,.int .u32 113926993,.int .u32 338241895,.int .u32 666307205,.int .u32 773529912,.int .u32 1294757372,.int .u32 1396182291,.int .u32 1695183700,.int .u32 1986661051,.int .u32 2177026350,.int .u32 2456956037,.int .u32 2730485921,.int .u32 2820302411,.int .u32 3259730800,.int .u32 3345764771,.int .u32 3516065817,.int .u32 3600352804,.int .u32 4094571909,.int .u32 275423344,.int .u32 430227734,.int .u32 506948616,.int .u32 659060556,.int .u32 883997877,.int .u32 958139571,.int .u32 1322822218,.int .u32 1537002063,.int .u32 1747873779,.int .u32 1955562222,.int .u32 2024104815,.int .u32 2227730452,.int .u32 2361852424,.int .u32 2428436474,.int .u32 2756734187,.int .u32 3204031479,.int .u32 3329325298])).modify 1 (setRow #[.string ⟨#[]⟩,.string ⟨#[98,108,111,98]⟩,.string ⟨#[116,114,101,101]⟩,.string ⟨#[99,111,109,109,105,116]⟩,.string ⟨#[116,97,103]⟩])).modify 4 (setRow #[.int .u64 1,.int .u64 10,.int .u64 100,.int .u64 1000,.int .u64 10000,.int .u64 100000,.int .u64 1000000,.int .u64 10000000,.int .u64 100000000,.int .u64 1000000000,.int .u64 10000000000,.int .u64 100000000000,.int .u64 1000000000000,.int .u64 10000000000000,.int .u64 100000000000000,.int .u64 1000000000000000,.int .u64 10000000000000000,.int .u64 100000000000000000,.int .u64 1000000000000000000,.int .u64 10000000000000000000]))).modify 5 (setRow #[.int .u8 0,.int .u8 1,.int .u8 28,.int .u8 2,.int .u8 29,.int .u8 14,.int .u8 24,.int .u8 3,.int .u8 30,.int .u8 22,.int .u8 20,.int .u8 15,.int .u8 25,.int .u8 17,.int .u8 4,.int .u8 8,.int .u8 31,.int .u8 27,.int .u8 13,.int .u8 23,.int .u8 21,.int .u8 19,.int .u8 16,.int .u8 7,.int .u8 26,.int .u8 12,.int .u8 18,.int .u8 6,.int .u8 11,.int .u8 5,.int .u8 10,.int .u8 9])).modify 6 (setRow #[.int .u8 0,.int .u8 1,.int .u8 56,.int .u8 2,.int .u8 57,.int .u8 49,.int .u8 28,.int .u8 3,.int .u8 61,.int .u8 58,.int .u8 42,.int .u8 50,.int .u8 38,.int .u8 29,.int .u8 17,.int .u8 4,.int .u8 62,.int .u8 47,.int .u8 59,.int .u8 36,.int .u8 45,.int .u8 43,.int .u8 51,.int .u8 22,.int .u8 53,.int .u8 39,.int .u8 33,.int .u8 30,.int .u8 24,.int .u8 18,.int .u8 12,.int .u8 5,.int .u8 63,.int .u8 55,.int .u8 48,.int .u8 27,.int .u8 60,.int .u8 41,.int .u8 37,.int .u8 16,.int .u8 46,.int .u8 35,.int .u8 44,.int .u8 21,.int .u8 52,.int .u8 32,.int .u8 23,.int .u8 11,.int .u8 54,.int .u8 26,.int .u8 40,.int .u8 15,.int .u8 34,.int .u8 20,.int .u8 31,.int .u8 10,.int .u8 25,.int .u8 14,.int .u8 19,.int .u8 9,.int .u8 13,.int .u8 8,.int .u8 7,.int .u8 6])).modify 10 (setRow #[.int .u8 128,.int .u8 191,.int .u8 160,.int .u8 191,.int .u8 128,.int .u8 159,.int .u8 144,.int .u8 191,.int .u8 128,.int .u8 143,.int .u8 0,.int .u8 0,.int .u8 0,.int .u8 0,.int .u8 0,.int .u8 0,.int .u8 0,.int .u8 0,.int .u8 0,.int .u8 0,.int .u8 0,.int .u8 0,.int .u8 0,.int .u8 0,.int .u8 0,.int .u8 0,.int .u8 0,.int .u8 0,.int .u8 0,.int .u8 0,.int .u8 0,.int .u8 0])).modify 9 (setRow (Go.Pinned.utf8FirstZ.map fun (n:Nat)=>Value.int .u8 (n:Int)).toArray)).modify 3 (setRow #[.string ⟨#[]⟩,.string ⟨#[49,48,48,54,52,52,32]⟩,.string ⟨#[49,48,48,55,53,53,32]⟩,.string ⟨#[49,50,48,48,48,48,32]⟩,.string ⟨#[52,48,48,48,48,32]⟩]) }
end Go.Proofs.YtnoopcenogbjiaaGreatDoor
/-
 The order of entries: plain.
-/
namespace Go.Proofs.YtnoopcenogbjiaaGreatDoor
open Go.RowKit
theorem bl_irr:∀ x:List UInt8,Op.bytesLess x x=false
 | []=>rfl
 | a::x=>by
  have h:¬ a<a:=UInt8.lt_irrefl a
  simp [Op.bytesLess,bl_irr x,h]
theorem bl_asym:∀ x y:List UInt8,Op.bytesLess x y=true→Op.bytesLess y x=false
 | [],[],h=>by simp [Op.bytesLess] at h
 | [],b::y,_=>rfl
 | a::x,[],h=>by simp [Op.bytesLess] at h
 | a::x,b::y,h=>by
  simp only [Op.bytesLess,Bool.or_eq_true,Bool.and_eq_true,decide_eq_true_eq,beq_iff_eq] at h
  simp only [Op.bytesLess,Bool.or_eq_false_iff,Bool.and_eq_false_iff,decide_eq_false_iff_not,beq_eq_false_iff_ne]
  rcases h with h|⟨rfl,h⟩
  ·exact ⟨fun h2=>absurd (UInt8.lt_trans h h2) (UInt8.lt_irrefl a),.inl fun e=>by rw [e] at h;exact UInt8.lt_irrefl _ h⟩
  ·exact ⟨UInt8.lt_irrefl _,.inr (bl_asym x y h)⟩
theorem bl_total:∀ x y:List UInt8,x≠y→Op.bytesLess x y=true∨Op.bytesLess y x=true
 | [],[],h=>absurd rfl h
 | [],b::y,_=>.inl rfl
 | a::x,[],_=>.inr rfl
 | a::x,b::y,h=>by
  simp only [Op.bytesLess,Bool.or_eq_true,Bool.and_eq_true,decide_eq_true_eq,beq_iff_eq]
  by_cases e:a=b
  ·subst e
   have hxy:x≠y:=fun e=>h (by rw [e])
   rcases bl_total x y hxy with h1|h1
   ·exact .inl (.inr ⟨rfl,h1⟩)
   ·exact .inr (.inr ⟨rfl,h1⟩)
  ·rcases UInt8.lt_or_lt_of_ne e with h1|h1
   ·exact .inl (.inl h1)
   ·exact .inr (.inl h1)
theorem bl_trans:∀ x y z:List UInt8,Op.bytesLess x y=true→Op.bytesLess y z=true→Op.bytesLess x z=true
 | x,[],z,h,_=>by cases x<;>simp [Op.bytesLess] at h
 | x,b::y,[],_,h=>by simp [Op.bytesLess] at h
 | [],b::y,c::z,_,_=>rfl
 | a::x,b::y,c::z,h1,h2=>by
  simp only [Op.bytesLess,Bool.or_eq_true,Bool.and_eq_true,decide_eq_true_eq,beq_iff_eq] at h1 h2 ⊢
  rcases h1 with h1|⟨rfl,h1⟩<;>rcases h2 with h2|⟨rfl,h2⟩
  ·exact .inl (UInt8.lt_trans h1 h2)
  ·exact .inl h1
  ·exact .inl h2
  ·exact .inr ⟨rfl,bl_trans x y z h1 h2⟩
end Go.Proofs.YtnoopcenogbjiaaGreatDoor
/-
  Stores, plain: items, the binary search, what is found.
-/
namespace Go.Proofs.YtnoopcenogbjiaaGreatDoor
open Go Go.RowKit
structure It where
  i:ByteArray
  k:Int
  b:ByteArray
deriving DecidableEq
def It.cells (e:It):List Value:=[.string e.i,.int .i64 e.k,.string e.b]
def It.zero:It:=⟨⟨#[]⟩,0,⟨#[]⟩⟩
def ltB (a b:ByteArray):Bool:=Op.bytesLess a.toList b.toList
theorem ltB_irr (a:ByteArray):ltB a a=false:=bl_irr _
theorem ltB_trans {a b c:ByteArray} (h:ltB a b=true) (k:ltB b c=true):ltB a c=true:=bl_trans _ _ _ h k
theorem ltB_asym {a b:ByteArray} (h:ltB a b=true):ltB b a=false:=bl_asym _ _ h
theorem toList_inj {a b:ByteArray} (h:a.toList=b.toList):a=b:=by
  rw [ByteArray.toList_eq,ByteArray.toList_eq] at h
  exact ba_ext h
theorem ltB_total {a b:ByteArray} (h:a≠b):ltB a b=true∨ltB b a=true:=bl_total _ _ fun e=>h (toList_inj e)
def bsN (f:Nat→Bool) (lo hi:Nat):Nat:=if lo<hi then (if f ((lo+hi) / 2)=true then bsN f ((lo+hi) / 2+1) hi else bsN f lo ((lo+hi) / 2)) else lo
termination_by hi-lo
theorem bsN_up {f:Nat→Bool} {lo hi:Nat} (h:lo<hi) (hf:f ((lo+hi) / 2)=true):bsN f lo hi=bsN f ((lo+hi) / 2+1) hi:=by rw [bsN,if_pos h,if_pos hf]
theorem bsN_dn {f:Nat→Bool} {lo hi:Nat} (h:lo<hi) (hf:f ((lo+hi) / 2)=false):bsN f lo hi=bsN f lo ((lo+hi) / 2):=by rw [bsN,if_pos h,if_neg (by rw [hf];decide)]
theorem bsN_end {f:Nat→Bool} {lo hi:Nat} (h:¬ lo<hi):bsN f lo hi=lo:=by rw [bsN,if_neg h]
theorem bsN_in (f:Nat→Bool):∀ (d lo hi:Nat),hi-lo≤d→lo≤hi→lo≤bsN f lo hi∧bsN f lo hi≤hi
  | d,lo,hi,hd,hl=>by
    by_cases h:lo<hi
    · cases d with
      | zero=>omega
      | succ d =>
        cases hf:f ((lo+hi) / 2) with
        | true =>
          have:=bsN_in f d ((lo+hi) / 2+1) hi (by omega) (by omega)
          rw [bsN_up h hf]
          omega
        | false =>
          have:=bsN_in f d lo ((lo+hi) / 2) (by omega) (by omega)
          rw [bsN_dn h hf]
          omega
    · rw [bsN_end h];omega
theorem bsN_at (f:Nat→Bool) (c:Nat):∀ (d lo hi:Nat),hi-lo≤d→lo≤c→c≤hi→(∀ j,lo≤j→j<c→f j=true)→(∀ j,c≤j→j<hi→f j=false)→bsN f lo hi=c
  | d,lo,hi,hd,h1,h2,ht,hf=>by
    by_cases h:lo<hi
    · cases d with
      | zero=>omega
      | succ d =>
        by_cases hm:(lo+hi) / 2<c
        · rw [bsN_up h (ht _ (by omega) hm)]
          exact bsN_at f c d _ _ (by omega) (by omega) h2 (fun j a b=>ht j (by omega) b) hf
        · rw [bsN_dn h (hf _ (by omega) (by omega))]
          exact bsN_at f c d _ _ (by omega) h1 (by omega) ht (fun j a b=>hf j a (by omega))
    · rw [bsN_end h];omega
def atI (l:List It) (id:ByteArray):Nat:=bsN (fun m=>ltB (l.getD m It.zero).i id) 0 l.length
def hasI (l:List It) (id:ByteArray):Bool:=decide (atI l id<l.length)&&decide ((l.getD (atI l id) It.zero).i=id)
def getI (l:List It) (id:ByteArray):It:=if hasI l id=true then l.getD (atI l id) It.zero else It.zero
def getE (l:List It) (id:ByteArray):Nat:=if hasI l id=true then 0 else 5
theorem atI_le (l:List It) (id:ByteArray):atI l id≤l.length:=(bsN_in _ _ _ _ (Nat.le_refl _) (Nat.zero_le _)).2
def spotS (l:List (List UInt8)) (s:ByteArray):Nat:=bsN (fun m=>ltB (str (l.getD m [])) s) 0 l.length
def holdsS (l:List (List UInt8)) (s:ByteArray):Bool:=decide (spotS l s<l.length)&&decide (str (l.getD (spotS l s) [])=s)
def insS (l:List (List UInt8)) (s:ByteArray):List (List UInt8):=if holdsS l s=true then l else l.take (spotS l s)++s.data.toList::l.drop (spotS l s)
theorem spotS_le (l:List (List UInt8)) (s:ByteArray):spotS l s≤l.length:=(bsN_in _ _ _ _ (Nat.le_refl _) (Nat.zero_le _)).2
def SrtS (l:List (List UInt8)):Prop:=l.Pairwise fun a b=>ltB (str a) (str b)=true
theorem srt_getS {l:List (List UInt8)} (h:SrtS l) {j k:Nat} (hj:j<k) (hk:k<l.length):ltB (str (l.getD j [])) (str (l.getD k []))=true:=by
  have:=List.pairwise_iff_getElem.mp h j k (by omega) hk hj
  rw [List.getD_eq_getElem?_getD,List.getD_eq_getElem?_getD,List.getElem?_eq_getElem (by omega),List.getElem?_eq_getElem hk]
  exact this
theorem spotS_of {l:List (List UInt8)} (h:SrtS l) {k:Nat} (hk:k<l.length):spotS l (str (l.getD k []))=k :=
  bsN_at _ k _ _ _ (Nat.le_refl _) (Nat.zero_le _) (by omega) (fun j _ hj=>srt_getS h hj hk) fun j hj hl=>by
    rcases Nat.lt_or_ge k j with h1|h1
    · exact ltB_asym (srt_getS h h1 hl)
    · obtain rfl:j=k:=by omega
      exact ltB_irr _
theorem holdsS_iff {l:List (List UInt8)} (h:SrtS l) (s:ByteArray):holdsS l s=true↔s.data.toList∈l:=by
  constructor
  · intro hh
    unfold holdsS at hh
    rw [Bool.and_eq_true,decide_eq_true_eq,decide_eq_true_eq] at hh
    have e : s.data.toList = l.getD (spotS l s) [] := by conv => lhs; rw [← hh.2]
                                                         rfl
    rw [e,List.getD_eq_getElem?_getD,List.getElem?_eq_getElem hh.1]
    exact List.getElem_mem hh.1
  · intro hx
    obtain ⟨k,hk,e⟩:=List.getElem_of_mem hx
    have e2:l.getD k []=s.data.toList:=by rw [List.getD_eq_getElem?_getD,List.getElem?_eq_getElem hk];exact e
    have h1:=spotS_of h hk
    rw [e2] at h1
    have h2:spotS l s=k:=h1
    unfold holdsS
    rw [h2,decide_eq_true hk,e2,decide_eq_true (show str s.data.toList=s from rfl)]
    rfl
def ItRw (w:World) (p:Option Addr) (es:List It):Prop:=∀ k (h:k<es.length),∃ g o,p=some ⟨g,o,none⟩∧g<w.heap.size ∧
 w.cell? ⟨g,o+k*3,none⟩=some (.string es[k].i)∧w.cell? ⟨g,o+k*3+1,none⟩=some (.int .i64 es[k].k)∧w.cell? ⟨g,o+k*3+2,none⟩=some (.string es[k].b)
theorem ItRw.below {w w':World} {p:Option Addr} {es:List It} (h:ItRw w p es) (hb:Below w.heap.size w w'):ItRw w' p es:=fun k hk=>by
 obtain ⟨g,o,rfl,hg,h0,h1,h2⟩:=h k hk
 exact ⟨g,o,rfl,Nat.lt_of_lt_of_le hg hb.size,(hb.cell (p:=⟨g,_,none⟩) hg).trans h0,(hb.cell (p:=⟨g,_,none⟩) hg).trans h1,(hb.cell (p:=⟨g,_,none⟩) hg).trans h2⟩
theorem ItRw.nil (w:World) (p:Option Addr):ItRw w p []:=fun k hk=>absurd hk (Nat.not_lt_zero _)
theorem ItRw.take {w:World} {p:Option Addr} {es:List It} (h:ItRw w p es) (i:Nat):ItRw w p (es.take i):=fun k hk=>by
 rw [List.length_take] at hk
 obtain ⟨g,o,hp,hg,h0,h1,h2⟩:=h k (by omega)
 exact ⟨g,o,hp,hg,by rw [h0,List.getElem_take],by rw [h1,List.getElem_take],by rw [h2,List.getElem_take]⟩
theorem Tryz.infoIt:(Tryz.prog.info? 39).map (fun i=>(i.zero,i.size,i.bytes))=some (some (.agg #[.string ⟨#[]⟩,.int .i64 0,.string ⟨#[]⟩]),3,40):=by kernel_rfl
def itcells (l:List It):List Value:=l.flatMap It.cells
theorem itcells_len:∀ l:List It,(itcells l).length=l.length*3
 | []=>rfl
 | e::l=>by
  have:=itcells_len l
  simp only [itcells,List.flatMap_cons,List.length_append,List.length_cons,It.cells,List.length_nil] at this ⊢
  omega
theorem itcells_append (a b:List It):itcells (a++b)=itcells a++itcells b:=by simp [itcells]
theorem itcells_one (l:List It):∀ u∈itcells l,u.oneCell'=true:=by
 intro u hu
 simp only [itcells,List.mem_flatMap,It.cells,List.mem_cons,List.not_mem_nil,or_false] at hu
 obtain ⟨e,_,rfl|rfl|rfl⟩:=hu<;>rfl
theorem itcells_at:∀ (l:List It) (k c:Nat) (hk:k<l.length),c<3→(itcells l)[k*3+c]?=(It.cells l[k])[c]?
 | e::l,0,c,_,hc=>by
  simp only [itcells,List.flatMap_cons,Nat.zero_mul,Nat.zero_add,List.getElem_cons_zero]
  rw [List.getElem?_append_left (by simp [It.cells];omega)]
 | e::l,k+1,c,hk,hc=>by
  have ih:=itcells_at l k c (by simpa using hk) hc
  simp only [itcells,List.flatMap_cons,List.getElem_cons_succ] at ih ⊢
  rw [List.getElem?_append_right (by simp [It.cells];omega),←ih]
  congr 1
  simp [It.cells]
  omega
def ItOw (w:World) (base:Nat) (v:Value) (l:List It):Prop:=w.ownsRow base 39 3 v l.length (itcells l)
theorem ItOw.nil (w:World) (base:Nat):ItOw w base (.slice none 0 0) []:=World.ownsRow_nil w base 39 3
theorem ItOw.below {w w':World} {base:Nat} {v:Value} {l:List It} (h:ItOw w base v l) (hb:Below w.heap.size w w'):ItOw w' base v l:=own_below h hb
theorem ItOw.rw {w:World} {base:Nat} {v:Value} {l:List It} (h:ItOw w base v l):∃ p cap,v=.slice p l.length cap∧l.length≤cap∧ItRw w p l:=by
 have h':w.ownsRow base 39 3 v l.length (itcells l):=h
 rcases h'.2 with ⟨rfl,hx⟩|⟨g,cap,cur,rfl,_,hg,hc,_⟩
 ·have h0:l=[]:=by
   cases l with
   | nil=>rfl
   | cons a r=>simp [itcells,It.cells] at hx
  subst h0
  exact ⟨none,0,rfl,Nat.le_refl _,ItRw.nil _ _⟩
 ·refine ⟨_,cap,rfl,hc,fun k hk=>?_⟩
  have at' (c:Nat) (hc:c<3):w.cell? ⟨g,0+k*3+c,none⟩=(It.cells l[k])[c]?:=by
   rw [Nat.zero_add,World.ownsRow.cellAt h' (k*3+c) (by omega),itcells_at l k c hk hc]
  exact ⟨g,0,rfl,(Array.getElem?_eq_some_iff.mp hg).1,at' 0 (by decide),at' 1 (by decide),at' 2 (by decide)⟩
theorem new_it (w:World) (e:It) (j:Nat) (u:Value) (hj:(It.cells e)[j]?=some u):(w.alloc (.cells #[.string e.i,.int .i64 e.k,.string e.b] 39)).cell? ((⟨w.heap.size,0,none⟩:Addr).add j)=some u:=by
 rw [Addr.add_lit,Nat.zero_add]
 refine (World.cell?_alloc_mark w #[.string e.i,.int .i64 e.k,.string e.b] 39 (0,0) j).trans ?_
 rw [←hj]
 simp [It.cells]
theorem wp_it_one {ops:Array Oper} {rest:List Oper} {o:Oper} {a:Act} {Q:Exit→Act→World→Prop} {w:World} (hgd:o.guard=none) (sl x:Operand)
  (ho:o.op=.call { callee:=.builtin .append,args:=#[sl,x],argTypes:=#[22,22] })
  {base:Nat} {v:Value} {l:List It} (hs:a.eval sl=v) (hown:ItOw w base v l) (id:ByteArray) (k:Int) (b:ByteArray) (hx:a.eval x=.slice (some ⟨w.heap.size,0,none⟩) 1 1) (hb:l.length+1≤1048576) (hbase:base≤w.heap.size)
  (h:∀ v' w',ItOw w' base v' (l++[⟨id,k,b⟩])→(w.alloc (.cells #[.string id,.int .i64 k,.string b] 39)).grownBy w' v.ownBlock→wpList Tryz.prog ops Q rest (a.put o.dst v') w'):wpList Tryz.prog ops Q (o::rest) a (w.alloc (.cells #[.string id,.int .i64 k,.string b] 39)):=by
 obtain ⟨i0,hi,hz0,hz1,hz2⟩:=info_parts Tryz.infoIt
 have hown2:w.ownsRow base 39 3 v l.length (itcells l):=hown
 exact wpList_append_own _ hgd sl x 22 ho base 39 i0 (.agg #[.string ⟨#[]⟩,.int .i64 0,.string ⟨#[]⟩]) 3 40 Tryz.underlying22 hi hz0 hz1 hz2 rfl (by decide) v l.length (itcells l) hs (hown2.alloc _) ⟨w.heap.size,0,none⟩ 1 1 (It.cells ⟨id,k,b⟩) hx rfl (fun j u hj=>new_it w ⟨id,k,b⟩ j u hj) (fun u hu=>itcells_one [⟨id,k,b⟩] u (by simpa [itcells] using hu)) (by unfold maxLen;omega) (by omega) (by simp;omega)
  (fun v' w' h1 h2 _=>h v' w' (by
   unfold ItOw
   rw [itcells_append,List.length_append]
   simpa [itcells] using h1) h2)
theorem ItOw.bel1 {B base:Nat} {w0 w w':World} {v:Value} {l:List It} {o:Obj} (h:ItOw w base v l) (hb:Below B w0 w) (hB:B≤base) (hs:B≤w.heap.size) (hg:(w.alloc o).grownBy w' v.ownBlock):Below B w0 w' :=
 app_step hb h hg hB hs
theorem ItOw.apart {w:World} {base:Nat} {v:Value} {l:List It} {b:Nat} (h:ItOw w base v l) (hb:b<base):some b≠v.ownBlock:=by
 rcases h.2 with ⟨rfl,_⟩|⟨g,cap,cur,rfl,hg,_⟩
 ·simp [Value.ownBlock]
 ·simp [Value.ownBlock]
  omega
theorem ItOw.mono {w:World} {B base:Nat} {v:Value} {l:List It} (h:ItOw w base v l) (hB:B≤base):ItOw w B v l:=by
 refine ⟨h.1,?_⟩
 rcases h.2 with h2|⟨g,cap,cur,h3,h4,h5⟩
 ·exact .inl h2
 ·exact .inr ⟨g,cap,cur,h3,by omega,h5⟩
theorem it_at {w:World} {E:Nat} {v0 v1 v2:Value} {t:TypeId} (h:w.heap[E]?=some (.cells #[v0,v1,v2] t (0,0))) :
  w.cell? ⟨E,0,none⟩=some v0∧w.cell? ⟨E,1,none⟩=some v1∧w.cell? ⟨E,2,none⟩=some v2 :=
 ⟨cell_of_row _ _ 0 _ _ _ h,cell_of_row _ _ 1 _ _ _ h,cell_of_row _ _ 2 _ _ _ h⟩
end Go.Proofs.YtnoopcenogbjiaaGreatDoor
/-
 A store that is handed in.
-/
set_option maxRecDepth 100000
namespace Go.Proofs.YtnoopcenogbjiaaGreatDoor
open Go.ChangeShapes Go.WideShapes Go.ChangeAt Go.RowKit
open Go.WideMaps Go.WideElems
theorem weights_allC {H:Type} {P:Program} {e:TypeId} {d:DataW H}:∀ {ds:List (DataW H)},d∈ds→∀ n∈d.weights P e,n∈DataW.weightsAll P e ds
 | [],h,_,_=>absurd h (by simp)
 | a::r,h,n,hn=>by
  rw [DataW.weightsAll,List.mem_append]
  rcases List.mem_cons.1 h with rfl|h
  ·exact .inl hn
  ·exact .inr (weights_allC h n hn)
theorem choose_allC {α:Type} {P:Nat→α→Prop} {n:Nat} (a:α) (h:∀ i,i<n→∃ x,P i x):∃ f:Nat→α,∀ i,i<n→P i (f i):=by
 classical
 refine ⟨fun i=>if hi:i<n then (h i hi).choose else a,fun i hi=>?_⟩
 simp only [dif_pos hi]
 exact (h i hi).choose_spec
theorem Tryz.cellsSl:Tryz.prog.cellsOf 41=1:=by kernel_rfl
theorem Tryz.cellsI:Tryz.prog.cellsOf 3=1:=by kernel_rfl
theorem Tryz.bytesStr:Tryz.prog.bytesOf 9=16:=by kernel_rfl
section
variable {H:Type} {enc:TypeId×Value→H} {W:World} {b:Nat} {sp:Nat→Bool} {held:Bool}
theorem strs_of {fuel:Nat} {c:Value} {x:DataW H×List MemPlace} (h:DataW.trod enc Tryz.prog W 0 (fun _=>true) true fuel 41 [c]=some x) (hlt:∀ y∈x.2,y.block<W.heap.size) (hw:∀ n∈x.1.weights Tryz.prog 41,n≤reachBytes) :
  ∃ (a:Option Addr) (cap:Nat) (ls:List (List UInt8)),c=.slice a ls.length cap∧SRw W a ls∧(∀ y∈ls,y.length≤140737488355328)∧ls.length≤140737488355328:=by
 obtain ⟨D0,Q0⟩:=x
 rcases Go.Deep.open_slice Tryz.underlying41 h with ⟨hcs,hx⟩|⟨a,len,cap',m,n',D,Pl,hcs,_,hl,hm,hmm,hx,hi⟩
 ·simp at hcs
  exact ⟨none,0,[],hcs,SRw.none _ _,by simp,by simp⟩
 ·simp at hcs
  subst hcs
  simp only [if_true] at hmm
  subst hmm
  rw [Tryz.cellsStr] at hx hi
  simp only [Prod.mk.injEq] at hx
  obtain ⟨rfl,rfl⟩:=hx
  obtain ⟨f,hfe⟩:=choose_allC (P:=fun i (e:ByteArray)=>W.cells? 0 (a.add (i*1)) 1=some [.string e]∧D i=.lit (.string e.data.toList)) (n:=len) ⟨#[]⟩ (fun i hil=>by
   obtain ⟨cs',h1,h2⟩:=hi i (by omega)
   obtain ⟨e,he,hd,_⟩:=DataW.trod_string Tryz.underlying9 h2
   refine ⟨e,by rw [h1,he],?_⟩
   have:=congrArg Prod.fst hd
   exact this)
  have hlen:((List.range len).map fun i=>(f i).data.toList).length=len:=by simp
  refine ⟨some a,m,(List.range len).map fun i=>(f i).data.toList,by rw [hlen],?_,?_,?_⟩
  ·intro k hk
   rw [hlen] at hk
   obtain ⟨g,o,spot⟩:=a
   have hspot:spot=none:=by
    obtain ⟨_,_,hc0⟩:=World.cells?_some (hfe 0 (by omega)).1
    have:=World.cell?_spot (hc0 0 (by decide))
    simpa [Addr.add] using this
   subst hspot
   obtain ⟨_,_,hc⟩:=World.cells?_some (hfe k hk).1
   have h0:=hc 0 (by decide)
   rw [Addr.add_lit,Addr.add_lit] at h0
   refine ⟨g,o,rfl,hlt (.cell g o) (List.mem_append.2 (.inl (MemPlace.mem_row.2 ⟨0,by omega,by simp⟩))),?_⟩
   simp only [List.getElem_map,List.getElem_range]
   rw [Nat.mul_one,Nat.add_zero] at h0
   exact h0
  ·intro y hy
   simp only [List.mem_map,List.mem_range] at hy
   obtain ⟨i,hil,rfl⟩:=hy
   have hin:(f i).size≤reachBytes:=hw _ (by
    rw [DataW.weights,Tryz.underlying41]
    refine List.mem_cons_of_mem _ (List.mem_append.2 (.inl (weights_allC (List.mem_map.2 ⟨i,List.mem_range.2 hil,rfl⟩) _ ?_)))
    rw [(hfe i hil).2]
    simp [DataW.weights])
   rw [list_len]
   unfold reachBytes at hin
   omega
  ·rw [hlen]
   have:=hw ((((List.range len).map D).length+((List.range (m-len)).map fun j=>D (len+j)).length)*Tryz.prog.bytesOf 9) (by rw [DataW.weights,Tryz.underlying41];simp)
   rw [Tryz.bytesStr] at this
   simp only [List.length_map,List.length_range,reachBytes] at this
   omega
end
theorem Tryz.cellsIt:Tryz.prog.cellsOf 39=3:=by kernel_rfl
theorem Tryz.cellsSlIt:Tryz.prog.cellsOf 22=1:=by kernel_rfl
theorem Tryz.cellsSo:Tryz.prog.cellsOf 24=1:=by kernel_rfl
theorem Tryz.bytesIt:Tryz.prog.bytesOf 39=40:=by kernel_rfl
def It.data {H:Type} (e:It):DataW H:=.agg [.lit (.string e.i.data.toList),.lit (.int .i64 e.k),.lit (.string e.b.data.toList)]
section
variable {H:Type} {enc:TypeId×Value→H} {W:World} {b:Nat} {sp:Nat→Bool} {held:Bool}
theorem it_of {fuel:Nat} {cs:List Value} {x:DataW H×List MemPlace} (h:DataW.trod enc Tryz.prog W b sp held fuel 39 cs=some x):∃ e:It,cs=It.cells e∧x.1=e.data∧(Lit.int .i64 e.k).wf=true:=by
 obtain ⟨xs,n,_,hx,hcs,hlen,hf⟩:=DataW.trod_struct Tryz.underlying39 h
 rw [Tryz.cellsIt] at hcs
 have hl:xs.length=3:=hlen
 match cs,hcs,xs,hl with
 | [c0,c1,c2],_,[x0,x1,x2],_ =>
  have h0:DataW.trod enc Tryz.prog W b sp held n 9 (List.take (Tryz.prog.cellsOf 9) (List.drop 0 [c0,c1,c2]))=some x0:=hf 0 _ rfl
  have h1:DataW.trod enc Tryz.prog W b sp held n 3 (List.take (Tryz.prog.cellsOf 3) (List.drop 1 [c0,c1,c2]))=some x1:=hf 1 _ rfl
  have h2:DataW.trod enc Tryz.prog W b sp held n 9 (List.take (Tryz.prog.cellsOf 9) (List.drop 2 [c0,c1,c2]))=some x2:=hf 2 _ rfl
  rw [Tryz.cellsStr] at h0 h2
  rw [Tryz.cellsI] at h1
  obtain ⟨z0,e0,rfl,_⟩:=DataW.trod_string Tryz.underlying9 h0
  obtain ⟨z1,e1,rfl,hw⟩:=DataW.trod_int Tryz.underlying3 h1
  obtain ⟨z2,e2,rfl,_⟩:=DataW.trod_string Tryz.underlying9 h2
  simp at e0 e1 e2
  refine ⟨⟨z0,z1,z2⟩,by simp [It.cells,e0,e1,e2],?_,hw⟩
  rw [hx]
  rfl
theorem it_weights (e:It):e.i.size∈(e.data:DataW H).weights Tryz.prog 39∧e.b.size∈(e.data:DataW H).weights Tryz.prog 39:=by
 simp [It.data,DataW.weights,DataW.weightsEach,Tryz.underlying39]
theorem items_of {fuel:Nat} {c:Value} {x:DataW H×List MemPlace} (h:DataW.trod enc Tryz.prog W 0 (fun _=>true) true fuel 22 [c]=some x) (hlt:∀ y∈x.2,y.block<W.heap.size) (hw:∀ n∈x.1.weights Tryz.prog 22,n≤reachBytes) :
  ∃ (a:Option Addr) (cap:Nat) (ls:List It),c=.slice a ls.length cap∧ls.length≤cap∧(a=none→cap=0)∧ItRw W a ls∧(∀ y∈ls,y.i.size≤140737488355328∧y.b.size≤140737488355328∧(Lit.int .i64 y.k).wf=true)∧ls.length≤140737488355328:=by
 obtain ⟨D0,Q0⟩:=x
 rcases Go.Deep.open_slice Tryz.underlying22 h with ⟨hcs,hx⟩|⟨a,len,cap',m,n',D,Pl,hcs,_,hl,hm,hmm,hx,hi⟩
 ·simp at hcs
  exact ⟨none,0,[],hcs,Nat.le_refl _,fun _=>rfl,ItRw.nil _ _,by simp,by simp⟩
 ·simp at hcs
  subst hcs
  simp only [if_true] at hmm
  subst hmm
  rw [Tryz.cellsIt] at hx hi
  simp only [Prod.mk.injEq] at hx
  obtain ⟨rfl,rfl⟩:=hx
  obtain ⟨f,hfe⟩:=choose_allC (P:=fun i (e:It)=>W.cells? 0 (a.add (i*3)) 3=some (It.cells e)∧D i=e.data∧(Lit.int .i64 e.k).wf=true) (n:=len) It.zero (fun i hil=>by
   obtain ⟨cs',h1,h2⟩:=hi i (by omega)
   obtain ⟨e,rfl,hd,hwf⟩:=it_of h2
   exact ⟨e,h1,hd,hwf⟩)
  have hlen:((List.range len).map f).length=len:=by simp
  refine ⟨some a,m,(List.range len).map f,by rw [hlen],by rw [hlen];exact hl,fun h=>(by cases h),?_,?_,?_⟩
  ·intro k hk
   rw [hlen] at hk
   obtain ⟨_,_,hc⟩:=World.cells?_some (hfe k hk).1
   obtain ⟨g,o,spot⟩:=a
   have hspot:spot=none:=by
    obtain ⟨_,_,hc0⟩:=World.cells?_some (hfe 0 (by omega)).1
    have:=World.cell?_spot (hc0 0 (by decide))
    simpa [Addr.add] using this
   subst hspot
   have hat (j:Nat) (hj:j<3):W.cell? ⟨g,o+k*3+j,none⟩=(It.cells (f k))[j]?:=by
    have:=hc j hj
    rwa [Addr.add_lit,Addr.add_lit] at this
   refine ⟨g,o,rfl,hlt (.cell g o) (List.mem_append.2 (.inl (MemPlace.mem_row.2 ⟨0,by omega,by simp⟩))),?_⟩
   simp only [List.getElem_map,List.getElem_range]
   exact ⟨hat 0 (by decide),hat 1 (by decide),hat 2 (by decide)⟩
  ·intro e he
   simp only [List.mem_map,List.mem_range] at he
   obtain ⟨i,hil,rfl⟩:=he
   have hin:∀ n∈(D i).weights Tryz.prog 39,n≤reachBytes:=fun n hn=>hw n (by
    rw [DataW.weights,Tryz.underlying22]
    exact List.mem_cons_of_mem _ (List.mem_append.2 (.inl (weights_allC (List.mem_map.2 ⟨i,List.mem_range.2 hil,rfl⟩) n hn))))
   rw [(hfe i hil).2.1] at hin
   have h1:=hin _ (it_weights (H:=H) (f i)).1
   have h2:=hin _ (it_weights (H:=H) (f i)).2
   unfold reachBytes at h1 h2
   exact ⟨by omega,by omega,(hfe i hil).2.2⟩
  ·rw [hlen]
   have:=hw ((((List.range len).map D).length+((List.range (m-len)).map fun j=>D (len+j)).length)*Tryz.prog.bytesOf 39) (by rw [DataW.weights,Tryz.underlying22];simp)
   rw [Tryz.bytesIt] at this
   simp only [List.length_map,List.length_range,reachBytes] at this
   omega
end
theorem strs_arg {H:Type} {enc:TypeId×Value→H} {W:World} {base:Nat} {v:Value} {d:DataW H} {q:List MemPlace} (hok:Value.okWide Tryz.prog W .any base 41 v)
  (h:DataW.Trod enc Tryz.prog W 0 (fun _=>true) true 41 v d q) (hlt:∀ x∈q,x.block<W.heap.size) (hw:∀ n∈d.weights Tryz.prog 41,n≤reachBytes) :
  ∃ (a:Option Addr) (cap N:Nat) (l:List (List UInt8)),v=.slice a N cap∧N=l.length∧SRw W a l∧(∀ y∈l,y.length≤140737488355328)∧N≤140737488355328:=by
 obtain ⟨a0,len,cap,rfl⟩:=okWide_slice Tryz.underlying41 hok
 obtain ⟨fuel,hf⟩:=h
 obtain ⟨a,cap',ls,e,r1,r2,r3⟩:=strs_of (c:=.slice a0 len cap) (x:=(d,q)) (by simpa [Value.cells] using hf) hlt hw
 exact ⟨a,cap',ls.length,ls,e,rfl,r1,r2,r3⟩
theorem so_arg {H:Type} {enc:TypeId×Value→H} {W:World} {base:Nat} {v:Value} {d:DataW H} {q:List MemPlace} (hok:Value.okWide Tryz.prog W .any base 24 v)
  (h:DataW.Trod enc Tryz.prog W 0 (fun _=>true) true 24 v d q) (hlt:∀ x∈q,x.block<W.heap.size) (hw:∀ n∈d.weights Tryz.prog 24,n≤reachBytes) :
  ∃ (a:Option Addr) (cap N:Nat) (l:List It),v=.agg #[.slice a N cap]∧N=l.length∧N≤cap∧(a=none→cap=0)∧ItRw W a l∧(∀ y∈l,y.i.size≤140737488355328∧y.b.size≤140737488355328∧(Lit.int .i64 y.k).wf=true)∧N≤140737488355328:=by
 obtain ⟨cs,rfl,hsz⟩:=okWide_struct Tryz.underlying24 hok
 rw [Tryz.cellsSo] at hsz
 obtain ⟨fuel,hf⟩:=h
 obtain ⟨xs,n,_,hx,hcs,hlen,hf⟩:=DataW.trod_struct Tryz.underlying24 hf
 have hl:xs.length=1:=hlen
 obtain ⟨l,hL⟩:∃ l,l=cs.toList:=⟨_,rfl⟩
 have hll:l.length=1:=by rw [hL];simpa using hsz
 have hcl:cs=l.toArray:=by rw [hL]
 have hce:(Value.agg cs).cells.toList=l:=by rw [hL];rfl
 rw [hce] at hf
 clear hce hL hcs
 match l,hll,xs,hl with
 | [c0],_,[x0],_ =>
  have h0:DataW.trod enc Tryz.prog W 0 (fun _=>true) true n 22 (List.take (Tryz.prog.cellsOf 22) (List.drop 0 [c0]))=some x0:=hf 0 _ rfl
  rw [Tryz.cellsSlIt] at h0
  simp only [Prod.mk.injEq] at hx
  obtain ⟨rfl,rfl⟩:=hx
  have hwa:∀ n∈x0.1.weights Tryz.prog 22,n≤reachBytes:=fun n hn=>hw n (by simp [DataW.weights,DataW.weightsEach,Tryz.underlying24,hn])
  obtain ⟨a,cap,ls,e1,r1,r2,r3,r4,r5⟩:=items_of (c:=c0) (by simpa using h0) (fun y hy=>hlt y (by simp [hy])) hwa
  subst e1
  exact ⟨a,cap,ls.length,ls,hcl▸rfl,rfl,r1,r2,r3,r4,r5⟩
end Go.Proofs.YtnoopcenogbjiaaGreatDoor
/-
 A row of rows of strings that is handed in.
-/
set_option maxRecDepth 100000
namespace Go.Proofs.YtnoopcenogbjiaaGreatDoor
open Go.ChangeShapes Go.WideShapes Go.ChangeAt Go.RowKit
open Go.WideMaps Go.WideElems
def RRw (w:World) (p:Option Addr) (L:List (List (List UInt8))):Prop:=∀ k (h:k<L.length),∃ g o q c,p=some ⟨g,o,none⟩∧g<w.heap.size∧w.cell? ⟨g,o+k,none⟩=some (.slice q L[k].length c)∧SRw w q L[k]∧(∀ y∈L[k],y.length≤140737488355328)∧L[k].length≤140737488355328
theorem RRw.below {w w':World} {p:Option Addr} {L:List (List (List UInt8))} (h:RRw w p L) (hb:Below w.heap.size w w'):RRw w' p L:=fun k hk=>by
 obtain ⟨g,o,q,c,h1,h2,h3,h4,h5⟩:=h k hk
 exact ⟨g,o,q,c,h1,Nat.lt_of_lt_of_le h2 hb.size,cell_bel h3 hb,h4.below hb,h5⟩
section
variable {H:Type} {enc:TypeId×Value→H} {W:World}
theorem srows_arg {base:Nat} {v:Value} {d:DataW H} {q:List MemPlace} (hok:Value.okWide Tryz.prog W .any base 50 v)
  (h:DataW.Trod enc Tryz.prog W 0 (fun _=>true) true 50 v d q) (hlt:∀ x∈q,x.block<W.heap.size) (hw:∀ n∈d.weights Tryz.prog 50,n≤reachBytes) :
  ∃ (a:Option Addr) (cap N:Nat) (l:List (List (List UInt8))),v=.slice a N cap∧N=l.length∧RRw W a l:=by
 obtain ⟨a0,len,cap,rfl⟩:=okWide_slice Tryz.underlying50 hok
 obtain ⟨fuel,hf⟩:=h
 rcases Go.Deep.open_slice Tryz.underlying50 hf with ⟨hcs,hx⟩|⟨a,len',cap',m,n',D,Pl,hcs,_,hl,hm,hmm,hx,hi⟩
 ·simp [Value.cells] at hcs
  obtain ⟨rfl,rfl,rfl⟩:=hcs
  exact ⟨none,0,0,[],rfl,rfl,fun k hk=>absurd hk (Nat.not_lt_zero _)⟩
 ·simp [Value.cells] at hcs
  obtain ⟨rfl,rfl,rfl⟩:=hcs
  simp only [if_true] at hmm
  subst hmm
  rw [Tryz.cellsSl] at hx hi
  simp only [Prod.mk.injEq] at hx
  obtain ⟨rfl,rfl⟩:=hx
  obtain ⟨f,hfe⟩:=choose_allC (P:=fun i (e:List (List UInt8))=>∃ q c,W.cells? 0 (a.add (i*1)) 1=some [.slice q e.length c]∧SRw W q e∧(∀ y∈e,y.length≤140737488355328)∧e.length≤140737488355328) (n:=len) [] (fun i hil=>by
   obtain ⟨cs',h1,h2⟩:=hi i (by omega)
   obtain ⟨_,h3,_⟩:=World.cells?_some h1
   obtain ⟨c0,rfl⟩:∃ c0,cs'=[c0]:=by
    match cs',h3 with
    | [c0],_=>exact ⟨c0,rfl⟩
   obtain ⟨a',cap',ls,rfl,r1,r2,r3⟩:=strs_of (x:=(D i,Pl i)) h2 (fun y hy=>hlt y (List.mem_append.2 (.inr (List.mem_flatMap.2 ⟨i,List.mem_range.2 (by omega),hy⟩)))) (fun n hn=>hw n (by
    rw [DataW.weights,Tryz.underlying50]
    exact List.mem_cons_of_mem _ (List.mem_append.2 (.inl (weights_allC (List.mem_map.2 ⟨i,List.mem_range.2 hil,rfl⟩) n hn)))))
   exact ⟨ls,a',cap',h1,r1,r2,r3⟩)
  have hlen:((List.range len).map f).length=len:=by simp
  refine ⟨some a,m,len,(List.range len).map f,rfl,hlen.symm,?_⟩
  intro k hk
  rw [hlen] at hk
  obtain ⟨q,c,h1,h2,h3⟩:=hfe k hk
  obtain ⟨_,_,hc⟩:=World.cells?_some h1
  obtain ⟨g,o,spot⟩:=a
  have hspot:spot=none:=by
   obtain ⟨_,_,h10,-⟩:=hfe 0 (by omega)
   obtain ⟨_,_,hc0⟩:=World.cells?_some h10
   have:=World.cell?_spot (hc0 0 (by decide))
   simpa [Addr.add] using this
  subst hspot
  have h0:=hc 0 (by decide)
  rw [Addr.add_lit,Addr.add_lit] at h0
  refine ⟨g,o,q,c,rfl,hlt (.cell g o) (List.mem_append.2 (.inl (MemPlace.mem_row.2 ⟨0,by omega,by simp⟩))),?_,?_⟩
  ·simp only [List.getElem_map,List.getElem_range]
   rw [Nat.mul_one,Nat.add_zero] at h0
   exact h0
  ·simp only [List.getElem_map,List.getElem_range]
   exact ⟨h2,h3⟩
end
end Go.Proofs.YtnoopcenogbjiaaGreatDoor
/-
 The walks of the searches: the reference's Place and Spot, the program's find.
-/
namespace Go.Proofs.YtnoopcenogbjiaaGreatDoor
open Go Go.RowKit
theorem dec_str {a b:ByteArray}:(a.toList==b.toList)=decide (a=b):=by
 rw [Bool.eq_iff_iff,beq_iff_eq,decide_eq_true_eq]
 exact ⟨toList_inj,fun h=>by rw [h]⟩
theorem getI_at {l:List It} {k:Nat} (h:k<l.length):l.getD k It.zero=l[k]:=by rw [List.getD_eq_getElem?_getD,List.getElem?_eq_getElem h];rfl
theorem getS_at {l:List (List UInt8)} {k:Nat} (h:k<l.length):l.getD k []=l[k]:=by rw [List.getD_eq_getElem?_getD,List.getElem?_eq_getElem h];rfl
theorem cmp_neg:∀ a b:List UInt8,Lib.compareBytes a b<0↔Op.bytesLess a b=true
 | [],[]=>by simp [Lib.compareBytes,Op.bytesLess]
 | [],_::_=>by simp [Lib.compareBytes,Op.bytesLess]
 | _::_,[]=>by simp [Lib.compareBytes,Op.bytesLess]
 | a::x,b::y=>by
  have ih:=cmp_neg x y
  unfold Lib.compareBytes
  simp only [Op.bytesLess,Bool.or_eq_true,Bool.and_eq_true,decide_eq_true_eq,beq_iff_eq]
  by_cases h1:a<b
  ·simp [h1]
  ·by_cases h2:b<a
   ·have hne:a≠b:=fun e=>by rw [e] at h2;exact absurd h2 (UInt8.lt_irrefl _)
    simp [h1,h2,hne]
   ·have he:a=b:=UInt8.le_antisymm (UInt8.not_lt.mp h2) (UInt8.not_lt.mp h1)
    subst he
    simp [ih]
theorem cmp_zero:∀ a b:List UInt8,Lib.compareBytes a b=0↔a=b
 | [],[]=>by simp [Lib.compareBytes]
 | [],_::_=>by simp [Lib.compareBytes]
 | _::_,[]=>by simp [Lib.compareBytes]
 | a::x,b::y=>by
  have ih:=cmp_zero x y
  unfold Lib.compareBytes
  by_cases h1:a<b
  ·have hne:a≠b:=fun e=>by rw [e] at h1;exact absurd h1 (UInt8.lt_irrefl _)
   simp [h1,hne]
  ·by_cases h2:b<a
   ·have hne:a≠b:=fun e=>by rw [e] at h2;exact absurd h2 (UInt8.lt_irrefl _)
    simp [h1,h2,hne]
   ·have he:a=b:=UInt8.le_antisymm (UInt8.not_lt.mp h2) (UInt8.not_lt.mp h1)
    subst he
    simp [ih]
set_option maxHeartbeats 4000000 in
set_option maxRecDepth 4000 in
theorem rplace_any (l:List It) (id:ByteArray) (p:Option Addr) (n c:Nat) (w:World) (hn:n=l.length) (hp:ItRw w p l) (hn2:n≤140737488355328) :
  Calls Tryz.prog 47 #[.slice p n c,.string id] w fun e w'=>e=.returned (.tuple #[.int .i64 (atI l id:Int),.bool (hasI l id)])∧∃ k,w'=w.drewN k:=by
 obtain ⟨f,hf⟩:∃ f:Nat→Bool,f=fun m=>ltB (l.getD m It.zero).i id:=⟨_,rfl⟩
 obtain ⟨A,hA⟩:∃ A,A=atI l id:=⟨_,rfl⟩
 obtain ⟨H,hH⟩:∃ H,H=hasI l id:=⟨_,rfl⟩
 have HA:Hid (A=bsN f 0 n):=by show _=_;rw [hA,hf,hn];rfl
 have HH:Hid (H=(decide (A<n)&&decide ((l.getD A It.zero).i=id))):=by show _=_;rw [hH,hA,hn];rfl
 rw [←hA,←hH]
 have HF:=Lib.hid hf
 have HN:=Lib.hid hn
 clear hA hH hf hn
 go_enter Tryz.func47,Tryz.ntmps47
 go_wp2_with fail
 go_loopw [6,7] (fun lv hv wr=>∃ lo hi:Nat,lo≤hi∧hi≤n∧lv=.int .i64 (lo:Int)∧hv=.int .i64 (hi:Int)∧Hid (A=bsN f lo hi)∧w=wr) (fun lv hv _=>(intOf hv).toNat-(intOf lv).toNat)
 case atStart=>exact ⟨0,n,by omega,by omega,rfl,rfl,HA.out,rfl⟩
 case round =>
  clear HA
  obtain ⟨lo,hi,h1,h2,rfl,rfl,HB,rfl⟩:=hrel
  by_cases hlt:lo<hi
  ·obtain ⟨s,hs⟩:∃ s,s=lo+hi:=⟨_,rfl⟩
   obtain ⟨m,hm⟩:∃ m,m=s / 2:=⟨_,rfl⟩
   have es:(lo:Int)+(hi:Int)=(s:Int):=by omega
   have es2:IntKind.i64.wrap ((lo:Int)+(hi:Int))=(s:Int):=by rw [IntWalk.i64_in _ (by omega)];omega
   have em:(s:Int) / 2=(m:Int):=by omega
   have hml:m<l.length:=by have:=HN.out;omega
   have hmn:m<n:=by omega
   have hmn2:(m:Int)<(n:Int):=by omega
   obtain ⟨g,o,rfl,hg,a0,-,-⟩:=hp m hml
   obtain ⟨y,hy⟩:∃ y,y=l[m].i:=⟨_,rfl⟩
   rw [←hy] at a0
   have hfm:f m=Op.bytesLess y.toList id.toList:=by rw [HF.out,hy];simp only [getI_at hml];rfl
   have hms:(lo+hi) / 2=m:=by rw [hm,hs]
   have b1:lo≤m∧m<hi:=by omega
   cases hb:Op.bytesLess y.toList id.toList with
   | true =>
    have HB2:Hid (A=bsN f (m+1) hi):=by show _=_;rw [HB.out,bsN_up hlt (by rw [hms,hfm,hb]),hms]
    clear HB hfm hms hy hg hml hs hm
    go_wp2_with fail
    go_roundw
    case rel=>exact ⟨m+1,hi,by omega,by omega,by go_num,rfl,HB2.out,by first|trivial|rfl⟩
    case measure=>simp [intOf];omega
   | false =>
    have HB2:Hid (A=bsN f lo m):=by show _=_;rw [HB.out,bsN_dn hlt (by rw [hms,hfm,hb]),hms]
    clear HB hfm hms hy hg hml hs hm
    go_wp2_with fail
    go_roundw
    case rel=>exact ⟨lo,m,by omega,by omega,rfl,rfl,HB2.out,by first|trivial|rfl⟩
    case measure=>simp [intOf];omega
  ·have HQ:Hid (A=lo):=by show _=_;rw [HB.out,bsN_end hlt]
   have HH2:Hid (H=(decide (lo<n)&&decide ((l.getD lo It.zero).i=id))):=by show _=_;rw [HH.out,HQ.out]
   clear HB HH HF
   by_cases hln:lo<n
   ·have hll:lo<l.length:=by rw [←HN.out];exact hln
    obtain ⟨g,o,rfl,hg,a0,-,-⟩:=hp lo hll
    obtain ⟨y,hy⟩:∃ y,y=l[lo].i:=⟨_,rfl⟩
    rw [←hy] at a0
    have HX:Hid (H=(y.toList==id.toList)):=by show _=_;rw [HH2.out,decide_eq_true hln,getI_at hll,←hy,dec_str];rfl
    have gl:decide ((lo:Int)<(n:Int))=true:=decide_eq_true (by omega)
    have gl2:(lo:Int)<(n:Int):=by omega
    clear HH2 hy hg hll
    cases hb:(y.toList==id.toList) with
    | true =>
     rw [hb] at HX
     go_wp2
     go_quiet (fail)
     go_wp2_with fail
     go_ret2
     exact ⟨by rw [HQ.out,HX.out];rfl,_,rfl⟩
    | false =>
     rw [hb] at HX
     go_wp2
     go_quiet (fail)
     go_wp2_with fail
     go_ret2
     exact ⟨by rw [HQ.out,HX.out];rfl,_,rfl⟩
   ·have HX:Hid (H=false):=by show _=_;rw [HH2.out,decide_eq_false hln];rfl
    have gl:decide ((lo:Int)<(n:Int))=false:=decide_eq_false (by omega)
    clear HH2
    go_wp2
    go_quiet (fail)
    go_wp2_with fail
    go_ret2
    exact ⟨by rw [HQ.out,HX.out];rfl,_,rfl⟩
set_option maxHeartbeats 4000000 in
set_option maxRecDepth 4000 in
theorem rspot_any (l:List (List UInt8)) (id:ByteArray) (p:Option Addr) (n c:Nat) (w:World) (hn:n=l.length) (hp:SRw w p l) (hn2:n≤140737488355328) :
  Calls Tryz.prog 69 #[.slice p n c,.string id] w fun e w'=>e=.returned (.int .i64 (spotS l id:Int))∧w=w':=by
 obtain ⟨f,hf⟩:∃ f:Nat→Bool,f=fun m=>ltB (str (l.getD m [])) id:=⟨_,rfl⟩
 obtain ⟨A,hA⟩:∃ A,A=spotS l id:=⟨_,rfl⟩
 have HA:Hid (A=bsN f 0 n):=by show _=_;rw [hA,hf,hn];rfl
 rw [←hA]
 have HF:=Lib.hid hf
 have HN:=Lib.hid hn
 clear hA hf hn
 go_enter Tryz.func69,Tryz.ntmps69
 go_wp2_with fail
 go_loopw [5,6] (fun lv hv wr=>∃ lo hi:Nat,lo≤hi∧hi≤n∧lv=.int .i64 (lo:Int)∧hv=.int .i64 (hi:Int)∧Hid (A=bsN f lo hi)∧w=wr) (fun lv hv _=>(intOf hv).toNat-(intOf lv).toNat)
 case atStart=>exact ⟨0,n,by omega,by omega,rfl,rfl,HA.out,rfl⟩
 case round =>
  clear HA
  obtain ⟨lo,hi,h1,h2,rfl,rfl,HB,rfl⟩:=hrel
  by_cases hlt:lo<hi
  ·obtain ⟨s,hs⟩:∃ s,s=lo+hi:=⟨_,rfl⟩
   obtain ⟨m,hm⟩:∃ m,m=s / 2:=⟨_,rfl⟩
   have es:(lo:Int)+(hi:Int)=(s:Int):=by omega
   have es2:IntKind.i64.wrap ((lo:Int)+(hi:Int))=(s:Int):=by rw [IntWalk.i64_in _ (by omega)];omega
   have em:(s:Int) / 2=(m:Int):=by omega
   have hml:m<l.length:=by have:=HN.out;omega
   have hmn:m<n:=by omega
   have hmn2:(m:Int)<(n:Int):=by omega
   obtain ⟨g,o,rfl,hg,a0⟩:=hp m hml
   obtain ⟨y,hy⟩:∃ y,y=str l[m]:=⟨_,rfl⟩
   rw [←hy] at a0
   have hfm:f m=Op.bytesLess y.toList id.toList:=by rw [HF.out,hy];simp only [getS_at hml];rfl
   have hms:(lo+hi) / 2=m:=by rw [hm,hs]
   have b1:lo≤m∧m<hi:=by omega
   cases hb:Op.bytesLess y.toList id.toList with
   | true =>
    have HB2:Hid (A=bsN f (m+1) hi):=by show _=_;rw [HB.out,bsN_up hlt (by rw [hms,hfm,hb]),hms]
    clear HB hfm hms hy hg hml hs hm
    go_wp2_with fail
    go_roundw
    case rel=>exact ⟨m+1,hi,by omega,by omega,by go_num,rfl,HB2.out,by first|trivial|rfl⟩
    case measure=>simp [intOf];omega
   | false =>
    have HB2:Hid (A=bsN f lo m):=by show _=_;rw [HB.out,bsN_dn hlt (by rw [hms,hfm,hb]),hms]
    clear HB hfm hms hy hg hml hs hm
    go_wp2_with fail
    go_roundw
    case rel=>exact ⟨lo,m,by omega,by omega,rfl,rfl,HB2.out,by first|trivial|rfl⟩
    case measure=>simp [intOf];omega
  ·have HQ:Hid (A=lo):=by show _=_;rw [HB.out,bsN_end hlt]
   clear HB
   go_wp2_with fail
   go_ret
   exact ⟨by rw [HQ.out];rfl,by first|trivial|rfl⟩
set_option maxHeartbeats 1000000 in
theorem findCmp_any (x:It) (id:ByteArray) (w:World) :
  Calls Tryz.prog 77 #[.agg #[.string x.i,.int .i64 x.k,.string x.b],.string id] w fun e w'=>e=.returned (.int .i64 (Lib.compareBytes x.i.data.toList id.data.toList))∧Below w.heap.size w w':=by
 obtain ⟨i,k,b⟩:=x
 simp only
 obtain ⟨R,hR⟩:∃ R,R=Lib.compareBytes i.data.toList id.data.toList:=⟨_,rfl⟩
 have hc:∀ w',Calls Tryz.prog 57 #[.string i,.string id] w' fun e w''=>e=.returned (.int .i64 R)∧w'=w'':=fun w'=>(Tryz.strings_Compare i id w').mono fun e w'' ⟨h1,h2⟩=>⟨by rw [h1,hR],h2.symm⟩
 rw [←hR]
 have hb:Below w.heap.size w (w.alloc (.cells #[.string i,.int .i64 k,.string b] 39)):=below_new (Below.refl _ _) _
 have HC:=Lib.hid hc
 clear hR hc
 go_enter Tryz.func77,Tryz.ntmps77
 go_wp2_with (go_at_call 57;((with_reducible refine (HC.out _).mono ?_);rintro e w2 ⟨rfl,rfl⟩))
 go_ret
 exact ⟨rfl,hb⟩
theorem Tryz.eg_find:∀ args w,(callFunc 77 args).run Tryz.prog w=.ok (.enter 77 args) w:=enters_of Tryz.func77 (by kernel_rfl) rfl
set_option maxHeartbeats 4000000 in
set_option maxRecDepth 4000 in
theorem bsearch_any (l:List It) (id:ByteArray) (p:Option Addr) (n c:Nat) (w:World) (hn:n=l.length) (hp:ItRw w p l) (hn2:n≤140737488355328) :
  Calls Tryz.prog 76 #[.slice p n c,.string id,.func (.func 77) #[] #[]] w fun e w'=>e=.returned (.tuple #[.int .i64 (atI l id:Int),.bool (hasI l id)])∧Below w.heap.size w w':=by
 obtain ⟨f,hf⟩:∃ f:Nat→Bool,f=fun m=>ltB (l.getD m It.zero).i id:=⟨_,rfl⟩
 obtain ⟨A,hA⟩:∃ A,A=atI l id:=⟨_,rfl⟩
 obtain ⟨H,hH⟩:∃ H,H=hasI l id:=⟨_,rfl⟩
 have HA:Hid (A=bsN f 0 n):=by show _=_;rw [hA,hf,hn];rfl
 have HH:Hid (H=(decide (A<n)&&decide ((l.getD A It.zero).i=id))):=by show _=_;rw [hH,hA,hn];rfl
 rw [←hA,←hH]
 have HF:=Lib.hid hf
 have HN:=Lib.hid hn
 have eg:=Tryz.eg_find
 clear hA hH hf hn
 go_enter Tryz.func76,Tryz.ntmps76
 go_wp2_with fail
 go_loopw [9,10] (fun lv hv wr=>∃ lo hi:Nat,lo≤hi∧hi≤n∧lv=.int .i64 (lo:Int)∧hv=.int .i64 (hi:Int)∧Hid (A=bsN f lo hi)∧Hid (Below w.heap.size w wr)) (fun lv hv _=>(intOf hv).toNat-(intOf lv).toNat)
 case atStart=>exact ⟨0,n,by omega,by omega,rfl,rfl,HA.out,Below.refl _ _⟩
 case round =>
  clear HA
  obtain ⟨lo,hi,h1,h2,rfl,rfl,HB,HW⟩:=hrel
  by_cases hlt:lo<hi
  ·obtain ⟨s,hs⟩:∃ s,s=lo+hi:=⟨_,rfl⟩
   obtain ⟨m,hm⟩:∃ m,m=s / 2:=⟨_,rfl⟩
   have es:(lo:Int)+(hi:Int)=(s:Int):=by omega
   have es2:IntKind.i64.wrap ((lo:Int)+(hi:Int))=(s:Int):=by rw [IntWalk.i64_in _ (by omega)];omega
   have eu:IntKind.u64.wrap (s:Int)=(s:Int):=IntWalk.u64_in _ (by omega)
   have em:(s:Int) / 2=(m:Int):=by omega
   have em2:(s:Int) >>> 1=(m:Int):=by rw [Int.shiftRight_eq_div_pow];omega
   have eu2:IntKind.u64.wrap (m:Int)=(m:Int):=IntWalk.u64_in _ (by omega)
   have ei2:IntKind.i64.wrap (m:Int)=(m:Int):=IntWalk.i64_in _ (by omega)
   have hml:m<l.length:=by have:=HN.out;omega
   have hmn:m<n:=by omega
   have hmn2:(m:Int)<(n:Int):=by omega
   obtain ⟨g,o,rfl,hg,a0,a1,a2⟩:=hp.below HW.out m hml
   obtain ⟨y,hy⟩:∃ y,y=l[m]:=⟨_,rfl⟩
   rw [←hy] at a0 a1 a2
   have hc:=findCmp_any y id wr
   obtain ⟨z,hz⟩:∃ z,z=Lib.compareBytes y.i.data.toList id.data.toList:=⟨_,rfl⟩
   have hfm:f m=decide (z<0):=by
    rw [HF.out,hz,Bool.eq_iff_iff,decide_eq_true_eq,cmp_neg]
    simp only [getI_at hml,←hy,ltB,ByteArray.toList_eq]
   rw [←hz] at hc
   have HC:=Lib.hid hc
   obtain ⟨yi,yk,yb⟩:=y
   simp only at a0 a1 a2 HC
   have hms:(lo+hi) / 2=m:=by rw [hm,hs]
   have b1:lo≤m∧m<hi:=by omega
   by_cases hb:z<0
   ·have HB2:Hid (A=bsN f (m+1) hi):=by show _=_;rw [HB.out,bsN_up hlt (by rw [hms,hfm,decide_eq_true hb]),hms]
    clear HB hfm hms hy hg hml hs hm hz hc
    go_wp2_with (go_at_fn 77;(with_reducible refine HC.out.mono ?_);rintro x w3 ⟨rfl,hb3⟩;have HB3:=Lib.hid (HW.out.trans (hb3.mono HW.out.size)))
    go_roundw
    case rel=>exact ⟨m+1,hi,by omega,by omega,by go_num,rfl,HB2.out,HB3.out⟩
    case measure=>simp [intOf];omega
   ·have HB2:Hid (A=bsN f lo m):=by show _=_;rw [HB.out,bsN_dn hlt (by rw [hms,hfm,decide_eq_false hb]),hms]
    clear HB hfm hms hy hg hml hs hm hz hc
    go_wp2_with (go_at_fn 77;(with_reducible refine HC.out.mono ?_);rintro x w3 ⟨rfl,hb3⟩;have HB3:=Lib.hid (HW.out.trans (hb3.mono HW.out.size)))
    go_roundw
    case rel=>exact ⟨lo,m,by omega,by omega,rfl,rfl,HB2.out,HB3.out⟩
    case measure=>simp [intOf];omega
  ·have HQ:Hid (A=lo):=by show _=_;rw [HB.out,bsN_end hlt]
   have HH2:Hid (H=(decide (lo<n)&&decide ((l.getD lo It.zero).i=id))):=by show _=_;rw [HH.out,HQ.out]
   clear HB HH HF
   by_cases hln:lo<n
   ·have hll:lo<l.length:=by rw [←HN.out];exact hln
    obtain ⟨g,o,rfl,hg,a0,a1,a2⟩:=hp.below HW.out lo hll
    obtain ⟨y,hy⟩:∃ y,y=l[lo]:=⟨_,rfl⟩
    rw [←hy] at a0 a1 a2
    have hc:=findCmp_any y id wr
    obtain ⟨z,hz⟩:∃ z,z=Lib.compareBytes y.i.data.toList id.data.toList:=⟨_,rfl⟩
    have HX:Hid (H=decide (z=0)):=by
     show _=_
     rw [HH2.out,decide_eq_true hln,getI_at hll,←hy,Bool.true_and,Bool.eq_iff_iff,decide_eq_true_eq,decide_eq_true_eq,hz,cmp_zero]
     exact ⟨fun h=>by rw [h],ba_ext⟩
    rw [←hz] at hc
    have HC:=Lib.hid hc
    obtain ⟨yi,yk,yb⟩:=y
    simp only at a0 a1 a2 HC
    have gl2:(lo:Int)<(n:Int):=by omega
    clear HH2 hy hg hll hz hc
    by_cases hb:z=0
    ·have HX2:Hid (H=true):=by show _=_;rw [HX.out,decide_eq_true hb]
     have gz:(z==0)=true:=by rw [beq_iff_eq];exact hb
     clear hb HX
     go_wp2_with (go_at_fn 77;(with_reducible refine HC.out.mono ?_);rintro x w3 ⟨rfl,hb3⟩;have HB3:=Lib.hid (HW.out.trans (hb3.mono HW.out.size)))
     go_ret2
     exact ⟨by rw [HQ.out,HX2.out];rfl,HB3.out⟩
    ·have HX2:Hid (H=false):=by show _=_;rw [HX.out,decide_eq_false hb]
     have gz:(z==0)=false:=by rw [beq_eq_false_iff_ne];exact hb
     clear hb HX
     go_wp2_with (go_at_fn 77;(with_reducible refine HC.out.mono ?_);rintro x w3 ⟨rfl,hb3⟩;have HB3:=Lib.hid (HW.out.trans (hb3.mono HW.out.size)))
     go_ret2
     exact ⟨by rw [HQ.out,HX2.out];rfl,HB3.out⟩
   ·have HX:Hid (H=false):=by show _=_;rw [HH2.out,decide_eq_false hln];rfl
    have gl:¬ (lo:Int)<(n:Int):=by omega
    clear HH2
    go_wp2_with fail
    go_ret2
    exact ⟨by rw [HQ.out,HX.out];rfl,HW.out⟩
set_option maxHeartbeats 1000000 in
set_option maxRecDepth 4000 in
theorem find_any (l:List It) (id:ByteArray) (p:Option Addr) (n c:Nat) (w:World) (hn:n=l.length) (hp:ItRw w p l) (hn2:n≤140737488355328) :
  Calls Tryz.prog 43 #[.agg #[.slice p n c],.string id] w fun e w'=>e=.returned (.tuple #[.int .i64 (atI l id:Int),.bool (hasI l id)])∧Below w.heap.size w w':=by
 have hbx:Below w.heap.size w (w.alloc (.cells #[.slice p n c] 24)):=below_new (Below.refl _ _) _
 have hc:=bsearch_any l id p n c _ hn (hp.below hbx) hn2
 obtain ⟨A,hA⟩:∃ A,A=atI l id:=⟨_,rfl⟩
 obtain ⟨H,hH⟩:∃ H,H=hasI l id:=⟨_,rfl⟩
 rw [←hA,←hH] at hc ⊢
 have HC:=Lib.hid hc
 have HBX:=Lib.hid hbx
 clear hbx hp hc hA hH hn
 go_enter Tryz.func43,Tryz.ntmps43
 go_wp2_with (go_at_call 76;((with_reducible refine (HC.out).mono ?_);rintro e w2 ⟨rfl,hb2⟩))
 go_ret2
 exact ⟨rfl,HBX.out.trans (hb2.mono HBX.out.size)⟩
theorem ob_row {w:World} {E:Nat} {c0 c1 v0 v1:Value} (h0:w.heap[E]?=some (.cells #[c0,c1] 29 (0,0))) :
  ((w.setCell ⟨E,0,none⟩ v0).setCell ⟨E,1,none⟩ v1).heap[E]?=some (.cells #[v0,v1] 29 (0,0)):=by
 have h1:(w.setCell ⟨E,0,none⟩ v0).heap[E]?=some (.cells #[v0,c1] 29 (0,0)):=by
  have h:=heap_setCell_same w E 0 _ 29 v0 h0
  simp only [List.setIfInBounds_toArray,List.set_cons_zero,List.set_cons_succ] at h
  exact h
 have h:=heap_setCell_same (w.setCell ⟨E,0,none⟩ v0) E 1 _ 29 v1 h1
 simp only [List.setIfInBounds_toArray,List.set_cons_zero,List.set_cons_succ] at h
 exact h
theorem ob_at {w:World} {E:Nat} {v0 v1:Value} {t:TypeId} (h:w.heap[E]?=some (.cells #[v0,v1] t (0,0))):w.cell? ⟨E,0,none⟩=some v0∧w.cell? ⟨E,1,none⟩=some v1∧w.frozen? ⟨E,0,none⟩=false∧w.frozen? ⟨E,1,none⟩=false :=
 ⟨cell_of_row _ _ 0 _ _ _ h,cell_of_row _ _ 1 _ _ _ h,frozen_of_row _ _ 0 _ _ h,frozen_of_row _ _ 1 _ _ h⟩
theorem set2_below {B E:Nat} {w0 w:World} {v0 v1:Value} (h:Below B w0 w) (hE:B≤E):Below B w0 ((w.setCell ⟨E,0,none⟩ v0).setCell ⟨E,1,none⟩ v1) :=
 ((h.setCell (p:=⟨E,0,none⟩) hE _).setCell (p:=⟨E,1,none⟩) hE _)
set_option maxHeartbeats 1000000 in
set_option maxRecDepth 4000 in
theorem content_any (id:ByteArray) (k:Int) (b:ByteArray) (w:World) :
  Calls Tryz.prog 39 #[.agg #[.string id,.int .i64 k,.string b]] w fun e w'=>e=.returned (.agg #[.int .i64 k,.string b])∧Below w.heap.size w w':=by
 obtain ⟨w1,hw1⟩:∃ w1,w1=w.alloc (.cells #[.string id,.int .i64 k,.string b] 39):=⟨_,rfl⟩
 obtain ⟨w2,hw2⟩:∃ w2,w2=w1.alloc (.cells #[.int .i64 0,.string ⟨#[]⟩] 29):=⟨_,rfl⟩
 obtain ⟨I,hI⟩:∃ I,I=w.heap.size:=⟨_,rfl⟩
 obtain ⟨O,hO⟩:∃ O,O=w.heap.size+1:=⟨_,rfl⟩
 have h1:w1.heap[I]?=some (.cells #[.string id,.int .i64 k,.string b] 39 (0,0)):=by rw [hw1,hI];exact heap_alloc_new _ _
 have h2:w2.heap[O]?=some (.cells #[.int .i64 0,.string ⟨#[]⟩] 29 (0,0)):=by rw [hw2,hO,show w.heap.size+1=w1.heap.size by rw [hw1];simp];exact heap_alloc_new _ _
 have h3:w2.heap[I]?=some (.cells #[.string id,.int .i64 k,.string b] 39 (0,0)):=by rw [hw2];exact row_alloc h1 (row_lt h1)
 have hb:Below w.heap.size w w2:=by rw [hw2,hw1];exact below_new (below_new (Below.refl _ _) _) _
 obtain ⟨i0,i1,i2⟩:=it_at h3
 obtain ⟨o0,o1,f0,f1⟩:=ob_at h2
 obtain ⟨d0,d1,-,-⟩:=ob_at (ob_row (v0:=.int .i64 k) (v1:=.string b) h2)
 have HB:=Lib.hid (set2_below (v0:=.int .i64 k) (v1:=.string b) hb (show w.heap.size≤O by omega))
 have HW1:=Lib.hid hw1
 have HW2:=Lib.hid hw2
 have HI:=Lib.hid hI
 have HO:=Lib.hid hO
 clear hw1 hw2 hI hO h1 h2 h3 hb
 go_enter Tryz.func39,Tryz.ntmps39
 go_upto_region 1 with fail
 rw [←HW1.out,←HW2.out,←HO.out,←HI.out]
 go_wp2_with fail
 refine bodyPost_ret (v:=.agg #[.int .i64 k,.string b]) (by simp [results,Tryz.results39,go_sem,d0,d1]) rfl ⟨rfl,HB.out⟩
set_option maxHeartbeats 1000000 in
set_option maxRecDepth 4000 in
theorem has_any (l:List It) (id:ByteArray) (p:Option Addr) (n c:Nat) (w:World) (hn:n=l.length) (hp:ItRw w p l) (hn2:n≤140737488355328) :
  Calls Tryz.prog 22 #[.agg #[.slice p n c],.string id] w fun e w'=>e=.returned (.bool (hasI l id))∧Below w.heap.size w w':=by
 have hbx:Below w.heap.size w (w.alloc (.cells #[.slice p n c] 24)):=below_new (Below.refl _ _) _
 have hc:=find_any l id p n c _ hn (hp.below hbx) hn2
 obtain ⟨A,hA⟩:∃ A,A=atI l id:=⟨_,rfl⟩
 obtain ⟨H,hH⟩:∃ H,H=hasI l id:=⟨_,rfl⟩
 rw [←hA,←hH] at hc
 rw [←hH]
 have HC:=Lib.hid hc
 have HBX:=Lib.hid hbx
 clear hbx hp hc hA hH hn
 go_enter Tryz.func22,Tryz.ntmps22
 go_wp2_with (go_at_call 43;((with_reducible refine (HC.out).mono ?_);rintro e w2 ⟨rfl,hb2⟩))
 go_ret
 exact ⟨rfl,HBX.out.trans (hb2.mono HBX.out.size)⟩
end Go.Proofs.YtnoopcenogbjiaaGreatDoor
