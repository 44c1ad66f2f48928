/-
 What every proof of a law's row uses: the row's last step where of the new world only 'Below' is known.
-/
import Derived.Test.YtnoopcenogbjiaaGreatDoorRows
import Derived.WalkKit
import Derived.ProofKit
import Derived.OpenShut
import Derived.Below
import Derived.ChangeSame
import Derived.SizedLaws
import Derived.Carry
import Derived.Deep.DeepHandedRow
import Derived.Lib.LaidTab
import Derived.Test.YtnoopcenogbjiaaGreatDoorCards
import Derived.Test.YtnoopcenogbjiaaGreatDoorTie
import Derived.WalkSpells
import Derived.WalkLawsBesides
import Derived.Lib.Strings
import Derived.Stop.LaidErr
import Derived.Lib.SmallJoins
import Derived.Lib.ItoaNum
import Derived.Lib.Atoi
import Derived.Lib.AtoiErr
import Derived.Lib.IndexMore
import Derived.Lib.Hide
import Derived.Deep.AppendLies
import Derived.Deep.RegionLaw
import Derived.IntWalk
import Derived.Deep.DeepCutAuto
import Derived.BigQuiet
import Derived.Deep.QuietTactic
set_option linter.unusedVariables false
set_option linter.unusedSimpArgs false
namespace Go.Proofs.YtnoopcenogbjiaaGreatDoor
open Go.ChangeShapes Go.WideShapes Go.ChangeAt Go.RowKit
section
variable {H:Type} {enc:TypeId×Value→H} {P:Program}
theorem post_of_below {f:Func} {s:ChangeSpec} {apart fresh handsOn again:Bool} {W W':World} {args:Array Value} {v:Value} {ds gs:List (DataW H)} {before pa pv:List MemPlace}
  (hW:DataW.Whole enc P f.params.toList s.vars apart W args.toList ds gs before)
  (hres:∀ (b:Nat) (sp:Nat→Bool) (hd:Bool),DataW.TrodAll enc P W' b sp hd f.resultTypes.toList (v.resultList f.resultTypes.size) (s.fn H (ds++gs)).results [])
  (hargs:∀ sp:Nat→Bool,(∀ p∈before,sp p.block=true)→DataW.TrodAll enc P W' 0 sp true f.params.toList args.toList (s.fn H (ds++gs)).args pa)
  (hvars:∀ sp:Nat→Bool,(∀ p∈before,sp p.block=true)→DataW.TrodVars enc P W' sp s.vars (s.fn H (ds++gs)).vars pv)
  (hps:before=pa++pv) (hb:Below W.heap.size W W')
  (hok:∀ (j:Nat) (t:TypeId) (r:Value),f.resultTypes[j]?=some t→(v.resultList f.resultTypes.size)[j]?=some r→Value.okWide P W' .any 0 t r) :
  s.post enc P f apart fresh handsOn again W args v W':=by
 have hlt:∀ p∈before,p.block<W.heap.size:=fun p hp=>hW.lt p hp
 have hold:∀ p∈before,(fun b=>decide (b<W.heap.size)) p.block=true:=fun p hp=>by simpa using hlt p hp
 refine ⟨ds,gs,before,[],pa,pv,hW,hres _ _ _,hargs _ hold,hvars _ hold,World.keptBut_mono (fun p hp=>⟨hp,?_⟩) (hb.frame (·∈before)),fun _=>?_⟩
 ·rw [hps,List.mem_append] at hp
  exact Or.inr hp
 ·obtain ⟨_,_,_,_,_,hz,hn⟩:=hW
  refine ⟨hok,_,_,([]++pa)++pv,⟨[]++pa,pv,trodAll_append (hargs _ (fun _ _=>rfl)) (hres _ _ _),hvars _ (fun _ _=>rfl),rfl,?_,?_⟩,?_⟩
  ·intro b off hp
   have hin:MemPlace.cell b off∈before:=by rw [hps];simpa using hp
   rw [hb.frozen (hlt _ hin)]
   exact hz b off hin
  ·intro ha
   have:=hn ha
   rw [hps] at this
   simpa using this
  ·intro p hp _
   rw [hps]
   simpa using hp
end
section
variable {H:Type} {enc:TypeId×Value→H} {P:Program}
theorem all_stays (hl:laidOutB P=true) {W W':World} (hb:Below W.heap.size W W') (sp:Nat→Bool):∀ (ts:List TypeId),(∀ t∈ts,P.readableRec t=true∧t<P.types.size)→∀ (vs:List Value) (ds:List (DataW H)) (ps:List MemPlace),
  DataW.TrodAll enc P W 0 (fun _=>true) true ts vs ds ps→(∀ x∈ps,x.block<W.heap.size)→(∀ x∈ps,sp x.block=true)→DataW.TrodAll enc P W' 0 sp true ts vs ds ps
 | [],_,vs,ds,ps,h,_,_=>by
  obtain ⟨rfl,rfl,rfl⟩:=trodAll_nil h
  exact trodAll_mk0
 | t::ts,ht,vs,ds,ps,h,hlt,hsp=>by
  obtain ⟨v,vs',d,ds',p,q,rfl,rfl,rfl,h0,r⟩:=trodAll_cons h
  have h1:=ht t (by simp)
  exact trodAll_cons_mk (WideElems.Trod_stays hl h1.1 h1.2 h0 (fun x hx=>hb.same (hlt x (by simp [hx]))) (fun x hx=>hsp x (by simp [hx])))
   (all_stays hl hb sp ts (fun t' ht'=>ht t' (by simp [ht'])) vs' ds' q r (fun x hx=>hlt x (by simp [hx])) (fun x hx=>hsp x (by simp [hx])))
theorem law_post {f:Func} {s:ChangeSpec} {fresh handsOn again:Bool} {W W':World} {args:Array Value} {ds gs:List (DataW H)} {before:List MemPlace} {tb:TypeId}
  (hl:laidOutB P=true) (hts:f.params.toList.all (fun t=>P.readableRec t&&decide (t<P.types.size))=true) (hvars:s.vars=[]) (hres:f.resultTypes=#[tb]) (htb:P.underlying tb=some .bool)
  (hfr:(s.fn H (ds++gs)).results=[.lit (.bool true)]) (hfa:(s.fn H (ds++gs)).args=ds) (hfv:(s.fn H (ds++gs)).vars=[])
  (hW:DataW.Whole enc P f.params.toList s.vars false W args.toList ds gs before) (hb:Below W.heap.size W W') :
  s.post enc P f false fresh handsOn again W args (.bool true) W':=by
 have hW':=hW
 obtain ⟨p,q,hA,hV,rfl,hfz,hnd⟩:=hW
 rw [hvars] at hV
 obtain ⟨rfl,rfl⟩:=trodVars_none hV
 have hts':∀ t∈f.params.toList,P.readableRec t=true∧t<P.types.size:=fun t ht=>by
  have:=List.all_eq_true.1 hts t ht
  simpa using this
 have hlt:∀ x∈p,x.block<W.heap.size:=fun x hx=>hW'.lt x (by simpa using hx)
 refine post_of_below (pa:=p) (pv:=[]) hW' (fun b sp hd=>?_) (fun sp hsp=>?_) (fun sp _=>?_) rfl hb ?_
 ·rw [hfr,hres]
  exact trodAll_cons_mk (shut_bool htb _) trodAll_mk0
 ·rw [hfa]
  exact all_stays hl hb sp _ hts' _ _ _ hA hlt (fun x hx=>hsp x (by simpa using hx))
 ·rw [hvars,hfv]
  rfl
 ·exact ok_one hres rfl (okWide_bool_mk htb _)
end
theorem Tryz.laidOut:laidOutB Tryz.prog=true:=by kernel_rfl
theorem Tryz.own:ownKnob Tryz.prog.godebug=none:=by kernel_rfl
end Go.Proofs.YtnoopcenogbjiaaGreatDoor
/-
 What every proof of a card of this seat uses: the frame of a law's row, the tables out of the rows' lists.
-/
/-
 Small facts that the walks of this seat use: what a slice of bytes of the call's own becomes as a string.
-/
namespace Go.Proofs.YtnoopcenogbjiaaGreatDoor
open Go.RowKit
def bcells (l:List UInt8):List Value:=l.map fun b=>Value.int .u8 (b.toNat:Int)
theorem bcells_append (l m:List UInt8):bcells (l++m)=bcells l++bcells m:=by simp [bcells]
theorem bcells_one (l:List UInt8):∀ u∈bcells l,u.oneCell'=true:=by
 intro u hu;simp only [bcells,List.mem_map] at hu;obtain ⟨b,_,rfl⟩:=hu;rfl
def str (l:List UInt8):ByteArray:=⟨l.toArray⟩
theorem str_size (l:List UInt8):(str l).size=l.length:=by simp [str,ByteArray.size]
theorem conv_owned {P:Program} {w:World} {base n:Nat} {v:Value} {l:List UInt8} (src dst e:TypeId) (hs:P.underlying src=some (.slice e)) (he:P.underlying e=some (.int .u8)) (hd:P.underlying dst=some .string)
  (hown:w.ownsRow base e 1 v n (bcells l)):(convert src dst v).run P w=.ok (.string (str l)) w:=by
 have hl:l.length=n:=by simpa [bcells] using hown.1
 rcases hown.2 with ⟨rfl,rfl⟩|⟨g,cap,cur,rfl,_,hg,_,_,_,_⟩
 ·obtain rfl:l=[]:=List.eq_nil_of_length_eq_zero hl
  have:=run_convert_bytes_back (P:=P) w src dst e ⟨0,0,none⟩ 0 [] hs he hd (by intro j hj;simp at hj)
  rw [run_convert_bytes_string w src dst e _ _ _ hs he hd] at this ⊢
  unfold Conv.bytesToString at this ⊢
  simpa [str,loadCells,loadCellsFrom] using this
 ·subst hl
  refine run_convert_bytes_back (P:=P) w src dst e ⟨g,0,none⟩ cap l hs he hd fun j hj=>?_
  have hne:=hown.cells (g:=g) rfl j (.int .u8 (l[j].toNat:Int)) (by simp [bcells,List.getElem?_map,List.getElem?_eq_getElem hj])
  exact hne
theorem app_step {B base:Nat} {w wr w2:World} {e size n:Nat} {v:Value} {xs:List Value} {o:Obj} (hbel:Below B w wr) (hown:wr.ownsRow base e size v n xs) (hg:(wr.alloc o).grownBy w2 v.ownBlock)
  (hB:B≤base) (hs:B≤wr.heap.size):Below B w w2 :=
 (hbel.alloc hs o).grown hg (by simp;omega) (fun k hk=>by have:=(hown.lt k hk).1;omega)
theorem app_step0 {B base:Nat} {w wr w2:World} {e size n:Nat} {v:Value} {xs:List Value} (hbel:Below B w wr) (hown:wr.ownsRow base e size v n xs) (hg:wr.grownBy w2 v.ownBlock)
  (hB:B≤base) (hs:B≤wr.heap.size):Below B w w2 :=
 hbel.grown hg hs (fun k hk=>by have:=(hown.lt k hk).1;omega)
theorem new_cell (wr:World) (x:Value) (t:TypeId) (j:Nat) (u:Value) (hj:[x][j]?=some u):(wr.alloc (.cells #[x] t)).cell? ((⟨wr.heap.size,0,none⟩:Addr).add j)=some u:=by
 match j,hj with
 | 0,hj=>simp at hj;subst hj;simp [Addr.add]
theorem conv_new {P:Program} (w:World) (l:List UInt8) (src dst e t:TypeId) (c:Nat) (hs:P.underlying src=some (.slice e)) (he:P.underlying e=some (.int .u8)) (hd:P.underlying dst=some .string) :
  (convert src dst (.slice (some ⟨w.heap.size,0,none⟩) l.length c)).run P (w.alloc (.cells (bcells l).toArray t))=.ok (.string (str l)) (w.alloc (.cells (bcells l).toArray t)) :=
 run_convert_bytes_back (P:=P) _ src dst e ⟨w.heap.size,0,none⟩ c l hs he hd fun j hj=>by
  rw [Addr.add_lit,Nat.zero_add,World.cell?_alloc_mark]
  simp [bcells,List.getElem?_map,List.getElem?_eq_getElem hj]
theorem conv_one {P:Program} (w:World) (x:Int) (n:Nat) (hx:x=(n:Int)) (hn:n<256) (src dst e t:TypeId) (c:Nat) (hs:P.underlying src=some (.slice e)) (he:P.underlying e=some (.int .u8)) (hd:P.underlying dst=some .string) :
  (convert src dst (.slice (some ⟨w.heap.size,0,none⟩) 1 c)).run P (w.alloc (.cells #[.int .u8 x] t))=.ok (.string (str [UInt8.ofNat n])) (w.alloc (.cells #[.int .u8 x] t)):=by
 have h:=conv_new (P:=P) w [UInt8.ofNat n] src dst e t c hs he hd
 have e1:(bcells [UInt8.ofNat n]).toArray=#[Value.int .u8 x]:=by
  have:(UInt8.ofNat n).toNat=n:=by simp;omega
  simp [bcells,this,hx]
 rw [e1] at h
 exact h
theorem ret_str {a b:ByteArray} (h:a=b):Ending.returned (.string a)=.returned (.string b):=by rw [h]
theorem ret_int {k:IntKind} {a b:Int} (h:a=b):Ending.returned (.int k a)=.returned (.int k b):=by rw [h]
theorem ret_bool {a b:Bool} (h:a=b):Ending.returned (.bool a)=.returned (.bool b):=by rw [h]
theorem conv_cells {P:Program} (w:World) (C:Array Value) (m:Nat) (l:List UInt8) (hC:C=(bcells l).toArray) (hm:m=l.length) (src dst e t:TypeId) (c:Nat) (hs:P.underlying src=some (.slice e)) (he:P.underlying e=some (.int .u8)) (hd:P.underlying dst=some .string) :
  (convert src dst (.slice (some ⟨w.heap.size,0,none⟩) m c)).run P (w.alloc (.cells C t))=.ok (.string (str l)) (w.alloc (.cells C t)):=by
 subst hC hm
 exact conv_new w l src dst e t c hs he hd
theorem u8nat {n:Nat} (h:n<256):((UInt8.ofNat n).toNat:Int)=(n:Int):=by simp;omega
theorem owns_eq {w:World} {base e size n:Nat} {v:Value} {xs ys:List Value} (h:w.ownsRow base e size v n xs) (hx:xs=ys):w.ownsRow base e size v n ys:=hx▸h
theorem list_len (s:ByteArray):s.data.toList.length=s.size:=by simp
theorem take_snoc (s:ByteArray) (k:Nat) (h:k<s.size):s.data.toList.take (k+1)=s.data.toList.take k++[s[k]]:=by
 rw [List.take_succ_eq_append_getElem (by simpa using h)];rfl
theorem take_all (s:ByteArray):s.data.toList.take s.size=s.data.toList:=List.take_of_length_le (by simp)
theorem ba_ext {a b:ByteArray} (h:a.data.toList=b.data.toList):a=b:=ByteArray.ext (Array.toList_inj.1 h)
theorem ba_ne {a b:ByteArray} (h:a≠b):(a.toList==b.toList)=false:=by
 rw [ByteArray.toList_eq,ByteArray.toList_eq]
 simp only [beq_eq_false_iff_ne,ne_eq]
 exact fun e=>h (ba_ext e)
theorem str_list (l:List UInt8):(str l).data.toList=l:=rfl
theorem app_list (a b:ByteArray):(a++b).data.toList=a.data.toList++b.data.toList:=by simp [ByteArray.data_append]
theorem drop_byte (s:ByteArray) (i:Nat) (h:i<s.size):s.data.toList.drop i=s[i]::s.data.toList.drop (i+1):=by
 have h1:i<s.data.toList.length:=by simpa using h
 rw [List.drop_eq_getElem_cons h1]
 rfl
theorem drop_none (s:ByteArray) (i:Nat) (h:s.size≤i):s.data.toList.drop i=[]:=List.drop_eq_nil_of_le (by simpa using h)
theorem val_int {k:IntKind} {a b:Int} (h:a=b):Value.int k a=Value.int k b:=by rw [h]
theorem getD_byte (s:ByteArray) (i:Nat) (h:i<s.size):s.data.toList.getD i 0=s[i]:=by
 rw [List.getD_eq_getElem?_getD,List.getElem?_eq_getElem (by rw [list_len];exact h)]
 rfl
theorem Tryz.info5:(Tryz.prog.info? 5).map (fun i=>(i.zero,i.size,i.bytes))=some (some (.int .u8 0),1,1):=by kernel_rfl
end Go.Proofs.YtnoopcenogbjiaaGreatDoor
/-
 An array of strings that a row lists: what it holds.
-/
namespace Go.Proofs.YtnoopcenogbjiaaGreatDoor
open Go.ChangeShapes Go.WideShapes Go.ChangeAt Go.RowKit
theorem cells_of_strs {H:Type} {enc:TypeId×Value→H} {P:Program} {w:World} {base:Nat} {sp:Nat→Bool} {held:Bool} {fuel:Nat} {t e:TypeId} {n:Nat} {cs:List Value} {zs:List (List UInt8)} {p:List MemPlace}
  (ht:P.underlying t=some (.array n e)) (he:P.underlying e=some .string) (hce:P.cellsOf e=1) (hct:P.cellsOf t=n)
  (h:DataW.trod enc P w base sp held fuel t cs=some (.agg (zs.map fun z=>.lit (.string z)),p)):cs=zs.map fun z=>Value.string (str z):=by
 cases fuel with
 | zero=>simp [DataW.trod] at h
 | succ fuel =>
  simp only [DataW.trod,ht,hce,hct,Nat.mul_one] at h
  split at h
  ·rename_i hl
   obtain ⟨xs,hm,hx⟩:=Option.map_eq_some_iff.1 h
   have hxs:xs.map (·.1)=zs.map fun z=>(DataW.lit (.string z):DataW H):=by
    have:=congrArg Prod.fst hx
    simpa using this
   have hxl:xs.length=n:=by simpa using Lib.mapM_length hm
   have hzl:zs.length=n:=by
    have:=congrArg List.length hxs
    simp at this
    omega
   apply List.ext_getElem?
   intro i
   by_cases hi:i<n
   ·obtain ⟨b,hb,hf⟩:=Lib.mapM_at hm i i (by simp [hi])
    obtain ⟨z,hc,rfl,_⟩:=DataW.trod_string he hf
    have h1:cs[i]?=some (.string z):=by
     have:=congrArg (·[0]?) hc
     simpa [List.getElem?_take,List.getElem?_drop] using this
    have h2:(xs.map (·.1))[i]?=some (DataW.lit (.string z.data.toList):DataW H):=by simp [hb]
    rw [hxs] at h2
    simp only [List.getElem?_map,Option.map_eq_some_iff,DataW.lit.injEq,Lit.string.injEq] at h2
    obtain ⟨z',hz',he'⟩:=h2
    rw [h1,List.getElem?_map,hz',he']
    rfl
   ·rw [List.getElem?_eq_none (by omega),List.getElem?_eq_none (by simp;omega)]
  ·cases h
end Go.Proofs.YtnoopcenogbjiaaGreatDoor
/-
 Decimal numerals without superfluous zeros, and an object's encoding: plain mathematics.
-/
namespace Go.Proofs.YtnoopcenogbjiaaGreatDoor
open Go.Lib
theorem decFrom_snoc:∀ (l:List UInt8) (acc:Nat) (c:UInt8),decFrom acc (l++[c])=(decFrom acc l).bind fun m=>(digitVal c).map fun d=>m*10+d
 | [],acc,c=>by
  simp only [List.nil_append,decFrom,Option.bind_some]
  cases digitVal c<;>rfl
 | a::l,acc,c=>by
  simp only [List.cons_append,decFrom]
  cases digitVal a with
  | none=>rfl
  | some d=>exact decFrom_snoc l _ c
theorem digitVal_lt {c:UInt8} {d:Nat} (h:digitVal c=some d):d<10∧c=UInt8.ofNat (48+d):=by
 unfold digitVal at h
 split at h
 ·rename_i hc
  simp only [Option.some.injEq] at h
  refine ⟨by omega,?_⟩
  apply UInt8.toNat_inj.mp
  rw [UInt8.toNat_ofNat']
  have:=UInt8.toNat_lt c
  omega
 ·cases h
theorem digitVal_of {d:Nat} (h:d<10):digitVal (UInt8.ofNat (48+d))=some d:=by
 unfold digitVal
 have e:(UInt8.ofNat (48+d)).toNat=48+d:=by rw [UInt8.toNat_ofNat'];omega
 rw [e,if_pos (by omega)]
 simp
theorem decDigits_big {m:Nat} (h:¬ m<10):decDigits m=decDigits (m / 10)++[UInt8.ofNat (48+m%10)]:=by rw [decDigits,dif_neg h]
theorem decDigits_ne (m:Nat):decDigits m≠[]:=by
 intro h
 have:=congrArg List.length h
 rw [decDigits_length] at this
 have:=nDigits_pos m
 simp at *
 omega
theorem decFrom_decDigits (m:Nat):decFrom 0 (decDigits m)=some m:=by
 induction m using Nat.strongRecOn with
 | _ m ih =>
  by_cases h:m<10
  ·rw [decDigits_one h,decFrom,digitVal_of h]
   simp [decFrom]
  ·rw [decDigits_big h,decFrom_snoc,ih (m / 10) (by omega),digitVal_of (by omega)]
   simp only [Option.bind_some,Option.map_some,Option.some.injEq]
   omega
theorem decDigits_head (m:Nat) (h:1≤m):(decDigits m).head?≠some 48:=by
 induction m using Nat.strongRecOn with
 | _ m ih =>
  by_cases h10:m<10
  ·rw [decDigits_one h10]
   simp only [List.head?_cons,ne_eq,Option.some.injEq]
   intro e
   have:=congrArg UInt8.toNat e
   rw [UInt8.toNat_ofNat'] at this
   simp at this
   omega
  ·rw [decDigits_big h10,List.head?_append]
   have:=ih (m / 10) (by omega) (by omega)
   cases hd:(decDigits (m / 10)).head? with
   | none=>exact absurd (List.head?_eq_none_iff.mp hd) (decDigits_ne _)
   | some x=>rw [hd] at this;simpa using this
def numR (k:Nat) (l:List UInt8):Option Nat:=if l.length<1∨k<l.length∨(1<l.length∧l.head?=some 48) then none else decFrom 0 l
theorem dec_back:∀ (n:Nat) (l:List UInt8) (m:Nat),l.length=n→1≤n→¬ (1<l.length∧l.head?=some 48)→decFrom 0 l=some m→decDigits m=l
 | 0,_,_,_,h,_,_=>by omega
 | n+1,l,m,hl,_,hz,hd=>by
  obtain ⟨r,c,rfl⟩:∃ r c,l=r++[c]:=by
   have hne:l≠[]:=by intro e;rw [e] at hl;simp at hl
   exact ⟨l.dropLast,l.getLast hne,(List.dropLast_concat_getLast hne).symm⟩
  rw [decFrom_snoc] at hd
  cases hr:decFrom 0 r with
  | none=>rw [hr] at hd;simp at hd
  | some m' =>
   rw [hr] at hd
   cases hc:digitVal c with
   | none=>rw [hc] at hd;simp at hd
   | some d =>
    rw [hc] at hd
    simp only [Option.bind_some,Option.map_some,Option.some.injEq] at hd
    obtain ⟨h10,he⟩:=digitVal_lt hc
    rcases r with _|⟨a,r⟩
    ·simp only [decFrom,Option.some.injEq] at hr
     subst hr
     subst hd
     rw [Nat.zero_mul,Nat.zero_add,decDigits_one h10,he]
     rfl
    ·have hz':a≠48:=by
      intro e
      exact hz ⟨by simp,by simp [e]⟩
     have ih:=dec_back n (a::r) m' (by simpa using hl) (by simp at hl;omega) (fun h=>hz' (by simpa using h.2)) hr
     have hm:1≤m':=by
      rcases Nat.eq_zero_or_pos m' with h0|h0
      ·subst h0
       rw [decDigits_one (by decide)] at ih
       simp only [List.cons.injEq] at ih
       exact absurd ih.1.symm hz'
      ·exact h0
     rw [decDigits_big (by omega),show m / 10=m' by omega,show m%10=d by omega,ih,he]
def wordL (k:Int):List UInt8:=if k=1 then [98,108,111,98] else if k=2 then [116,114,101,101] else if k=3 then [99,111,109,109,105,116] else if k=4 then [116,97,103] else []
def kindL (l:List UInt8):Nat:=if l=[98,108,111,98] then 1 else if l=[116,114,101,101] then 2 else if l=[99,111,109,109,105,116] then 3 else if l=[116,97,103] then 4 else 0
theorem wordL_nil {k:Int}:wordL k=[]↔¬ (1≤k∧k≤4):=by
 unfold wordL
 split
 ·simp;omega
 split
 ·simp;omega
 split
 ·simp;omega
 split
 ·simp;omega
 ·simp;omega
theorem kind_word {k:Int} (h:1≤k∧k≤4):(kindL (wordL k):Int)=k:=by
 have:k=1∨k=2∨k=3∨k=4:=by omega
 rcases this with rfl|rfl|rfl|rfl<;>decide
theorem word_kind {l:List UInt8} (h:kindL l≠0):wordL (kindL l:Int)=l:=by
 unfold kindL at h ⊢
 split
 ·rename_i e;rw [e];decide
 split
 ·rename_i e;rw [e];decide
 split
 ·rename_i e;rw [e];decide
 split
 ·rename_i e;rw [e];decide
 ·rename_i h1 h2 h3 h4
  simp [h1,h2,h3,h4] at h
theorem kindL_le (l:List UInt8):kindL l≤4:=by
 unfold kindL
 repeat (split;· omega)
 omega
def encL (k:Int) (b:List UInt8):List UInt8:=wordL k++32::(decDigits b.length++0::b)
def bytesE (k:Int) (b:List UInt8):Nat:=if wordL k=[] then 140 else if 1048576<b.length then 4 else 0
def bytesL (k:Int) (b:List UInt8):List UInt8:=if bytesE k b=0 then encL k b else []
end Go.Proofs.YtnoopcenogbjiaaGreatDoor
/-
 The time and the zone of a person: plain mathematics of decimal digits.
-/
namespace Go.Proofs.YtnoopcenogbjiaaGreatDoor
open Go Go.Lib
theorem numK_iff (k:Nat) (l:List UInt8) (m:Nat):numR k l=some m↔l.length≤k∧decDigits m=l:=by
 unfold numR
 constructor
 ·intro h
  split at h
  ·cases h
  ·rename_i hc
   have h1:1≤l.length:=by
    rcases Nat.lt_or_ge l.length 1 with h'|h'
    ·exact absurd (.inl h') hc
    ·exact h'
   have h7:l.length≤k:=by
    rcases Nat.lt_or_ge k l.length with h'|h'
    ·exact absurd (.inr (.inl h')) hc
    ·exact h'
   exact ⟨h7,dec_back _ l m rfl h1 (fun h'=>hc (.inr (.inr h'))) h⟩
 ·rintro ⟨h7,rfl⟩
  have h1:1≤(decDigits m).length:=by rw [decDigits_length];exact nDigits_pos m
  rw [if_neg]
  ·exact decFrom_decDigits m
  ·rintro (h|h|⟨h,h'⟩)
   ·omega
   ·omega
   ·rcases Nat.eq_zero_or_pos m with h0|h0
    ·subst h0
     rw [decDigits_one (by decide)] at h
     simp at h
    ·exact decDigits_head m h0 h'
theorem numK_lt {k:Nat} {l:List UInt8} {m:Nat} (h:numR k l=some m):m<10^k:=by
 have h2:=((numK_iff k l m).mp h).1
 have h1:=congrArg List.length ((numK_iff k l m).mp h).2
 rw [decDigits_length] at h1
 have h3:=lt_pow_nDigits m
 have h4:10^nDigits m≤10^k:=Nat.pow_le_pow_right (by decide) (by omega)
 omega
theorem atoiK_back {k:Nat} {l:List UInt8} {n:Int} (h0:0≤n) (hb:itoa n=l) (h7:l.length≤k):numR k l=some n.toNat:=by
 rw [numK_iff]
 refine ⟨h7,?_⟩
 rw [itoa,if_neg (by omega)] at hb
 exact hb
theorem atoiK_of_num {k:Nat} {l:List UInt8} {m:Nat} (h:numR k l=some m):atoi l=some (m:Int)∧itoa (m:Int)=l:=by
 obtain ⟨h7,hd⟩:=(numK_iff k l m).mp h
 have hi:itoa (m:Int)=l:=by rw [itoa,if_neg (by omega)];simpa using hd
 refine ⟨?_,hi⟩
 have hf:=decFrom_decDigits m
 rw [hd] at hf
 rcases l with _|⟨c,r⟩
 ·exact absurd hd (decDigits_ne m)
 ·obtain ⟨d,hdg⟩:∃ d,digitVal c=some d:=digit_of_decFrom _ _ _ hf 0 c rfl
  obtain ⟨h10,he⟩:=digitVal_lt hdg
  have hn:c.toNat=48+d:=by rw [he,UInt8.toNat_ofNat'];omega
  have n45:(c==45)=false:=by
   rw [beq_eq_false_iff_ne]
   intro e
   rw [e] at hn
   simp at hn
   omega
  have n43:(c==43)=false:=by
   rw [beq_eq_false_iff_ne]
   intro e
   rw [e] at hn
   simp at hn
   omega
  rw [atoi,n45,n43]
  simp [decNat,hf]
theorem dec_two (a b:UInt8):decFrom 0 [a,b]=(digitVal a).bind fun x=>(digitVal b).map fun y=>10*x+y:=by
 rw [decFrom]
 cases ha:digitVal a with
 | none=>rfl
 | some x =>
  simp only [decFrom]
  cases hb:digitVal b with
  | none=>rfl
  | some y=>simp;omega
theorem dec_four (a b c d:UInt8):decFrom 0 [a,b,c,d]=(decFrom 0 [a,b]).bind fun h=>(decFrom 0 [c,d]).map fun m=>100*h+m:=by
 rw [dec_two,dec_two,decFrom]
 cases ha:digitVal a with
 | none=>rfl
 | some x =>
  simp only [decFrom]
  cases hb:digitVal b with
  | none=>rfl
  | some y =>
   simp only
   cases hc:digitVal c with
   | none=>rfl
   | some z =>
    simp only
    cases hd:digitVal d with
    | none=>rfl
    | some v=>simp;omega
theorem dec_two_lt {a b:UInt8} {n:Nat} (h:decFrom 0 [a,b]=some n):n<100:=by
 rw [dec_two] at h
 cases ha:digitVal a with
 | none=>rw [ha] at h;cases h
 | some x =>
  cases hb:digitVal b with
  | none=>rw [ha,hb] at h;cases h
  | some y =>
   rw [ha,hb] at h
   simp only [Option.bind_some,Option.map_some,Option.some.injEq] at h
   have:=(digitVal_lt ha).1
   have:=(digitVal_lt hb).1
   omega
def zonV (s:UInt8) (h m:Nat):Int:=if s=45 then -((60*h+m:Nat):Int) else ((60*h+m:Nat):Int)
def zonO (l:List UInt8):Option Int:=match l with
 | [s,a,b,c,d]=>if (s=43∨s=45)∧[s,a,b,c,d]≠[45,48,48,48,48] then (decFrom 0 [a,b]).bind fun h=>(decFrom 0 [c,d]).bind fun m=>if m<60 then some (zonV s h m) else none else none
 | _=>none
theorem atoi_sign {s:UInt8} (a b c d:UInt8) (hs:s=43∨s=45):atoi [s,a,b,c,d]=(decFrom 0 [a,b,c,d]).map (fun (n:Nat)=>if s=45 then -(n:Int) else (n:Int)):=by
 rcases hs with rfl|rfl
 ·rw [atoi,show ((43:UInt8)==45)=false from rfl,show ((43:UInt8)==43)=true from rfl]
  simp only [Bool.false_eq_true,if_false,if_true,decNat,List.isEmpty_cons]
  rfl
 ·rw [atoi,show ((45:UInt8)==45)=true from rfl]
  simp only [Bool.false_eq_true,if_false,if_true,decNat,List.isEmpty_cons]
  try rfl
theorem zon_parts (s:UInt8) (h m:Nat) (hm:m<100):(if s=45 then -((100*h+m:Nat):Int) else ((100*h+m:Nat):Int)).tdiv 100=(if s=45 then -(h:Int) else (h:Int))∧(if s=45 then -((100*h+m:Nat):Int) else ((100*h+m:Nat):Int)).tmod 100=(if s=45 then -(m:Int) else (m:Int)):=by
 have e1:((100*h+m:Nat):Int).tdiv 100=(h:Int):=by
  rw [Int.tdiv_eq_ediv_of_nonneg (by omega)]
  omega
 have e2:((100*h+m:Nat):Int).tmod 100=(m:Int):=by
  rw [Int.tmod_eq_emod_of_nonneg (by omega)]
  omega
 split
 ·rw [Int.neg_tdiv,Int.neg_tmod,e1,e2]
  exact ⟨rfl,rfl⟩
 ·exact ⟨e1,e2⟩
def zonL (z:Int):List UInt8:=(if z<0 then 45 else 43)::[UInt8.ofNat (48+z.natAbs / 60 / 10),UInt8.ofNat (48+z.natAbs / 60%10),UInt8.ofNat (48+z.natAbs%60 / 10),UInt8.ofNat (48+z.natAbs%60%10)]
theorem zon_text {l:List UInt8} {z:Int} (h:zonO l=some z):zonL z=l∧z.natAbs<6000:=by
 unfold zonO at h
 split at h
 ·rename_i s a b c d
  split at h
  ·rename_i hc
   obtain ⟨hs,hne⟩:=hc
   rw [dec_two,dec_two] at h
   cases ha:digitVal a with
   | none=>rw [ha] at h;cases h
   | some x =>
    cases hb:digitVal b with
    | none=>rw [ha,hb] at h;cases h
    | some y =>
     cases hcc:digitVal c with
     | none=>rw [ha,hb,hcc] at h;cases h
     | some v =>
      cases hd:digitVal d with
      | none=>rw [ha,hb,hcc,hd] at h;cases h
      | some u =>
       rw [ha,hb,hcc,hd] at h
       simp only [Option.bind_some,Option.map_some] at h
       split at h
       ·rename_i hm
        simp only [Option.some.injEq] at h
        obtain ⟨x1,rfl⟩:=digitVal_lt ha
        obtain ⟨y1,rfl⟩:=digitVal_lt hb
        obtain ⟨v1,rfl⟩:=digitVal_lt hcc
        obtain ⟨u1,rfl⟩:=digitVal_lt hd
        have hn:z.natAbs=60*(10*x+y)+(10*v+u):=by
         rw [←h,zonV]
         split<;>omega
        refine ⟨?_,by omega⟩
        unfold zonL
        rw [show z.natAbs / 60 / 10=x by omega,show z.natAbs / 60%10=y by omega,show z.natAbs%60 / 10=v by omega,show z.natAbs%60%10=u by omega]
        congr 1
        rcases hs with rfl|rfl
        ·rw [zonV,if_neg (by decide)] at h
         rw [if_neg (by omega)]
        ·rw [zonV,if_pos rfl] at h
         rw [if_pos]
         by_cases h0:z.natAbs=0
         ·refine absurd ?_ hne
          rw [show x=0 by omega,show y=0 by omega,show v=0 by omega,show u=0 by omega]
          rfl
         ·omega
       ·cases h
  ·cases h
 ·cases h
end Go.Proofs.YtnoopcenogbjiaaGreatDoor
/-
 The walk of Hex.
-/
namespace Go.Proofs.YtnoopcenogbjiaaGreatDoor
open Go.RowKit
def dig16 (n:Nat):UInt8:=if n<10 then UInt8.ofNat (48+n) else UInt8.ofNat (87+n)
def hexL:List UInt8→List UInt8
 | []=>[]
 | b::l=>dig16 (b.toNat / 16)::dig16 (b.toNat%16)::hexL l
theorem hexL_len (l:List UInt8):(hexL l).length=2*l.length:=by
 induction l with
 | nil=>rfl
 | cons b l ih=>simp [hexL,ih];omega
theorem hexL_append (l m:List UInt8):hexL (l++m)=hexL l++hexL m:=by
 induction l with
 | nil=>rfl
 | cons b l ih=>simp [hexL,ih]
theorem hex_index (n:Nat) (hn:n<16) (w:World):(Instr.index 9 (.string { data:=#[48,49,50,51,52,53,54,55,56,57,97,98,99,100,101,102] }) (.int .u8 (n:Int))).run Tryz.prog w=.ok (.int .u8 ((dig16 n).toNat:Int)) w:=by
 rcases (by omega:n=0∨n=1∨n=2∨n=3∨n=4∨n=5∨n=6∨n=7∨n=8∨n=9∨n=10∨n=11∨n=12∨n=13∨n=14∨n=15) with rfl|rfl|rfl|rfl|rfl|rfl|rfl|rfl|rfl|rfl|rfl|rfl|rfl|rfl|rfl|rfl<;>kernel_rfl
theorem and15 (c:Nat) (hc:c<256):bits .and .u8 (c:Int) 15=((c%16:Nat):Int):=by
 have h:=u8_and_nat c 15 hc (by omega)
 rw [show (15:Int)=((15:Nat):Int) from rfl,h,show (15:Nat)=2^4-1 from rfl,Nat.and_two_pow_sub_one_eq_mod]
theorem four_cells' (wr:World) (C:Array Value) (l:List UInt8) (j:Nat) (u:Value) {t:TypeId} (hC:C=(bcells l).toArray) (hj:(bcells l)[j]?=some u):(wr.alloc (.cells C t)).cell? ((⟨wr.heap.size,0,none⟩:Addr).add j)=some u:=by
 subst hC
 rw [Addr.add_lit,Nat.zero_add,World.cell?_alloc_mark]
 simpa using hj
theorem grown_drew {w w':World} {r:Option Nat} (h:w.drew.grownBy w' r):w.grownBy w' r:=⟨h.os,h.tape,h.output,h.size,h.block⟩
set_option maxHeartbeats 1000000 in
set_option maxRecDepth 4000 in
theorem hex_any (s:ByteArray) (w:World) (hs:s.size≤70368744177664) :
  Calls Tryz.prog 109 #[.string s] w fun e w'=>e=.returned (.string (str (hexL s.data.toList)))∧Below w.heap.size w w':=by
 obtain ⟨i0,hi,hz0,hz1,hz2⟩:=info_parts Tryz.info5
 go_enter Tryz.func109,Tryz.ntmps109
 have i1:IntKind.i64.wrap (2*(s.size:Int))=2*(s.size:Int):=IntWalk.i64_in _ (by omega)
 go_wp2_with (at_make;refine wpList_make_own _ rfl _ _ 131 rfl w.heap.size 5 i0 (.int .u8 0) 1 Tryz.underlying131 hi hz0 hz1 _ _ _ (2*s.size) rfl rfl (by omega) ?b1 ?b2 ?b3 ?_)
 case b1=>rw [hz2];omega
 case b2=>unfold maxLen;omega
 case b3=>exact Nat.le_refl _
 intro w1 hown1 hgrow1
 have hb1:Below w.heap.size w w1:=(Below.refl _ _).grown hgrow1 (Nat.le_refl _) (by simp)
 clear i1
 go_wp2
 go_loopw [3,11] (fun v i wr=>∃ k:Nat,k≤s.size∧i=.int .i64 k∧wr.ownsRow w.heap.size 5 1 v (2*k) (bcells (hexL (s.data.toList.take k)))∧Below w.heap.size w wr)
  (fun _ i _=>s.size-(intOf i).toNat)
 case atStart=>exact ⟨0,by omega,rfl,hown1,hb1⟩
 case round =>
  clear hown1 hb1 hgrow1
  obtain ⟨k,hk,rfl,hown,hbel⟩:=hrel
  by_cases hlt:k<s.size
  ·have hc:=UInt8.toNat_lt s[k]
   have e2:=and15 _ hc
   have x1:=hex_index (s[k].toNat / 16) (by omega)
   have x2:=hex_index (s[k].toNat%16) (by omega)
   have HT:Hid (hexL (s.data.toList.take (k+1))=hexL (s.data.toList.take k)++[dig16 (s[k].toNat / 16),dig16 (s[k].toNat%16)]):=by
    show _=_
    rw [take_snoc s k hlt,hexL_append];rfl
   obtain ⟨x,hx⟩:∃ x,x=s[k].toNat / 16:=⟨_,rfl⟩
   obtain ⟨y,hy⟩:∃ y,y=s[k].toNat%16:=⟨_,rfl⟩
   have e1:(s[k].toNat:Int) / 16=(x:Int):=by rw [hx];rfl
   rw [←hy] at e2 x2 HT
   rw [←hx] at x1 HT
   obtain ⟨X,hX⟩:∃ X,X=dig16 x:=⟨_,rfl⟩
   obtain ⟨Y,hY⟩:∃ Y,Y=dig16 y:=⟨_,rfl⟩
   rw [←hX] at x1 HT
   rw [←hY] at x2 HT
   clear hx hy hX hY hc
   go_upto_region 5 with fail
   go_region_law (refine step_append_lies _ rfl (.tmp 14) (.tmp 25) 131 rfl w.heap.size 5 i0 (.int .u8 0) 1 1 Tryz.underlying131 hi hz0 hz1 hz2 rfl (by decide) _ _ _ rfl (World.ownsRow.alloc (w:=wr.drew) hown _) ⟨wr.heap.size,0,none⟩ 2 2 (bcells [X,Y]) rfl rfl (fun j u hj=>four_cells' wr.drew _ _ j u rfl hj) (bcells_one _) (by decide) (by unfold maxLen;omega) (by omega) (by have:=hbel.size;simp;omega) _ rfl ?_;intro g cap w3 ho3 hg3 _ _)
   all_goals
    have hb3:Below w.heap.size w w3:=app_step hbel hown (grown_drew hg3) (Nat.le_refl _) hbel.size
    clear hown hg3 hbel x1 x2 e1 e2
    go_wp2
    go_roundw
    case rel=>exact ⟨k+1,by omega,by go_num,owns_eq ho3 (by rw [HT.out,bcells_append]),hb3⟩
    case measure=>simp [intOf];omega
  ·obtain rfl:k=s.size:=by omega
   have hcl:=conv_owned (P:=Tryz.prog) 131 9 5 Tryz.underlying131 Tryz.underlying5 Tryz.underlying9 hown
   rw [take_all] at hcl
   clear hown
   go_wp2
   go_ret
   exact ⟨rfl,hbel⟩
set_option maxHeartbeats 1000000 in
theorem rword_any (k:Int) (w:World) :
  Calls Tryz.prog 80 #[.int .i64 k] w fun e w'=>e=.returned (.string (str (wordL k)))∧w'=w:=by
 by_cases h1:k=1
 ·subst h1
  go_enter Tryz.func80,Tryz.ntmps80
  go_wp2
  go_ret
  exact ⟨rfl,rfl⟩
 by_cases h2:k=2
 ·subst h2
  go_enter Tryz.func80,Tryz.ntmps80
  go_wp2
  go_ret
  exact ⟨rfl,rfl⟩
 by_cases h3:k=3
 ·subst h3
  go_enter Tryz.func80,Tryz.ntmps80
  go_wp2
  go_ret
  exact ⟨rfl,rfl⟩
 by_cases h4:k=4
 ·subst h4
  go_enter Tryz.func80,Tryz.ntmps80
  go_wp2
  go_ret
  exact ⟨rfl,rfl⟩
 ·have e1:(k==1)=false:=by simpa using h1
  have e2:(k==2)=false:=by simpa using h2
  have e3:(k==3)=false:=by simpa using h3
  have e4:(k==4)=false:=by simpa using h4
  have HR:Hid (str (wordL k)=⟨#[]⟩):=by show _=_;rw [wordL,if_neg h1,if_neg h2,if_neg h3,if_neg h4];rfl
  clear h1 h2 h3 h4
  go_enter Tryz.func80,Tryz.ntmps80
  go_wp2
  go_ret
  exact ⟨by rw [HR.out];rfl,rfl⟩
set_option maxHeartbeats 2000000 in
theorem rkind_any (s:ByteArray) (w:World) :
  Calls Tryz.prog 89 #[.string s] w fun e w'=>e=.returned (.int .i64 (kindL s.data.toList:Int))∧w'=w:=by
 have HW:Hid (∀ k:Int,∀ w,Calls Tryz.prog 80 #[.int .i64 k] w fun e w'=>e=.returned (.string (str (wordL k)))∧w'=w):=rword_any
 go_enter Tryz.func89,Tryz.ntmps89
 go_wp2
 go_loop [3] (fun iv=>∃ k:Nat,1≤k∧k≤5∧iv=.int .i64 (k:Int)∧Hid (∀ j:Nat,1≤j→j<k→s.data.toList≠wordL (j:Int))) (fun iv=>5-(intOf iv).toNat)
 case atStart=>exact ⟨1,by omega,by omega,rfl,fun j h1 h2=>by omega⟩
 case round =>
  obtain ⟨k,h1,h5,rfl,HN⟩:=hrel
  by_cases hlt:k≤4
  ·obtain ⟨t,ht⟩:∃ t,t=str (wordL (k:Int)):=⟨_,rfl⟩
   have HC:Hid (∀ w,Calls Tryz.prog 80 #[.int .i64 (k:Int)] w fun e w'=>e=.returned (.string t)∧w'=w):=fun w=>by
    have h:=HW.out (k:Int) w
    rw [←ht] at h
    exact h
   by_cases hs:s=t
   ·subst hs
    have HK:Hid ((kindL s.data.toList:Int)=(k:Int)):=by show _=_;rw [ht];exact kind_word (by omega)
    clear ht
    go_wp2_with (go_at_call 80;((with_reducible refine (HC.out _).mono ?_);rintro e w1 ⟨rfl,rfl⟩))
    go_ret
    exact ⟨by rw [HK.out];rfl,rfl⟩
   ·have hne:(t.toList==s.toList)=false:=ba_ne fun e=>hs e.symm
    have HN2:Hid (∀ j:Nat,1≤j→j<k+1→s.data.toList≠wordL (j:Int)):=fun j h1 h2=>by
     rcases Nat.lt_or_ge j k with h|h
     ·exact HN.out j h1 h
     ·obtain rfl:j=k:=by omega
      intro e
      exact hs (ba_ext (by rw [ht,e];rfl))
    clear ht hs HN
    go_wp2_with (go_at_call 80;((with_reducible refine (HC.out _).mono ?_);rintro e w1 ⟨rfl,rfl⟩))
    go_round
    case rel=>exact ⟨k+1,by omega,by omega,by go_num,HN2.out⟩
    case measure=>simp [intOf];omega
  ·obtain rfl:k=5:=by omega
   have HK:Hid (kindL s.data.toList=0):=by
    show _=_
    rcases Nat.eq_zero_or_pos (kindL s.data.toList) with h|h
    ·exact h
    ·exact absurd (word_kind (by omega)).symm (HN.out _ h (by have:=kindL_le s.data.toList;omega))
   clear HN
   go_wp2
   go_ret
   exact ⟨by rw [HK.out];rfl,rfl⟩
def shI (k:Nat) (x:Int):Int:=if x=-1 then -1 else k+x
theorem shI_hit (l:List UInt8) (c:UInt8) (k:Nat):shI k (Lib.indexByte (c::l) c)=k:=by
 unfold shI
 rw [Lib.indexByte]
 simp
theorem shI_miss (l:List UInt8) (b c:UInt8) (k:Nat) (h:b≠c):shI k (Lib.indexByte (b::l) c)=shI (k+1) (Lib.indexByte l c):=by
 unfold shI
 have hbc:(b==c)=false:=beq_eq_false_iff_ne.mpr h
 rw [Lib.indexByte,hbc,if_neg Bool.false_ne_true]
 by_cases hx:Lib.indexByte l c=-1
 ·rw [hx]
  rfl
 ·have:=Lib.indexByte_ge l c
  have hb:(Lib.indexByte l c==-1)=false:=by simpa using hx
  rw [hb,if_neg Bool.false_ne_true,if_neg (by omega),if_neg hx]
  omega
set_option maxHeartbeats 1000000 in
theorem rfindF_any (s:ByteArray) (c:UInt8) (z:Int) (f:Nat) (w:World) (hf:f≤s.size) (hz:z=(c.toNat:Int)) (hs:s.size≤140737488355328) :
  Calls Tryz.prog 117 #[.string s,.int .u8 z,.int .i64 (f:Int)] w fun e w'=>e=.returned (.int .i64 (shI f (Lib.indexByte (s.data.toList.drop f) c)))∧w'=w:=by
 obtain ⟨R,hR⟩:∃ R,R=shI f (Lib.indexByte (s.data.toList.drop f) c):=⟨_,rfl⟩
 rw [←hR]
 have HR:=Lib.hid hR
 clear hR
 have HZ:=Lib.hid hz
 clear hz
 go_enter Tryz.func117,Tryz.ntmps117
 go_wp2
 go_loop [7] (fun iv=>∃ k:Nat,k≤s.size∧iv=.int .i64 (k:Int)∧Hid (R=shI k (Lib.indexByte (s.data.toList.drop k) c))) (fun iv=>s.size-(intOf iv).toNat)
 case atStart=>exact ⟨f,by omega,rfl,HR.out⟩
 case round =>
  clear HR
  obtain ⟨k,hk,rfl,HR⟩:=hrel
  by_cases hlt:k<s.size
  ·have hx:=HR.out
   rw [drop_byte s k hlt] at hx
   by_cases hc:s[k]=c
   ·have e1:((s[k].toNat:Int)==z)=true:=by rw [HZ.out,hc];simp
    rw [hc,shI_hit] at hx
    have HX:=Lib.hid hx
    clear hx HR hc
    go_wp2
    go_ret
    exact ⟨by rw [HX.out];rfl,rfl⟩
   ·have e1:((s[k].toNat:Int)==z)=false:=by
     rw [HZ.out,beq_eq_false_iff_ne]
     intro e
     exact hc (UInt8.toNat_inj.mp (by omega))
    rw [shI_miss _ _ _ _ hc] at hx
    have HX:=Lib.hid hx
    clear hx HR hc
    go_wp2
    go_round
    case rel=>exact ⟨k+1,by omega,by go_num,HX.out⟩
    case measure=>simp [intOf];omega
  ·obtain rfl:k=s.size:=by omega
   have HX:Hid (R=-1):=by
    show _=_
    rw [HR.out,drop_none s _ (Nat.le_refl _)]
    rfl
   clear HR
   go_wp2
   go_ret
   exact ⟨by rw [HX.out];rfl,rfl⟩
theorem rfindB_any (s:ByteArray) (c:UInt8) (z:Int) (w:World) (hz:z=(c.toNat:Int)) (hs:s.size≤140737488355328) :
  Calls Tryz.prog 117 #[.string s,.int .u8 z,.int .i64 0] w fun e w'=>e=.returned (.int .i64 (Lib.indexByte s.data.toList c))∧w'=w :=
 (rfindF_any s c z 0 w (Nat.zero_le _) hz hs).mono fun e w' ⟨he,hw⟩=>⟨by rw [he,List.drop_zero,shI];split<;>(refine ret_int ?_;omega),hw⟩
def restD (k:Nat) (s:List UInt8):List UInt8:=if k=0∧s≠[] then s else Lib.decDigits k++s
theorem restD_step (k:Nat) (s:List UInt8) (h:k≠0∨s=[]):restD k s=restD (k / 10) (UInt8.ofNat (48+k%10)::s):=by
 unfold restD
 rw [if_neg (by rintro ⟨h1,h2⟩;rcases h with h|h;exact h h1;exact h2 h)]
 by_cases h0:k<10
 ·rw [if_pos ⟨by omega,by simp⟩,Lib.decDigits_one h0,show k%10=k by omega]
  rfl
 ·rw [if_neg (by omega),decDigits_big h0]
  simp
theorem restD_end (s:List UInt8) (h:s≠[]):restD 0 s=s:=by unfold restD;rw [if_pos ⟨rfl,h⟩]
set_option maxHeartbeats 4000000 in
set_option maxRecDepth 4000 in
theorem robdigits_any (n:Nat) (w:World) (hn:n≤1000000000000) :
  Calls Tryz.prog 81 #[.int .i64 (n:Int)] w fun e w'=>e=.returned (.string (str (Lib.decDigits n)))∧Below w.heap.size w w':=by
 obtain ⟨R,hR⟩:∃ R,R=Lib.decDigits n:=⟨_,rfl⟩
 rw [←hR]
 have HR:Hid (R=restD n []):=by show _=_;rw [hR,restD,if_neg (by simp)];simp
 clear hR
 go_enter Tryz.func81,Tryz.ntmps81
 go_wp2
 go_loopw [4,3] (fun iv sv wr=>∃ (k:Nat) (s:ByteArray),k≤n∧s.size≤140737488355328-k∧iv=.int .i64 (k:Int)∧sv=.string s∧Hid (R=restD k s.data.toList)∧Hid (Below w.heap.size w wr)) (fun iv sv _=>2*(intOf iv).toNat+(match sv with|.string s=>if s.size=0 then 1 else 0|_=>0))
 case atStart=>exact ⟨n,⟨#[]⟩,Nat.le_refl _,by show 0≤_;omega,rfl,rfl,HR.out,Below.refl _ _⟩
 case round =>
  clear HR
  obtain ⟨k,s,hk,hs,rfl,rfl,HR,HB⟩:=hrel
  by_cases hgo:k≠0∨s.data.toList=[]
  ·have hx:=HR.out
   rw [restD_step k _ hgo] at hx
   obtain ⟨d,hd⟩:∃ d,d=k%10:=⟨_,rfl⟩
   obtain ⟨k2,hk2⟩:∃ k2,k2=k / 10:=⟨_,rfl⟩
   rw [←hd,←hk2] at hx
   obtain ⟨s2,hs2⟩:∃ s2,s2=str [UInt8.ofNat (48+d)]++s:=⟨_,rfl⟩
   have hl2:s2.size=s.size+1:=by rw [hs2,ByteArray.size_append,str_size];simp;omega
   have HX:Hid (R=restD k2 s2.data.toList):=by show _=_;rw [hx,hs2,app_list];rfl
   obtain ⟨T,hT⟩:∃ T,T=str [UInt8.ofNat (48+d)]:=⟨_,rfl⟩
   rw [←hT] at hs2
   have HT1:T.size=1:=by rw [hT,str_size];rfl
   have hcv:=conv_one (P:=Tryz.prog) wr (48+(d:Int)) (48+d) (by omega) (by omega) 131 9 5 5 1 Tryz.underlying131 Tryz.underlying5 Tryz.underlying9
   rw [←hT] at hcv
   have e1:(k:Int)%10=(d:Int):=by omega
   have e1':(k:Int).tmod 10=(d:Int):=by rw [Int.tmod_eq_emod_of_nonneg (by omega)];exact e1
   have e2:(k:Int) / 10=(k2:Int):=by omega
   have e2':(k:Int).tdiv 10=(k2:Int):=by rw [Int.tdiv_eq_ediv_of_nonneg (by omega)];exact e2
   have e3:IntKind.i64.wrap (-(d:Int))=-(d:Int):=IntWalk.i64_in _ (by omega)
   have e4:IntKind.i64.wrap (48+(d:Int))=48+(d:Int):=IntWalk.i64_in _ (by omega)
   have e5:IntKind.u8.wrap (48+(d:Int))=48+(d:Int):=IntWalk.u8_in _ (by omega)
   have e6:¬ (d:Int) < -(d:Int):=by omega
   have e6':decide ((d:Int) < -(d:Int))=false:=decide_eq_false e6
   have hB2:Hid (Below w.heap.size w (wr.alloc (.cells #[.int .u8 (48+(d:Int))] 5))):=HB.out.alloc HB.out.size _
   have HS2:Hid (s2=T++s):=hs2
   have hk2n:k2≤n:=by omega
   have hmes:2*k2<2*k∨(k=0∧s.size=0):=by
    rcases hgo with h|h
    ·left;omega
    ·rcases Nat.eq_zero_or_pos k with h0|h0
     ·right
      refine ⟨h0,?_⟩
      rw [←list_len,h]
      rfl
     ·left;omega
   have hk20:k2≤k:=by omega
   have hs2':s2.size≤140737488355328-k2:=by
    have:s.size+1≤140737488355328-k2:=by
     rcases hgo with h|h
     ·have:k2<k:=by omega
      omega
     ·have:s.size=0:=by rw [←list_len,h];rfl
      omega
    omega
   have HTd:=Lib.hid hT
   have hd0:k=0→d=0:=fun h=>by omega
   clear hx hd hk2 hs2 hT hl2 HR HB
   by_cases h0:k=0
   ·obtain rfl:=hd0 h0
    subst h0
    have hcv0:=conv_one (P:=Tryz.prog) wr 48 48 rfl (by omega) 131 9 5 5 1 Tryz.underlying131 Tryz.underlying5 Tryz.underlying9
    rw [←HTd.out] at hcv0
    obtain ⟨_,hs0⟩:True∧s.size=0:=by
     rcases hmes with h|h
     ·omega
     ·exact ⟨trivial,h.2⟩
    obtain rfl:k2=0:=by omega
    have hsl:s.data.toList=[]:=List.eq_nil_of_length_eq_zero (by rw [list_len];exact hs0)
    have f1:s.toList.isEmpty=true:=by rw [ByteArray.toList_eq,hsl];rfl
    have f2:(s.toList==[])=true:=by rw [ByteArray.toList_eq,hsl];rfl
    have f3:s.toList=[]:=by rw [ByteArray.toList_eq,hsl]
    have hm3:¬ s2.size=0:=by
     rw [HS2.out,ByteArray.size_append]
     omega
    clear hsl hgo hmes hcv hd0 e1 e1' e2 e2' e3 e4 e5 e6 e6'
    go_wp2
    go_roundw
    case rel=>exact ⟨0,s2,by omega,hs2',rfl,by first|rfl|(rw [HS2.out]),HX.out,hB2.out⟩
    case measure =>
     have hTn:¬ T=ByteArray.empty:=by
      intro e
      rw [e] at HT1
      cases HT1
     simp [intOf,hs0,hm3,hTn]
   ·have f0:((k:Int) != 0)=true:=by simpa using h0
    have hm2:2*k2<2*k-1:=by
     rcases hmes with h|h
     ·omega
     ·exact absurd h.1 h0
    clear hmes hgo hd0
    go_wp2
    go_roundw
    case rel=>exact ⟨k2,s2,hk2n,hs2',rfl,by first|rfl|(rw [HS2.out]),HX.out,hB2.out⟩
    case measure=>simp [intOf];split<;>split<;>omega
  ·obtain ⟨h0,hne⟩:k=0∧s.data.toList≠[]:=by
    constructor
    ·rcases Nat.eq_zero_or_pos k with h|h
     ·exact h
     ·exact absurd (.inl (by omega)) hgo
    ·exact fun h=>hgo (.inr h)
   subst h0
   have f1:s.toList.isEmpty=false:=by
    rw [ByteArray.toList_eq]
    cases hx:s.data.toList with
    | nil=>exact absurd hx hne
    | cons a t=>rfl
   have f2:(s.toList==[])=false:=by
    rw [ByteArray.toList_eq,beq_eq_false_iff_ne]
    exact hne
   have HX:Hid (str R=s):=by
    show _=_
    rw [HR.out,restD_end _ hne]
    rfl
   have hn0:¬ (n:Int)<0:=by omega
   have hn1:decide ((n:Int)<0)=false:=decide_eq_false hn0
   clear hgo hne HR
   go_wp2
   go_ret
   exact ⟨by rw [HX.out];rfl,HB.out⟩
theorem cell_bel {w w':World} {g o:Nat} {v:Value} (h:w.cell? ⟨g,o,none⟩=some v) (hb:Below w.heap.size w w'):w'.cell? ⟨g,o,none⟩=some v:=(hb.cell (p:=⟨g,o,none⟩) (World.block_lt_of_cell? w _ h)).trans h
structure BelW (w0:World) where
 w:World
 h:Below w0.heap.size w0 w
theorem wp_region_bel {P:Program} {id:Nat} {Q:Exit→Act→World→Prop} {a:Act} {w w0:World} {l:List Oper} (hi:Below w0.heap.size w0 w) (hm:P.follows .mixedOrders=true) (hB:Region.lexB .any l.toArray=true)
  (h:wpQuiet P l.toArray (fun w'=>∃ x:BelW w0,w'=x.w) (fun a'=>∀ w',(∃ x:BelW w0,w'=x.w)→Q .normal a' w') l a):(Code.region id l.toArray true).wp P Q a w :=
 wp_region_quiet (C:=fun w'=>∃ x:BelW w0,w'=x.w) hm hB ⟨⟨w.drew,hi.drew⟩,rfl⟩ (by simpa using h)
theorem Calls.bel_class {P:Program} {f:FuncId} {args:Array Value} {w0:World} {x:BelW w0} {v:Value} (h:Calls P f args x.w fun e w'=>e=.returned v∧Below x.w.heap.size x.w w') :
  Calls P f args x.w fun e w''=>e=.returned v∧∃ y:BelW w0,w''=y.w :=
 h.mono fun _ w' ⟨he,hw⟩=>⟨he,⟨w',x.h.trans (hw.mono x.h.size)⟩,rfl⟩
theorem Calls.same_class {P:Program} {f:FuncId} {args:Array Value} {w0:World} {x:BelW w0} {v:Value} (h:Calls P f args x.w fun e w'=>e=.returned v∧w'=x.w) :
  Calls P f args x.w fun e w''=>e=.returned v∧∃ y:BelW w0,w''=y.w :=
 h.mono fun _ w' ⟨he,hw⟩=>⟨he,x,hw⟩
end Go.Proofs.YtnoopcenogbjiaaGreatDoor
