/-
 Trees, plain: entries, their order, what is wrong with a list, the encoding, edits.
-/
import Derived.Test.YtnoopcenogbjiaaGreatDoorPtIs
import Derived.Test.YtnoopcenogbjiaaGreatDoorIdRaw
import Derived.Test.YtnoopcenogbjiaaGreatDoorLawPostPk
import Derived.Test.YtnoopcenogbjiaaGreatDoorRow
set_option linter.unusedVariables false
set_option linter.unusedSimpArgs false
namespace Go.Proofs.YtnoopcenogbjiaaGreatDoor
open Go.RowKit
structure En where
 m:Int
 n:ByteArray
 i:ByteArray
deriving DecidableEq
def En.cells (e:En):List Value:=[.int .i64 e.m,.string e.n,.string e.i]
def En.zero:En:=⟨0,⟨#[]⟩,⟨#[]⟩⟩
def keyE (e:En):ByteArray:=if e.m=4 then e.n++⟨#[47]⟩ else e.n
def lessE (a b:En):Bool:=Op.bytesLess (keyE a).toList (keyE b).toList
def flatN (s:ByteArray):Bool:=decide (Lib.indexByte s.data.toList 47<0)
def okEn (e:En):Bool:=decide (1≤e.m)&&(decide (e.m≤4)&&(isP e.n&&(flatN e.n&&isId e.i)))
def badT (l:List En) (k:Nat):Nat :=
 if okEn (l.getD k En.zero)=false then 1
 else if 0<k∧lessE (l.getD (k-1) En.zero) (l.getD k En.zero)=false then 150
 else if (l.take k).any (fun e=>decide (e.n=(l.getD k En.zero).n))=true then 6 else 0
def chkFrom (l:List En) (k:Nat):Nat :=
 if k<l.length then (if badT l k=0 then chkFrom l (k+1) else badT l k) else 0
termination_by l.length-k
def chkT (l:List En):Nat:=if 1024<l.length then 4 else chkFrom l 0
theorem chkFrom_step {l:List En} {k:Nat} (h:k<l.length) (h0:badT l k=0):chkFrom l k=chkFrom l (k+1):=by
 rw [chkFrom,if_pos h,if_pos h0]
theorem chkFrom_bad {l:List En} {k:Nat} (h:k<l.length) (h0:badT l k≠0):chkFrom l k=badT l k:=by
 rw [chkFrom,if_pos h,if_neg h0]
theorem chkFrom_end {l:List En} {k:Nat} (h:¬ k<l.length):chkFrom l k=0:=by rw [chkFrom,if_neg h]
theorem chkFrom_ok {l:List En}:∀ (d k:Nat),d=l.length-k→(chkFrom l k=0↔∀ j,k≤j→j<l.length→badT l j=0)
 | 0,k,h=>by
  rw [chkFrom_end (by omega)]
  exact ⟨fun _ j h1 h2=>by omega,fun _=>rfl⟩
 | d+1,k,h=>by
  have hk:k<l.length:=by omega
  by_cases h0:badT l k=0
  ·rw [chkFrom_step hk h0,chkFrom_ok d (k+1) (by omega)]
   constructor
   ·intro h j h1 h2
    rcases Nat.lt_or_ge k j with h3|h3
    ·exact h j h3 h2
    ·obtain rfl:j=k:=by omega
     exact h0
   ·exact fun h j h1 h2=>h j (by omega) h2
  ·rw [chkFrom_bad hk h0]
   exact ⟨fun h=>absurd h h0,fun h=>h k (Nat.le_refl _) hk⟩
theorem chkT_ok {l:List En}:chkT l=0↔l.length≤1024∧∀ j,j<l.length→badT l j=0:=by
 unfold chkT
 split
 ·exact ⟨fun h=>by omega,fun h=>by omega⟩
 ·rw [chkFrom_ok _ 0 rfl]
  exact ⟨fun h=>⟨by omega,fun j hj=>h j (Nat.zero_le _) hj⟩,fun h j _ hj=>h.2 j hj⟩
theorem badT_ok {l:List En} {k:Nat} (h:badT l k=0):okEn (l.getD k En.zero)=true∧(0<k→lessE (l.getD (k-1) En.zero) (l.getD k En.zero)=true)∧∀ e∈l.take k,e.n≠(l.getD k En.zero).n:=by
 unfold badT at h
 split at h
 ·cases h
 split at h
 ·cases h
 split at h
 ·cases h
 rename_i h1 h2 h3
 refine ⟨by simpa using h1,fun hk=>?_,fun e he hn=>h3 ?_⟩
 ·simpa [hk] using h2
 ·rw [List.any_eq_true]
  exact ⟨e,he,by simpa using hn⟩
theorem badT_of {l:List En} {k:Nat} (h1:okEn (l.getD k En.zero)=true) (h2:0<k→lessE (l.getD (k-1) En.zero) (l.getD k En.zero)=true) (h3:∀ e∈l.take k,e.n≠(l.getD k En.zero).n):badT l k=0:=by
 unfold badT
 rw [if_neg (by rw [h1];decide),if_neg (fun h=>by rw [h2 h.1] at h;cases h.2),if_neg]
 simp only [Bool.not_eq_true,List.any_eq_false,decide_eq_true_eq]
 exact h3
def wordM (m:Int):List UInt8:=if m=1 then [49,48,48,54,52,52,32] else if m=2 then [49,48,48,55,53,53,32] else if m=3 then [49,50,48,48,48,48,32] else if m=4 then [52,48,48,48,48,32] else []
def encOne (e:En):List UInt8:=wordM e.m++e.n.data.toList++[0]++rawL e.i.data.toList 20
def encT (l:List En):List UInt8:=l.flatMap encOne
def bodyT (l:List En):List UInt8:=if chkT l=0 then encT l else []
def errTo (l:List UInt8):Nat→Nat
 | 0=>2
 | q+1=>if 1≤q∧Lib.hasPrefix (wordM q) l=true then 3 else errTo l q
def modeT (l:List UInt8):Nat×Nat :=
 if Lib.hasPrefix l (wordM 1)=true then (1,0) else if Lib.hasPrefix l (wordM 2)=true then (2,0) else if Lib.hasPrefix l (wordM 3)=true then (3,0) else if Lib.hasPrefix l (wordM 4)=true then (4,0)
 else (0,errTo l 5)
theorem errTo_le (l:List UInt8):∀ q,errTo l q=2∨errTo l q=3
 | 0=>.inl rfl
 | q+1=>by
  rw [errTo]
  split
  ·exact .inr rfl
  ·exact errTo_le l q
theorem modeT_hit {l:List UInt8} {q:Nat} (h1:1≤q) (h4:q≤4) (h:Lib.hasPrefix l (wordM q)=true) (hn:∀ j:Nat,1≤j→j<q→Lib.hasPrefix l (wordM j)=false):modeT l=(q,0):=by
 unfold modeT
 have:q=1∨q=2∨q=3∨q=4:=by omega
 rcases this with rfl|rfl|rfl|rfl
 ·exact if_pos h
 ·have a:=hn 1 (by omega) (by omega)
  rw [if_neg (by rw [show (1:Int)=((1:Nat):Int) from rfl,a];decide)]
  exact if_pos h
 ·have a:=hn 1 (by omega) (by omega)
  have b:=hn 2 (by omega) (by omega)
  rw [if_neg (by rw [show (1:Int)=((1:Nat):Int) from rfl,a];decide),if_neg (by rw [show (2:Int)=((2:Nat):Int) from rfl,b];decide)]
  exact if_pos h
 ·have a:=hn 1 (by omega) (by omega)
  have b:=hn 2 (by omega) (by omega)
  have c:=hn 3 (by omega) (by omega)
  rw [if_neg (by rw [show (1:Int)=((1:Nat):Int) from rfl,a];decide),if_neg (by rw [show (2:Int)=((2:Nat):Int) from rfl,b];decide),if_neg (by rw [show (3:Int)=((3:Nat):Int) from rfl,c];decide)]
  exact if_pos h
theorem modeT_miss {l:List UInt8} (hn:∀ j:Nat,1≤j→j<5→Lib.hasPrefix l (wordM j)=false):modeT l=(0,errTo l 5):=by
 unfold modeT
 have a:=hn 1 (by omega) (by omega)
 have b:=hn 2 (by omega) (by omega)
 have c:=hn 3 (by omega) (by omega)
 have d:=hn 4 (by omega) (by omega)
 rw [if_neg (by rw [show (1:Int)=((1:Nat):Int) from rfl,a];decide),if_neg (by rw [show (2:Int)=((2:Nat):Int) from rfl,b];decide),if_neg (by rw [show (3:Int)=((3:Nat):Int) from rfl,c];decide),if_neg (by rw [show (4:Int)=((4:Nat):Int) from rfl,d];decide)]
def restT (q:Nat) (r:List UInt8) (x:Int):Nat×En×List UInt8 :=
 if x<0∨r.length<x.toNat+21 then (3,En.zero,[]) else (0,⟨q,str (r.take x.toNat),str (hexL ((r.drop (x.toNat+1)).take 20))⟩,r.drop (x.toNat+21))
def oneT (l:List UInt8):Nat×En×List UInt8 :=
 if (modeT l).1=0 then ((modeT l).2,En.zero,[])
 else restT (modeT l).1 (l.drop (wordM (modeT l).1).length) (Lib.indexByte (l.drop (wordM (modeT l).1).length) 0)
def parFrom (l:List UInt8) (es:List En):Nat×List En :=
 if l=[] then (if chkT es=0 then (0,es) else (chkT es,[]))
 else if (oneT l).1≠0 then ((oneT l).1,[])
 else if (oneT l).2.2.length<l.length then parFrom (oneT l).2.2 (es++[(oneT l).2.1]) else (0,[])
termination_by l.length
def parE (l:List UInt8):Nat×List En:=parFrom l []
theorem key_dir {e:En} (h:e.m=4):keyE e=e.n++⟨#[47]⟩:=if_pos h
theorem key_file {e:En} (h:¬ e.m=4):keyE e=e.n:=if_neg h
set_option maxHeartbeats 1000000 in
theorem sortKey_any (m:Int) (n i:ByteArray) (w:World) (hs:n.size≤140737488355328) :
  Calls Tryz.prog 210 #[.agg #[.int .i64 m,.string n,.string i]] w fun e w'=>e=.returned (.string (keyE ⟨m,n,i⟩))∧Below w.heap.size w w':=by
 obtain ⟨K,hK⟩:∃ K,K=keyE ⟨m,n,i⟩:=⟨_,rfl⟩
 rw [←hK]
 have hb:Below w.heap.size w (w.alloc (.cells #[.int .i64 m,.string n,.string i] 107)):=below_new (Below.refl _ _) _
 by_cases h:m=4
 ·have HK:Hid (K=n++⟨#[47]⟩):=by rw [hK];exact key_dir h
  have h4:(m==4)=true:=by rw [h];rfl
  clear hK h
  go_enter Tryz.func210,Tryz.ntmps210
  go_wp2
  go_ret
  exact ⟨by rw [HK.out];rfl,hb⟩
 ·have HK:Hid (K=n):=by rw [hK];exact key_file h
  have h4:(m==4)=false:=by simpa using h
  clear hK
  go_enter Tryz.func210,Tryz.ntmps210
  go_wp2
  go_ret
  exact ⟨by rw [HK.out];rfl,hb⟩
set_option maxHeartbeats 1000000 in
theorem rkey_any (m:Int) (n i:ByteArray) (w:World) (hs:n.size≤140737488355328) :
  Calls Tryz.prog 138 #[.agg #[.int .i64 m,.string n,.string i]] w fun e w'=>e=.returned (.string (keyE ⟨m,n,i⟩))∧Below w.heap.size w w':=by
 obtain ⟨K,hK⟩:∃ K,K=keyE ⟨m,n,i⟩:=⟨_,rfl⟩
 rw [←hK]
 have hb:Below w.heap.size w (w.alloc (.cells #[.int .i64 m,.string n,.string i] 107)):=below_new (Below.refl _ _) _
 by_cases h:m=4
 ·have HK:Hid (K=n++⟨#[47]⟩):=by rw [hK];exact key_dir h
  have h4:(m==4)=true:=by rw [h];rfl
  clear hK h
  go_enter Tryz.func138,Tryz.ntmps138
  go_wp2
  go_ret
  exact ⟨by rw [HK.out];rfl,hb⟩
 ·have HK:Hid (K=n):=by rw [hK];exact key_file h
  have h4:(m==4)=false:=by simpa using h
  clear hK
  go_enter Tryz.func138,Tryz.ntmps138
  go_wp2
  go_ret
  exact ⟨by rw [HK.out];rfl,hb⟩
theorem two_ent (w:World) (a b:En):∃ w1,w1=(w.alloc (.cells #[.int .i64 a.m,.string a.n,.string a.i] 107)).alloc (.cells #[.int .i64 b.m,.string b.n,.string b.i] 107)∧Below w.heap.size w w1 ∧
  (w1.cell? ⟨w.heap.size,0,none⟩=some (.int .i64 a.m)∧w1.cell? ⟨w.heap.size,1,none⟩=some (.string a.n)∧w1.cell? ⟨w.heap.size,2,none⟩=some (.string a.i)) ∧
  (w1.cell? ⟨w.heap.size+1,0,none⟩=some (.int .i64 b.m)∧w1.cell? ⟨w.heap.size+1,1,none⟩=some (.string b.n)∧w1.cell? ⟨w.heap.size+1,2,none⟩=some (.string b.i)):=by
 have h0:=row_alloc (o':=.cells #[.int .i64 b.m,.string b.n,.string b.i] 107) (heap_alloc_new w (.cells #[.int .i64 a.m,.string a.n,.string a.i] 107)) (by simp)
 have h1:=heap_alloc_new (w.alloc (.cells #[.int .i64 a.m,.string a.n,.string a.i] 107)) (.cells #[.int .i64 b.m,.string b.n,.string b.i] 107)
 rw [World.size_alloc] at h1
 exact ⟨_,rfl,below_new (below_new (Below.refl _ _) _) _,⟨cell_of_row _ _ 0 _ _ _ h0,cell_of_row _ _ 1 _ _ _ h0,cell_of_row _ _ 2 _ _ _ h0⟩,cell_of_row _ _ 0 _ _ _ h1,cell_of_row _ _ 1 _ _ _ h1,cell_of_row _ _ 2 _ _ _ h1⟩
set_option maxHeartbeats 2000000 in
set_option maxRecDepth 4000 in
theorem tless_any (a b:En) (w:World) (ha:a.n.size≤140737488355328) (hb:b.n.size≤140737488355328) :
  Calls Tryz.prog 189 #[.agg #[.int .i64 a.m,.string a.n,.string a.i],.agg #[.int .i64 b.m,.string b.n,.string b.i]] w fun e w'=>e=.returned (.bool (lessE a b))∧Below w.heap.size w w':=by
 obtain ⟨w1,hw1,hbw,⟨a0,a1,a2⟩,b0,b1,b2⟩:=two_ent w a b
 have HB:=Lib.hid hbw
 have HW:=Lib.hid hw1
 obtain ⟨m,n,i⟩:=a
 obtain ⟨m',n',i'⟩:=b
 simp only at *
 have C1:=Lib.hid (fun (x:BelW w1)=>Calls.bel_class (x:=x) (sortKey_any m n i x.w ha))
 have C2:=Lib.hid (fun (x:BelW w1)=>Calls.bel_class (x:=x) (sortKey_any m' n' i' x.w hb))
 obtain ⟨R,hR⟩:∃ R,R=lessE ⟨m,n,i⟩ ⟨m',n',i'⟩:=⟨_,rfl⟩
 rw [←hR]
 unfold lessE at hR
 obtain ⟨k1,hk1⟩:∃ k,k=keyE ⟨m,n,i⟩:=⟨_,rfl⟩
 obtain ⟨k2,hk2⟩:∃ k,k=keyE ⟨m',n',i'⟩:=⟨_,rfl⟩
 rw [←hk1,←hk2] at hR
 rw [←hk1] at C1
 rw [←hk2] at C2
 have HR:=Lib.hid hR
 have q0:∀ x:BelW w1,x.w.cell? ⟨w.heap.size,0,none⟩=some (.int .i64 m):=fun x=>cell_bel a0 x.h
 have q1:∀ x:BelW w1,x.w.cell? ⟨w.heap.size,1,none⟩=some (.string n):=fun x=>cell_bel a1 x.h
 have q2:∀ x:BelW w1,x.w.cell? ⟨w.heap.size,2,none⟩=some (.string i):=fun x=>cell_bel a2 x.h
 have r0:∀ x:BelW w1,x.w.cell? ⟨w.heap.size+1,0,none⟩=some (.int .i64 m'):=fun x=>cell_bel b0 x.h
 have r1:∀ x:BelW w1,x.w.cell? ⟨w.heap.size+1,1,none⟩=some (.string n'):=fun x=>cell_bel b1 x.h
 have r2:∀ x:BelW w1,x.w.cell? ⟨w.heap.size+1,2,none⟩=some (.string i'):=fun x=>cell_bel b2 x.h
 have hq:Nonempty (BelW w1):=⟨⟨w1,Below.refl _ _⟩⟩
 clear hR hk1 hk2 ha hb hw1 hbw a0 a1 a2 b0 b1 b2
 go_enter Tryz.func189,Tryz.ntmps189
 go_upto_region 1 with fail
 rw [←HW.out]
 refine wp_region_bel (w0:=w1) (Below.refl _ _) (by kernel_rfl) (by kernel_rfl) ?_
 repeat (go_big_quiet_step ((go_at_call 210;first|(with_reducible exact C1.out _)|(with_reducible exact C2.out _))))
 refine wpQuiet_nil ?_
 rintro _ ⟨x,rfl⟩
 have HX:=Lib.hid (HB.out.trans (x.h.mono HB.out.size))
 go_wp2
 go_ret
 exact ⟨by rw [HR.out];rfl,HX.out⟩
set_option maxHeartbeats 2000000 in
set_option maxRecDepth 4000 in
theorem trless_any (a b:En) (w:World) (ha:a.n.size≤140737488355328) (hb:b.n.size≤140737488355328) :
  Calls Tryz.prog 119 #[.agg #[.int .i64 a.m,.string a.n,.string a.i],.agg #[.int .i64 b.m,.string b.n,.string b.i]] w fun e w'=>e=.returned (.bool (lessE a b))∧Below w.heap.size w w':=by
 obtain ⟨w1,hw1,hbw,⟨a0,a1,a2⟩,b0,b1,b2⟩:=two_ent w a b
 have HB:=Lib.hid hbw
 have HW:=Lib.hid hw1
 obtain ⟨m,n,i⟩:=a
 obtain ⟨m',n',i'⟩:=b
 simp only at *
 have C1:=Lib.hid (fun (x:BelW w1)=>Calls.bel_class (x:=x) (rkey_any m n i x.w ha))
 have C2:=Lib.hid (fun (x:BelW w1)=>Calls.bel_class (x:=x) (rkey_any m' n' i' x.w hb))
 obtain ⟨R,hR⟩:∃ R,R=lessE ⟨m,n,i⟩ ⟨m',n',i'⟩:=⟨_,rfl⟩
 rw [←hR]
 unfold lessE at hR
 obtain ⟨k1,hk1⟩:∃ k,k=keyE ⟨m,n,i⟩:=⟨_,rfl⟩
 obtain ⟨k2,hk2⟩:∃ k,k=keyE ⟨m',n',i'⟩:=⟨_,rfl⟩
 rw [←hk1,←hk2] at hR
 rw [←hk1] at C1
 rw [←hk2] at C2
 have HR:=Lib.hid hR
 have q0:∀ x:BelW w1,x.w.cell? ⟨w.heap.size,0,none⟩=some (.int .i64 m):=fun x=>cell_bel a0 x.h
 have q1:∀ x:BelW w1,x.w.cell? ⟨w.heap.size,1,none⟩=some (.string n):=fun x=>cell_bel a1 x.h
 have q2:∀ x:BelW w1,x.w.cell? ⟨w.heap.size,2,none⟩=some (.string i):=fun x=>cell_bel a2 x.h
 have r0:∀ x:BelW w1,x.w.cell? ⟨w.heap.size+1,0,none⟩=some (.int .i64 m'):=fun x=>cell_bel b0 x.h
 have r1:∀ x:BelW w1,x.w.cell? ⟨w.heap.size+1,1,none⟩=some (.string n'):=fun x=>cell_bel b1 x.h
 have r2:∀ x:BelW w1,x.w.cell? ⟨w.heap.size+1,2,none⟩=some (.string i'):=fun x=>cell_bel b2 x.h
 have hq:Nonempty (BelW w1):=⟨⟨w1,Below.refl _ _⟩⟩
 clear hR hk1 hk2 ha hb hw1 hbw a0 a1 a2 b0 b1 b2
 go_enter Tryz.func119,Tryz.ntmps119
 go_upto_region 1 with fail
 rw [←HW.out]
 refine wp_region_bel (w0:=w1) (Below.refl _ _) (by kernel_rfl) (by kernel_rfl) ?_
 repeat (go_big_quiet_step ((go_at_call 138;first|(with_reducible exact C1.out _)|(with_reducible exact C2.out _))))
 refine wpQuiet_nil ?_
 rintro _ ⟨x,rfl⟩
 have HX:=Lib.hid (HB.out.trans (x.h.mono HB.out.size))
 go_wp2
 go_ret
 exact ⟨by rw [HR.out];rfl,HX.out⟩
end Go.Proofs.YtnoopcenogbjiaaGreatDoor
