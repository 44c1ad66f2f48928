/-
 A row of bytes that '[]byte(s)' has laid: its mark lies behind its cells; one byte appended.
-/
import Derived.Test.YtnoopcenogbjiaaGreatDoorLawPostPk
import Derived.ArgAppend
set_option linter.unusedVariables false
set_option linter.unusedSimpArgs false
namespace Go.Proofs.YtnoopcenogbjiaaGreatDoor
open Go.RowKit
def OwnM (w:World) (base:Nat) (e:TypeId) (v:Value) (n:Nat) (xs:List Value):Prop :=
 xs.length=n∧∃ (g cap:Nat) (cur:Array Value) (fz:Nat×Nat),v=.slice (some ⟨g,0,none⟩) n cap∧base≤g∧w.heap[g]?=some (.cells cur e fz)∧(fz.2=0∨cap≤fz.1)∧n≤cap∧cap≤maxLen∧cur.size=cap∧cur.toList.take n=xs
theorem OwnM.of_own {w:World} {base base':Nat} {e:TypeId} {v:Value} {n:Nat} {xs:List Value} (h:w.ownsRow base e 1 v n xs) (hn:0<n) (hb:base'≤base):OwnM w base' e v n xs:=by
 rcases h.2 with ⟨_,h0⟩|⟨g,cap,cur,rfl,hg,hh,hnc,hcm,hcs,ht⟩
 ·omega
 ·exact ⟨by simpa using h.1,g,cap,cur,(0,0),rfl,Nat.le_trans hb hg,hh,.inl rfl,hnc,hcm,by simpa using hcs,by simpa using ht⟩
theorem OwnM.alloc {w:World} {base:Nat} {e:TypeId} {v:Value} {n:Nat} {xs:List Value} (h:OwnM w base e v n xs) (o:Obj):OwnM (w.alloc o) base e v n xs:=by
 obtain ⟨hl,g,cap,cur,fz,rfl,hg,hh,hfz,hnc,hcm,hcs,ht⟩:=h
 refine ⟨hl,g,cap,cur,fz,rfl,hg,?_,hfz,hnc,hcm,hcs,ht⟩
 have hlt:g<w.heap.size:=by
  rcases Nat.lt_or_ge g w.heap.size with h'|h'
  ·exact h'
  ·simp [Array.getElem?_eq_none h'] at hh
 rw [Below.heap_alloc w o g hlt,hh]
theorem OwnM.block {w:World} {base:Nat} {e:TypeId} {v:Value} {n:Nat} {xs:List Value} (h:OwnM w base e v n xs):∃ g,v.ownBlock=some g∧base≤g:=by
 obtain ⟨hl,g,cap,cur,fz,rfl,hg,-⟩:=h
 exact ⟨g,rfl,hg⟩
theorem OwnM.start (w:World) (s:ByteArray) (e:TypeId) (hs:grownCap w s.size 0 e≤maxLen) :
  OwnM (w.drew.alloc (.cells (bytesRow s (grownCap w s.size 0 e)) e ((bytesRow s (grownCap w s.size 0 e)).size,(bytesRow s (grownCap w s.size 0 e)).size+1))) w.heap.size e (.slice (some ⟨w.heap.size,0,none⟩) s.size (grownCap w s.size 0 e)) s.size (bcells s.data.toList):=by
 have hge:=grownCap_ge w s.size 0 e
 have hsz:(bytesRow s (grownCap w s.size 0 e)).size=grownCap w s.size 0 e:=by
  simp only [bytesRow,Array.size_append,Array.size_map,Array.size_replicate]
  show s.size+_=_
  omega
 refine ⟨by simp [bcells],w.heap.size,grownCap w s.size 0 e,_,((bytesRow s (grownCap w s.size 0 e)).size,(bytesRow s (grownCap w s.size 0 e)).size+1),rfl,Nat.le_refl _,(show (w.heap.push (.cells (bytesRow s (grownCap w s.size 0 e)) e ((bytesRow s (grownCap w s.size 0 e)).size,(bytesRow s (grownCap w s.size 0 e)).size+1)))[w.heap.size]?=_ by simp),.inr (by show _≤(bytesRow s (grownCap w s.size 0 e)).size;rw [hsz];exact Nat.le_refl _),hge,hs,hsz,?_⟩
 simp only [bytesRow,Array.toList_append,Array.toList_map]
 rw [List.take_left' (by simp)]
 rfl
theorem OwnM.cells {w:World} {base:Nat} {e:TypeId} {g n cap:Nat} {xs:List Value} (h:OwnM w base e (.slice (some ⟨g,0,none⟩) n cap) n xs):∀ j u,xs[j]?=some u→w.cell? ((⟨g,0,none⟩:Addr).add j)=some u:=by
 obtain ⟨hl,g',cap',cur,fz,hv,hg,hh,hfz,hnc,hcm,hcs,ht⟩:=h
 obtain ⟨rfl,rfl⟩:g=g'∧cap=cap':=by simpa using hv
 intro j u hj
 rw [Addr.add_lit,Nat.zero_add]
 have hjl:j<n:=by rw [←hl];exact (List.getElem?_eq_some_iff.1 hj).1
 rw [←ht,List.getElem?_take_of_lt hjl] at hj
 simp only [World.cell?,hh]
 simpa using hj
theorem run_append_ownM {P:Program} (w:World) (base:Nat) (t ty e:TypeId) (i:TypeInfo) (z:Value) (ht:P.underlying t=some (.slice e)) (hi:P.info? e=some i) (hz:i.zero=some z)
  (hsize:i.size=1) (hby:i.bytes=1) (hzs:z.cells.size=1) (v:Value) (n:Nat) (xs:List Value) (hown:OwnM w base e v n xs) (a:Addr) (c:Nat) (x:Value) (hx:w.cell? (a.add 0)=some x) (h1:x.oneCell'=true)
  (hb:n+1≤140737488355328) (hbase:base≤w.heap.size) :
  ∃ v' w',(Builtin.append_ #[t,t] ty #[v,.slice (some a) 1 c]).run P w=.ok v' w'∧OwnM w' base e v' (n+1) (xs++[x])∧w.grownBy w' v.ownBlock:=by
 have hown0:=hown
 obtain ⟨hl,g,cap,cur,fz,rfl,hg,hh,hfz,hnc,hcm,hcs,htk⟩:=hown
 have hnews:∀ j u,[x][j]?=some u→w.cell? (a.add j)=some u:=by
  intro j u hj
  match j,hj with
  | 0,hj=>simp at hj;subst hj;exact hx
 by_cases hroom:n+1≤cap
 ·have hce:(w.cell? ⟨g,n,none⟩).isSome=true:=by
   simp only [World.cell?,hh]
   simp [hcs];omega
  have hfr:w.frozen? ⟨g,n,none⟩=false:=by
   simp only [World.frozen?,hh]
   rcases hfz with h|h
   ·simp [h]
   ·simp;omega
  have hr:=run_append_room_cells (P:=P) w t ty e i ht hi g 0 n cap a 1 c [x] (by simp [hsize]) hnews (by intro u hu;simp at hu;subst hu;exact h1) hroom
   (by intro j hj;simp at hj;subst hj;simpa [hsize] using hce) (by intro j hj;simp at hj;subst hj;simpa [hsize] using hfr)
  rw [hsize,Nat.mul_one,Nat.zero_add] at hr
  have hw:w.setCells g n [x]=w.setCell ⟨g,n,none⟩ x:=rfl
  rw [hw] at hr
  have hset:(w.setCell ⟨g,n,none⟩ x).heap[g]?=some (.cells (cur.setIfInBounds n x) e fz):=by simp [World.setCell,Array.getElem?_modify,hh]
  refine ⟨_,_,hr,⟨by simp [hl],g,cap,_,fz,rfl,hg,hset,hfz,hroom,hcm,by simp [hcs],?_⟩,⟨rfl,rfl,rfl,by simp,fun k _ hk=>Below.heap_setCell w _ _ _ (fun e=>hk (by rw [e];rfl))⟩⟩
  rw [Array.toList_setIfInBounds,List.take_succ_eq_append_getElem (by simp [hcs];omega),List.take_set_of_le (Nat.le_refl _),htk]
  simp
 ·obtain ⟨v',w',hrun,r1,r2⟩:=run_append_arg_grows (P:=P) w t ty e i z 1 1 ht hi hz hsize hby hzs (by decide) ⟨g,0,none⟩ n cap xs (by simpa using hl) hown0.cells a 1 c [x] rfl hnews (by omega) (by unfold maxLen;omega) (by omega)
  exact ⟨v',w',hrun,OwnM.of_own r1 (by omega) hbase,⟨r2.os,r2.tape,r2.output,r2.size,fun k hk _=>r2.block k hk (by simp)⟩⟩
theorem wpList_append_ownM {P:Program} {w:World} {ops:Array Oper} {rest:List Oper} {o:Oper} {a:Act} {Q:Exit→Act→World→Prop} (hgd:o.guard=none) (s x:Operand) (t:TypeId)
  (ho:o.op=.call { callee:=.builtin .append,args:=#[s,x],argTypes:=#[t,t] }) (base:Nat) (e:TypeId) (i:TypeInfo) (z:Value) (ht:P.underlying t=some (.slice e)) (hi:P.info? e=some i) (hz:i.zero=some z)
  (hsize:i.size=1) (hby:i.bytes=1) (hzs:z.cells.size=1) (v:Value) (n:Nat) (xs:List Value) (hs:a.eval s=v) (hown:OwnM w base e v n xs)
  (ad:Addr) (c:Nat) (u:Value) (hx:a.eval x=.slice (some ad) 1 c) (hu:w.cell? (ad.add 0)=some u) (h1:u.oneCell'=true) (hb:n+1≤140737488355328) (hbase:base≤w.heap.size)
  (h:∀ v' w',OwnM w' base e v' (n+1) (xs++[u])→w.grownBy w' v.ownBlock→wpList P ops Q rest (a.put o.dst v') w'):wpList P ops Q (o::rest) a w:=by
 refine wpList_plain hgd fun K hK=>?_
 obtain ⟨v',w',hrun,r1,r2⟩:=run_append_ownM (P:=P) w base t o.type e i z ht hi hz hsize hby hzs v n xs hown ad c u hu h1 hb hbase
 unfold Oper.wp
 simp [execOp,ho,resolve,invoke,builtin,hs,hx,hrun,Result.andThen]
 exact hK _ _ (h v' w' r1 r2)
theorem OwnM.conv {P:Program} {w:World} {base n:Nat} {v:Value} {l:List UInt8} (src dst e:TypeId) (hs:P.underlying src=some (.slice e)) (he:P.underlying e=some (.int .u8)) (hd:P.underlying dst=some .string)
  (h:OwnM w base e v n (bcells l)):(convert src dst v).run P w=.ok (.string (str l)) w:=by
 have hl:l.length=n:=by simpa [bcells] using h.1
 obtain ⟨_,g,cap,cur,fz,rfl,-⟩:=id h
 subst hl
 exact run_convert_bytes_back (P:=P) w src dst e ⟨g,0,none⟩ cap l hs he hd fun j hj=>h.cells j (.int .u8 (l[j].toNat:Int)) (by simp [bcells,List.getElem?_map,List.getElem?_eq_getElem hj])
theorem OwnM.step {B base:Nat} {w wr w2:World} {e:TypeId} {n:Nat} {v:Value} {xs:List Value} {o:Obj} (hbel:Below B w wr) (hown:OwnM wr base e v n xs) (hg:(wr.alloc o).grownBy w2 v.ownBlock) (hB:B≤base) (hs:B≤wr.heap.size):Below B w w2:=by
 obtain ⟨g,hv,hbg⟩:=hown.block
 exact (hbel.alloc hs o).grown hg (by simp;omega) (fun k hk=>by rw [hv] at hk;obtain rfl:=Option.some.inj hk;omega)
end Go.Proofs.YtnoopcenogbjiaaGreatDoor
