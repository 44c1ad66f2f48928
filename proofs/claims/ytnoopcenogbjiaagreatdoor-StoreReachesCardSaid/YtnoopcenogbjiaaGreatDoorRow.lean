/-
 Rows of the call's own, of bytes and of strings, carried over calls; rows of strings as they are read.
-/
import Derived.Test.YtnoopcenogbjiaaGreatDoorLawPostPk
import Derived.Lib.AppendStr
import Derived.Lib.Hide
import Derived.IntWalk
import Derived.Outline
import Derived.Deep.AppendLies
set_option linter.unusedVariables false
set_option linter.unusedSimpArgs false
namespace Go.Proofs.YtnoopcenogbjiaaGreatDoor
open Go.RowKit
theorem grown_of_below {w w':World} (h:Below w.heap.size w w'):w.grownBy w' none:=⟨h.os,h.tape,h.output,h.size,fun k hk _=>h.block k hk⟩
theorem own_below {w w':World} {base size n:Nat} {e:TypeId} {v:Value} {xs:List Value} (ho:w.ownsRow base e size v n xs) (h:Below w.heap.size w w'):w'.ownsRow base e size v n xs :=
 ho.kept (grown_of_below h) (by cases hv:v.ownBlock with
  | none=>exact .inl rfl
  | some g=>exact .inr (by simp))
def Ow (w:World) (base:Nat) (v:Value) (l:List UInt8):Prop:=w.ownsRow base 5 1 v l.length (bcells l)
theorem Ow.nil (w:World) (base:Nat):Ow w base (.slice none 0 0) []:=World.ownsRow_nil w base 5 1
theorem Ow.below {w w':World} {base:Nat} {v:Value} {l:List UInt8} (h:Ow w base v l) (hb:Below w.heap.size w w'):Ow w' base v l:=own_below h hb
theorem strCells_eq (s:ByteArray):Lib.strCells s=bcells s.data.toList:=rfl
theorem Ow.add {w:World} {base n:Nat} {v:Value} {l:List UInt8} {s:ByteArray} (hn:n=l.length+s.size) (h:w.ownsRow base 5 1 v n (bcells l++Lib.strCells s)):Ow w base v (l++s.data.toList):=by
 subst hn
 unfold Ow
 rw [bcells_append,List.length_append,list_len,←strCells_eq]
 exact h
theorem Ow.one {w:World} {base:Nat} {v:Value} {l:List UInt8} {c:UInt8} (h:w.ownsRow base 5 1 v (l.length+1) (bcells l++bcells [c])):Ow w base v (l++[c]):=by
 unfold Ow
 rw [bcells_append,List.length_append]
 exact h
theorem ext_bytes (s:ByteArray) (a b:Nat):(s.extract a b).data.toList=(s.data.toList.drop a).take (b-a):=Lib.extract_data s a b
theorem own_ty {w:World} {base size n P:Nat} {e t:TypeId} {v:Value} {xs:List Value} {c:Array Value} (h:w.ownsRow base e size v n xs) (hr:w.heap[P]?=some (.cells c t (0,0))) (ht:t≠e):v.ownBlock≠some P:=by
 rcases h.2 with ⟨rfl,_⟩|⟨g,cap,cur,rfl,_,hg,_⟩
 ·intro h;cases h
 ·intro h
  simp only [Value.ownBlock,Option.some.injEq] at h
  subst h
  rw [hg] at hr
  simp only [Option.some.injEq,Obj.cells.injEq] at hr
  exact ht hr.2.1.symm
theorem own_row {w w':World} {base n size P:Nat} {e t:TypeId} {v:Value} {xs:List Value} {c:Array Value} (h:w.ownsRow base e size v n xs) (hr:w.heap[P]?=some (.cells c t (0,0))) (ht:t≠e)
  (hP:P<w.heap.size) (hg:w.grownBy w' v.ownBlock):w'.heap[P]?=some (.cells c t (0,0)) :=
 (hg.block P hP (fun he=>own_ty h hr ht he.symm)).trans hr
theorem row_alloc {w:World} {P:Nat} {o o':Obj} (hr:w.heap[P]?=some o) (hP:P<w.heap.size):(w.alloc o').heap[P]?=some o:=(Below.heap_alloc w o' P hP).trans hr
theorem row_lt {w:World} {P:Nat} {o:Obj} (hr:w.heap[P]?=some o):P<w.heap.size:=(Array.getElem?_eq_some_iff.mp hr).1
def strs (ls:List (List UInt8)):List Value:=ls.map fun l=>Value.string (str l)
theorem strs_len (ls:List (List UInt8)):(strs ls).length=ls.length:=by simp [strs]
theorem strs_append (a b:List (List UInt8)):strs (a++b)=strs a++strs b:=by simp [strs]
theorem strs_one (ls:List (List UInt8)):∀ u∈strs ls,u.oneCell'=true:=by
 intro u hu;simp only [strs,List.mem_map] at hu;obtain ⟨b,_,rfl⟩:=hu;rfl
theorem Tryz.infoStr:(Tryz.prog.info? 9).map (fun i=>(i.zero,i.size,i.bytes))=some (some (.string ⟨#[]⟩),1,16):=by kernel_rfl
def SRw (w:World) (p:Option Addr) (ls:List (List UInt8)):Prop:=∀ k (h:k<ls.length),∃ g o,p=some ⟨g,o,none⟩∧g<w.heap.size∧w.cell? ⟨g,o+k,none⟩=some (.string (str ls[k]))
theorem SRw.below {w w':World} {p:Option Addr} {ls:List (List UInt8)} (h:SRw w p ls) (hb:Below w.heap.size w w'):SRw w' p ls:=fun k hk=>by
 obtain ⟨g,o,rfl,hg,h0⟩:=h k hk
 exact ⟨g,o,rfl,Nat.lt_of_lt_of_le hg hb.size,(hb.cell (p:=⟨g,o+k,none⟩) hg).trans h0⟩
theorem SRw.none (w:World) (p:Option Addr):SRw w p []:=fun k hk=>absurd hk (Nat.not_lt_zero _)
theorem srw_of {w:World} {base:Nat} {e:TypeId} {v:Value} {ls:List (List UInt8)} (h:w.ownsRow base e 1 v ls.length (strs ls)):∃ p cap,v=.slice p ls.length cap∧SRw w p ls:=by
 have h':=h
 rcases h'.2 with ⟨rfl,hx⟩|⟨g,cap,cur,rfl,_,hg,_⟩
 ·have h0:ls=[]:=by
   cases ls with
   | nil=>rfl
   | cons p ps=>simp at hx
  subst h0
  exact ⟨.none,0,rfl,SRw.none _ _⟩
 ·refine ⟨_,cap,rfl,fun k hk=>⟨g,0,rfl,(Array.getElem?_eq_some_iff.mp hg).1,?_⟩⟩
  have h1:=h.cells (g:=g) rfl k (.string (str ls[k])) (by simp [strs,List.getElem?_map,List.getElem?_eq_getElem hk])
  rw [Addr.add_lit,Nat.zero_add] at h1
  rw [Nat.zero_add]
  exact h1
theorem below_new {W w:World} (h:Below W.heap.size W w) (o:Obj):Below W.heap.size W (w.alloc o):=h.alloc h.size o
theorem below_own {W w w':World} {base size n:Nat} {e:TypeId} {v:Value} {xs:List Value} (h:Below W.heap.size W w) (ho:w.ownsRow base e size v n xs) (hB:W.heap.size≤base) (hg:w.grownBy w' v.ownBlock):Below W.heap.size W w' :=
 h.grown hg h.size (fun k hk=>Nat.le_trans hB (ho.lt k hk).1)
theorem make_fun (P:Program):∀ (fn:Fn) (first cap:Array Value) (w:World),(Instr.makeFunc fn first cap).run P w=.ok (.func fn first cap) w:=fun _ _ _ _=>rfl
end Go.Proofs.YtnoopcenogbjiaaGreatDoor
