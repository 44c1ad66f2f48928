/-
 A row of strings of the call's own.
-/
import Derived.Test.YtnoopcenogbjiaaGreatDoorRow
import Derived.Laws.AppendOwn
import Derived.Laws.OwnMore
import Derived.Maps.OwnSet
import Derived.Maps.OwnOps
import Derived.Maps.Views
import Derived.StringKeys
import Derived.Lib.Hide
set_option linter.unusedVariables false
set_option linter.unusedSimpArgs false
namespace Go.Proofs.YtnoopcenogbjiaaGreatDoor
open Go.RowKit
def SOw (w:World) (base:Nat) (v:Value) (l:List (List UInt8)):Prop:=w.ownsRow base 9 1 v l.length (strs l)
theorem SOw.nil (w:World) (base:Nat):SOw w base (.slice none 0 0) []:=World.ownsRow_nil w base 9 1
theorem SOw.below {w w':World} {base:Nat} {v:Value} {l:List (List UInt8)} (h:SOw w base v l) (hb:Below w.heap.size w w'):SOw w' base v l:=own_below h hb
theorem SOw.rw {w:World} {base:Nat} {v:Value} {l:List (List UInt8)} (h:SOw w base v l):∃ p cap,v=.slice p l.length cap∧SRw w p l:=srw_of h
theorem SOw.grown {w w':World} {base:Nat} {v:Value} {l:List (List UInt8)} {b:Nat} (h:SOw w base v l) (hg:w.grownBy w' (some b)) (hb:b<base):SOw w' base v l:=by
 refine World.ownsRow.kept h hg ?_
 rcases h.2 with ⟨rfl,_⟩|⟨g,cap,cur,rfl,hb',_⟩
 ·exact .inl rfl
 ·exact .inr (by simp [Value.ownBlock];omega)
theorem SOw.apart {w:World} {base:Nat} {v:Value} {l:List (List UInt8)} {b:Nat} (h:SOw w base v l) (hb:b<base):some b≠v.ownBlock:=by
 rcases h.2 with ⟨rfl,_⟩|⟨g,cap,cur,rfl,hb',_⟩
 ·simp [Value.ownBlock]
 ·simp [Value.ownBlock];omega
theorem SOw.bel1 {B base:Nat} {w0 w w':World} {v:Value} {l:List (List UInt8)} {o:Obj} (h:SOw w base v l) (hb:Below B w0 w) (hB:B≤base) (hs:B≤w.heap.size) (hg:(w.alloc o).grownBy w' v.ownBlock):Below B w0 w' :=
 app_step hb h hg hB hs
theorem wp_so_one {ops:Array Oper} {rest:List Oper} {o:Oper} {a:Act} {Q:Exit→Act→World→Prop} {w:World} (hgd:o.guard=none) (sl x:Operand)
  (ho:o.op=.call { callee:=.builtin .append,args:=#[sl,x],argTypes:=#[41,41] })
  {base:Nat} {v:Value} {l:List (List UInt8)} (hs:a.eval sl=v) (hown:SOw w base v l) (s:ByteArray) (hx:a.eval x=.slice (some ⟨w.heap.size,0,none⟩) 1 1) (hb:l.length+1≤1048576) (hbase:base≤w.heap.size)
  (h:∀ v' w',SOw w' base v' (l++[s.data.toList])→(w.alloc (.cells #[.string s] 9)).grownBy w' v.ownBlock→wpList Tryz.prog ops Q rest (a.put o.dst v') w'):wpList Tryz.prog ops Q (o::rest) a (w.alloc (.cells #[.string s] 9)):=by
 obtain ⟨i0,hi,hz0,hz1,hz2⟩:=info_parts Tryz.infoStr
 have hown2:w.ownsRow base 9 1 v l.length (strs l):=hown
 exact wpList_append_own _ hgd sl x 41 ho base 9 i0 (.string ⟨#[]⟩) 1 16 Tryz.underlying41 hi hz0 hz1 hz2 rfl (by decide) v l.length (strs l) hs (hown2.alloc _) ⟨w.heap.size,0,none⟩ 1 1 [.string s] hx rfl (new_cell w _ _) (fun u hu=>by simp at hu;subst hu;rfl) (by unfold maxLen;omega) (by omega) (by simp;omega)
  (fun v' w' h1 h2 _=>h v' w' (by
   unfold SOw
   rw [strs_append,List.length_append]
   exact h1) h2)
theorem app_noneS (w:World) (base:Nat) (t ty e:TypeId) (i:TypeInfo) (size:Nat) (ht:Tryz.prog.underlying t=some (.slice e)) (hi:Tryz.prog.info? e=some i) (v:Value) (n:Nat) (xs:List Value) (ho:w.ownsRow base e size v n xs) (c:Nat) :
  (Builtin.append_ #[t,t] ty #[v,.slice none 0 c]).run Tryz.prog w=.ok v w:=by
 rcases ho.2 with ⟨rfl,rfl⟩|⟨g,cap,cur,rfl,_,_,hc,_⟩<;>simp [Builtin.append_,run_underlying ht,sizeOf,typeInfo,hi,Builtin.lenOf,Builtin.firstCells,storeCells, *]
theorem app_srwS (w:World) {ops:Array Oper} {rest:List Oper} {o:Oper} {a:Act} {Q:Exit→Act→World→Prop} (hgd:o.guard=none) (s x:Operand) (t:TypeId)
  (ho:o.op=.call { callee:=.builtin .append,args:=#[s,x],argTypes:=#[t,t] }) (ht:Tryz.prog.underlying t=some (.slice 9))
  (base:Nat) (v:Value) (n:Nat) (xs:List Value) (hs:a.eval s=v) (hown:w.ownsRow base 9 1 v n xs)
  (p:Option Addr) (m c:Nat) (news:List (List UInt8)) (hx:a.eval x=.slice p m c) (hm:m=news.length) (hr:SRw w p news)
  (hb:n+m≤1048576) (hbase:base≤w.heap.size)
  (h:∀ v' w',w'.ownsRow base 9 1 v' (n+m) (xs++strs news)→w.grownBy w' v.ownBlock→wpList Tryz.prog ops Q rest (a.put o.dst v') w'):wpList Tryz.prog ops Q (o::rest) a w:=by
 obtain ⟨i0,hi,hz0,hz1,hz2⟩:=info_parts Tryz.infoStr
 rcases p with _|ad
 ·have h0:news=[]:=by
   cases news with
   | nil=>rfl
   | cons y l =>
    obtain ⟨g,o',h1,_⟩:=hr 0 (by simp)
    cases h1
  subst h0
  obtain rfl:m=0:=hm
  refine wpList_plain hgd fun K hK=>?_
  have hrun:=app_noneS w base t o.type 9 i0 1 ht hi v n xs hown c
  unfold Oper.wp
  simp [execOp,ho,resolve,invoke,builtin,hs,hx,hrun,Result.andThen]
  exact hK _ _ (h v w (by simpa [strs] using hown) ⟨rfl,rfl,rfl,Nat.le_refl _,fun _ _ _=>rfl⟩)
 ·refine wpList_append_own w hgd s x t ho base 9 i0 (.string ⟨#[]⟩) 1 16 ht hi hz0 hz1 hz2 rfl (by decide) v n xs hs hown ad m c (strs news) hx (by rw [strs_len,Nat.mul_one,hm]) (fun j u hj=>?_) (strs_one _) (by unfold maxLen;omega) (by omega) hbase (fun v' w' h1 h2 _=>h v' w' h1 h2)
  have hj':j<news.length:=by
   have:=(List.getElem?_eq_some_iff.mp hj).1
   rwa [strs_len] at this
  obtain ⟨g,o',h1,_,h2⟩:=hr j hj'
  simp only [Option.some.injEq] at h1
  subst h1
  rw [Addr.add_lit,h2]
  have h3:(strs news)[j]?=some (Value.string (str news[j])):=by simp [strs,List.getElem?_map,List.getElem?_eq_getElem hj']
  rw [←h3,hj]
theorem wp_so_many {ops:Array Oper} {rest:List Oper} {o:Oper} {a:Act} {Q:Exit→Act→World→Prop} {w:World} (hgd:o.guard=none) (sl x:Operand)
  (ho:o.op=.call { callee:=.builtin .append,args:=#[sl,x],argTypes:=#[41,41] })
  {base:Nat} {v:Value} {l m:List (List UInt8)} (hs:a.eval sl=v) (hown:SOw w base v l) (p:Option Addr) (n c:Nat) (hx:a.eval x=.slice p n c) (hn:n=m.length) (hr:SRw w p m) (hb:l.length+n≤1048576) (hbase:base≤w.heap.size)
  (h:∀ v' w',SOw w' base v' (l++m)→w.grownBy w' v.ownBlock→wpList Tryz.prog ops Q rest (a.put o.dst v') w'):wpList Tryz.prog ops Q (o::rest) a w :=
 app_srwS w hgd sl x 41 ho Tryz.underlying41 base v l.length (strs l) hs hown p n c m hx hn hr hb hbase (fun v' w' h1 h2=>h v' w' (by
  unfold SOw
  rw [strs_append,List.length_append,←hn]
  exact h1) h2)
theorem SOw.mono {w:World} {B base:Nat} {v:Value} {l:List (List UInt8)} (h:SOw w base v l) (hB:B≤base):SOw w B v l:=by
 refine ⟨h.1,?_⟩
 rcases h.2 with h2|⟨g,cap,cur,h3,h4,h5⟩
 ·exact .inl h2
 ·exact .inr ⟨g,cap,cur,h3,by omega,h5⟩
theorem SOw.one (w:World) (s:ByteArray) {base:Nat} (hb:base≤w.heap.size):SOw (w.alloc (.cells #[.string s] 9)) base (.slice (some ⟨w.heap.size,0,none⟩) 1 1) [s.data.toList]:=by
 have h:=World.ownsRow_lit (base:=base) (e:=9) (size:=1) w #[.string s] 1 hb (by decide) rfl
 unfold SOw
 exact h
end Go.Proofs.YtnoopcenogbjiaaGreatDoor
/-
 A map from strings to bools that tells which strings are in a list.
-/
namespace Go.Proofs.YtnoopcenogbjiaaGreatDoor
open Go.RowKit Go.Maps Go.WideMaps
theorem str_keyedS:Keyed Tryz.prog 9:=string_keyed Tryz.underlying9
theorem zero_boolS (w:World):(zeroValue 4).run Tryz.prog w=.ok (.bool false) w:=by kernel_rfl
theorem make_sb (n:Int) (w:World):(Instr.makeMap 83 (some (.int .i64 n))).run Tryz.prog w=.ok (.map (some w.heap.size)) (w.alloc (.map #[] 0)):=by kernel_rfl
abbrev Msb (w:World) (b n:Nat) (D:DataW Unit):Prop:=w.ownsMap Tryz.prog 9 (plainElem (H:=Unit) Tryz.prog 4) b n D
theorem msb_new (w:World):Msb (w.alloc (.map #[] 0)) w.heap.size 0 (.map []):=World.ownsMap_made (H:=Unit) w Tryz.prog 9 (plainElem Tryz.prog 4)
theorem Msb.below {w w':World} {M n:Nat} {D:DataW Unit} (h:Msb w M n D) (hb:Below w.heap.size w w'):Msb w' M n D:=h.kept (grown_of_below hb) (by simp)
theorem msb_ne {w:World} {M n g j:Nat} {D:DataW Unit} {v:Value} (hM:Msb w M n D) (hc:w.cell? ⟨g,j,none⟩=some v):g≠M:=by
 rintro rfl
 obtain ⟨es,clock,hb,_⟩:=hM
 simp [World.cell?,hb] at hc
theorem sb_grown {w w' w'':World} {M:Nat} (h:w.grownBy w' (some M)) (h':w'.grownBy w'' (some M)):w.grownBy w'' (some M) :=
 ⟨h'.os.trans h.os,h'.tape.trans h.tape,h'.output.trans h.output,Nat.le_trans h.size h'.size,fun j hj hjM=>(h'.block j (Nat.lt_of_lt_of_le hj h.size) hjM).trans (h.block j hj hjM)⟩
theorem skeyS {t:ByteArray} (hs:t.size≤140737488355328):keyOf Tryz.prog 9 (.string t)=some (Lit.string t.data.toList):=keyOf_string_mk Tryz.underlying9 (by unfold maxLen;omega)
theorem plainElem_boolS {H:Type} {P:Program} {e:TypeId} (he:P.underlying e=some .bool) {v:Value} {z:DataW H×List MemPlace} (h:plainElem P e v=some z):∃ b,v=.bool b∧z=(.lit (.bool b),[]):=by
 unfold plainElem at h
 rw [he] at h
 cases v<;>simp at h
 exact ⟨_,rfl,h.symm⟩
theorem msb_look {w:World} {b n:Nat} {D:DataW Unit} (h:Msb w b n D) {t:ByteArray} (hs:t.size≤140737488355328) {B:Bool} (hat:D.atKey (.string t.data.toList) (.lit (.bool false))=.lit (.bool B)) :
  (Instr.lookup 83 (.map (some b)) (.string t) false).run Tryz.prog w=.ok (.bool B) w:=by
 obtain ⟨v,ps,h1,h2⟩:=h.lookup str_keyedS Tryz.underlying83 (zero_boolS w) (plainElem_bool Tryz.underlying4 false) (skeyS hs)
 rw [hat] at h2
 obtain ⟨c,rfl,hc⟩:=plainElem_boolS Tryz.underlying4 h2
 simp only [Prod.mk.injEq,DataW.lit.injEq,Lit.bool.injEq] at hc
 rw [hc.1]
 exact h1
structure IsSt (D:DataW Unit) (x:List (List UInt8)):Prop where
 tidy:Tidy D
 look:∀ q,D.atKey (.string q) (.lit (.bool false))=.lit (.bool (decide (q∈x)))
theorem isSt_nil:IsSt (.map []) []:=⟨tidy_empty,fun q=>by rw [atKey_of_not_has (h:=rfl)];rfl⟩
theorem IsSt.put {D:DataW Unit} {x:List (List UInt8)} (h:IsSt D x) (q:List UInt8):IsSt (D.put (.string q) (.lit (.bool true))) (x++[q]):=by
 have hkey:WideAt.IsKeyLit (Lit.string q):=trivial
 have hne:∀ z,z≠q→Lit.string z≠Lit.string q:=fun z hz e=>hz (Lit.string.inj e)
 refine ⟨h.tidy.put hkey _,fun z=>?_⟩
 by_cases e:z=q
 ·subst e
  rw [atKey_put_same h.tidy.isMap hkey]
  simp
 ·rw [atKey_put_other (hne z e),h.look z]
  simp [e]
end Go.Proofs.YtnoopcenogbjiaaGreatDoor
