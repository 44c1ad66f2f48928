/-
 The walk of absorb: block by block.
-/
import Derived.Test.YtnoopcenogbjiaaGreatDoorShaRBlockPk
import Derived.Deep.RegionHeld3
import Derived.Deep.DeepCutAuto
set_option linter.unusedVariables false
set_option linter.unusedSimpArgs false
namespace Go.Proofs.YtnoopcenogbjiaaGreatDoor
open Go.RowKit
def cells8 (v:St):Array Value:=#[.int .u32 (v.a:Int),.int .u32 (v.b:Int),.int .u32 (v.c:Int),.int .u32 (v.d:Int),.int .u32 (v.e:Int),.int .u32 (v.f:Int),.int .u32 (v.g:Int),.int .u32 (v.h:Int)]
def zero8:St:=⟨0,0,0,0,0,0,0,0⟩
abbrev Eight (w:World) (B:Nat) (v:St):Prop :=
 w.cell? ⟨B,0,none⟩=some (.int .u32 (v.a:Int))∧w.cell? ⟨B,1,none⟩=some (.int .u32 (v.b:Int))∧w.cell? ⟨B,2,none⟩=some (.int .u32 (v.c:Int))∧w.cell? ⟨B,3,none⟩=some (.int .u32 (v.d:Int)) ∧
 w.cell? ⟨B,4,none⟩=some (.int .u32 (v.e:Int))∧w.cell? ⟨B,5,none⟩=some (.int .u32 (v.f:Int))∧w.cell? ⟨B,6,none⟩=some (.int .u32 (v.g:Int))∧w.cell? ⟨B,7,none⟩=some (.int .u32 (v.h:Int))
theorem Eight.of_row {w:World} {B:Nat} {v:St} {t:TypeId} {fr:Nat×Nat} (h:w.heap[B]?=some (.cells (cells8 v) t fr)):Eight w B v :=
 ⟨cell_of_row w B 0 _ _ _ h,cell_of_row w B 1 _ _ _ h,cell_of_row w B 2 _ _ _ h,cell_of_row w B 3 _ _ _ h,cell_of_row w B 4 _ _ _ h,cell_of_row w B 5 _ _ _ h,cell_of_row w B 6 _ _ _ h,cell_of_row w B 7 _ _ _ h⟩
theorem Eight.below {w w':World} {B B':Nat} {v:St} (h:Eight w B v) (hb:Below B' w w') (hB:B<B'):Eight w' B v:=by
 obtain ⟨h0,h1,h2,h3,h4,h5,h6,h7⟩:=h
 exact ⟨(hb.cell (p:=⟨B,0,none⟩) hB).trans h0,(hb.cell (p:=⟨B,1,none⟩) hB).trans h1,(hb.cell (p:=⟨B,2,none⟩) hB).trans h2,(hb.cell (p:=⟨B,3,none⟩) hB).trans h3,(hb.cell (p:=⟨B,4,none⟩) hB).trans h4,(hb.cell (p:=⟨B,5,none⟩) hB).trans h5,(hb.cell (p:=⟨B,6,none⟩) hB).trans h6,(hb.cell (p:=⟨B,7,none⟩) hB).trans h7⟩
structure AbsW (w wr:World) (v:St):Prop where
 below:Below w.heap.size w wr
 k:KTab wr
 s:wr.heap[w.heap.size]?=some (.cells (cells8 v) 153 (0,0))
 r:wr.heap[w.heap.size+1]?=some (.cells (cells8 zero8) 153 (0,0))
theorem AbsW.start {w:World} (hk:KTab w) (v:St):AbsW w ((w.alloc (.cells (cells8 v) 153)).alloc (.cells (cells8 zero8) 153)) v:=by
 have hb:=((Below.refl _ w).alloc (Nat.le_refl _) (.cells (cells8 v) 153)).alloc (by simp) (.cells (cells8 zero8) 153)
 exact ⟨hb,hk.below hb,heap_alloc2_old w _ _,heap_alloc2_new w _ _⟩
theorem sched_from {w0 w:World} (h:Below w0.heap.size w0 w) (s:ByteArray) (hs:s.size=64) :
  Calls Tryz.prog 166 #[.string s] w fun e w'=>e=.returned (.agg (u32s (sched (words16 s.data.toList 0) 48)))∧Below w0.heap.size w0 w'∧Below w.heap.size w w' :=
 (sched_any s w hs).mono fun _ _ x=>⟨x.1,h.trans (x.2.mono h.size),x.2⟩
theorem mix_from {w0 w:World} (h:Below w0.heap.size w0 w) (hk:KTab w0) (s:St) (l:List Nat) (hs:s.ok) (hl:l.length=64) (hlw:∀ x∈l,x<4294967296) :
  Calls Tryz.prog 165 #[stV s,.agg (u32s l)] w fun e w'=>e=.returned (stV (rounds s l 64))∧Below w0.heap.size w0 w'∧Below w.heap.size w w' :=
 (mix_any s l w hs hl hlw (hk.below h)).mono fun _ _ x=>⟨x.1,h.trans (x.2.mono h.size),x.2⟩
def CutW (wr:World) (m:St) (p:Value) (wx:World):Prop:=∃ g,p=.pointer (some ⟨g,0,none⟩)∧wr.heap.size≤g∧Eight wx g m∧Below wr.heap.size wr wx
def Zero8 (w:World) (g:Nat):Prop:=Eight w g zero8∧w.frozen? ⟨g,0,none⟩=false∧w.frozen? ⟨g,1,none⟩=false∧w.frozen? ⟨g,2,none⟩=false∧w.frozen? ⟨g,3,none⟩=false∧w.frozen? ⟨g,4,none⟩=false∧w.frozen? ⟨g,5,none⟩=false∧w.frozen? ⟨g,6,none⟩=false∧w.frozen? ⟨g,7,none⟩=false
theorem Zero8.below {w w':World} {g B:Nat} (h:Zero8 w g) (hb:Below B w w') (hg:g<B):Zero8 w' g:=by
 obtain ⟨h,f0,f1,f2,f3,f4,f5,f6,f7⟩:=h
 exact ⟨h.below hb hg,(hb.frozen (p:=⟨g,0,none⟩) hg).trans f0,(hb.frozen (p:=⟨g,1,none⟩) hg).trans f1,(hb.frozen (p:=⟨g,2,none⟩) hg).trans f2,(hb.frozen (p:=⟨g,3,none⟩) hg).trans f3,(hb.frozen (p:=⟨g,4,none⟩) hg).trans f4,(hb.frozen (p:=⟨g,5,none⟩) hg).trans f5,(hb.frozen (p:=⟨g,6,none⟩) hg).trans f6,(hb.frozen (p:=⟨g,7,none⟩) hg).trans f7⟩
theorem Zero8.new (X:World):Zero8 (X.alloc (.cells #[.int .u32 0,.int .u32 0,.int .u32 0,.int .u32 0,.int .u32 0,.int .u32 0,.int .u32 0,.int .u32 0] 153)) X.heap.size:=by
 have hb:(X.alloc (.cells (cells8 zero8) 153)).heap[X.heap.size]?=some (.cells (cells8 zero8) 153 (0,0)):=heap_alloc_new X _
 exact ⟨Eight.of_row hb,frozen_of_row _ _ _ _ _ hb,frozen_of_row _ _ _ _ _ hb,frozen_of_row _ _ _ _ _ hb,frozen_of_row _ _ _ _ _ hb,frozen_of_row _ _ _ _ _ hb,frozen_of_row _ _ _ _ _ hb,frozen_of_row _ _ _ _ _ hb,frozen_of_row _ _ _ _ _ hb⟩
theorem keepA {wr X w':World} (h0:Below wr.heap.size wr X) (hb:Below (X.alloc (.cells #[.int .u32 0,.int .u32 0,.int .u32 0,.int .u32 0,.int .u32 0,.int .u32 0,.int .u32 0,.int .u32 0] 153)).heap.size (X.alloc (.cells #[.int .u32 0,.int .u32 0,.int .u32 0,.int .u32 0,.int .u32 0,.int .u32 0,.int .u32 0,.int .u32 0] 153)) w'):Hid (Zero8 w' X.heap.size∧X.heap.size<w'.heap.size∧wr.heap.size≤X.heap.size) :=
 ⟨(Zero8.new X).below hb (by simp),by have:=hb.size;simp at this;omega,h0.size⟩
theorem keepD {wr w':World} (hb:Below (wr.alloc (.cells #[.int .u32 0,.int .u32 0,.int .u32 0,.int .u32 0,.int .u32 0,.int .u32 0,.int .u32 0,.int .u32 0] 153)).drew.heap.size (wr.alloc (.cells #[.int .u32 0,.int .u32 0,.int .u32 0,.int .u32 0,.int .u32 0,.int .u32 0,.int .u32 0,.int .u32 0] 153)).drew w'):Hid (Zero8 w' wr.heap.size∧wr.heap.size<w'.heap.size∧wr.heap.size≤wr.heap.size) :=
 ⟨(Zero8.new wr).below (B:=(wr.alloc (.cells #[.int .u32 0,.int .u32 0,.int .u32 0,.int .u32 0,.int .u32 0,.int .u32 0,.int .u32 0,.int .u32 0] 153)).heap.size) ⟨hb.os,hb.tape,hb.output,hb.size,hb.block⟩ (by simp),by have:=hb.size;simp at this;omega,Nat.le_refl _⟩
theorem keepB {wr w1 w':World} {g:Nat} (h:Hid (Zero8 w1 g∧g<w1.heap.size∧wr.heap.size≤g)) (hb:Below w1.heap.size w1 w'):Hid (Zero8 w' g∧g<w'.heap.size∧wr.heap.size≤g) :=
 ⟨h.out.1.below hb h.out.2.1,Nat.lt_of_lt_of_le h.out.2.1 hb.size,h.out.2.2⟩
theorem absS {w wr w':World} {u:St} (h:AbsW w wr u) (hb:Below wr.heap.size wr w'):Below wr.heap.size wr w'∧Eight w' w.heap.size u :=
 ⟨hb,(Eight.of_row h.s).below hb (World.block_lt_of_cell? wr ⟨w.heap.size,0,none⟩ (Eight.of_row h.s).1)⟩
theorem absAl {w wr w1:World} {u:St} (h:AbsW w wr u) (hb:Below wr.heap.size wr w1) (o:Obj):Below wr.heap.size wr (w1.alloc o)∧Eight (w1.alloc o) w.heap.size u:=absS h (hb.alloc hb.size o)
theorem below_set8 {wr w1:World} {g:Nat} {v0 v1 v2 v3 v4 v5 v6 v7:Value} (hb:Below wr.heap.size wr w1) (hg:wr.heap.size≤g) :
  Below wr.heap.size wr ((((((((w1.setCell ⟨g,0,none⟩ v0).setCell ⟨g,1,none⟩ v1).setCell ⟨g,2,none⟩ v2).setCell ⟨g,3,none⟩ v3).setCell ⟨g,4,none⟩ v4).setCell ⟨g,5,none⟩ v5).setCell ⟨g,6,none⟩ v6).setCell ⟨g,7,none⟩ v7) :=
 Below.setCell (Below.setCell (Below.setCell (Below.setCell (Below.setCell (Below.setCell (Below.setCell (Below.setCell hb (p:=⟨g,0,none⟩) hg _) (p:=⟨g,1,none⟩) hg _) (p:=⟨g,2,none⟩) hg _) (p:=⟨g,3,none⟩) hg _) (p:=⟨g,4,none⟩) hg _) (p:=⟨g,5,none⟩) hg _) (p:=⟨g,6,none⟩) hg _) (p:=⟨g,7,none⟩) hg _
theorem below_set8' {W w1:World} {g B:Nat} {v0 v1 v2 v3 v4 v5 v6 v7:Value} (hb:Below B W w1) (hg:B≤g) :
  Below B W ((((((((w1.setCell ⟨g,0,none⟩ v0).setCell ⟨g,1,none⟩ v1).setCell ⟨g,2,none⟩ v2).setCell ⟨g,3,none⟩ v3).setCell ⟨g,4,none⟩ v4).setCell ⟨g,5,none⟩ v5).setCell ⟨g,6,none⟩ v6).setCell ⟨g,7,none⟩ v7) :=
 Below.setCell (Below.setCell (Below.setCell (Below.setCell (Below.setCell (Below.setCell (Below.setCell (Below.setCell hb (p:=⟨g,0,none⟩) hg _) (p:=⟨g,1,none⟩) hg _) (p:=⟨g,2,none⟩) hg _) (p:=⟨g,3,none⟩) hg _) (p:=⟨g,4,none⟩) hg _) (p:=⟨g,5,none⟩) hg _) (p:=⟨g,6,none⟩) hg _) (p:=⟨g,7,none⟩) hg _
theorem below_al {wr w1:World} (hb:Below wr.heap.size wr w1) (o:Obj):Below wr.heap.size wr (w1.alloc o):=hb.alloc hb.size o
theorem below_al1 (wr:World) (o:Obj):Below wr.heap.size wr (wr.drew.alloc o):=((Below.refl _ wr).drew).alloc (Nat.le_refl _) o
theorem below_al2 (wr:World) (o:Obj):Below wr.heap.size wr (wr.alloc o).drew:=((Below.refl _ wr).alloc (Nat.le_refl _) o).drew
theorem below_sz {wr w1:World} (hb:Below wr.heap.size wr w1):wr.heap.size≤w1.heap.size:=hb.size
theorem cs_same {w:World} {g o:Nat} {v u:Value} (h:w.cell? ⟨g,o,none⟩=some u):(w.setCell ⟨g,o,none⟩ v).cell? ⟨g,o,none⟩=some v:=World.cell?_setCell_same w ⟨g,o,none⟩ v h
theorem cs_ne {w:World} {g o o':Nat} {v:Value} {x:Option Value} (hne:o≠o') (h:w.cell? ⟨g,o',none⟩=x):(w.setCell ⟨g,o,none⟩ v).cell? ⟨g,o',none⟩=x :=
 (World.cell?_setCell_other w _ _ v (fun e=>hne (by simp only [Addr.mk.injEq] at e;exact e.2.1▸rfl))).trans h
theorem Eight.set8 {w1:World} {g:Nat} {z m:St} (h:Eight w1 g z):Eight ((((((((w1.setCell ⟨g,0,none⟩ (.int .u32 (m.a:Int))).setCell ⟨g,1,none⟩ (.int .u32 (m.b:Int))).setCell ⟨g,2,none⟩ (.int .u32 (m.c:Int))).setCell ⟨g,3,none⟩ (.int .u32 (m.d:Int))).setCell ⟨g,4,none⟩ (.int .u32 (m.e:Int))).setCell ⟨g,5,none⟩ (.int .u32 (m.f:Int))).setCell ⟨g,6,none⟩ (.int .u32 (m.g:Int))).setCell ⟨g,7,none⟩ (.int .u32 (m.h:Int))) g m:=by
 obtain ⟨z0,z1,z2,z3,z4,z5,z6,z7⟩:=h
 exact ⟨cs_ne (by decide) (cs_ne (by decide) (cs_ne (by decide) (cs_ne (by decide) (cs_ne (by decide) (cs_ne (by decide) (cs_ne (by decide) (cs_same (z0)))))))),cs_ne (by decide) (cs_ne (by decide) (cs_ne (by decide) (cs_ne (by decide) (cs_ne (by decide) (cs_ne (by decide) (cs_same (cs_ne (by decide) (z1)))))))),cs_ne (by decide) (cs_ne (by decide) (cs_ne (by decide) (cs_ne (by decide) (cs_ne (by decide) (cs_same (cs_ne (by decide) (cs_ne (by decide) (z2)))))))),cs_ne (by decide) (cs_ne (by decide) (cs_ne (by decide) (cs_ne (by decide) (cs_same (cs_ne (by decide) (cs_ne (by decide) (cs_ne (by decide) (z3)))))))),cs_ne (by decide) (cs_ne (by decide) (cs_ne (by decide) (cs_same (cs_ne (by decide) (cs_ne (by decide) (cs_ne (by decide) (cs_ne (by decide) (z4)))))))),cs_ne (by decide) (cs_ne (by decide) (cs_same (cs_ne (by decide) (cs_ne (by decide) (cs_ne (by decide) (cs_ne (by decide) (cs_ne (by decide) (z5)))))))),cs_ne (by decide) (cs_same (cs_ne (by decide) (cs_ne (by decide) (cs_ne (by decide) (cs_ne (by decide) (cs_ne (by decide) (cs_ne (by decide) (z6)))))))),cs_same (cs_ne (by decide) (cs_ne (by decide) (cs_ne (by decide) (cs_ne (by decide) (cs_ne (by decide) (cs_ne (by decide) (cs_ne (by decide) (z7))))))))⟩
theorem cutA {wr w1:World} {m:St} (hb:Below wr.heap.size wr w1):CutW wr m (.pointer (some ⟨w1.heap.size,0,none⟩)) (w1.alloc (.cells #[.int .u32 (m.a:Int),.int .u32 (m.b:Int),.int .u32 (m.c:Int),.int .u32 (m.d:Int),.int .u32 (m.e:Int),.int .u32 (m.f:Int),.int .u32 (m.g:Int),.int .u32 (m.h:Int)] 153)) :=
 ⟨w1.heap.size,rfl,hb.size,Eight.of_row (v:=m) (heap_alloc_new w1 _),below_al hb _⟩
theorem cutB {wr w1:World} {g:Nat} {m:St} (h:Hid (Zero8 w1 g∧g<w1.heap.size∧wr.heap.size≤g)) (hb:Below wr.heap.size wr w1):CutW wr m (.pointer (some ⟨g,0,none⟩)) ((((((((w1.setCell ⟨g,0,none⟩ (.int .u32 (m.a:Int))).setCell ⟨g,1,none⟩ (.int .u32 (m.b:Int))).setCell ⟨g,2,none⟩ (.int .u32 (m.c:Int))).setCell ⟨g,3,none⟩ (.int .u32 (m.d:Int))).setCell ⟨g,4,none⟩ (.int .u32 (m.e:Int))).setCell ⟨g,5,none⟩ (.int .u32 (m.f:Int))).setCell ⟨g,6,none⟩ (.int .u32 (m.g:Int))).setCell ⟨g,7,none⟩ (.int .u32 (m.h:Int))) :=
 ⟨g,rfl,h.out.2.2,h.out.1.1.set8,below_set8 hb h.out.2.2⟩
theorem AbsW.on {w wr wx:World} {v:St} (h:AbsW w wr v) (hb:Below wr.heap.size wr wx):AbsW w wx v :=
 ⟨h.below.trans (hb.mono h.below.size),h.k.below hb,(hb.block _ (World.block_lt_of_cell? wr ⟨w.heap.size,0,none⟩ (Eight.of_row h.s).1)).trans h.s,(hb.block _ (World.block_lt_of_cell? wr ⟨w.heap.size+1,0,none⟩ (Eight.of_row h.r).1)).trans h.r⟩
def addN (u m:St) (j:Nat):St:=⟨if 0<j then (u.a+m.a)%4294967296 else u.a,if 1<j then (u.b+m.b)%4294967296 else u.b,if 2<j then (u.c+m.c)%4294967296 else u.c,if 3<j then (u.d+m.d)%4294967296 else u.d,if 4<j then (u.e+m.e)%4294967296 else u.e,if 5<j then (u.f+m.f)%4294967296 else u.f,if 6<j then (u.g+m.g)%4294967296 else u.g,if 7<j then (u.h+m.h)%4294967296 else u.h⟩
theorem AbsW.set {w wr:World} {v v':St} {j x:Nat} (hk:KTab w) (h:AbsW w wr v) (hv:(cells8 v).setIfInBounds j (.int .u32 (x:Int))=cells8 v'):AbsW w (wr.setCell ⟨w.heap.size,j,none⟩ (.int .u32 (x:Int))) v':=by
 have hb:=h.below.setCell (p:=⟨w.heap.size,j,none⟩) (Nat.le_refl _) (.int .u32 (x:Int))
 have hs:=heap_setCell_same wr w.heap.size j _ _ (.int .u32 (x:Int)) h.s
 rw [hv] at hs
 exact ⟨hb,hk.below hb,hs,(Below.heap_setCell wr ⟨w.heap.size,j,none⟩ _ _ (by simp)).trans h.r⟩
theorem word_extract (s:ByteArray) (p i:Nat) (hp:p+64≤s.size) (hi:i<64):(s.extract p (p+64)).data.toList.getD i 0=s.data.toList.getD (p+i) 0:=by
 rw [Lib.extract_data,Nat.add_sub_cancel_left,List.getD_eq_getElem?_getD,List.getD_eq_getElem?_getD,List.getElem?_take_of_lt hi,List.getElem?_drop]
theorem words_extract (s:ByteArray) (p:Nat) (hp:p+64≤s.size):words16 (s.extract p (p+64)).data.toList 0=words16 s.data.toList p:=by
 unfold words16
 apply List.map_congr_left
 intro t ht
 rw [List.mem_range] at ht
 unfold word4
 rw [word_extract s p _ hp (by omega),word_extract s p _ hp (by omega),word_extract s p _ hp (by omega),word_extract s p _ hp (by omega)]
 simp only [Nat.zero_add,Nat.add_assoc]
set_option maxHeartbeats 2000000 in
set_option maxRecDepth 10000 in
theorem absorb_any (v:St) (s:ByteArray) (n:Nat) (w:World) (hv:v.ok) (hn:s.size=64*n) (hs:s.size≤140737488355328) (hk:KTab w) :
  Calls Tryz.prog 133 #[stV v,.string s] w fun e w'=>e=.returned (stV (blocks v s.data.toList n))∧Below w.heap.size w w':=by
 have h0:=AbsW.start hk v
 have HN:Hid (s.size=64*n):=hn
 have hn1:s.size≤64*n:=by omega
 have hn2:64*n≤s.size:=by omega
 clear hn
 unfold stV
 go_enter Tryz.func133,Tryz.ntmps133
 go_wp2
 go_loopw [5] (fun i wr=>∃ (k:Nat),k≤n∧i=.int .i64 (64*k:Nat)∧AbsW w wr (blocks v s.data.toList k)) (fun i _=>64*n-(intOf i).toNat)
 case atStart=>exact ⟨0,by omega,rfl,h0⟩
 case round =>
  clear h0
  obtain ⟨k,hkn,rfl,hw⟩:=hrel
  by_cases hlt:k<n
  ·obtain ⟨u,hu⟩:∃ u,u=blocks v s.data.toList k:=⟨_,rfl⟩
   rw [←hu] at hw
   have hu8:=Eight.of_row hw.s
   obtain ⟨h0,h1,h2,h3,h4,h5,h6,h7⟩:=hu8
   have huo:u.ok:=by rw [hu];exact blocks_ok hv _ _
   obtain ⟨p,hp⟩:∃ p,p=64*k:=⟨_,rfl⟩
   rw [←hp]
   have HP:Hid (p=64*k):=hp
   have HU:Hid (u=blocks v s.data.toList k):=hu
   have p1:p+64≤s.size:=by omega
   have p2:p≤s.size:=by omega
   obtain ⟨b,hb⟩:∃ b,b=s.extract p (p+64):=⟨_,rfl⟩
   have hbs:b.size=64:=by rw [hb,ByteArray.size_extract];omega
   have HB:Hid (b=s.extract p (p+64)):=hb
   obtain ⟨l,hl⟩:∃ l,l=sched (words16 b.data.toList 0) 48:=⟨_,rfl⟩
   have hll:l.length=64:=by rw [hl,sched_len (words16_len _ _)]
   have hlw:∀ x∈l,x<4294967296:=by rw [hl];exact sched_lt (words16_lt _ _) _
   obtain ⟨m,hm⟩:∃ m,m=rounds u l 64:=⟨_,rfl⟩
   have hmo:m.ok:=by rw [hm];exact rounds_ok huo _ _
   have HL:Hid (l=sched (words16 b.data.toList 0) 48):=hl
   have HM:Hid (m=rounds u l 64):=hm
   have HHL:Hid (l.length=64):=hll
   have HLW:Hid (∀ x∈l,x<4294967296):=hlw
   have HBS:Hid (b.size=64):=hbs
   have HK:Hid (KTab wr):=hw.k
   have hwz:=hw.below.size
   have HW:Hid (AbsW w wr u):=hw
   have hb0:Below wr.heap.size wr wr.drew:=(Below.refl _ _).drew
   clear hp hu hb hl hm hll hlw hbs hw
   go_upto_region 4 with fail
   have i1:IntKind.i64.wrap ((p:Int)+64)=(p:Int)+64:=IntWalk.i64_in _ (by omega)
   have i2:(0:Int)≤(p:Int):=by omega
   have i3:(p:Int)≤(p:Int)+64:=by omega
   have i4:(p:Int)+64≤s.size:=by omega
   have i5:((p:Int)+64).toNat=p+64:=by omega
   have i6:(0:Int)≤(p:Int)+64:=by omega
   go_cut [6] (fun s6 wx=>CutW wr m s6 wx)
   case first =>
    go_region_held3 (fun w'=>Below wr.heap.size wr w'∧w'.cell? ⟨w.heap.size,0,none⟩=some (.int .u32 (u.a:Int))∧w'.cell? ⟨w.heap.size,1,none⟩=some (.int .u32 (u.b:Int))∧w'.cell? ⟨w.heap.size,2,none⟩=some (.int .u32 (u.c:Int))∧w'.cell? ⟨w.heap.size,3,none⟩=some (.int .u32 (u.d:Int))∧w'.cell? ⟨w.heap.size,4,none⟩=some (.int .u32 (u.e:Int))∧w'.cell? ⟨w.heap.size,5,none⟩=some (.int .u32 (u.f:Int))∧w'.cell? ⟨w.heap.size,6,none⟩=some (.int .u32 (u.g:Int))∧w'.cell? ⟨w.heap.size,7,none⟩=some (.int .u32 (u.h:Int)))
     (first
      | (with_reducible exact absS HW.out hb0)
      | (with_reducible refine absS HW.out ?_;with_reducible assumption)
      | (with_reducible refine absAl HW.out ?_ _;with_reducible assumption)
      | (with_reducible refine absS HW.out (below_al1 wr _))
      | (with_reducible refine absS HW.out (below_al2 wr _))
      | (with_reducible refine absS HW.out (below_set8 ?_ HE2.out.2.2);with_reducible assumption)
      | (with_reducible refine absS HW.out (below_set8 ?_ HE.out.2.2);with_reducible assumption)
      | (with_reducible refine absS HW.out (below_set8 (below_al ?_ _) (below_sz ?_))<;>with_reducible assumption))
     (first
      | (go_at_call 166;rw [←HB.out];have hS:=‹Below wr.heap.size wr _∧_›;have hbq:=hS.1;clear hS;refine (sched_from (w0:=wr) hbq _ HBS.out).mono ?_;rintro e w' ⟨rfl,hbx,hby⟩;rw [←HL.out];(first|((with_reducible have HE:=keepD hby);obtain ⟨⟨⟨z0,z1,z2,z3,z4,z5,z6,z7⟩,f0,f1,f2,f3,f4,f5,f6,f7⟩,-⟩:=HE.out)|((with_reducible have HE:=keepA (by assumption) hby);obtain ⟨⟨⟨z0,z1,z2,z3,z4,z5,z6,z7⟩,f0,f1,f2,f3,f4,f5,f6,f7⟩,-⟩:=HE.out)|((with_reducible have HE2:=keepB HE hby);obtain ⟨⟨⟨z0,z1,z2,z3,z4,z5,z6,z7⟩,f0,f1,f2,f3,f4,f5,f6,f7⟩,-⟩:=HE2.out)|skip);clear hby)
      | (go_at_call 165;have hS:=‹Below wr.heap.size wr _∧_›;have hbq:=hS.1;clear hS;refine (mix_from (w0:=wr) hbq HK.out u l huo HHL.out HLW.out).mono ?_;rintro e w' ⟨rfl,hbx,hby⟩;rw [←HM.out];unfold stV;(first|((with_reducible have HE:=keepD hby);obtain ⟨⟨⟨z0,z1,z2,z3,z4,z5,z6,z7⟩,f0,f1,f2,f3,f4,f5,f6,f7⟩,-⟩:=HE.out)|((with_reducible have HE:=keepA (by assumption) hby);obtain ⟨⟨⟨z0,z1,z2,z3,z4,z5,z6,z7⟩,f0,f1,f2,f3,f4,f5,f6,f7⟩,-⟩:=HE.out)|((with_reducible have HE2:=keepB HE hby);obtain ⟨⟨⟨z0,z1,z2,z3,z4,z5,z6,z7⟩,f0,f1,f2,f3,f4,f5,f6,f7⟩,-⟩:=HE2.out)|skip);clear hby))
    all_goals go_wp2_with fail
    all_goals go_meet
    all_goals (first|(with_reducible exact cutA hbx)|(with_reducible exact cutB HE2 hbx)|(with_reducible exact cutB HE hbx))
   case rest =>
    obtain ⟨g,rfl,hg,⟨m0,m1,m2,m3,m4,m5,m6,m7⟩,hbc⟩:=hcut
    have hu9:AbsW w wc (addN u m 0):=HW.out.on hbc
    have HQ:Hid (u.add m=blocks v s.data.toList (k+1)):=by
     show _=_
     rw [blocks,oneBlock,←HU.out,HM.out,HL.out,HB.out,words_extract s p p1,HP.out]
    clear h0 h1 h2 h3 h4 h5 h6 h7 i1 i2 i3 i4 i5 i6
    go_wp2
    clear m0 m1 m2 m3 m4 m5 m6 m7
    go_loopw [24] (fun i wr=>∃ (j:Nat),j≤8∧i=.int .i64 j∧AbsW w wr (addN u m j)) (fun i _=>8-(intOf i).toNat)
    case atStart=>exact ⟨0,by omega,rfl,hu9⟩
    case round =>
     clear hu9
     obtain ⟨j,hj,rfl,hw⟩:=hrel
     obtain rfl|rfl|rfl|rfl|rfl|rfl|rfl|rfl|rfl:j=0∨j=1∨j=2∨j=3∨j=4∨j=5∨j=6∨j=7∨j=8:=by omega
     ·have hx:IntKind.u32.wrap ((u.a:Int)+m.a)=(((u.a+m.a)%4294967296:Nat):Int):=by rw [IntKind.wrap_u32'];rfl
      have HN:Hid (AbsW w (wr.setCell ⟨w.heap.size,0,none⟩ (.int .u32 (((u.a+m.a)%4294967296:Nat):Int))) (addN u m 1)):=hw.set hk rfl
      have hc:wr.cell? ⟨w.heap.size,0,none⟩=some (.int .u32 (u.a:Int)):=cell_of_row wr _ 0 _ _ _ hw.s
      have hf:=frozen_of_row wr _ 0 _ _ hw.s
      generalize (u.a+m.a)%4294967296=x at hx HN
      clear hw
      have ix:∀ w,(Instr.index 153 (.agg #[.int .u32 (m.a:Int),.int .u32 (m.b:Int),.int .u32 (m.c:Int),.int .u32 (m.d:Int),.int .u32 (m.e:Int),.int .u32 (m.f:Int),.int .u32 (m.g:Int),.int .u32 (m.h:Int)]) (.int .i64 0)).run Tryz.prog w=.ok (.int .u32 (m.a:Int)) w:=fun _=>by kernel_rfl
      rw [show ((0:Nat):Int)=0 from rfl]
      go_wp2
      go_roundw
      case rel=>exact ⟨1,by omega,rfl,HN.out⟩
      case measure=>simp [intOf]
     ·have hx:IntKind.u32.wrap ((u.b:Int)+m.b)=(((u.b+m.b)%4294967296:Nat):Int):=by rw [IntKind.wrap_u32'];rfl
      have HN:Hid (AbsW w (wr.setCell ⟨w.heap.size,1,none⟩ (.int .u32 (((u.b+m.b)%4294967296:Nat):Int))) (addN u m 2)):=hw.set hk rfl
      have hc:wr.cell? ⟨w.heap.size,1,none⟩=some (.int .u32 (u.b:Int)):=cell_of_row wr _ 1 _ _ _ hw.s
      have hf:=frozen_of_row wr _ 1 _ _ hw.s
      generalize (u.b+m.b)%4294967296=x at hx HN
      clear hw
      have ix:∀ w,(Instr.index 153 (.agg #[.int .u32 (m.a:Int),.int .u32 (m.b:Int),.int .u32 (m.c:Int),.int .u32 (m.d:Int),.int .u32 (m.e:Int),.int .u32 (m.f:Int),.int .u32 (m.g:Int),.int .u32 (m.h:Int)]) (.int .i64 1)).run Tryz.prog w=.ok (.int .u32 (m.b:Int)) w:=fun _=>by kernel_rfl
      rw [show ((1:Nat):Int)=1 from rfl]
      go_wp2
      go_roundw
      case rel=>exact ⟨2,by omega,rfl,HN.out⟩
      case measure=>simp [intOf]
     ·have hx:IntKind.u32.wrap ((u.c:Int)+m.c)=(((u.c+m.c)%4294967296:Nat):Int):=by rw [IntKind.wrap_u32'];rfl
      have HN:Hid (AbsW w (wr.setCell ⟨w.heap.size,2,none⟩ (.int .u32 (((u.c+m.c)%4294967296:Nat):Int))) (addN u m 3)):=hw.set hk rfl
      have hc:wr.cell? ⟨w.heap.size,2,none⟩=some (.int .u32 (u.c:Int)):=cell_of_row wr _ 2 _ _ _ hw.s
      have hf:=frozen_of_row wr _ 2 _ _ hw.s
      generalize (u.c+m.c)%4294967296=x at hx HN
      clear hw
      have ix:∀ w,(Instr.index 153 (.agg #[.int .u32 (m.a:Int),.int .u32 (m.b:Int),.int .u32 (m.c:Int),.int .u32 (m.d:Int),.int .u32 (m.e:Int),.int .u32 (m.f:Int),.int .u32 (m.g:Int),.int .u32 (m.h:Int)]) (.int .i64 2)).run Tryz.prog w=.ok (.int .u32 (m.c:Int)) w:=fun _=>by kernel_rfl
      rw [show ((2:Nat):Int)=2 from rfl]
      go_wp2
      go_roundw
      case rel=>exact ⟨3,by omega,rfl,HN.out⟩
      case measure=>simp [intOf]
     ·have hx:IntKind.u32.wrap ((u.d:Int)+m.d)=(((u.d+m.d)%4294967296:Nat):Int):=by rw [IntKind.wrap_u32'];rfl
      have HN:Hid (AbsW w (wr.setCell ⟨w.heap.size,3,none⟩ (.int .u32 (((u.d+m.d)%4294967296:Nat):Int))) (addN u m 4)):=hw.set hk rfl
      have hc:wr.cell? ⟨w.heap.size,3,none⟩=some (.int .u32 (u.d:Int)):=cell_of_row wr _ 3 _ _ _ hw.s
      have hf:=frozen_of_row wr _ 3 _ _ hw.s
      generalize (u.d+m.d)%4294967296=x at hx HN
      clear hw
      have ix:∀ w,(Instr.index 153 (.agg #[.int .u32 (m.a:Int),.int .u32 (m.b:Int),.int .u32 (m.c:Int),.int .u32 (m.d:Int),.int .u32 (m.e:Int),.int .u32 (m.f:Int),.int .u32 (m.g:Int),.int .u32 (m.h:Int)]) (.int .i64 3)).run Tryz.prog w=.ok (.int .u32 (m.d:Int)) w:=fun _=>by kernel_rfl
      rw [show ((3:Nat):Int)=3 from rfl]
      go_wp2
      go_roundw
      case rel=>exact ⟨4,by omega,rfl,HN.out⟩
      case measure=>simp [intOf]
     ·have hx:IntKind.u32.wrap ((u.e:Int)+m.e)=(((u.e+m.e)%4294967296:Nat):Int):=by rw [IntKind.wrap_u32'];rfl
      have HN:Hid (AbsW w (wr.setCell ⟨w.heap.size,4,none⟩ (.int .u32 (((u.e+m.e)%4294967296:Nat):Int))) (addN u m 5)):=hw.set hk rfl
      have hc:wr.cell? ⟨w.heap.size,4,none⟩=some (.int .u32 (u.e:Int)):=cell_of_row wr _ 4 _ _ _ hw.s
      have hf:=frozen_of_row wr _ 4 _ _ hw.s
      generalize (u.e+m.e)%4294967296=x at hx HN
      clear hw
      have ix:∀ w,(Instr.index 153 (.agg #[.int .u32 (m.a:Int),.int .u32 (m.b:Int),.int .u32 (m.c:Int),.int .u32 (m.d:Int),.int .u32 (m.e:Int),.int .u32 (m.f:Int),.int .u32 (m.g:Int),.int .u32 (m.h:Int)]) (.int .i64 4)).run Tryz.prog w=.ok (.int .u32 (m.e:Int)) w:=fun _=>by kernel_rfl
      rw [show ((4:Nat):Int)=4 from rfl]
      go_wp2
      go_roundw
      case rel=>exact ⟨5,by omega,rfl,HN.out⟩
      case measure=>simp [intOf]
     ·have hx:IntKind.u32.wrap ((u.f:Int)+m.f)=(((u.f+m.f)%4294967296:Nat):Int):=by rw [IntKind.wrap_u32'];rfl
      have HN:Hid (AbsW w (wr.setCell ⟨w.heap.size,5,none⟩ (.int .u32 (((u.f+m.f)%4294967296:Nat):Int))) (addN u m 6)):=hw.set hk rfl
      have hc:wr.cell? ⟨w.heap.size,5,none⟩=some (.int .u32 (u.f:Int)):=cell_of_row wr _ 5 _ _ _ hw.s
      have hf:=frozen_of_row wr _ 5 _ _ hw.s
      generalize (u.f+m.f)%4294967296=x at hx HN
      clear hw
      have ix:∀ w,(Instr.index 153 (.agg #[.int .u32 (m.a:Int),.int .u32 (m.b:Int),.int .u32 (m.c:Int),.int .u32 (m.d:Int),.int .u32 (m.e:Int),.int .u32 (m.f:Int),.int .u32 (m.g:Int),.int .u32 (m.h:Int)]) (.int .i64 5)).run Tryz.prog w=.ok (.int .u32 (m.f:Int)) w:=fun _=>by kernel_rfl
      rw [show ((5:Nat):Int)=5 from rfl]
      go_wp2
      go_roundw
      case rel=>exact ⟨6,by omega,rfl,HN.out⟩
      case measure=>simp [intOf]
     ·have hx:IntKind.u32.wrap ((u.g:Int)+m.g)=(((u.g+m.g)%4294967296:Nat):Int):=by rw [IntKind.wrap_u32'];rfl
      have HN:Hid (AbsW w (wr.setCell ⟨w.heap.size,6,none⟩ (.int .u32 (((u.g+m.g)%4294967296:Nat):Int))) (addN u m 7)):=hw.set hk rfl
      have hc:wr.cell? ⟨w.heap.size,6,none⟩=some (.int .u32 (u.g:Int)):=cell_of_row wr _ 6 _ _ _ hw.s
      have hf:=frozen_of_row wr _ 6 _ _ hw.s
      generalize (u.g+m.g)%4294967296=x at hx HN
      clear hw
      have ix:∀ w,(Instr.index 153 (.agg #[.int .u32 (m.a:Int),.int .u32 (m.b:Int),.int .u32 (m.c:Int),.int .u32 (m.d:Int),.int .u32 (m.e:Int),.int .u32 (m.f:Int),.int .u32 (m.g:Int),.int .u32 (m.h:Int)]) (.int .i64 6)).run Tryz.prog w=.ok (.int .u32 (m.g:Int)) w:=fun _=>by kernel_rfl
      rw [show ((6:Nat):Int)=6 from rfl]
      go_wp2
      go_roundw
      case rel=>exact ⟨7,by omega,rfl,HN.out⟩
      case measure=>simp [intOf]
     ·have hx:IntKind.u32.wrap ((u.h:Int)+m.h)=(((u.h+m.h)%4294967296:Nat):Int):=by rw [IntKind.wrap_u32'];rfl
      have HN:Hid (AbsW w (wr.setCell ⟨w.heap.size,7,none⟩ (.int .u32 (((u.h+m.h)%4294967296:Nat):Int))) (addN u m 8)):=hw.set hk rfl
      have hc:wr.cell? ⟨w.heap.size,7,none⟩=some (.int .u32 (u.h:Int)):=cell_of_row wr _ 7 _ _ _ hw.s
      have hf:=frozen_of_row wr _ 7 _ _ hw.s
      generalize (u.h+m.h)%4294967296=x at hx HN
      clear hw
      have ix:∀ w,(Instr.index 153 (.agg #[.int .u32 (m.a:Int),.int .u32 (m.b:Int),.int .u32 (m.c:Int),.int .u32 (m.d:Int),.int .u32 (m.e:Int),.int .u32 (m.f:Int),.int .u32 (m.g:Int),.int .u32 (m.h:Int)]) (.int .i64 7)).run Tryz.prog w=.ok (.int .u32 (m.h:Int)) w:=fun _=>by kernel_rfl
      rw [show ((7:Nat):Int)=7 from rfl]
      go_wp2
      go_roundw
      case rel=>exact ⟨8,by omega,rfl,HN.out⟩
      case measure=>simp [intOf]
     ·go_wp2
      go_roundw
      case rel=>exact ⟨k+1,by omega,val_int (by have hp:=HP.out;omega),by rw [←HQ.out];exact hw⟩
      case measure=>have hp:=HP.out;simp [intOf];omega
  ·obtain rfl:k=n:=by omega
   obtain ⟨u,hu⟩:∃ u,u=blocks v s.data.toList k:=⟨_,rfl⟩
   rw [←hu] at hw
   have HU:Hid (u=blocks v s.data.toList k):=hu
   have hr:=hw.r
   have hbl:=hw.below
   obtain ⟨h0,h1,h2,h3,h4,h5,h6,h7⟩:=Eight.of_row hw.s
   obtain ⟨z0,z1,z2,z3,z4,z5,z6,z7⟩:=Eight.of_row hr
   have f0:=frozen_of_row wr _ 0 _ _ hr
   have f1:=frozen_of_row wr _ 1 _ _ hr
   have f2:=frozen_of_row wr _ 2 _ _ hr
   have f3:=frozen_of_row wr _ 3 _ _ hr
   have f4:=frozen_of_row wr _ 4 _ _ hr
   have f5:=frozen_of_row wr _ 5 _ _ hr
   have f6:=frozen_of_row wr _ 6 _ _ hr
   have f7:=frozen_of_row wr _ 7 _ _ hr
   have HR:Hid (wr.heap[w.heap.size+1]?=some (.cells #[.int .u32 0,.int .u32 0,.int .u32 0,.int .u32 0,.int .u32 0,.int .u32 0,.int .u32 0,.int .u32 0] 153 (0,0))):=hr
   clear hr hw hu
   have q1:¬ 64*k<s.size:=by omega
   go_wp2
   refine bodyPost_ret (v:=stV u) (results_cell_row (fn:=Tryz.f133) (p:=4) (ty:=153) Tryz.results133 _ _ (w.heap.size+1) 153 _ (0,0) _ rfl (row8 HR.out _ _ _ _ _ _ _ _) Tryz.underlying153 rfl (by kernel_rfl)) rfl ⟨by rw [HU.out];rfl,?_⟩
   exact below_set8' hbl (Nat.le_succ _)
end Go.Proofs.YtnoopcenogbjiaaGreatDoor
