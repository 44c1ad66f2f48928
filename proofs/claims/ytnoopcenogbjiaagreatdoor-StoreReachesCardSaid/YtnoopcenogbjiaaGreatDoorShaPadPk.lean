/-
 The walk of pad: the rest of a message, padded to whole blocks.
-/
import Derived.Test.YtnoopcenogbjiaaGreatDoorMarkRow
import Derived.IntWalk
import Derived.Test.YtnoopcenogbjiaaGreatDoorLawPostPk
import Derived.Test.YtnoopcenogbjiaaGreatDoorShaAbsorb
import Derived.Test.YtnoopcenogbjiaaGreatDoorShaRBlockPk
import Derived.Deep.RegionHeld3
import Derived.Test.YtnoopcenogbjiaaGreatDoorIdRHex
set_option linter.unusedVariables false
set_option linter.unusedSimpArgs false
namespace Go.Proofs.YtnoopcenogbjiaaGreatDoor
open Go.RowKit
def be8 (n:Nat):List UInt8:=[UInt8.ofNat (n / 72057594037927936%256),UInt8.ofNat (n / 281474976710656%256),UInt8.ofNat (n / 1099511627776%256),UInt8.ofNat (n / 4294967296%256),UInt8.ofNat (n / 16777216%256),UInt8.ofNat (n / 65536%256),UInt8.ofNat (n / 256%256),UInt8.ofNat (n%256)]
theorem be8_len (n:Nat):(be8 n).length=8:=rfl
def fill (l:List UInt8) (j:Nat):List UInt8:=l++128::List.replicate j 0
theorem fill_len (l:List UInt8) (j:Nat):(fill l j).length=l.length+1+j:=by simp [fill];omega
theorem fill_next (l:List UInt8) (j:Nat):fill l (j+1)=fill l j++[0]:=by simp [fill,List.replicate_succ']
def padL (l:List UInt8) (n:Nat):List UInt8:=fill l ((119-l.length)%64)++be8 (8*n)
theorem ownM_eq {w:World} {base e n m:Nat} {v:Value} {xs ys:List Value} (h:OwnM w base e v n xs) (hn:n=m) (hx:xs=ys):OwnM w base e v m ys:=hx▸hn▸h
theorem ownM_slice {w:World} {base:Nat} {e:TypeId} {v:Value} {n:Nat} {xs:List Value} (h:OwnM w base e v n xs):∃ g cap,v=.slice (some ⟨g,0,none⟩) n cap:=by
 obtain ⟨_,g,cap,cur,fz,rfl,-⟩:=h
 exact ⟨g,cap,rfl⟩
def slLen (v:Value):Nat:=match v with|.slice _ n _=>n|_=>0
set_option maxHeartbeats 1000000 in
set_option maxRecDepth 4000 in
theorem pad_any (s:ByteArray) (n:Nat) (w:World) (hs:s.size<64) (hn:n≤140737488355328) :
  Calls Tryz.prog 134 #[.string s,.int .i64 n] w fun e w'=>e=.returned (.string (str (padL s.data.toList n)))∧Below w.heap.size w w':=by
 obtain ⟨i0,hi,hz0,hz1,hz2⟩:=info_parts Tryz.info5
 have hcv:=run_bytes_of_string (P:=Tryz.prog) w 9 131 5 s Tryz.underlying9 Tryz.underlying131 Tryz.underlying5
 have ho:=OwnM.start w s 5 (grownCap_le_maxLen w s.size 0 5 (by unfold maxLen;omega))
 have hb0:Below w.heap.size w (w.drew.alloc (.cells (bytesRow s (grownCap w s.size 0 5)) 5 ((bytesRow s (grownCap w s.size 0 5)).size,(bytesRow s (grownCap w s.size 0 5)).size+1))):=((Below.refl _ _).drew).alloc (Nat.le_refl _) _
 obtain ⟨cap,hcap⟩:∃ cap,cap=grownCap w s.size 0 5:=⟨_,rfl⟩
 rw [←hcap] at hcv ho hb0
 obtain ⟨w1,hw1⟩:∃ w1,w1=w.drew.alloc (.cells (bytesRow s cap) 5 ((bytesRow s cap).size,(bytesRow s cap).size+1)):=⟨_,rfl⟩
 rw [←hw1] at hcv ho hb0
 clear hcap hw1
 go_enter Tryz.func134,Tryz.ntmps134
 go_wp2_with (at_builtin;refine wpList_append_ownM rfl _ _ 131 rfl w.heap.size 5 i0 (.int .u8 0) Tryz.underlying131 hi hz0 hz1 hz2 (by decide) _ _ _ rfl (ho.alloc _) ⟨w1.heap.size,0,none⟩ 1 (.int .u8 128) rfl (by simp [Addr.add_lit,World.cell?_alloc_new]) rfl (by omega) (by have:=hb0.size;simp;omega) ?_)
 intro v1 w2 ho2 hg2
 have hb2:=ho.step hb0 hg2 (Nat.le_refl _) hb0.size
 clear hcv ho hg2 hb0
 go_wp2
 have hll:=list_len s
 have ho3:OwnM w2 w.heap.size 5 v1 (s.size+1+0) (bcells (fill s.data.toList 0)):=ownM_eq ho2 (by omega) (by simp [fill,bcells])
 clear ho2
 go_loopw [5] (fun v wr=>∃ (j:Nat),j≤(119-s.size)%64∧OwnM wr w.heap.size 5 v (s.size+1+j) (bcells (fill s.data.toList j))∧Below w.heap.size w wr) (fun v _=>200-slLen v)
 case atStart=>exact ⟨0,by omega,ho3,hb2⟩
 case round =>
  clear ho3 hb2
  obtain ⟨j,hj,ho,hb⟩:=hrel
  obtain ⟨q,hq⟩:∃ q,q=s.size+1+j:=⟨_,rfl⟩
  have HQ:Hid (q=s.size+1+j):=hq
  have q2:q≤200:=by omega
  rw [←hq] at ho
  obtain ⟨g,cap,rfl⟩:=ownM_slice ho
  by_cases hlt:q%64=56
  ·obtain rfl:j=(119-s.size)%64:=by omega
   obtain ⟨F,hF⟩:∃ F,F=fill s.data.toList ((119-s.size)%64):=⟨_,rfl⟩
   rw [←hF] at ho
   have HF:Hid (F=fill s.data.toList ((119-s.size)%64)):=hF
   obtain ⟨N,hN⟩:∃ N,N=8*n:=⟨_,rfl⟩
   have HN:Hid (N=8*n):=hN
   have n1:IntKind.u64.wrap (n:Int)=(n:Int):=IntWalk.u64_in _ (by omega)
   have n2:IntKind.u64.wrap ((n:Int)*8)=(N:Int):=by rw [IntWalk.u64_in _ (by omega)];omega
   clear hF hq hN
   have q3:(q:Int)%64=56:=by omega
   go_wp2
   have ho4:OwnM wr w.heap.size 5 (.slice (some ⟨g,0,none⟩) q cap) (q+0) (bcells (F++(be8 N).take 0)):=ownM_eq ho rfl (by simp)
   clear ho
   clear q3 hlt
   go_loopw [5,22] (fun v i wr=>∃ (k:Nat),k≤8∧i=.int .i64 k∧OwnM wr w.heap.size 5 v (q+k) (bcells (F++(be8 N).take k))∧Below w.heap.size w wr) (fun _ i _=>8-(intOf i).toNat)
   case atStart=>exact ⟨0,by omega,rfl,ho4,hb⟩
   case round =>
    clear ho4 hb
    obtain ⟨k,hk,rfl,ho,hb⟩:=hrel
    rcases (by omega:k=0∨k=1∨k=2∨k=3∨k=4∨k=5∨k=6∨k=7∨k=8) with rfl|rfl|rfl|rfl|rfl|rfl|rfl|rfl|rfl
    ·have hy:(N:Int) / 72057594037927936%256=((UInt8.ofNat (N / 72057594037927936%256)).toNat:Int):=by rw [u8nat (Nat.mod_lt _ (by decide))];rfl
     obtain ⟨y,hyy⟩:∃ y:UInt8,y=UInt8.ofNat (N / 72057594037927936%256):=⟨_,rfl⟩
     rw [←hyy] at hy
     have HY:Hid (y=UInt8.ofNat (N / 72057594037927936%256)):=hyy
     clear hyy
     rw [show ((0:Nat):Int)=0 from rfl]
     go_wp2_with (at_builtin;refine wpList_append_ownM rfl _ _ 131 rfl w.heap.size 5 i0 (.int .u8 0) Tryz.underlying131 hi hz0 hz1 hz2 (by decide) _ _ _ rfl (ho.alloc _) ⟨wr.heap.size,0,none⟩ 1 (.int .u8 (y.toNat:Int)) rfl (by simp [Addr.add_lit,World.cell?_alloc_new]) rfl (by omega) (by have:=hb.size;simp;omega) ?_)
     intro v3 w3 ho3 hg3
     have hb3:=ho.step hb hg3 (Nat.le_refl _) hb.size
     clear ho hg3
     go_wp2
     go_roundw
     case rel=>exact ⟨1,by omega,rfl,ownM_eq ho3 rfl (by rw [HY.out];simp [be8,bcells]),hb3⟩
     case measure=>simp [intOf]
    ·have hy:(N:Int) / 281474976710656%256=((UInt8.ofNat (N / 281474976710656%256)).toNat:Int):=by rw [u8nat (Nat.mod_lt _ (by decide))];rfl
     obtain ⟨y,hyy⟩:∃ y:UInt8,y=UInt8.ofNat (N / 281474976710656%256):=⟨_,rfl⟩
     rw [←hyy] at hy
     have HY:Hid (y=UInt8.ofNat (N / 281474976710656%256)):=hyy
     clear hyy
     rw [show ((1:Nat):Int)=1 from rfl]
     go_wp2_with (at_builtin;refine wpList_append_ownM rfl _ _ 131 rfl w.heap.size 5 i0 (.int .u8 0) Tryz.underlying131 hi hz0 hz1 hz2 (by decide) _ _ _ rfl (ho.alloc _) ⟨wr.heap.size,0,none⟩ 1 (.int .u8 (y.toNat:Int)) rfl (by simp [Addr.add_lit,World.cell?_alloc_new]) rfl (by omega) (by have:=hb.size;simp;omega) ?_)
     intro v3 w3 ho3 hg3
     have hb3:=ho.step hb hg3 (Nat.le_refl _) hb.size
     clear ho hg3
     go_wp2
     go_roundw
     case rel=>exact ⟨2,by omega,rfl,ownM_eq ho3 rfl (by rw [HY.out];simp [be8,bcells]),hb3⟩
     case measure=>simp [intOf]
    ·have hy:(N:Int) / 1099511627776%256=((UInt8.ofNat (N / 1099511627776%256)).toNat:Int):=by rw [u8nat (Nat.mod_lt _ (by decide))];rfl
     obtain ⟨y,hyy⟩:∃ y:UInt8,y=UInt8.ofNat (N / 1099511627776%256):=⟨_,rfl⟩
     rw [←hyy] at hy
     have HY:Hid (y=UInt8.ofNat (N / 1099511627776%256)):=hyy
     clear hyy
     rw [show ((2:Nat):Int)=2 from rfl]
     go_wp2_with (at_builtin;refine wpList_append_ownM rfl _ _ 131 rfl w.heap.size 5 i0 (.int .u8 0) Tryz.underlying131 hi hz0 hz1 hz2 (by decide) _ _ _ rfl (ho.alloc _) ⟨wr.heap.size,0,none⟩ 1 (.int .u8 (y.toNat:Int)) rfl (by simp [Addr.add_lit,World.cell?_alloc_new]) rfl (by omega) (by have:=hb.size;simp;omega) ?_)
     intro v3 w3 ho3 hg3
     have hb3:=ho.step hb hg3 (Nat.le_refl _) hb.size
     clear ho hg3
     go_wp2
     go_roundw
     case rel=>exact ⟨3,by omega,rfl,ownM_eq ho3 rfl (by rw [HY.out];simp [be8,bcells]),hb3⟩
     case measure=>simp [intOf]
    ·have hy:(N:Int) / 4294967296%256=((UInt8.ofNat (N / 4294967296%256)).toNat:Int):=by rw [u8nat (Nat.mod_lt _ (by decide))];rfl
     obtain ⟨y,hyy⟩:∃ y:UInt8,y=UInt8.ofNat (N / 4294967296%256):=⟨_,rfl⟩
     rw [←hyy] at hy
     have HY:Hid (y=UInt8.ofNat (N / 4294967296%256)):=hyy
     clear hyy
     rw [show ((3:Nat):Int)=3 from rfl]
     go_wp2_with (at_builtin;refine wpList_append_ownM rfl _ _ 131 rfl w.heap.size 5 i0 (.int .u8 0) Tryz.underlying131 hi hz0 hz1 hz2 (by decide) _ _ _ rfl (ho.alloc _) ⟨wr.heap.size,0,none⟩ 1 (.int .u8 (y.toNat:Int)) rfl (by simp [Addr.add_lit,World.cell?_alloc_new]) rfl (by omega) (by have:=hb.size;simp;omega) ?_)
     intro v3 w3 ho3 hg3
     have hb3:=ho.step hb hg3 (Nat.le_refl _) hb.size
     clear ho hg3
     go_wp2
     go_roundw
     case rel=>exact ⟨4,by omega,rfl,ownM_eq ho3 rfl (by rw [HY.out];simp [be8,bcells]),hb3⟩
     case measure=>simp [intOf]
    ·have hy:(N:Int) / 16777216%256=((UInt8.ofNat (N / 16777216%256)).toNat:Int):=by rw [u8nat (Nat.mod_lt _ (by decide))];rfl
     obtain ⟨y,hyy⟩:∃ y:UInt8,y=UInt8.ofNat (N / 16777216%256):=⟨_,rfl⟩
     rw [←hyy] at hy
     have HY:Hid (y=UInt8.ofNat (N / 16777216%256)):=hyy
     clear hyy
     rw [show ((4:Nat):Int)=4 from rfl]
     go_wp2_with (at_builtin;refine wpList_append_ownM rfl _ _ 131 rfl w.heap.size 5 i0 (.int .u8 0) Tryz.underlying131 hi hz0 hz1 hz2 (by decide) _ _ _ rfl (ho.alloc _) ⟨wr.heap.size,0,none⟩ 1 (.int .u8 (y.toNat:Int)) rfl (by simp [Addr.add_lit,World.cell?_alloc_new]) rfl (by omega) (by have:=hb.size;simp;omega) ?_)
     intro v3 w3 ho3 hg3
     have hb3:=ho.step hb hg3 (Nat.le_refl _) hb.size
     clear ho hg3
     go_wp2
     go_roundw
     case rel=>exact ⟨5,by omega,rfl,ownM_eq ho3 rfl (by rw [HY.out];simp [be8,bcells]),hb3⟩
     case measure=>simp [intOf]
    ·have hy:(N:Int) / 65536%256=((UInt8.ofNat (N / 65536%256)).toNat:Int):=by rw [u8nat (Nat.mod_lt _ (by decide))];rfl
     obtain ⟨y,hyy⟩:∃ y:UInt8,y=UInt8.ofNat (N / 65536%256):=⟨_,rfl⟩
     rw [←hyy] at hy
     have HY:Hid (y=UInt8.ofNat (N / 65536%256)):=hyy
     clear hyy
     rw [show ((5:Nat):Int)=5 from rfl]
     go_wp2_with (at_builtin;refine wpList_append_ownM rfl _ _ 131 rfl w.heap.size 5 i0 (.int .u8 0) Tryz.underlying131 hi hz0 hz1 hz2 (by decide) _ _ _ rfl (ho.alloc _) ⟨wr.heap.size,0,none⟩ 1 (.int .u8 (y.toNat:Int)) rfl (by simp [Addr.add_lit,World.cell?_alloc_new]) rfl (by omega) (by have:=hb.size;simp;omega) ?_)
     intro v3 w3 ho3 hg3
     have hb3:=ho.step hb hg3 (Nat.le_refl _) hb.size
     clear ho hg3
     go_wp2
     go_roundw
     case rel=>exact ⟨6,by omega,rfl,ownM_eq ho3 rfl (by rw [HY.out];simp [be8,bcells]),hb3⟩
     case measure=>simp [intOf]
    ·have hy:(N:Int) / 256%256=((UInt8.ofNat (N / 256%256)).toNat:Int):=by rw [u8nat (Nat.mod_lt _ (by decide))];rfl
     obtain ⟨y,hyy⟩:∃ y:UInt8,y=UInt8.ofNat (N / 256%256):=⟨_,rfl⟩
     rw [←hyy] at hy
     have HY:Hid (y=UInt8.ofNat (N / 256%256)):=hyy
     clear hyy
     rw [show ((6:Nat):Int)=6 from rfl]
     go_wp2_with (at_builtin;refine wpList_append_ownM rfl _ _ 131 rfl w.heap.size 5 i0 (.int .u8 0) Tryz.underlying131 hi hz0 hz1 hz2 (by decide) _ _ _ rfl (ho.alloc _) ⟨wr.heap.size,0,none⟩ 1 (.int .u8 (y.toNat:Int)) rfl (by simp [Addr.add_lit,World.cell?_alloc_new]) rfl (by omega) (by have:=hb.size;simp;omega) ?_)
     intro v3 w3 ho3 hg3
     have hb3:=ho.step hb hg3 (Nat.le_refl _) hb.size
     clear ho hg3
     go_wp2
     go_roundw
     case rel=>exact ⟨7,by omega,rfl,ownM_eq ho3 rfl (by rw [HY.out];simp [be8,bcells]),hb3⟩
     case measure=>simp [intOf]
    ·have hy:(N:Int)%256=((UInt8.ofNat (N%256)).toNat:Int):=by rw [u8nat (Nat.mod_lt _ (by decide))];rfl
     obtain ⟨y,hyy⟩:∃ y:UInt8,y=UInt8.ofNat (N%256):=⟨_,rfl⟩
     rw [←hyy] at hy
     have HY:Hid (y=UInt8.ofNat (N%256)):=hyy
     clear hyy
     rw [show ((7:Nat):Int)=7 from rfl]
     go_wp2_with (at_builtin;refine wpList_append_ownM rfl _ _ 131 rfl w.heap.size 5 i0 (.int .u8 0) Tryz.underlying131 hi hz0 hz1 hz2 (by decide) _ _ _ rfl (ho.alloc _) ⟨wr.heap.size,0,none⟩ 1 (.int .u8 (y.toNat:Int)) rfl (by simp [Addr.add_lit,World.cell?_alloc_new]) rfl (by omega) (by have:=hb.size;simp;omega) ?_)
     intro v3 w3 ho3 hg3
     have hb3:=ho.step hb hg3 (Nat.le_refl _) hb.size
     clear ho hg3
     go_wp2
     go_roundw
     case rel=>exact ⟨8,by omega,rfl,ownM_eq ho3 rfl (by rw [HY.out];simp [be8,bcells]),hb3⟩
     case measure=>simp [intOf]
    ·rw [show ((8:Nat):Int)=8 from rfl]
     have hcl:=ho.conv (P:=Tryz.prog) 131 9 5 Tryz.underlying131 Tryz.underlying5 Tryz.underlying9
     clear ho
     go_wp2
     go_ret
     exact ⟨ret_str (by rw [HF.out,HN.out,padL,hll,List.take_of_length_le (Nat.le_of_eq (be8_len _))]),hb⟩
  ·have hj2:j<(119-s.size)%64:=by omega
   clear hq
   go_wp2_with (at_builtin;refine wpList_append_ownM rfl _ _ 131 rfl w.heap.size 5 i0 (.int .u8 0) Tryz.underlying131 hi hz0 hz1 hz2 (by decide) _ _ _ rfl (ho.alloc _) ⟨wr.heap.size,0,none⟩ 1 (.int .u8 0) rfl (by simp [Addr.add_lit,World.cell?_alloc_new]) rfl (by omega) (by have:=hb.size;simp;omega) ?_)
   intro v3 w3 ho3 hg3
   have hb3:=ho.step hb hg3 (Nat.le_refl _) hb.size
   clear ho hg3
   obtain ⟨g3,cap3,rfl⟩:=ownM_slice ho3
   go_wp2
   go_roundw
   case rel=>exact ⟨j+1,by omega,ownM_eq ho3 (by rw [HQ.out];omega) (by rw [fill_next,bcells_append];rfl),hb3⟩
   case measure=>have hh:=HQ.out;simp [slLen];omega
def wbytes (n:Nat):List UInt8:=[UInt8.ofNat (n / 16777216),UInt8.ofNat (n / 65536%256),UInt8.ofNat (n / 256%256),UInt8.ofNat (n%256)]
theorem wcells {n:Nat} (hn:n<4294967296):#[Value.int .u8 ((n:Int) / 16777216),.int .u8 ((n:Int) / 65536%256),.int .u8 ((n:Int) / 256%256),.int .u8 ((n:Int)%256)]=(bcells (wbytes n)).toArray:=by
 simp only [bcells,wbytes,List.map_cons,List.map_nil]
 rw [u8nat (by omega),u8nat (by omega),u8nat (by omega),u8nat (by omega)]
 rfl
def padN (l:List UInt8):Nat:=if l.length<56 then 1 else 2
theorem padL_size (l:List UInt8) (n:Nat) (hl:l.length<64):(padL l n).length=64*padN l:=by
 simp only [padL,List.length_append,fill_len,be8_len,padN]
 split<;>omega
def stB (v:St):List UInt8:=wbytes v.a++(wbytes v.b++(wbytes v.c++(wbytes v.d++(wbytes v.e++(wbytes v.f++(wbytes v.g++wbytes v.h))))))
def shaC (s:ByteArray):List UInt8:=stB (blocks (blocks st0 (s.extract 0 (64*(s.size / 64))).data.toList (s.size / 64)) (padL (s.extract (64*(s.size / 64)) s.size).data.toList s.size) (padN (s.extract (64*(s.size / 64)) s.size).data.toList))
structure DigW (w wr:World) (v:St):Prop where
 below:Below w.heap.size w wr
 s:wr.heap[w.heap.size]?=some (.cells (cells8 v) 153 (0,0))
theorem DigW.on {w wr wx:World} {v:St} (h:DigW w wr v) (hb:Below wr.heap.size wr wx):DigW w wx v :=
 ⟨h.below.trans (hb.mono h.below.size),(hb.block _ (World.block_lt_of_cell? wr ⟨w.heap.size,0,none⟩ (Eight.of_row h.s).1)).trans h.s⟩
theorem DigW.open {w w':World} {v:St} (h:DigW w w' v):Eight w' w.heap.size v∧w'.frozen? ⟨w.heap.size,0,none⟩=false∧w'.frozen? ⟨w.heap.size,1,none⟩=false∧w'.frozen? ⟨w.heap.size,2,none⟩=false∧w'.frozen? ⟨w.heap.size,3,none⟩=false∧w'.frozen? ⟨w.heap.size,4,none⟩=false∧w'.frozen? ⟨w.heap.size,5,none⟩=false∧w'.frozen? ⟨w.heap.size,6,none⟩=false∧w'.frozen? ⟨w.heap.size,7,none⟩=false :=
 ⟨Eight.of_row h.s,frozen_of_row _ _ 0 _ _ h.s,frozen_of_row _ _ 1 _ _ h.s,frozen_of_row _ _ 2 _ _ h.s,frozen_of_row _ _ 3 _ _ h.s,frozen_of_row _ _ 4 _ _ h.s,frozen_of_row _ _ 5 _ _ h.s,frozen_of_row _ _ 6 _ _ h.s,frozen_of_row _ _ 7 _ _ h.s⟩
theorem DigW.put {w w1:World} {v m:St} (h:DigW w w1 v):DigW w ((((((((w1.setCell ⟨w.heap.size,0,none⟩ (.int .u32 (m.a:Int))).setCell ⟨w.heap.size,1,none⟩ (.int .u32 (m.b:Int))).setCell ⟨w.heap.size,2,none⟩ (.int .u32 (m.c:Int))).setCell ⟨w.heap.size,3,none⟩ (.int .u32 (m.d:Int))).setCell ⟨w.heap.size,4,none⟩ (.int .u32 (m.e:Int))).setCell ⟨w.heap.size,5,none⟩ (.int .u32 (m.f:Int))).setCell ⟨w.heap.size,6,none⟩ (.int .u32 (m.g:Int))).setCell ⟨w.heap.size,7,none⟩ (.int .u32 (m.h:Int))) m :=
 ⟨below_set8' h.below (Nat.le_refl _),row8 h.s (.int .u32 (m.a:Int)) (.int .u32 (m.b:Int)) (.int .u32 (m.c:Int)) (.int .u32 (m.d:Int)) (.int .u32 (m.e:Int)) (.int .u32 (m.f:Int)) (.int .u32 (m.g:Int)) (.int .u32 (m.h:Int))⟩
theorem absorb_from {w wr:World} {v:St} (h:DigW w wr v) (hk:KTab w) (s:ByteArray) (n:Nat) (hv:v.ok) (hn:s.size=64*n) (hs:s.size≤140737488355328) :
  Calls Tryz.prog 133 #[stV v,.string s] wr fun e w'=>e=.returned (stV (blocks v s.data.toList n))∧DigW w w' v :=
 (absorb_any v s n wr hv hn hs (hk.below h.below)).mono fun _ _ x=>⟨x.1,h.on x.2⟩
theorem four_cells (wr:World) (C:Array Value) (l:List UInt8) (j:Nat) (u:Value) {t:TypeId} (hC:C=(bcells l).toArray) (hj:(bcells l)[j]?=some u):(wr.alloc (.cells C t)).cell? ((⟨wr.heap.size,0,none⟩:Addr).add j)=some u:=by
 subst hC
 rw [Addr.add_lit,Nat.zero_add,World.cell?_alloc_mark]
 simpa using hj
set_option maxHeartbeats 2000000 in
set_option maxRecDepth 4000 in
theorem digest_any (s:ByteArray) (w:World) (hs:s.size≤140737488355328) (hk:KTab w) :
  Calls Tryz.prog 110 #[.string s] w fun e w'=>e=.returned (.string (str (shaC s)))∧Below w.heap.size w w':=by
 obtain ⟨i0,hi,hz0,hz1,hz2⟩:=info_parts Tryz.info5
 obtain ⟨k,hkk⟩:∃ k,k=s.size / 64:=⟨_,rfl⟩
 obtain ⟨p,hp⟩:∃ p,p=64*k:=⟨_,rfl⟩
 have p1:p≤s.size:=by omega
 have i1:IntKind.i64.wrap ((s.size:Int)-(s.size:Int)%64)=(p:Int):=by rw [IntWalk.i64_in _ (by omega)];omega
 have hd0:DigW w (w.alloc (.cells (cells8 st0) 153)) st0:=⟨(Below.refl _ _).alloc (Nat.le_refl _) _,heap_alloc_new w _⟩
 have HK:Hid (k=s.size / 64):=hkk
 have HP:Hid (p=64*k):=hp
 clear hkk hp
 go_enter Tryz.func110,Tryz.ntmps110
 go_upto_region 3 with fail
 obtain ⟨w1,hw1⟩:∃ w1,w1=w.alloc (.cells #[.int .u32 1779033703,.int .u32 3144134277,.int .u32 1013904242,.int .u32 2773480762,.int .u32 1359893119,.int .u32 2600822924,.int .u32 528734635,.int .u32 1541459225] 153):=⟨_,rfl⟩
 have hd1:DigW w w1 st0:=by rw [hw1];exact hd0
 rw [←hw1]
 clear hw1 hd0 i1
 obtain ⟨u,hu⟩:∃ u,u=st0:=⟨_,rfl⟩
 have huo:u.ok:=hu▸st0_ok
 rw [←hu] at hd1
 have HU:Hid (u=st0):=hu
 clear hu
 obtain ⟨b,hbb⟩:∃ b,b=s.extract 0 p:=⟨_,rfl⟩
 have hbs:b.size=64*k:=by rw [hbb,ByteArray.size_extract];have:=HP.out;omega
 have HB:Hid (b=s.extract 0 p):=hbb
 have HBS:Hid (b.size=64*k):=hbs
 obtain ⟨m,hm⟩:∃ m,m=blocks u b.data.toList k:=⟨_,rfl⟩
 have hmo:m.ok:=by rw [hm];exact blocks_ok huo _ _
 have HM:Hid (m=blocks u b.data.toList k):=hm
 clear hm hbb hbs
 have q1:(0:Int)≤p:=by omega
 have q2:(p:Int)≤s.size:=by omega
 have hdd:DigW w w1.drew u:=hd1.on ((Below.refl _ _).drew)
 go_cut [] (fun wx=>DigW w wx m)
 case first =>
  obtain ⟨h0,h1,h2,h3,h4,h5,h6,h7⟩:=Eight.of_row hd1.s
  go_region_with (go_at_call 133;rw [←HB.out];refine (absorb_from (by assumption) hk b k huo HBS.out (by have:=HBS.out;have:=HP.out;omega)).mono ?_;rintro e w' ⟨rfl,hdx⟩;rw [←HM.out];unfold stV;obtain ⟨⟨z0,z1,z2,z3,z4,z5,z6,z7⟩,f0,f1,f2,f3,f4,f5,f6,f7⟩:=hdx.open)
  all_goals go_wp2_with fail
  all_goals go_meet
  all_goals exact hdx.put
 case rest =>
  clear hd1 hdd
  have hdc:DigW w wc m:=hcut
  clear hcut
  obtain ⟨b2,hbb⟩:∃ b2,b2=s.extract p s.size:=⟨_,rfl⟩
  have hbs:b2.size<64:=by rw [hbb,ByteArray.size_extract];have:=HP.out;have:=HK.out;omega
  have HB2:Hid (b2=s.extract p s.size):=hbb
  have HBS2:Hid (b2.size<64):=hbs
  obtain ⟨r,hr⟩:∃ r,r=str (padL b2.data.toList s.size):=⟨_,rfl⟩
  have hrs:r.size=64*padN b2.data.toList:=by rw [hr,str_size,padL_size _ _ (by rw [list_len];exact hbs)]
  have hrn:r.size≤128:=by rw [hrs];unfold padN;split<;>omega
  have HR:Hid (r=str (padL b2.data.toList s.size)):=hr
  have HRS:Hid (r.size=64*padN b2.data.toList):=hrs
  obtain ⟨x,hx⟩:∃ x,x=blocks m r.data.toList (padN b2.data.toList):=⟨_,rfl⟩
  have hxo:x.ok:=by rw [hx];exact blocks_ok hmo _ _
  have HX:Hid (x=blocks m r.data.toList (padN b2.data.toList)):=hx
  clear hx hr hrs hbb hbs
  have hdd:DigW w wc.drew m:=hdc.on ((Below.refl _ _).drew)
  go_upto_region 4 with fail
  go_cut [] (fun wx=>DigW w wx x)
  case first =>
   obtain ⟨h0,h1,h2,h3,h4,h5,h6,h7⟩:=Eight.of_row hdc.s
   go_region_with (first
    | (go_at_call 134;rw [←HB2.out];refine (pad_any b2 s.size _ HBS2.out hs).mono ?_;rintro e w' ⟨rfl,hbx⟩;rw [←HR.out];have hdx:=hdd.on hbx;obtain ⟨⟨z0,z1,z2,z3,z4,z5,z6,z7⟩,f0,f1,f2,f3,f4,f5,f6,f7⟩:=hdx.open)
    | (go_at_call 133;refine (absorb_from (by assumption) hk r (padN b2.data.toList) hmo HRS.out (by omega)).mono ?_;rintro e w' ⟨rfl,hdy⟩;rw [←HX.out];unfold stV;obtain ⟨⟨y0,y1,y2,y3,y4,y5,y6,y7⟩,g0,g1,g2,g3,g4,g5,g6,g7⟩:=hdy.open))
   all_goals go_wp2_with fail
   all_goals go_meet
   all_goals exact hdy.put
  case rest =>
   clear hdc hdd
   have hdc:DigW w wc x:=hcut
   clear hcut
   obtain ⟨la,lb,lc,ld,le,lf,lg,lh⟩:=hxo
   obtain ⟨wo,hwo⟩:∃ wo,wo=wc:=⟨_,rfl⟩
   rw [←hwo] at hdc ⊢
   clear hwo
   go_wp2_with (at_make;refine wpList_make_own _ rfl _ _ 131 rfl wo.heap.size 5 i0 (.int .u8 0) 1 Tryz.underlying131 hi hz0 hz1 _ _ _ 32 rfl rfl (by omega) ?b1 ?b2 ?b3 ?_)
   case b1=>omega
   case b2=>decide
   case b3=>exact Nat.le_refl _
   intro w2 hown1 hgrow1
   have hb1:Below wo.heap.size wo w2:=(Below.refl _ _).grown hgrow1 (Nat.le_refl _) (by simp)
   obtain ⟨h0,h1,h2,h3,h4,h5,h6,h7⟩:=Eight.of_row (hdc.on hb1).s
   clear hgrow1
   go_wp2
   clear h0 h1 h2 h3 h4 h5 h6 h7
   go_loopw [5,30] (fun v i wr=>∃ k:Nat,k≤8∧i=.int .i64 k∧wr.ownsRow wo.heap.size 5 1 v (4*k) (bcells ((stB x).take (4*k)))∧Below wo.heap.size wo wr)
    (fun _ i _=>8-(intOf i).toNat)
   case atStart=>exact ⟨0,by omega,rfl,hown1,hb1⟩
   case round =>
    clear hown1 hb1
    obtain ⟨k,hk8,rfl,hown,hbel⟩:=hrel
    rcases (by omega:k=0∨k=1∨k=2∨k=3∨k=4∨k=5∨k=6∨k=7∨k=8) with rfl|rfl|rfl|rfl|rfl|rfl|rfl|rfl|rfl
    ·obtain ⟨y,hy⟩:∃ y,y=x.a:=⟨_,rfl⟩
     have yl:y<4294967296:=by rw [hy];exact la
     have ix:∀ w,(Instr.index 153 (.agg #[.int .u32 (x.a:Int),.int .u32 (x.b:Int),.int .u32 (x.c:Int),.int .u32 (x.d:Int),.int .u32 (x.e:Int),.int .u32 (x.f:Int),.int .u32 (x.g:Int),.int .u32 (x.h:Int)]) (.int .i64 0)).run Tryz.prog w=.ok (.int .u32 (y:Int)) w:=fun _=>by rw [hy];kernel_rfl
     have HY:Hid (y=x.a):=hy
     clear hy
     rw [show ((0:Nat):Int)=0 from rfl]
     go_wp2_with (at_builtin;refine wpList_append_own _ rfl _ _ 131 rfl wo.heap.size 5 i0 (.int .u8 0) 1 1 Tryz.underlying131 hi hz0 hz1 hz2 rfl (by decide) _ _ _ rfl (hown.alloc _) ⟨wr.heap.size,0,none⟩ 4 4 (bcells (wbytes y)) rfl rfl (fun j u hj=>four_cells wr _ _ j u (wcells yl) hj) (bcells_one _) (by decide) (by decide) (by have:=hbel.size;simp;omega) ?_)
     intro v3 w3 ho3 hg3 _
     have hb3:=app_step hbel hown hg3 (Nat.le_refl _) hbel.size
     clear hown hg3 hbel ix
     go_wp2
     go_roundw
     case rel=>exact ⟨1,by omega,rfl,owns_eq ho3 (by rw [HY.out,←bcells_append];rfl),hb3⟩
     case measure=>simp [intOf]
    ·obtain ⟨y,hy⟩:∃ y,y=x.b:=⟨_,rfl⟩
     have yl:y<4294967296:=by rw [hy];exact lb
     have ix:∀ w,(Instr.index 153 (.agg #[.int .u32 (x.a:Int),.int .u32 (x.b:Int),.int .u32 (x.c:Int),.int .u32 (x.d:Int),.int .u32 (x.e:Int),.int .u32 (x.f:Int),.int .u32 (x.g:Int),.int .u32 (x.h:Int)]) (.int .i64 1)).run Tryz.prog w=.ok (.int .u32 (y:Int)) w:=fun _=>by rw [hy];kernel_rfl
     have HY:Hid (y=x.b):=hy
     clear hy
     rw [show ((1:Nat):Int)=1 from rfl]
     go_wp2_with (at_builtin;refine wpList_append_own _ rfl _ _ 131 rfl wo.heap.size 5 i0 (.int .u8 0) 1 1 Tryz.underlying131 hi hz0 hz1 hz2 rfl (by decide) _ _ _ rfl (hown.alloc _) ⟨wr.heap.size,0,none⟩ 4 4 (bcells (wbytes y)) rfl rfl (fun j u hj=>four_cells wr _ _ j u (wcells yl) hj) (bcells_one _) (by decide) (by decide) (by have:=hbel.size;simp;omega) ?_)
     intro v3 w3 ho3 hg3 _
     have hb3:=app_step hbel hown hg3 (Nat.le_refl _) hbel.size
     clear hown hg3 hbel ix
     go_wp2
     go_roundw
     case rel=>exact ⟨2,by omega,rfl,owns_eq ho3 (by rw [HY.out,←bcells_append];rfl),hb3⟩
     case measure=>simp [intOf]
    ·obtain ⟨y,hy⟩:∃ y,y=x.c:=⟨_,rfl⟩
     have yl:y<4294967296:=by rw [hy];exact lc
     have ix:∀ w,(Instr.index 153 (.agg #[.int .u32 (x.a:Int),.int .u32 (x.b:Int),.int .u32 (x.c:Int),.int .u32 (x.d:Int),.int .u32 (x.e:Int),.int .u32 (x.f:Int),.int .u32 (x.g:Int),.int .u32 (x.h:Int)]) (.int .i64 2)).run Tryz.prog w=.ok (.int .u32 (y:Int)) w:=fun _=>by rw [hy];kernel_rfl
     have HY:Hid (y=x.c):=hy
     clear hy
     rw [show ((2:Nat):Int)=2 from rfl]
     go_wp2_with (at_builtin;refine wpList_append_own _ rfl _ _ 131 rfl wo.heap.size 5 i0 (.int .u8 0) 1 1 Tryz.underlying131 hi hz0 hz1 hz2 rfl (by decide) _ _ _ rfl (hown.alloc _) ⟨wr.heap.size,0,none⟩ 4 4 (bcells (wbytes y)) rfl rfl (fun j u hj=>four_cells wr _ _ j u (wcells yl) hj) (bcells_one _) (by decide) (by decide) (by have:=hbel.size;simp;omega) ?_)
     intro v3 w3 ho3 hg3 _
     have hb3:=app_step hbel hown hg3 (Nat.le_refl _) hbel.size
     clear hown hg3 hbel ix
     go_wp2
     go_roundw
     case rel=>exact ⟨3,by omega,rfl,owns_eq ho3 (by rw [HY.out,←bcells_append];rfl),hb3⟩
     case measure=>simp [intOf]
    ·obtain ⟨y,hy⟩:∃ y,y=x.d:=⟨_,rfl⟩
     have yl:y<4294967296:=by rw [hy];exact ld
     have ix:∀ w,(Instr.index 153 (.agg #[.int .u32 (x.a:Int),.int .u32 (x.b:Int),.int .u32 (x.c:Int),.int .u32 (x.d:Int),.int .u32 (x.e:Int),.int .u32 (x.f:Int),.int .u32 (x.g:Int),.int .u32 (x.h:Int)]) (.int .i64 3)).run Tryz.prog w=.ok (.int .u32 (y:Int)) w:=fun _=>by rw [hy];kernel_rfl
     have HY:Hid (y=x.d):=hy
     clear hy
     rw [show ((3:Nat):Int)=3 from rfl]
     go_wp2_with (at_builtin;refine wpList_append_own _ rfl _ _ 131 rfl wo.heap.size 5 i0 (.int .u8 0) 1 1 Tryz.underlying131 hi hz0 hz1 hz2 rfl (by decide) _ _ _ rfl (hown.alloc _) ⟨wr.heap.size,0,none⟩ 4 4 (bcells (wbytes y)) rfl rfl (fun j u hj=>four_cells wr _ _ j u (wcells yl) hj) (bcells_one _) (by decide) (by decide) (by have:=hbel.size;simp;omega) ?_)
     intro v3 w3 ho3 hg3 _
     have hb3:=app_step hbel hown hg3 (Nat.le_refl _) hbel.size
     clear hown hg3 hbel ix
     go_wp2
     go_roundw
     case rel=>exact ⟨4,by omega,rfl,owns_eq ho3 (by rw [HY.out,←bcells_append];rfl),hb3⟩
     case measure=>simp [intOf]
    ·obtain ⟨y,hy⟩:∃ y,y=x.e:=⟨_,rfl⟩
     have yl:y<4294967296:=by rw [hy];exact le
     have ix:∀ w,(Instr.index 153 (.agg #[.int .u32 (x.a:Int),.int .u32 (x.b:Int),.int .u32 (x.c:Int),.int .u32 (x.d:Int),.int .u32 (x.e:Int),.int .u32 (x.f:Int),.int .u32 (x.g:Int),.int .u32 (x.h:Int)]) (.int .i64 4)).run Tryz.prog w=.ok (.int .u32 (y:Int)) w:=fun _=>by rw [hy];kernel_rfl
     have HY:Hid (y=x.e):=hy
     clear hy
     rw [show ((4:Nat):Int)=4 from rfl]
     go_wp2_with (at_builtin;refine wpList_append_own _ rfl _ _ 131 rfl wo.heap.size 5 i0 (.int .u8 0) 1 1 Tryz.underlying131 hi hz0 hz1 hz2 rfl (by decide) _ _ _ rfl (hown.alloc _) ⟨wr.heap.size,0,none⟩ 4 4 (bcells (wbytes y)) rfl rfl (fun j u hj=>four_cells wr _ _ j u (wcells yl) hj) (bcells_one _) (by decide) (by decide) (by have:=hbel.size;simp;omega) ?_)
     intro v3 w3 ho3 hg3 _
     have hb3:=app_step hbel hown hg3 (Nat.le_refl _) hbel.size
     clear hown hg3 hbel ix
     go_wp2
     go_roundw
     case rel=>exact ⟨5,by omega,rfl,owns_eq ho3 (by rw [HY.out,←bcells_append];rfl),hb3⟩
     case measure=>simp [intOf]
    ·obtain ⟨y,hy⟩:∃ y,y=x.f:=⟨_,rfl⟩
     have yl:y<4294967296:=by rw [hy];exact lf
     have ix:∀ w,(Instr.index 153 (.agg #[.int .u32 (x.a:Int),.int .u32 (x.b:Int),.int .u32 (x.c:Int),.int .u32 (x.d:Int),.int .u32 (x.e:Int),.int .u32 (x.f:Int),.int .u32 (x.g:Int),.int .u32 (x.h:Int)]) (.int .i64 5)).run Tryz.prog w=.ok (.int .u32 (y:Int)) w:=fun _=>by rw [hy];kernel_rfl
     have HY:Hid (y=x.f):=hy
     clear hy
     rw [show ((5:Nat):Int)=5 from rfl]
     go_wp2_with (at_builtin;refine wpList_append_own _ rfl _ _ 131 rfl wo.heap.size 5 i0 (.int .u8 0) 1 1 Tryz.underlying131 hi hz0 hz1 hz2 rfl (by decide) _ _ _ rfl (hown.alloc _) ⟨wr.heap.size,0,none⟩ 4 4 (bcells (wbytes y)) rfl rfl (fun j u hj=>four_cells wr _ _ j u (wcells yl) hj) (bcells_one _) (by decide) (by decide) (by have:=hbel.size;simp;omega) ?_)
     intro v3 w3 ho3 hg3 _
     have hb3:=app_step hbel hown hg3 (Nat.le_refl _) hbel.size
     clear hown hg3 hbel ix
     go_wp2
     go_roundw
     case rel=>exact ⟨6,by omega,rfl,owns_eq ho3 (by rw [HY.out,←bcells_append];rfl),hb3⟩
     case measure=>simp [intOf]
    ·obtain ⟨y,hy⟩:∃ y,y=x.g:=⟨_,rfl⟩
     have yl:y<4294967296:=by rw [hy];exact lg
     have ix:∀ w,(Instr.index 153 (.agg #[.int .u32 (x.a:Int),.int .u32 (x.b:Int),.int .u32 (x.c:Int),.int .u32 (x.d:Int),.int .u32 (x.e:Int),.int .u32 (x.f:Int),.int .u32 (x.g:Int),.int .u32 (x.h:Int)]) (.int .i64 6)).run Tryz.prog w=.ok (.int .u32 (y:Int)) w:=fun _=>by rw [hy];kernel_rfl
     have HY:Hid (y=x.g):=hy
     clear hy
     rw [show ((6:Nat):Int)=6 from rfl]
     go_wp2_with (at_builtin;refine wpList_append_own _ rfl _ _ 131 rfl wo.heap.size 5 i0 (.int .u8 0) 1 1 Tryz.underlying131 hi hz0 hz1 hz2 rfl (by decide) _ _ _ rfl (hown.alloc _) ⟨wr.heap.size,0,none⟩ 4 4 (bcells (wbytes y)) rfl rfl (fun j u hj=>four_cells wr _ _ j u (wcells yl) hj) (bcells_one _) (by decide) (by decide) (by have:=hbel.size;simp;omega) ?_)
     intro v3 w3 ho3 hg3 _
     have hb3:=app_step hbel hown hg3 (Nat.le_refl _) hbel.size
     clear hown hg3 hbel ix
     go_wp2
     go_roundw
     case rel=>exact ⟨7,by omega,rfl,owns_eq ho3 (by rw [HY.out,←bcells_append];rfl),hb3⟩
     case measure=>simp [intOf]
    ·obtain ⟨y,hy⟩:∃ y,y=x.h:=⟨_,rfl⟩
     have yl:y<4294967296:=by rw [hy];exact lh
     have ix:∀ w,(Instr.index 153 (.agg #[.int .u32 (x.a:Int),.int .u32 (x.b:Int),.int .u32 (x.c:Int),.int .u32 (x.d:Int),.int .u32 (x.e:Int),.int .u32 (x.f:Int),.int .u32 (x.g:Int),.int .u32 (x.h:Int)]) (.int .i64 7)).run Tryz.prog w=.ok (.int .u32 (y:Int)) w:=fun _=>by rw [hy];kernel_rfl
     have HY:Hid (y=x.h):=hy
     clear hy
     rw [show ((7:Nat):Int)=7 from rfl]
     go_wp2_with (at_builtin;refine wpList_append_own _ rfl _ _ 131 rfl wo.heap.size 5 i0 (.int .u8 0) 1 1 Tryz.underlying131 hi hz0 hz1 hz2 rfl (by decide) _ _ _ rfl (hown.alloc _) ⟨wr.heap.size,0,none⟩ 4 4 (bcells (wbytes y)) rfl rfl (fun j u hj=>four_cells wr _ _ j u (wcells yl) hj) (bcells_one _) (by decide) (by decide) (by have:=hbel.size;simp;omega) ?_)
     intro v3 w3 ho3 hg3 _
     have hb3:=app_step hbel hown hg3 (Nat.le_refl _) hbel.size
     clear hown hg3 hbel ix
     go_wp2
     go_roundw
     case rel=>exact ⟨8,by omega,rfl,owns_eq ho3 (by rw [HY.out,←bcells_append];rfl),hb3⟩
     case measure=>simp [intOf]
    ·rw [show ((8:Nat):Int)=8 from rfl]
     have hcl:=conv_owned (P:=Tryz.prog) 131 9 5 Tryz.underlying131 Tryz.underlying5 Tryz.underlying9 hown
     clear hown
     go_wp2
     go_ret
     refine ⟨ret_str ?_,hdc.below.trans (hbel.mono hdc.below.size)⟩
     rw [List.take_of_length_le (Nat.le_of_eq (by rfl)),HX.out,HR.out,HM.out,HB2.out,HB.out,HU.out,HP.out,HK.out]
     rfl
theorem words16_congr {l l':List UInt8} {i i':Nat} (h:∀ t,t<64→l.getD (i+t) 0=l'.getD (i'+t) 0):words16 l i=words16 l' i':=by
 unfold words16
 apply List.map_congr_left
 intro t ht
 rw [List.mem_range] at ht
 unfold word4
 have h0:=h (4*t) (by omega)
 have h1:=h (4*t+1) (by omega)
 have h2:=h (4*t+2) (by omega)
 have h3:=h (4*t+3) (by omega)
 simp only [←Nat.add_assoc] at h1 h2 h3
 rw [h0,h1,h2,h3]
theorem blocks_congr {l l':List UInt8} (v:St) (n:Nat) (h:∀ t,t<64*n→l.getD t 0=l'.getD t 0):blocks v l n=blocks v l' n:=by
 induction n with
 | zero=>rfl
 | succ n ih =>
  rw [blocks,blocks,ih (fun t ht=>h t (by omega)),oneBlock,oneBlock,words16_congr (fun t ht=>h (64*n+t) (by omega))]
theorem blocks_add (v:St) (l:List UInt8) (q m:Nat):blocks v l (q+m)=blocks (blocks v l q) (l.drop (64*q)) m:=by
 induction m with
 | zero=>rfl
 | succ m ih =>
  have e:words16 l (64*(q+m))=words16 (l.drop (64*q)) (64*m):=words16_congr (fun t _=>by
   rw [List.getD_eq_getElem?_getD,List.getD_eq_getElem?_getD,List.getElem?_drop,show 64*(q+m)+t=64*q+(64*m+t) by omega])
  rw [←Nat.add_assoc,blocks,blocks,ih,oneBlock,oneBlock,e]
def tailL (n:Nat):List UInt8:=128::List.replicate ((119-n%64)%64) 0++be8 (8*n)
theorem tailL_len (n:Nat):(tailL n).length=1+(119-n%64)%64+8:=by simp [tailL,be8_len];omega
theorem padL_tail (l:List UInt8) (n:Nat) (h:l.length=n%64):padL l n=l++tailL n:=by
 simp [padL,fill,tailL,h]
theorem shaC_eq (s:ByteArray):shaC s=stB (blocks st0 (s.data.toList++tailL s.size) ((s.size+(tailL s.size).length) / 64)):=by
 obtain ⟨q,hq⟩:∃ q,q=s.size / 64:=⟨_,rfl⟩
 have hx:(s.extract (64*q) s.size).data.toList=s.data.toList.drop (64*q):=by
  rw [Lib.extract_data,List.take_of_length_le (by simp)]
 have hy:(s.extract 0 (64*q)).data.toList=s.data.toList.take (64*q):=by
  rw [Lib.extract_data];simp
 have hl:(s.data.toList.drop (64*q)).length=s.size%64:=by rw [List.length_drop,list_len];omega
 have hn:(s.size+(tailL s.size).length) / 64=q+padN (s.data.toList.drop (64*q)):=by
  rw [tailL_len,padN,hl]
  split<;>omega
 rw [shaC,←hq,hx,hy,hn,blocks_add,padL_tail _ _ hl,List.drop_append_of_le_length (by rw [list_len];omega)]
 congr 2
 apply blocks_congr
 intro t ht
 rw [List.getD_eq_getElem?_getD,List.getD_eq_getElem?_getD,List.getElem?_take_of_lt ht,List.getElem?_append_left (by rw [list_len];omega)]
theorem first_tab (w:World) :
  Calls Tryz.prog 111 #[] w fun e w'=>∃ B,e=.returned (.slice (some ⟨B,0,none⟩) 8 8)∧w.heap.size≤B∧B<w'.heap.size∧WTab w' B st0.list∧Below w.heap.size w w' :=
 (first_any w).mono fun e w' ⟨he,hw⟩=>⟨w.heap.size,he,Nat.le_refl _,by rw [hw];show _<(w.heap.push _).size;simp,hw▸WTab.new w st0.list _,hw▸(Below.refl _ _).alloc (Nat.le_refl _) _⟩
theorem keys_tab (w:World) :
  Calls Tryz.prog 112 #[] w fun e w'=>∃ B,e=.returned (.slice (some ⟨B,0,none⟩) 64 64)∧w.heap.size≤B∧B<w'.heap.size∧WTab w' B kw∧Below w.heap.size w w' :=
 (keys_any w).mono fun e w' ⟨he,hw⟩=>⟨w.heap.size,he,Nat.le_refl _,by rw [hw];show _<(w.heap.push _).size;simp,hw▸WTab.new w kw _,hw▸(Below.refl _ _).alloc (Nat.le_refl _) _⟩
theorem wtab_owned {w:World} {base g n cap:Nat} {e:TypeId} {l:List Nat} (h:w.ownsRow base e 1 (.slice (some ⟨g,0,none⟩) n cap) n (ucells l)):WTab w g l:=fun t ht=>by
 have h1:=h.cells (g:=g) rfl t (.int .u32 (l.getD t 0:Nat)) (by simp [ucells,List.getD_eq_getElem?_getD,List.getElem?_eq_getElem ht])
 rw [Addr.add_lit,Nat.zero_add] at h1
 exact h1
theorem words_tab (s:ByteArray) (p:Nat) (w:World) (hp:p+64≤s.size) (hs:s.size≤281474976710656) :
  Calls Tryz.prog 114 #[.string s,.int .i64 p] w fun e w'=>∃ B c,e=.returned (.slice (some ⟨B,0,none⟩) 64 c)∧w.heap.size≤B∧B<w'.heap.size∧WTab w' B (sched (words16 s.data.toList p) 48)∧Below w.heap.size w w' :=
 (rwords_any s p w hp hs).mono fun e w' ⟨v,he,ho,hb⟩=>by
  obtain ⟨g,cap,rfl,h1,h2⟩:=ho.form (by decide)
  exact ⟨g,cap,he,h1,h2,wtab_owned ho,hb⟩
theorem blocks_step (v:St) (l:List UInt8) (n:Nat):(blocks v l n).add (rounds (blocks v l n) (sched (words16 l (64*n)) 48) 64)=blocks v l (n+1):=rfl
def tailF (j:Nat):List UInt8:=128::List.replicate j 0
theorem tailF_len (j:Nat):(tailF j).length=1+j:=by simp [tailF];omega
theorem tailF_next (j:Nat):tailF (j+1)=tailF j++[0]:=by simp [tailF,List.replicate_succ']
theorem list_lt {v:St} (h:v.ok) (k:Nat):v.list.getD k 0<4294967296:=by
 obtain ⟨h0,h1,h2,h3,h4,h5,h6,h7⟩:=h
 match k with
 | 0=>exact h0
 | 1=>exact h1
 | 2=>exact h2
 | 3=>exact h3
 | 4=>exact h4
 | 5=>exact h5
 | 6=>exact h6
 | 7=>exact h7
 | k+8=>simp [St.list]
theorem stB_take (v:St) (k:Nat) (h:k<8):(stB v).take (4*(k+1))=(stB v).take (4*k)++wbytes (v.list.getD k 0):=by
 rcases (by omega:k=0∨k=1∨k=2∨k=3∨k=4∨k=5∨k=6∨k=7) with rfl|rfl|rfl|rfl|rfl|rfl|rfl|rfl<;>rfl
theorem wcells_wrap {y:Nat} (hy:y<4294967296):#[Value.int .u8 (IntKind.u8.wrap ((y:Int) / 16777216)),.int .u8 (IntKind.u8.wrap ((y:Int) / 65536)),.int .u8 (IntKind.u8.wrap ((y:Int) / 256)),.int .u8 (IntKind.u8.wrap (y:Int))]=(bcells (wbytes y)).toArray:=by
 rw [←wcells hy,IntKind.wrap_u8,IntKind.wrap_u8,IntKind.wrap_u8,IntKind.wrap_u8,show (y:Int) / 16777216%256=(y:Int) / 16777216 by omega]
theorem own_ne {w:World} {base size n B:Nat} {e:TypeId} {v:Value} {xs:List Value} (h:w.ownsRow base e size v n xs) (hB:B<base):v.ownBlock≠some B:=fun hr=>by
 have:=(h.lt B hr).1
 omega
structure RdW (w wr:World) (B K:Nat) (s:St):Prop where
 below:Below w.heap.size w wr
 b:B<wr.heap.size
 k:K<wr.heap.size
 s:WTab wr B s.list
 t:WTab wr K kw
set_option maxHeartbeats 4000000 in
set_option maxRecDepth 4000 in
theorem rdigest_any (s:ByteArray) (w:World) (hs:s.size≤140737488355328) :
  Calls Tryz.prog 83 #[.string s] w fun e w'=>e=.returned (.string (str (shaC s)))∧Below w.heap.size w w':=by
 obtain ⟨i0,hi,hz0,hz1,hz2⟩:=info_parts Tryz.info5
 obtain ⟨N,hN⟩:∃ N,N=8*s.size:=⟨_,rfl⟩
 have n1:IntKind.u64.wrap (s.size:Int)=(s.size:Int):=IntWalk.u64_in _ (by omega)
 have n2:IntKind.u64.wrap ((s.size:Int)*8)=(N:Int):=by rw [IntWalk.u64_in _ (by omega)];omega
 have HN:Hid (N=8*s.size):=hN
 clear hN
 have hown1:(w.alloc (.cells #[.int .u8 128] 5)).ownsRow w.heap.size 5 1 (.slice (some ⟨w.heap.size,0,none⟩) 1 1) (1+0) (bcells (tailF 0)):=World.ownsRow_lit w #[.int .u8 128] 1 (Nat.le_refl _) (by decide) rfl
 have hb1:Below w.heap.size w (w.alloc (.cells #[.int .u8 128] 5)):=(Below.refl _ _).alloc (Nat.le_refl _) _
 go_enter Tryz.func83,Tryz.ntmps83
 go_wp2
 clear n1 n2
 go_loopw [4] (fun v wr=>∃ (j:Nat),j≤(119-s.size%64)%64∧wr.ownsRow w.heap.size 5 1 v (1+j) (bcells (tailF j))∧Below w.heap.size w wr) (fun v _=>200-slLen v)
 case atStart=>exact ⟨0,by omega,hown1,hb1⟩
 case round =>
  clear hown1 hb1
  obtain ⟨j,hj,hown,hbel⟩:=hrel
  obtain ⟨q,hq⟩:∃ q,q=1+j:=⟨_,rfl⟩
  have HQ:Hid (q=1+j):=hq
  have q2:q≤100:=by omega
  have q4:0<q:=by omega
  rw [←hq] at hown
  obtain ⟨g,cap,rfl,hg1,hg2⟩:=hown.form q4
  by_cases hlt:(s.size+q)%64=56
  ·obtain rfl:j=(119-s.size%64)%64:=by omega
   obtain ⟨F,hF⟩:∃ F,F=tailF ((119-s.size%64)%64):=⟨_,rfl⟩
   rw [←hF] at hown
   have HF:Hid (F=tailF ((119-s.size%64)%64)):=hF
   have hFq:Hid (F.length=q):=by show _=_;rw [hF,tailF_len];omega
   clear hF hq
   have q3:((s.size:Int)+q)%64=56:=by omega
   go_wp2
   have ho4:wr.ownsRow w.heap.size 5 1 (.slice (some ⟨g,0,none⟩) q cap) (q+0) (bcells (F++(be8 N).take 0)):=owns_eq hown (by simp)
   clear hown q3 hlt
   go_loopw [4,5] (fun v i wr=>∃ (k:Nat),k≤8∧i=.int .i64 (7-(k:Int))∧wr.ownsRow w.heap.size 5 1 v (q+k) (bcells (F++(be8 N).take k))∧Below w.heap.size w wr) (fun _ i _=>(intOf i+1).toNat)
   case atStart=>exact ⟨0,by omega,rfl,ho4,hbel⟩
   case round =>
    clear ho4 hbel
    obtain ⟨k,hk,rfl,hown,hbel⟩:=hrel
    rcases (by omega:k=0∨k=1∨k=2∨k=3∨k=4∨k=5∨k=6∨k=7∨k=8) with rfl|rfl|rfl|rfl|rfl|rfl|rfl|rfl|rfl
    ·have hy:(N:Int) / 72057594037927936%256=((UInt8.ofNat (N / 72057594037927936%256)).toNat:Int):=by rw [u8nat (Nat.mod_lt _ (by decide))];rfl
     obtain ⟨y,hyy⟩:∃ y:UInt8,y=UInt8.ofNat (N / 72057594037927936%256):=⟨_,rfl⟩
     rw [←hyy] at hy
     have HY:Hid (y=UInt8.ofNat (N / 72057594037927936%256)):=hyy
     clear hyy
     rw [show ((7:Int)-((0:Nat):Int))=7 from rfl]
     go_wp2_with (at_builtin;refine wpList_append_own _ rfl _ _ 131 rfl w.heap.size 5 i0 (.int .u8 0) 1 1 Tryz.underlying131 hi hz0 hz1 hz2 rfl (by decide) _ _ _ rfl (hown.alloc _) ⟨wr.heap.size,0,none⟩ 1 1 (bcells [y]) rfl rfl (new_cell _ _ _) (bcells_one _) (by unfold maxLen;omega) (by omega) (by have:=hbel.size;simp;omega) ?_)
     intro v3 w3 ho3 hg3 _
     have hb3:=app_step hbel hown hg3 (Nat.le_refl _) hbel.size
     clear hown hg3 hbel
     go_wp2
     go_roundw
     case rel=>exact ⟨1,by omega,by rfl,owns_eq ho3 (by rw [HY.out,←bcells_append];simp [be8]),hb3⟩
     case measure=>simp [intOf]
    ·have hy:(N:Int) / 281474976710656%256=((UInt8.ofNat (N / 281474976710656%256)).toNat:Int):=by rw [u8nat (Nat.mod_lt _ (by decide))];rfl
     obtain ⟨y,hyy⟩:∃ y:UInt8,y=UInt8.ofNat (N / 281474976710656%256):=⟨_,rfl⟩
     rw [←hyy] at hy
     have HY:Hid (y=UInt8.ofNat (N / 281474976710656%256)):=hyy
     clear hyy
     rw [show ((7:Int)-((1:Nat):Int))=6 from rfl]
     go_wp2_with (at_builtin;refine wpList_append_own _ rfl _ _ 131 rfl w.heap.size 5 i0 (.int .u8 0) 1 1 Tryz.underlying131 hi hz0 hz1 hz2 rfl (by decide) _ _ _ rfl (hown.alloc _) ⟨wr.heap.size,0,none⟩ 1 1 (bcells [y]) rfl rfl (new_cell _ _ _) (bcells_one _) (by unfold maxLen;omega) (by omega) (by have:=hbel.size;simp;omega) ?_)
     intro v3 w3 ho3 hg3 _
     have hb3:=app_step hbel hown hg3 (Nat.le_refl _) hbel.size
     clear hown hg3 hbel
     go_wp2
     go_roundw
     case rel=>exact ⟨2,by omega,by rfl,owns_eq ho3 (by rw [HY.out,←bcells_append];simp [be8]),hb3⟩
     case measure=>simp [intOf]
    ·have hy:(N:Int) / 1099511627776%256=((UInt8.ofNat (N / 1099511627776%256)).toNat:Int):=by rw [u8nat (Nat.mod_lt _ (by decide))];rfl
     obtain ⟨y,hyy⟩:∃ y:UInt8,y=UInt8.ofNat (N / 1099511627776%256):=⟨_,rfl⟩
     rw [←hyy] at hy
     have HY:Hid (y=UInt8.ofNat (N / 1099511627776%256)):=hyy
     clear hyy
     rw [show ((7:Int)-((2:Nat):Int))=5 from rfl]
     go_wp2_with (at_builtin;refine wpList_append_own _ rfl _ _ 131 rfl w.heap.size 5 i0 (.int .u8 0) 1 1 Tryz.underlying131 hi hz0 hz1 hz2 rfl (by decide) _ _ _ rfl (hown.alloc _) ⟨wr.heap.size,0,none⟩ 1 1 (bcells [y]) rfl rfl (new_cell _ _ _) (bcells_one _) (by unfold maxLen;omega) (by omega) (by have:=hbel.size;simp;omega) ?_)
     intro v3 w3 ho3 hg3 _
     have hb3:=app_step hbel hown hg3 (Nat.le_refl _) hbel.size
     clear hown hg3 hbel
     go_wp2
     go_roundw
     case rel=>exact ⟨3,by omega,by rfl,owns_eq ho3 (by rw [HY.out,←bcells_append];simp [be8]),hb3⟩
     case measure=>simp [intOf]
    ·have hy:(N:Int) / 4294967296%256=((UInt8.ofNat (N / 4294967296%256)).toNat:Int):=by rw [u8nat (Nat.mod_lt _ (by decide))];rfl
     obtain ⟨y,hyy⟩:∃ y:UInt8,y=UInt8.ofNat (N / 4294967296%256):=⟨_,rfl⟩
     rw [←hyy] at hy
     have HY:Hid (y=UInt8.ofNat (N / 4294967296%256)):=hyy
     clear hyy
     rw [show ((7:Int)-((3:Nat):Int))=4 from rfl]
     go_wp2_with (at_builtin;refine wpList_append_own _ rfl _ _ 131 rfl w.heap.size 5 i0 (.int .u8 0) 1 1 Tryz.underlying131 hi hz0 hz1 hz2 rfl (by decide) _ _ _ rfl (hown.alloc _) ⟨wr.heap.size,0,none⟩ 1 1 (bcells [y]) rfl rfl (new_cell _ _ _) (bcells_one _) (by unfold maxLen;omega) (by omega) (by have:=hbel.size;simp;omega) ?_)
     intro v3 w3 ho3 hg3 _
     have hb3:=app_step hbel hown hg3 (Nat.le_refl _) hbel.size
     clear hown hg3 hbel
     go_wp2
     go_roundw
     case rel=>exact ⟨4,by omega,by rfl,owns_eq ho3 (by rw [HY.out,←bcells_append];simp [be8]),hb3⟩
     case measure=>simp [intOf]
    ·have hy:(N:Int) / 16777216%256=((UInt8.ofNat (N / 16777216%256)).toNat:Int):=by rw [u8nat (Nat.mod_lt _ (by decide))];rfl
     obtain ⟨y,hyy⟩:∃ y:UInt8,y=UInt8.ofNat (N / 16777216%256):=⟨_,rfl⟩
     rw [←hyy] at hy
     have HY:Hid (y=UInt8.ofNat (N / 16777216%256)):=hyy
     clear hyy
     rw [show ((7:Int)-((4:Nat):Int))=3 from rfl]
     go_wp2_with (at_builtin;refine wpList_append_own _ rfl _ _ 131 rfl w.heap.size 5 i0 (.int .u8 0) 1 1 Tryz.underlying131 hi hz0 hz1 hz2 rfl (by decide) _ _ _ rfl (hown.alloc _) ⟨wr.heap.size,0,none⟩ 1 1 (bcells [y]) rfl rfl (new_cell _ _ _) (bcells_one _) (by unfold maxLen;omega) (by omega) (by have:=hbel.size;simp;omega) ?_)
     intro v3 w3 ho3 hg3 _
     have hb3:=app_step hbel hown hg3 (Nat.le_refl _) hbel.size
     clear hown hg3 hbel
     go_wp2
     go_roundw
     case rel=>exact ⟨5,by omega,by rfl,owns_eq ho3 (by rw [HY.out,←bcells_append];simp [be8]),hb3⟩
     case measure=>simp [intOf]
    ·have hy:(N:Int) / 65536%256=((UInt8.ofNat (N / 65536%256)).toNat:Int):=by rw [u8nat (Nat.mod_lt _ (by decide))];rfl
     obtain ⟨y,hyy⟩:∃ y:UInt8,y=UInt8.ofNat (N / 65536%256):=⟨_,rfl⟩
     rw [←hyy] at hy
     have HY:Hid (y=UInt8.ofNat (N / 65536%256)):=hyy
     clear hyy
     rw [show ((7:Int)-((5:Nat):Int))=2 from rfl]
     go_wp2_with (at_builtin;refine wpList_append_own _ rfl _ _ 131 rfl w.heap.size 5 i0 (.int .u8 0) 1 1 Tryz.underlying131 hi hz0 hz1 hz2 rfl (by decide) _ _ _ rfl (hown.alloc _) ⟨wr.heap.size,0,none⟩ 1 1 (bcells [y]) rfl rfl (new_cell _ _ _) (bcells_one _) (by unfold maxLen;omega) (by omega) (by have:=hbel.size;simp;omega) ?_)
     intro v3 w3 ho3 hg3 _
     have hb3:=app_step hbel hown hg3 (Nat.le_refl _) hbel.size
     clear hown hg3 hbel
     go_wp2
     go_roundw
     case rel=>exact ⟨6,by omega,by rfl,owns_eq ho3 (by rw [HY.out,←bcells_append];simp [be8]),hb3⟩
     case measure=>simp [intOf]
    ·have hy:(N:Int) / 256%256=((UInt8.ofNat (N / 256%256)).toNat:Int):=by rw [u8nat (Nat.mod_lt _ (by decide))];rfl
     obtain ⟨y,hyy⟩:∃ y:UInt8,y=UInt8.ofNat (N / 256%256):=⟨_,rfl⟩
     rw [←hyy] at hy
     have HY:Hid (y=UInt8.ofNat (N / 256%256)):=hyy
     clear hyy
     rw [show ((7:Int)-((6:Nat):Int))=1 from rfl]
     go_wp2_with (at_builtin;refine wpList_append_own _ rfl _ _ 131 rfl w.heap.size 5 i0 (.int .u8 0) 1 1 Tryz.underlying131 hi hz0 hz1 hz2 rfl (by decide) _ _ _ rfl (hown.alloc _) ⟨wr.heap.size,0,none⟩ 1 1 (bcells [y]) rfl rfl (new_cell _ _ _) (bcells_one _) (by unfold maxLen;omega) (by omega) (by have:=hbel.size;simp;omega) ?_)
     intro v3 w3 ho3 hg3 _
     have hb3:=app_step hbel hown hg3 (Nat.le_refl _) hbel.size
     clear hown hg3 hbel
     go_wp2
     go_roundw
     case rel=>exact ⟨7,by omega,by rfl,owns_eq ho3 (by rw [HY.out,←bcells_append];simp [be8]),hb3⟩
     case measure=>simp [intOf]
    ·have hy:(N:Int)%256=((UInt8.ofNat (N%256)).toNat:Int):=by rw [u8nat (Nat.mod_lt _ (by decide))];rfl
     obtain ⟨y,hyy⟩:∃ y:UInt8,y=UInt8.ofNat (N%256):=⟨_,rfl⟩
     rw [←hyy] at hy
     have HY:Hid (y=UInt8.ofNat (N%256)):=hyy
     clear hyy
     rw [show ((7:Int)-((7:Nat):Int))=0 from rfl]
     go_wp2_with (at_builtin;refine wpList_append_own _ rfl _ _ 131 rfl w.heap.size 5 i0 (.int .u8 0) 1 1 Tryz.underlying131 hi hz0 hz1 hz2 rfl (by decide) _ _ _ rfl (hown.alloc _) ⟨wr.heap.size,0,none⟩ 1 1 (bcells [y]) rfl rfl (new_cell _ _ _) (bcells_one _) (by unfold maxLen;omega) (by omega) (by have:=hbel.size;simp;omega) ?_)
     intro v3 w3 ho3 hg3 _
     have hb3:=app_step hbel hown hg3 (Nat.le_refl _) hbel.size
     clear hown hg3 hbel
     go_wp2
     go_roundw
     case rel=>exact ⟨8,by omega,by rfl,owns_eq ho3 (by rw [HY.out,←bcells_append];simp [be8]),hb3⟩
     case measure=>simp [intOf]
    ·rw [show ((7:Int)-((8:Nat):Int))=-1 from rfl]
     have hcl:=conv_owned (P:=Tryz.prog) 131 9 5 Tryz.underlying131 Tryz.underlying5 Tryz.underlying9 hown
     obtain ⟨T,hT⟩:∃ T,T=F++(be8 N).take 8:=⟨_,rfl⟩
     have hTl:(str T).size≤108:=by rw [hT,str_size,List.length_append,hFq.out];simp [be8_len];omega
     rw [←hT] at hcl
     have HT:Hid (T=tailL s.size):=by show _=_;rw [hT,List.take_of_length_le (Nat.le_of_eq (be8_len _)),HF.out,HN.out];rfl
     obtain ⟨p,hp⟩:∃ p,p=s++str T:=⟨_,rfl⟩
     have HP:Hid (p=s++str T):=hp
     obtain ⟨M,hM⟩:∃ M,M=(s.size+(tailL s.size).length) / 64:=⟨_,rfl⟩
     have hpM:p.size=64*M:=by rw [hp,ByteArray.size_append,str_size,HT.out,hM,tailL_len];omega
     have hpl:p.size≤281474976710656:=by rw [hp,ByteArray.size_append];omega
     have hsum:s.size+(str T).size≤9223372036854775807:=by omega
     have HM:Hid (M=(s.size+(tailL s.size).length) / 64):=hM
     have HPM:Hid (p.size=64*M):=hpM
     clear hown hT hp hM hpM
     go_wp2_with (first
      | (go_at_call 111;rw [←HP.out];refine (first_tab _).mono ?_;rintro e w1 ⟨B1,rfl,hB1,hB1',ht1,hbf1⟩)
      | (go_at_call 112;refine (keys_tab _).mono ?_;rintro e w2 ⟨B2,rfl,hB2,hB2',ht2,hbf2⟩))
     have hbw:=hbel.size
     have hrd:RdW w w2 B1 B2 st0:=⟨(hbel.trans (hbf1.mono hbel.size)).trans (hbf2.mono (by have:=hbf1.size;omega)),by have:=hbf2.size;omega,hB2',ht1.below hbf2 hB1',ht2⟩
     clear hcl hbel ht1 ht2 hbf1 hbf2 hB1 hB1' hB2 hB2' hsum hTl hbw
     obtain ⟨u,hu⟩:∃ u,u=st0:=⟨_,rfl⟩
     have huo:u.ok:=hu▸st0_ok
     have HU:Hid (u=st0):=hu
     rw [←hu] at hrd
     clear hu
     go_loopw [7,9] (fun h i wr=>∃ (n q B:Nat),n≤M∧q=64*n∧i=.int .i64 (q:Int)∧h=.slice (some ⟨B,0,none⟩) 8 8∧RdW w wr B B2 (blocks u p.data.toList n)) (fun _ i _=>p.size-(intOf i).toNat)
     case atStart=>exact ⟨0,0,B1,by omega,rfl,rfl,rfl,hrd⟩
     case round =>
      clear hrd
      obtain ⟨n,q5,B,hn,hq5,rfl,rfl,hrd⟩:=hrel
      have HQ5:Hid (q5=64*n):=hq5
      clear hq5
      obtain ⟨V,hV⟩:∃ V,V=blocks u p.data.toList n:=⟨_,rfl⟩
      rw [←hV] at hrd
      have hVo:V.ok:=hV▸blocks_ok huo _ _
      have HV:Hid (V=blocks u p.data.toList n):=hV
      clear hV
      by_cases hlt:q5<p.size
      ·have hq6:q5+64≤p.size:=by have:=HPM.out;have:=HQ5.out;omega
       obtain ⟨L,hL⟩:∃ L,L=sched (words16 p.data.toList q5) 48:=⟨_,rfl⟩
       have hLl:L.length=64:=by rw [hL,sched_len (words16_len _ _)]
       have hLw:∀ x∈L,x<4294967296:=by rw [hL];exact sched_lt (words16_lt _ _) _
       have HL:Hid (sched (words16 p.data.toList q5) 48=L):=hL.symm
       have HLl:Hid (L.length=64):=hLl
       have HLw:Hid (∀ x∈L,x<4294967296):=hLw
       clear hL hLl hLw
       go_wp2_with (first
        | (go_at_call 114;refine (words_tab p q5 _ hq6 hpl).mono ?_;rintro e w3 ⟨B3,c3,rfl,hB3,hB3',ht3,hbf3⟩;rw [HL.out] at ht3)
        | (go_at_call 113;refine (block_any V L B B3 B2 8 c3 _ hVo HLl.out HLw.out (hrd.s.below hbf3 hrd.b) ht3 (hrd.t.below hbf3 hrd.k)).mono ?_;rintro e w4 ⟨⟨B4,hB4,hB4',rfl,ht4⟩,hbf4⟩))
       have hbw:=hrd.below.size
       have hb43:=hbf3.size
       have hb44:=hbf4.size
       have hrd4:RdW w w4 B4 B2 (blocks u p.data.toList (n+1)):=⟨(hrd.below.trans (hbf3.mono hbw)).trans (hbf4.mono (by omega)),hB4',by have:=hrd.k;omega,by rw [←blocks_step,←HV.out,←HQ5.out,HL.out];exact ht4,(hrd.t.below hbf3 hrd.k).below hbf4 (by have:=hrd.k;omega)⟩
       clear hrd ht3 ht4 hbf3 hbf4 hB3 hB3' hB4 hB4' hbw hb43 hb44
       go_roundw
       case rel=>exact ⟨n+1,q5+64,B4,by have:=HPM.out;have:=HQ5.out;omega,by have:=HQ5.out;omega,by go_num,rfl,hrd4⟩
       case measure=>simp [intOf];omega
      ·obtain rfl:n=M:=by have:=HPM.out;have:=HQ5.out;omega
       obtain ⟨wo,hwo⟩:∃ wo:World,wo=wr:=⟨_,rfl⟩
       rw [←hwo] at hrd ⊢
       clear hwo
       have hown5:(wo.alloc (.cells #[] 5)).ownsRow wo.heap.size 5 1 (.slice (some ⟨wo.heap.size,0,none⟩) 0 0) (4*0) (bcells ((stB V).take (4*0))):=World.ownsRow_lit wo #[] 0 (Nat.le_refl _) (by decide) rfl
       have hb5:Below wo.heap.size wo (wo.alloc (.cells #[] 5)):=(Below.refl _ _).alloc (Nat.le_refl _) _
       go_wp2
       go_loopw [10,11] (fun v i wx=>∃ k:Nat,k≤8∧i=.int .i64 k∧wx.ownsRow wo.heap.size 5 1 v (4*k) (bcells ((stB V).take (4*k)))∧Below wo.heap.size wo wx)
        (fun _ i _=>8-(intOf i).toNat)
       case atStart=>exact ⟨0,by omega,rfl,hown5,hb5⟩
       case round =>
        clear hown5 hb5
        obtain ⟨k,hk8,rfl,hown,hbel⟩:=hrel
        by_cases hk:k<8
        ·obtain ⟨y,hy⟩:∃ y,y=V.list.getD k 0:=⟨_,rfl⟩
         have yl:y<4294967296:=by rw [hy];exact list_lt hVo k
         have hc:wr.cell? ⟨B,k,none⟩=some (.int .u32 (y:Int)):=by rw [hy];exact hrd.s.below hbel hrd.b k hk
         have HY:Hid (y=V.list.getD k 0):=hy
         have hBl:B<wo.heap.size:=hrd.b
         have k1:(0:Int)≤k:=by omega
         have k2:(k:Int)<8:=by omega
         have hBw:B<wr.heap.size:=Nat.lt_of_lt_of_le hBl hbel.size
         have hro:=own_ne hown hBl
         clear hy
         go_wp2
         go_region_held3 (fun w'=>w'.cell? ⟨B,k,none⟩=some (.int .u32 (y:Int))) (first|go_keep|(go_split_ands;rw [hg3.cell_far _ (by simp;omega) (Ne.symm hro)];assumption))
          ((refine step_append_lies _ (by rfl) _ _ _ (by rfl) wo.heap.size 5 i0 (.int .u8 0) 1 1 Tryz.underlying131 hi hz0 hz1 hz2 rfl (by omega) _ _ _ (by rfl) ((hown.alloc _).drew) ⟨wr.heap.size,0,none⟩ 4 4 (bcells (wbytes y)) (by rfl) (by rfl) (fun j u hj=>four_cells' wr _ _ j u (wcells_wrap yl) hj) (bcells_one _) (by omega) (by unfold maxLen;omega) (by omega) (by have:=hbel.size;simp;omega) (wr.heap.size+1) (by simp) ?_;intro g6 c6 w3 ho3 hg3 hat hlt6))
         have hb6:Below wo.heap.size wo w3:=app_step hbel hown (grown_drew hg3) (Nat.le_refl _) hbel.size
         clear hown hg3 hbel hro
         go_wp2
         go_roundw
         case rel=>exact ⟨k+1,by omega,by go_num,owns_eq ho3 (by rw [stB_take V k hk,←HY.out,bcells_append]),hb6⟩
         case measure=>simp [intOf];omega
        ·obtain rfl:k=8:=by omega
         rw [show ((8:Nat):Int)=8 from rfl]
         have hcl:=conv_owned (P:=Tryz.prog) 131 9 5 Tryz.underlying131 Tryz.underlying5 Tryz.underlying9 hown
         clear hown
         go_wp2
         go_ret
         refine ⟨ret_str ?_,hrd.below.trans (hbel.mono hrd.below.size)⟩
         rw [List.take_of_length_le (Nat.le_of_eq (by rfl)),HV.out,HU.out,HP.out,HT.out,HM.out,shaC_eq,app_list]
         rfl
  ·have hj2:j<(119-s.size%64)%64:=by omega
   clear hq
   go_wp2_with (at_builtin;refine wpList_append_own _ rfl _ _ 131 rfl w.heap.size 5 i0 (.int .u8 0) 1 1 Tryz.underlying131 hi hz0 hz1 hz2 rfl (by decide) _ _ _ rfl (hown.alloc _) ⟨wr.heap.size,0,none⟩ 1 1 (bcells [0]) rfl rfl (new_cell _ _ _) (bcells_one _) (by unfold maxLen;omega) (by omega) (by have:=hbel.size;simp;omega) ?_)
   intro v3 w3 ho3 hg3 _
   have hb3:=app_step hbel hown hg3 (Nat.le_refl _) hbel.size
   clear hown hg3 hbel
   obtain ⟨g3,cap3,rfl,_,_⟩:=ho3.form (by omega)
   go_wp2
   go_roundw
   case rel=>exact ⟨j+1,by omega,by rw [show 1+(j+1)=q+1 by have:=HQ.out;omega];exact owns_eq ho3 (by rw [tailF_next,bcells_append]),hb3⟩
   case measure=>have hh:=HQ.out;simp [slLen];omega
theorem stB_len (v:St):(stB v).length=32:=rfl
def ofC (s:ByteArray):List UInt8:=hexL ((str (shaC s)).extract 0 20).data.toList
set_option maxHeartbeats 1000000 in
set_option maxRecDepth 4000 in
theorem of_any (s:ByteArray) (w:World) (hs:s.size≤140737488355328) (hk:KTab w) :
  Calls Tryz.prog 74 #[.string s] w fun e w'=>e=.returned (.string (str (ofC s)))∧Below w.heap.size w w':=by
 obtain ⟨h,hh⟩:∃ h,h=str (shaC s):=⟨_,rfl⟩
 have hl:h.size=32:=by rw [hh,str_size];exact stB_len _
 have HH:Hid (h=str (shaC s)):=hh
 have h1:20≤h.size:=by omega
 have hx:(h.extract 0 20).size≤70368744177664:=by rw [ByteArray.size_extract];omega
 obtain ⟨x,hxx⟩:∃ x,x=h.extract 0 20:=⟨_,rfl⟩
 rw [←hxx] at hx
 have HX:Hid (x=h.extract 0 20):=hxx
 clear hh hl hxx
 go_enter Tryz.func74,Tryz.ntmps74
 go_wp2_with (first
  | (go_at_call 110;refine (digest_any s _ hs hk).mono ?_;rintro e w1 ⟨rfl,hb1⟩;rw [←HH.out])
  | (go_at_call 109;rw [←HX.out];refine (hex_any x _ hx).mono ?_;rintro e w2 ⟨rfl,hb2⟩))
 go_ret
 exact ⟨ret_str (by rw [HX.out,HH.out];rfl),hb1.trans (hb2.mono hb1.size)⟩
set_option maxHeartbeats 1000000 in
set_option maxRecDepth 4000 in
theorem rof_any (s:ByteArray) (w:World) (hs:s.size≤140737488355328) :
  Calls Tryz.prog 49 #[.string s] w fun e w'=>e=.returned (.string (str (ofC s)))∧Below w.heap.size w w':=by
 obtain ⟨h,hh⟩:∃ h,h=str (shaC s):=⟨_,rfl⟩
 have hl:h.size=32:=by rw [hh,str_size];exact stB_len _
 have HH:Hid (h=str (shaC s)):=hh
 have h1:20≤h.size:=by omega
 have hx:(h.extract 0 20).size≤70368744177664:=by rw [ByteArray.size_extract];omega
 obtain ⟨x,hxx⟩:∃ x,x=h.extract 0 20:=⟨_,rfl⟩
 rw [←hxx] at hx
 have HX:Hid (x=h.extract 0 20):=hxx
 clear hh hl hxx
 go_enter Tryz.func49,Tryz.ntmps49
 go_wp2_with (first
  | (go_at_call 83;refine (rdigest_any s _ hs).mono ?_;rintro e w1 ⟨rfl,hb1⟩;rw [←HH.out])
  | (go_at_call 82;rw [←HX.out];refine (rhex_any x _ hx).mono ?_;rintro e w2 ⟨rfl,hb2⟩))
 go_ret
 exact ⟨ret_str (by rw [HX.out,HH.out];rfl),hb1.trans (hb2.mono hb1.size)⟩
end Go.Proofs.YtnoopcenogbjiaaGreatDoor
