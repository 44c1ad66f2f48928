/-
 The walk of the reference's Digest.
-/
import Derived.Test.YtnoopcenogbjiaaGreatDoorShaRBlockPk
import Derived.Test.YtnoopcenogbjiaaGreatDoorShaPadPk
import Derived.Deep.RegionHeld3
import Derived.Test.YtnoopcenogbjiaaGreatDoorLawPostPk
import Derived.Test.YtnoopcenogbjiaaGreatDoorIdRHex
set_option linter.unusedVariables false
set_option linter.unusedSimpArgs false
namespace Go.Proofs.YtnoopcenogbjiaaGreatDoor
open Go.RowKit
theorem first_tab (w : World) :
  Calls Tryz.prog 111 #[] w fun e w' => ∃ B,e = .returned (.slice (some ⟨B,0,none⟩) 8 8) ∧ w.heap.size ≤ B ∧ B < w'.heap.size ∧ WTab w' B st0.list ∧ Below w.heap.size w w' :=
 (first_any w).mono fun e w' ⟨he,hw⟩ => ⟨w.heap.size,he,Nat.le_refl _,by rw [hw];show _ < (w.heap.push _).size;simp,hw ▸ WTab.new w st0.list _,hw ▸ (Below.refl _ _).alloc (Nat.le_refl _) _⟩
theorem keys_tab (w : World) :
  Calls Tryz.prog 112 #[] w fun e w' => ∃ B,e = .returned (.slice (some ⟨B,0,none⟩) 64 64) ∧ w.heap.size ≤ B ∧ B < w'.heap.size ∧ WTab w' B kw ∧ Below w.heap.size w w' :=
 (keys_any w).mono fun e w' ⟨he,hw⟩ => ⟨w.heap.size,he,Nat.le_refl _,by rw [hw];show _ < (w.heap.push _).size;simp,hw ▸ WTab.new w kw _,hw ▸ (Below.refl _ _).alloc (Nat.le_refl _) _⟩
theorem wtab_owned {w : World} {base g n cap : Nat} {e : TypeId} {l : List Nat} (h : w.ownsRow base e 1 (.slice (some ⟨g,0,none⟩) n cap) n (ucells l)) : WTab w g l:=fun t ht => by
 have h1:=h.cells (g:=g) rfl t (.int .u32 (l.getD t 0 : Nat)) (by simp [ucells,List.getD_eq_getElem?_getD,List.getElem?_eq_getElem ht])
 rw [Addr.add_lit,Nat.zero_add] at h1
 exact h1
theorem words_tab (s : ByteArray) (p : Nat) (w : World) (hp : p + 64 ≤ s.size) (hs : s.size ≤ 281474976710656) :
  Calls Tryz.prog 114 #[.string s,.int .i64 p] w fun e w' => ∃ B c,e = .returned (.slice (some ⟨B,0,none⟩) 64 c) ∧ w.heap.size ≤ B ∧ B < w'.heap.size ∧ WTab w' B (sched (words16 s.data.toList p) 48) ∧ Below w.heap.size w w' :=
 (rwords_any s p w hp hs).mono fun e w' ⟨v,he,ho,hb⟩ => by
  obtain ⟨g,cap,rfl,h1,h2⟩:=ho.form (by decide)
  exact ⟨g,cap,he,h1,h2,wtab_owned ho,hb⟩
theorem blocks_step (v : St) (l : List UInt8) (n : Nat) : (blocks v l n).add (rounds (blocks v l n) (sched (words16 l (64 * n)) 48) 64) = blocks v l (n + 1):=rfl
def tailF (j : Nat) : List UInt8:=128 :: List.replicate j 0
theorem tailF_len (j : Nat) : (tailF j).length = 1 + j:=by simp [tailF];omega
theorem tailF_next (j : Nat) : tailF (j + 1) = tailF j ++ [0]:=by simp [tailF,List.replicate_succ']
theorem list_lt {v : St} (h : v.ok) (k : Nat) : v.list.getD k 0 < 4294967296:=by
 obtain ⟨h0,h1,h2,h3,h4,h5,h6,h7⟩:=h
 match k with
 | 0 => exact h0
 | 1 => exact h1
 | 2 => exact h2
 | 3 => exact h3
 | 4 => exact h4
 | 5 => exact h5
 | 6 => exact h6
 | 7 => exact h7
 | k + 8 => simp [St.list]
theorem stB_take (v : St) (k : Nat) (h : k < 8) : (stB v).take (4 * (k + 1)) = (stB v).take (4 * k) ++ wbytes (v.list.getD k 0):=by
 rcases (by omega : k = 0 ∨ k = 1 ∨ k = 2 ∨ k = 3 ∨ k = 4 ∨ k = 5 ∨ k = 6 ∨ k = 7) with rfl | rfl | rfl | rfl | rfl | rfl | rfl | rfl <;> rfl
theorem wcells_wrap {y : Nat} (hy : y < 4294967296) : #[Value.int .u8 (IntKind.u8.wrap ((y : Int) / 16777216)),.int .u8 (IntKind.u8.wrap ((y : Int) / 65536)),.int .u8 (IntKind.u8.wrap ((y : Int) / 256)),.int .u8 (IntKind.u8.wrap (y : Int))] = (bcells (wbytes y)).toArray:=by
 rw [← wcells hy,IntKind.wrap_u8,IntKind.wrap_u8,IntKind.wrap_u8,IntKind.wrap_u8,show (y : Int) / 16777216 % 256 = (y : Int) / 16777216 by omega]
theorem own_ne {w : World} {base size n B : Nat} {e : TypeId} {v : Value} {xs : List Value} (h : w.ownsRow base e size v n xs) (hB : B < base) : v.ownBlock ≠ some B:=fun hr => by
 have:=(h.lt B hr).1
 omega
structure RdW (w wr : World) (B K : Nat) (s : St) : Prop where
 below : Below w.heap.size w wr
 b : B < wr.heap.size
 k : K < wr.heap.size
 s : WTab wr B s.list
 t : WTab wr K kw
set_option maxHeartbeats 4000000 in
set_option maxRecDepth 4000 in
theorem rdigest_any (s : ByteArray) (w : World) (hs : s.size ≤ 140737488355328) :
  Calls Tryz.prog 83 #[.string s] w fun e w' => e = .returned (.string (str (shaC s))) ∧ Below w.heap.size w w':=by
 obtain ⟨i0,hi,hz0,hz1,hz2⟩:=info_parts Tryz.info5
 obtain ⟨N,hN⟩ : ∃ N,N = 8 * s.size:=⟨_,rfl⟩
 have n1 : IntKind.u64.wrap (s.size : Int) = (s.size : Int):=IntWalk.u64_in _ (by omega)
 have n2 : IntKind.u64.wrap ((s.size : Int) * 8) = (N : Int):=by rw [IntWalk.u64_in _ (by omega)];omega
 have HN : Hid (N = 8 * s.size):=hN
 clear hN
 have hown1 : (w.alloc (.cells #[.int .u8 128] 5)).ownsRow w.heap.size 5 1 (.slice (some ⟨w.heap.size,0,none⟩) 1 1) (1 + 0) (bcells (tailF 0)):=World.ownsRow_lit w #[.int .u8 128] 1 (Nat.le_refl _) (by decide) rfl
 have hb1 : Below w.heap.size w (w.alloc (.cells #[.int .u8 128] 5)):=(Below.refl _ _).alloc (Nat.le_refl _) _
 go_enter Tryz.func83,Tryz.ntmps83
 go_wp2
 clear n1 n2
 go_loopw [4] (fun v wr => ∃ (j : Nat),j ≤ (119 - s.size % 64) % 64 ∧ wr.ownsRow w.heap.size 5 1 v (1 + j) (bcells (tailF j)) ∧ Below w.heap.size w wr) (fun v _ => 200 - slLen v)
 case atStart => exact ⟨0,by omega,hown1,hb1⟩
 case round =>
  clear hown1 hb1
  obtain ⟨j,hj,hown,hbel⟩:=hrel
  obtain ⟨q,hq⟩ : ∃ q,q = 1 + j:=⟨_,rfl⟩
  have HQ : Hid (q = 1 + j):=hq
  have q2 : q ≤ 100:=by omega
  have q4 : 0 < q:=by omega
  rw [← hq] at hown
  obtain ⟨g,cap,rfl,hg1,hg2⟩:=hown.form q4
  by_cases hlt : (s.size + q) % 64 = 56
  ·obtain rfl : j = (119 - s.size % 64) % 64:=by omega
   obtain ⟨F,hF⟩ : ∃ F,F = tailF ((119 - s.size % 64) % 64):=⟨_,rfl⟩
   rw [← hF] at hown
   have HF : Hid (F = tailF ((119 - s.size % 64) % 64)):=hF
   have hFq : Hid (F.length = q):=by show _ = _;rw [hF,tailF_len];omega
   clear hF hq
   have q3 : ((s.size : Int) + q) % 64 = 56:=by omega
   go_wp2
   have ho4 : wr.ownsRow w.heap.size 5 1 (.slice (some ⟨g,0,none⟩) q cap) (q + 0) (bcells (F ++ (be8 N).take 0)):=owns_eq hown (by simp)
   clear hown q3 hlt
   go_loopw [4,5] (fun v i wr => ∃ (k : Nat),k ≤ 8 ∧ i = .int .i64 (7 - (k : Int)) ∧ wr.ownsRow w.heap.size 5 1 v (q + k) (bcells (F ++ (be8 N).take k)) ∧ Below w.heap.size w wr) (fun _ i _ => (intOf i + 1).toNat)
   case atStart => exact ⟨0,by omega,rfl,ho4,hbel⟩
   case round =>
    clear ho4 hbel
    obtain ⟨k,hk,rfl,hown,hbel⟩:=hrel
    rcases (by omega : k = 0 ∨ k = 1 ∨ k = 2 ∨ k = 3 ∨ k = 4 ∨ k = 5 ∨ k = 6 ∨ k = 7 ∨ k = 8) with rfl | rfl | rfl | rfl | rfl | rfl | rfl | rfl | rfl
    ·have hy : (N : Int) / 72057594037927936 % 256 = ((UInt8.ofNat (N / 72057594037927936 % 256)).toNat : Int):=by rw [u8nat (Nat.mod_lt _ (by decide))];rfl
     obtain ⟨y,hyy⟩ : ∃ y : UInt8,y = UInt8.ofNat (N / 72057594037927936 % 256):=⟨_,rfl⟩
     rw [← hyy] at hy
     have HY : Hid (y = UInt8.ofNat (N / 72057594037927936 % 256)):=hyy
     clear hyy
     rw [show ((7 : Int) - ((0 : Nat) : Int)) = 7 from rfl]
     go_wp2_with (at_builtin;refine wpList_append_own _ rfl _ _ 131 rfl w.heap.size 5 i0 (.int .u8 0) 1 1 Tryz.underlying131 hi hz0 hz1 hz2 rfl (by decide) _ _ _ rfl (hown.alloc _) ⟨wr.heap.size,0,none⟩ 1 1 (bcells [y]) rfl rfl (new_cell _ _ _) (bcells_one _) (by unfold maxLen;omega) (by omega) (by have:=hbel.size;simp;omega) ?_)
     intro v3 w3 ho3 hg3 _
     have hb3:=app_step hbel hown hg3 (Nat.le_refl _) hbel.size
     clear hown hg3 hbel
     go_wp2
     go_roundw
     case rel => exact ⟨1,by omega,by rfl,owns_eq ho3 (by rw [HY.out,← bcells_append];simp [be8]),hb3⟩
     case measure => simp [intOf]
    ·have hy : (N : Int) / 281474976710656 % 256 = ((UInt8.ofNat (N / 281474976710656 % 256)).toNat : Int):=by rw [u8nat (Nat.mod_lt _ (by decide))];rfl
     obtain ⟨y,hyy⟩ : ∃ y : UInt8,y = UInt8.ofNat (N / 281474976710656 % 256):=⟨_,rfl⟩
     rw [← hyy] at hy
     have HY : Hid (y = UInt8.ofNat (N / 281474976710656 % 256)):=hyy
     clear hyy
     rw [show ((7 : Int) - ((1 : Nat) : Int)) = 6 from rfl]
     go_wp2_with (at_builtin;refine wpList_append_own _ rfl _ _ 131 rfl w.heap.size 5 i0 (.int .u8 0) 1 1 Tryz.underlying131 hi hz0 hz1 hz2 rfl (by decide) _ _ _ rfl (hown.alloc _) ⟨wr.heap.size,0,none⟩ 1 1 (bcells [y]) rfl rfl (new_cell _ _ _) (bcells_one _) (by unfold maxLen;omega) (by omega) (by have:=hbel.size;simp;omega) ?_)
     intro v3 w3 ho3 hg3 _
     have hb3:=app_step hbel hown hg3 (Nat.le_refl _) hbel.size
     clear hown hg3 hbel
     go_wp2
     go_roundw
     case rel => exact ⟨2,by omega,by rfl,owns_eq ho3 (by rw [HY.out,← bcells_append];simp [be8]),hb3⟩
     case measure => simp [intOf]
    ·have hy : (N : Int) / 1099511627776 % 256 = ((UInt8.ofNat (N / 1099511627776 % 256)).toNat : Int):=by rw [u8nat (Nat.mod_lt _ (by decide))];rfl
     obtain ⟨y,hyy⟩ : ∃ y : UInt8,y = UInt8.ofNat (N / 1099511627776 % 256):=⟨_,rfl⟩
     rw [← hyy] at hy
     have HY : Hid (y = UInt8.ofNat (N / 1099511627776 % 256)):=hyy
     clear hyy
     rw [show ((7 : Int) - ((2 : Nat) : Int)) = 5 from rfl]
     go_wp2_with (at_builtin;refine wpList_append_own _ rfl _ _ 131 rfl w.heap.size 5 i0 (.int .u8 0) 1 1 Tryz.underlying131 hi hz0 hz1 hz2 rfl (by decide) _ _ _ rfl (hown.alloc _) ⟨wr.heap.size,0,none⟩ 1 1 (bcells [y]) rfl rfl (new_cell _ _ _) (bcells_one _) (by unfold maxLen;omega) (by omega) (by have:=hbel.size;simp;omega) ?_)
     intro v3 w3 ho3 hg3 _
     have hb3:=app_step hbel hown hg3 (Nat.le_refl _) hbel.size
     clear hown hg3 hbel
     go_wp2
     go_roundw
     case rel => exact ⟨3,by omega,by rfl,owns_eq ho3 (by rw [HY.out,← bcells_append];simp [be8]),hb3⟩
     case measure => simp [intOf]
    ·have hy : (N : Int) / 4294967296 % 256 = ((UInt8.ofNat (N / 4294967296 % 256)).toNat : Int):=by rw [u8nat (Nat.mod_lt _ (by decide))];rfl
     obtain ⟨y,hyy⟩ : ∃ y : UInt8,y = UInt8.ofNat (N / 4294967296 % 256):=⟨_,rfl⟩
     rw [← hyy] at hy
     have HY : Hid (y = UInt8.ofNat (N / 4294967296 % 256)):=hyy
     clear hyy
     rw [show ((7 : Int) - ((3 : Nat) : Int)) = 4 from rfl]
     go_wp2_with (at_builtin;refine wpList_append_own _ rfl _ _ 131 rfl w.heap.size 5 i0 (.int .u8 0) 1 1 Tryz.underlying131 hi hz0 hz1 hz2 rfl (by decide) _ _ _ rfl (hown.alloc _) ⟨wr.heap.size,0,none⟩ 1 1 (bcells [y]) rfl rfl (new_cell _ _ _) (bcells_one _) (by unfold maxLen;omega) (by omega) (by have:=hbel.size;simp;omega) ?_)
     intro v3 w3 ho3 hg3 _
     have hb3:=app_step hbel hown hg3 (Nat.le_refl _) hbel.size
     clear hown hg3 hbel
     go_wp2
     go_roundw
     case rel => exact ⟨4,by omega,by rfl,owns_eq ho3 (by rw [HY.out,← bcells_append];simp [be8]),hb3⟩
     case measure => simp [intOf]
    ·have hy : (N : Int) / 16777216 % 256 = ((UInt8.ofNat (N / 16777216 % 256)).toNat : Int):=by rw [u8nat (Nat.mod_lt _ (by decide))];rfl
     obtain ⟨y,hyy⟩ : ∃ y : UInt8,y = UInt8.ofNat (N / 16777216 % 256):=⟨_,rfl⟩
     rw [← hyy] at hy
     have HY : Hid (y = UInt8.ofNat (N / 16777216 % 256)):=hyy
     clear hyy
     rw [show ((7 : Int) - ((4 : Nat) : Int)) = 3 from rfl]
     go_wp2_with (at_builtin;refine wpList_append_own _ rfl _ _ 131 rfl w.heap.size 5 i0 (.int .u8 0) 1 1 Tryz.underlying131 hi hz0 hz1 hz2 rfl (by decide) _ _ _ rfl (hown.alloc _) ⟨wr.heap.size,0,none⟩ 1 1 (bcells [y]) rfl rfl (new_cell _ _ _) (bcells_one _) (by unfold maxLen;omega) (by omega) (by have:=hbel.size;simp;omega) ?_)
     intro v3 w3 ho3 hg3 _
     have hb3:=app_step hbel hown hg3 (Nat.le_refl _) hbel.size
     clear hown hg3 hbel
     go_wp2
     go_roundw
     case rel => exact ⟨5,by omega,by rfl,owns_eq ho3 (by rw [HY.out,← bcells_append];simp [be8]),hb3⟩
     case measure => simp [intOf]
    ·have hy : (N : Int) / 65536 % 256 = ((UInt8.ofNat (N / 65536 % 256)).toNat : Int):=by rw [u8nat (Nat.mod_lt _ (by decide))];rfl
     obtain ⟨y,hyy⟩ : ∃ y : UInt8,y = UInt8.ofNat (N / 65536 % 256):=⟨_,rfl⟩
     rw [← hyy] at hy
     have HY : Hid (y = UInt8.ofNat (N / 65536 % 256)):=hyy
     clear hyy
     rw [show ((7 : Int) - ((5 : Nat) : Int)) = 2 from rfl]
     go_wp2_with (at_builtin;refine wpList_append_own _ rfl _ _ 131 rfl w.heap.size 5 i0 (.int .u8 0) 1 1 Tryz.underlying131 hi hz0 hz1 hz2 rfl (by decide) _ _ _ rfl (hown.alloc _) ⟨wr.heap.size,0,none⟩ 1 1 (bcells [y]) rfl rfl (new_cell _ _ _) (bcells_one _) (by unfold maxLen;omega) (by omega) (by have:=hbel.size;simp;omega) ?_)
     intro v3 w3 ho3 hg3 _
     have hb3:=app_step hbel hown hg3 (Nat.le_refl _) hbel.size
     clear hown hg3 hbel
     go_wp2
     go_roundw
     case rel => exact ⟨6,by omega,by rfl,owns_eq ho3 (by rw [HY.out,← bcells_append];simp [be8]),hb3⟩
     case measure => simp [intOf]
    ·have hy : (N : Int) / 256 % 256 = ((UInt8.ofNat (N / 256 % 256)).toNat : Int):=by rw [u8nat (Nat.mod_lt _ (by decide))];rfl
     obtain ⟨y,hyy⟩ : ∃ y : UInt8,y = UInt8.ofNat (N / 256 % 256):=⟨_,rfl⟩
     rw [← hyy] at hy
     have HY : Hid (y = UInt8.ofNat (N / 256 % 256)):=hyy
     clear hyy
     rw [show ((7 : Int) - ((6 : Nat) : Int)) = 1 from rfl]
     go_wp2_with (at_builtin;refine wpList_append_own _ rfl _ _ 131 rfl w.heap.size 5 i0 (.int .u8 0) 1 1 Tryz.underlying131 hi hz0 hz1 hz2 rfl (by decide) _ _ _ rfl (hown.alloc _) ⟨wr.heap.size,0,none⟩ 1 1 (bcells [y]) rfl rfl (new_cell _ _ _) (bcells_one _) (by unfold maxLen;omega) (by omega) (by have:=hbel.size;simp;omega) ?_)
     intro v3 w3 ho3 hg3 _
     have hb3:=app_step hbel hown hg3 (Nat.le_refl _) hbel.size
     clear hown hg3 hbel
     go_wp2
     go_roundw
     case rel => exact ⟨7,by omega,by rfl,owns_eq ho3 (by rw [HY.out,← bcells_append];simp [be8]),hb3⟩
     case measure => simp [intOf]
    ·have hy : (N : Int) % 256 = ((UInt8.ofNat (N % 256)).toNat : Int):=by rw [u8nat (Nat.mod_lt _ (by decide))];rfl
     obtain ⟨y,hyy⟩ : ∃ y : UInt8,y = UInt8.ofNat (N % 256):=⟨_,rfl⟩
     rw [← hyy] at hy
     have HY : Hid (y = UInt8.ofNat (N % 256)):=hyy
     clear hyy
     rw [show ((7 : Int) - ((7 : Nat) : Int)) = 0 from rfl]
     go_wp2_with (at_builtin;refine wpList_append_own _ rfl _ _ 131 rfl w.heap.size 5 i0 (.int .u8 0) 1 1 Tryz.underlying131 hi hz0 hz1 hz2 rfl (by decide) _ _ _ rfl (hown.alloc _) ⟨wr.heap.size,0,none⟩ 1 1 (bcells [y]) rfl rfl (new_cell _ _ _) (bcells_one _) (by unfold maxLen;omega) (by omega) (by have:=hbel.size;simp;omega) ?_)
     intro v3 w3 ho3 hg3 _
     have hb3:=app_step hbel hown hg3 (Nat.le_refl _) hbel.size
     clear hown hg3 hbel
     go_wp2
     go_roundw
     case rel => exact ⟨8,by omega,by rfl,owns_eq ho3 (by rw [HY.out,← bcells_append];simp [be8]),hb3⟩
     case measure => simp [intOf]
    ·rw [show ((7 : Int) - ((8 : Nat) : Int)) = -1 from rfl]
     have hcl:=conv_owned (P:=Tryz.prog) 131 9 5 Tryz.underlying131 Tryz.underlying5 Tryz.underlying9 hown
     obtain ⟨T,hT⟩ : ∃ T,T = F ++ (be8 N).take 8:=⟨_,rfl⟩
     have hTl : (str T).size ≤ 108:=by rw [hT,str_size,List.length_append,hFq.out];simp [be8_len];omega
     rw [← hT] at hcl
     have HT : Hid (T = tailL s.size):=by show _ = _;rw [hT,List.take_of_length_le (Nat.le_of_eq (be8_len _)),HF.out,HN.out];rfl
     obtain ⟨p,hp⟩ : ∃ p,p = s ++ str T:=⟨_,rfl⟩
     have HP : Hid (p = s ++ str T):=hp
     obtain ⟨M,hM⟩ : ∃ M,M = (s.size + (tailL s.size).length) / 64:=⟨_,rfl⟩
     have hpM : p.size = 64 * M:=by rw [hp,ByteArray.size_append,str_size,HT.out,hM,tailL_len];omega
     have hpl : p.size ≤ 281474976710656:=by rw [hp,ByteArray.size_append];omega
     have hsum : s.size + (str T).size ≤ 9223372036854775807:=by omega
     have HM : Hid (M = (s.size + (tailL s.size).length) / 64):=hM
     have HPM : Hid (p.size = 64 * M):=hpM
     clear hown hT hp hM hpM
     go_wp2_with (first
      | (go_at_call 111;rw [← HP.out];refine (first_tab _).mono ?_;rintro e w1 ⟨B1,rfl,hB1,hB1',ht1,hbf1⟩)
      | (go_at_call 112;refine (keys_tab _).mono ?_;rintro e w2 ⟨B2,rfl,hB2,hB2',ht2,hbf2⟩))
     have hbw:=hbel.size
     have hrd : RdW w w2 B1 B2 st0:=⟨(hbel.trans (hbf1.mono hbel.size)).trans (hbf2.mono (by have:=hbf1.size;omega)),by have:=hbf2.size;omega,hB2',ht1.below hbf2 hB1',ht2⟩
     clear hcl hbel ht1 ht2 hbf1 hbf2 hB1 hB1' hB2 hB2' hsum hTl hbw
     obtain ⟨u,hu⟩ : ∃ u,u = st0:=⟨_,rfl⟩
     have huo : u.ok:=hu ▸ st0_ok
     have HU : Hid (u = st0):=hu
     rw [← hu] at hrd
     clear hu
     go_loopw [7,9] (fun h i wr => ∃ (n q B : Nat),n ≤ M ∧ q = 64 * n ∧ i = .int .i64 (q : Int) ∧ h = .slice (some ⟨B,0,none⟩) 8 8 ∧ RdW w wr B B2 (blocks u p.data.toList n)) (fun _ i _ => p.size - (intOf i).toNat)
     case atStart => exact ⟨0,0,B1,by omega,rfl,rfl,rfl,hrd⟩
     case round =>
      clear hrd
      obtain ⟨n,q5,B,hn,hq5,rfl,rfl,hrd⟩:=hrel
      have HQ5 : Hid (q5 = 64 * n):=hq5
      clear hq5
      obtain ⟨V,hV⟩ : ∃ V,V = blocks u p.data.toList n:=⟨_,rfl⟩
      rw [← hV] at hrd
      have hVo : V.ok:=hV ▸ blocks_ok huo _ _
      have HV : Hid (V = blocks u p.data.toList n):=hV
      clear hV
      by_cases hlt : q5 < p.size
      ·have hq6 : q5 + 64 ≤ p.size:=by have:=HPM.out;have:=HQ5.out;omega
       obtain ⟨L,hL⟩ : ∃ L,L = sched (words16 p.data.toList q5) 48:=⟨_,rfl⟩
       have hLl : L.length = 64:=by rw [hL,sched_len (words16_len _ _)]
       have hLw : ∀ x ∈ L,x < 4294967296:=by rw [hL];exact sched_lt (words16_lt _ _) _
       have HL : Hid (sched (words16 p.data.toList q5) 48 = L):=hL.symm
       have HLl : Hid (L.length = 64):=hLl
       have HLw : Hid (∀ x ∈ L,x < 4294967296):=hLw
       clear hL hLl hLw
       go_wp2_with (first
        | (go_at_call 114;refine (words_tab p q5 _ hq6 hpl).mono ?_;rintro e w3 ⟨B3,c3,rfl,hB3,hB3',ht3,hbf3⟩;rw [HL.out] at ht3)
        | (go_at_call 113;refine (block_any V L B B3 B2 8 c3 _ hVo HLl.out HLw.out (hrd.s.below hbf3 hrd.b) ht3 (hrd.t.below hbf3 hrd.k)).mono ?_;rintro e w4 ⟨⟨B4,hB4,hB4',rfl,ht4⟩,hbf4⟩))
       have hbw:=hrd.below.size
       have hb43:=hbf3.size
       have hb44:=hbf4.size
       have hrd4 : RdW w w4 B4 B2 (blocks u p.data.toList (n + 1)):=⟨(hrd.below.trans (hbf3.mono hbw)).trans (hbf4.mono (by omega)),hB4',by have:=hrd.k;omega,by rw [← blocks_step,← HV.out,← HQ5.out,HL.out];exact ht4,(hrd.t.below hbf3 hrd.k).below hbf4 (by have:=hrd.k;omega)⟩
       clear hrd ht3 ht4 hbf3 hbf4 hB3 hB3' hB4 hB4' hbw hb43 hb44
       go_roundw
       case rel => exact ⟨n + 1,q5 + 64,B4,by have:=HPM.out;have:=HQ5.out;omega,by have:=HQ5.out;omega,by go_num,rfl,hrd4⟩
       case measure => simp [intOf];omega
      ·obtain rfl : n = M:=by have:=HPM.out;have:=HQ5.out;omega
       obtain ⟨wo,hwo⟩ : ∃ wo : World,wo = wr:=⟨_,rfl⟩
       rw [← hwo] at hrd ⊢
       clear hwo
       have hown5 : (wo.alloc (.cells #[] 5)).ownsRow wo.heap.size 5 1 (.slice (some ⟨wo.heap.size,0,none⟩) 0 0) (4 * 0) (bcells ((stB V).take (4 * 0))):=World.ownsRow_lit wo #[] 0 (Nat.le_refl _) (by decide) rfl
       have hb5 : Below wo.heap.size wo (wo.alloc (.cells #[] 5)):=(Below.refl _ _).alloc (Nat.le_refl _) _
       go_wp2
       go_loopw [10,11] (fun v i wx => ∃ k : Nat,k ≤ 8 ∧ i = .int .i64 k ∧ wx.ownsRow wo.heap.size 5 1 v (4 * k) (bcells ((stB V).take (4 * k))) ∧ Below wo.heap.size wo wx)
        (fun _ i _ => 8 - (intOf i).toNat)
       case atStart => exact ⟨0,by omega,rfl,hown5,hb5⟩
       case round =>
        clear hown5 hb5
        obtain ⟨k,hk8,rfl,hown,hbel⟩:=hrel
        by_cases hk : k < 8
        ·obtain ⟨y,hy⟩ : ∃ y,y = V.list.getD k 0:=⟨_,rfl⟩
         have yl : y < 4294967296:=by rw [hy];exact list_lt hVo k
         have hc : wr.cell? ⟨B,k,none⟩ = some (.int .u32 (y : Int)):=by rw [hy];exact hrd.s.below hbel hrd.b k hk
         have HY : Hid (y = V.list.getD k 0):=hy
         have hBl : B < wo.heap.size:=hrd.b
         have k1 : (0 : Int) ≤ k:=by omega
         have k2 : (k : Int) < 8:=by omega
         have hBw : B < wr.heap.size:=Nat.lt_of_lt_of_le hBl hbel.size
         have hro:=own_ne hown hBl
         clear hy
         go_wp2
         go_region_held3 (fun w' => w'.cell? ⟨B,k,none⟩ = some (.int .u32 (y : Int))) (first | go_keep | (go_split_ands;rw [hg3.cell_far _ (by simp;omega) (Ne.symm hro)];assumption))
          ((refine step_append_lies _ (by rfl) _ _ _ (by rfl) wo.heap.size 5 i0 (.int .u8 0) 1 1 Tryz.underlying131 hi hz0 hz1 hz2 rfl (by omega) _ _ _ (by rfl) ((hown.alloc _).drew) ⟨wr.heap.size,0,none⟩ 4 4 (bcells (wbytes y)) (by rfl) (by rfl) (fun j u hj => four_cells' wr _ _ j u (wcells_wrap yl) hj) (bcells_one _) (by omega) (by unfold maxLen;omega) (by omega) (by have:=hbel.size;simp;omega) (wr.heap.size + 1) (by simp) ?_;intro g6 c6 w3 ho3 hg3 hat hlt6))
         have hb6 : Below wo.heap.size wo w3:=app_step hbel hown (grown_drew hg3) (Nat.le_refl _) hbel.size
         clear hown hg3 hbel hro
         go_wp2
         go_roundw
         case rel => exact ⟨k + 1,by omega,by go_num,owns_eq ho3 (by rw [stB_take V k hk,← HY.out,bcells_append]),hb6⟩
         case measure => simp [intOf];omega
        ·obtain rfl : k = 8:=by omega
         rw [show ((8 : Nat) : Int) = 8 from rfl]
         have hcl:=conv_owned (P:=Tryz.prog) 131 9 5 Tryz.underlying131 Tryz.underlying5 Tryz.underlying9 hown
         clear hown
         go_wp2
         go_ret
         refine ⟨ret_str ?_,hrd.below.trans (hbel.mono hrd.below.size)⟩
         rw [List.take_of_length_le (Nat.le_of_eq (by rfl)),HV.out,HU.out,HP.out,HT.out,HM.out,shaC_eq,app_list]
         rfl
  ·have hj2 : j < (119 - s.size % 64) % 64:=by omega
   clear hq
   go_wp2_with (at_builtin;refine wpList_append_own _ rfl _ _ 131 rfl w.heap.size 5 i0 (.int .u8 0) 1 1 Tryz.underlying131 hi hz0 hz1 hz2 rfl (by decide) _ _ _ rfl (hown.alloc _) ⟨wr.heap.size,0,none⟩ 1 1 (bcells [0]) rfl rfl (new_cell _ _ _) (bcells_one _) (by unfold maxLen;omega) (by omega) (by have:=hbel.size;simp;omega) ?_)
   intro v3 w3 ho3 hg3 _
   have hb3:=app_step hbel hown hg3 (Nat.le_refl _) hbel.size
   clear hown hg3 hbel
   obtain ⟨g3,cap3,rfl,_,_⟩:=ho3.form (by omega)
   go_wp2
   go_roundw
   case rel => exact ⟨j + 1,by omega,by rw [show 1 + (j + 1) = q + 1 by have:=HQ.out;omega];exact owns_eq ho3 (by rw [tailF_next,bcells_append]),hb3⟩
   case measure => have hh:=HQ.out;simp [slLen];omega
theorem stB_len (v : St) : (stB v).length = 32:=rfl
def ofC (s : ByteArray) : List UInt8:=hexL ((str (shaC s)).extract 0 20).data.toList
set_option maxHeartbeats 1000000 in
set_option maxRecDepth 4000 in
theorem of_any (s : ByteArray) (w : World) (hs : s.size ≤ 140737488355328) (hk : KTab w) :
  Calls Tryz.prog 74 #[.string s] w fun e w' => e = .returned (.string (str (ofC s))) ∧ Below w.heap.size w w':=by
 obtain ⟨h,hh⟩ : ∃ h,h = str (shaC s):=⟨_,rfl⟩
 have hl : h.size = 32:=by rw [hh,str_size];exact stB_len _
 have HH : Hid (h = str (shaC s)):=hh
 have h1 : 20 ≤ h.size:=by omega
 have hx : (h.extract 0 20).size ≤ 70368744177664:=by rw [ByteArray.size_extract];omega
 obtain ⟨x,hxx⟩ : ∃ x,x = h.extract 0 20:=⟨_,rfl⟩
 rw [← hxx] at hx
 have HX : Hid (x = h.extract 0 20):=hxx
 clear hh hl hxx
 go_enter Tryz.func74,Tryz.ntmps74
 go_wp2_with (first
  | (go_at_call 110;refine (digest_any s _ hs hk).mono ?_;rintro e w1 ⟨rfl,hb1⟩;rw [← HH.out])
  | (go_at_call 109;rw [← HX.out];refine (hex_any x _ hx).mono ?_;rintro e w2 ⟨rfl,hb2⟩))
 go_ret
 exact ⟨ret_str (by rw [HX.out,HH.out];rfl),hb1.trans (hb2.mono hb1.size)⟩
set_option maxHeartbeats 1000000 in
set_option maxRecDepth 4000 in
theorem rof_any (s : ByteArray) (w : World) (hs : s.size ≤ 140737488355328) :
  Calls Tryz.prog 49 #[.string s] w fun e w' => e = .returned (.string (str (ofC s))) ∧ Below w.heap.size w w':=by
 obtain ⟨h,hh⟩ : ∃ h,h = str (shaC s):=⟨_,rfl⟩
 have hl : h.size = 32:=by rw [hh,str_size];exact stB_len _
 have HH : Hid (h = str (shaC s)):=hh
 have h1 : 20 ≤ h.size:=by omega
 have hx : (h.extract 0 20).size ≤ 70368744177664:=by rw [ByteArray.size_extract];omega
 obtain ⟨x,hxx⟩ : ∃ x,x = h.extract 0 20:=⟨_,rfl⟩
 rw [← hxx] at hx
 have HX : Hid (x = h.extract 0 20):=hxx
 clear hh hl hxx
 go_enter Tryz.func49,Tryz.ntmps49
 go_wp2_with (first
  | (go_at_call 83;refine (rdigest_any s _ hs).mono ?_;rintro e w1 ⟨rfl,hb1⟩;rw [← HH.out])
  | (go_at_call 82;rw [← HX.out];refine (rhex_any x _ hx).mono ?_;rintro e w2 ⟨rfl,hb2⟩))
 go_ret
 exact ⟨ret_str (by rw [HX.out,HH.out];rfl),hb1.trans (hb2.mono hb1.size)⟩
end Go.Proofs.YtnoopcenogbjiaaGreatDoor
