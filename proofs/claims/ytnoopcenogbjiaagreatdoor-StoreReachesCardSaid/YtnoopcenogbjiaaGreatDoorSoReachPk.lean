/-
 The walks of Reach and Missing.
-/
import Derived.Test.YtnoopcenogbjiaaGreatDoorSoFol0Pk
import Derived.Test.YtnoopcenogbjiaaGreatDoorSoPutPk
import Derived.Test.YtnoopcenogbjiaaGreatDoorSoValPk
import Derived.Test.YtnoopcenogbjiaaGreatDoorSoRowsPk
import Derived.BigQuiet
import Derived.Deep.QuietTactic
set_option linter.unusedVariables false
set_option linter.unusedSimpArgs false
namespace Go.Proofs.YtnoopcenogbjiaaGreatDoor
open Go Go.RowKit Go.Maps Go.WideMaps Go.Sort
theorem make_sb0 (w:World):(Instr.makeMap 83 none).run Tryz.prog w=.ok (.map (some w.heap.size)) (w.alloc (.map #[] 0)):=by kernel_rfl
theorem fol_cnt {σ:Type} (l:List It) (cuts:List (List UInt8)) (acc:σ→Lk→Int→σ×Bool) (cnt:σ→Nat) (hc:∀ s lk kd,cnt (acc s lk kd).1≤cnt s+1):∀ (f:Nat) (kf:Kf) (ws:List (List Lk)) (cur:List Lk) (s:σ),cnt (fol l cuts acc f kf ws cur s).1≤cnt s+f
 | 0,_,_,_,s=>by rw [fol.eq_def];exact Nat.le_refl _
 | f+1,_,[],[],s=>by rw [fol_end];exact Nat.le_add_right _ _
 | f+1,kf,w::ws,[],s=>by
  rw [fol_pop]
  have:=fol_cnt l cuts acc cnt hc f kf ws w s
  omega
 | f+1,kf,ws,lk::cur,s=>by
  cases hk:kf lk.i.data.toList with
  | some kd =>
   obtain ⟨⟨s',b⟩,ha⟩:∃ x,acc s lk kd=x:=⟨_,rfl⟩
   have h2:=hc s lk kd
   rw [ha] at h2
   cases b with
   | true =>
    rw [fol_met hk ha]
    have:=fol_cnt l cuts acc cnt hc f kf ws cur s'
    simp only at h2
    omega
   | false =>
    rw [fol_met_no hk ha]
    simp only at h2 ⊢
    omega
  | none =>
   obtain ⟨⟨s',b⟩,ha⟩:∃ x,acc s lk (getI l lk.i).k=x:=⟨_,rfl⟩
   have h2:=hc s lk (getI l lk.i).k
   rw [ha] at h2
   cases b with
   | true =>
    rw [fol_new hk rfl ha]
    have:=fol_cnt l cuts acc cnt hc f (kput kf lk.i.data.toList (getI l lk.i).k) (getL l cuts lk.i::ws) cur s'
    simp only at h2
    omega
   | false =>
    rw [fol_new_no hk rfl ha]
    simp only at h2 ⊢
    omega
theorem cnt_R (s:List (List UInt8)) (lk:Lk) (kd:Int):(accR s lk kd).1.length≤s.length+1:=by simp [accR]
theorem cnt_M (s:List (List UInt8)) (lk:Lk) (kd:Int):(accM s lk kd).1.length≤s.length+1:=by
 unfold accM
 by_cases h:kd=0
 ·rw [if_pos h];simp
 ·rw [if_neg h];simp
def reachF (l:List It) (ids:List (List UInt8)):List (List UInt8)×Bool:=fol l [] accR (rndS l [] ids) (fun _=>none) [toL 0 ids] [] []
def reachI (l:List It) (ids:List (List UInt8)):List (List UInt8):=if (reachF l ids).2=true then keysL (reachF l ids).1 else []
def reachC (l:List It) (ids:List (List UInt8)):Nat:=if (reachF l ids).2=true then 0 else 171
def missF (l:List It) (ids:List (List UInt8)):List (List UInt8)×Bool:=fol l [] accM (rndS l [] ids) (fun _=>none) [toL 0 ids] [] []
def missI (l:List It) (ids:List (List UInt8)):List (List UInt8):=keysL (missF l ids).1
set_option maxHeartbeats 4000000 in
set_option maxRecDepth 8000 in
theorem sreach_any (l:List It) (ids:List (List UInt8)) (p q2:Option Addr) (n c m2 d2:Nat) (w:World) (h:StOk w l p n) (hm2:m2=ids.length) (hq2:SRw w q2 ids) (hil:∀ x∈ids,x.length≤140737488355328) (hmn2:m2≤1000000) (hN:rndS l [] ids≤1000000000) :
  Calls Tryz.prog 29 #[.agg #[.slice p n c],.slice q2 m2 d2] w fun e w'=>∃ v,e=.returned (.tuple #[v,.int .i64 (reachC l ids:Int)])∧SOw w' w.heap.size v (reachI l ids)∧Below w.heap.size w w':=by
 obtain ⟨w1,hw1⟩:∃ w1,w1=w.alloc (.cells #[.slice p n c] 24):=⟨_,rfl⟩
 obtain ⟨w2,hw2⟩:∃ w2,w2=w1.alloc (.map #[] 0):=⟨_,rfl⟩
 obtain ⟨w3,hw3⟩:∃ w3,w3=w2.alloc (.cells #[.map (some w1.heap.size)] 83):=⟨_,rfl⟩
 obtain ⟨I,hI⟩:∃ I,I=w.heap.size:=⟨_,rfl⟩
 obtain ⟨M,hM⟩:∃ M,M=w1.heap.size:=⟨_,rfl⟩
 obtain ⟨Bx,hB⟩:∃ Bx,Bx=M+1:=⟨_,rfl⟩
 rw [←hM] at hw3
 have hs1:w1.heap.size=w.heap.size+1:=by rw [hw1];simp
 have hs2:w2.heap.size=w1.heap.size+1:=by rw [hw2];simp
 have hs3:w3.heap.size=w2.heap.size+1:=by rw [hw3];simp
 have h1:w1.heap[I]?=some (.cells #[.slice p n c] 24 (0,0)):=by rw [hw1,hI];exact heap_alloc_new _ _
 have h3:w3.heap[Bx]?=some (.cells #[.map (some M)] 83 (0,0)):=by rw [hw3,hB,hM,←hs2];exact heap_alloc_new _ _
 have hb1:Below w.heap.size w w1:=by rw [hw1];exact below_new (Below.refl _ _) _
 have hb2:Below w1.heap.size w1 w2:=by rw [hw2];exact below_new (Below.refl _ _) _
 have hb3:Below w2.heap.size w2 w3:=by rw [hw3];exact below_new (Below.refl _ _) _
 have hb13:Below w.heap.size w w3:=hb1.trans ((hb2.trans (hb3.mono hb2.size)).mono hb1.size)
 have hm2':Msb w2 M 0 (.map []):=by rw [hw2,hM];exact msb_new _
 have hmm:=make_sb0 w1
 have hmf:=make_fun Tryz.prog
 have x0:w3.cell? ⟨I,0,none⟩=some (.slice p n c):=(st_at ((hb3.block _ (by have:=row_lt h1;omega)).trans ((hb2.block _ (row_lt h1)).trans h1))).1
 have hJ0:SetJ Bx M [] w3:=⟨0,_,h3,hm2'.below hb3,isSt_nil,Nat.le_refl _,fun q=>rfl,by omega⟩
 have hc:=follow_any accR (fun s=>s.length) (rndS l [] ids) (SetJ Bx M) 61 Bx M w.heap.size Tryz.eg_reach l [] ids p none q2 n c 0 0 m2 d2 w w3
  (h.args rfl hb13 (by omega) (by omega) (SetJ.stays (by omega) (by omega))) rfl hm2 (fun k hk=>absurd hk (Nat.not_lt_zero _)) (hq2.below hb13) (fun x hx=>by cases hx) hil (Nat.zero_le _) hmn2 cnt_R
  (fun s lk kd w' hs hl hz _=>reach1_any s lk kd Bx M w.heap.size w' w hs hz (by have:s.length≤rndS l [] ids:=hl;omega))
  [] hJ0 (rndS l [] ids) (Nat.lt_succ_self _) hN (by simp)
 have hcn:=fol_cnt l [] accR (fun s=>s.length) cnt_R (rndS l [] ids) (fun _=>none) [toL 0 ids] [] []
 obtain ⟨⟨L,b⟩,hR⟩:∃ R,R=reachF l ids:=⟨_,rfl⟩
 have hR2:fol l [] accR (rndS l [] ids) (fun _=>none) [toL 0 ids] [] []=(L,b):=by rw [hR];rfl
 have hri:reachI l ids=if b=true then keysL L else []:=by rw [reachI,←hR]
 have hrc:reachC l ids=if b=true then 0 else 171:=by rw [reachC,←hR]
 rw [hR2] at hc hcn
 have HLL:Hid (L.length≤1000000000):=by show _≤_;simp only [List.length_nil] at hcn;omega
 have HC:=Lib.hid hc
 have HW1:=Lib.hid hw1
 have HW2:=Lib.hid hw2
 have HW3:=Lib.hid hw3
 have HI:=Lib.hid hI
 have HM:=Lib.hid hM
 have HB:=Lib.hid hB
 clear hw1 hw2 hw3 hI hM hB hs1 hs2 hs3 h1 h3 hb1 hb2 hb3 hb13 hm2' hJ0 hc hcn hR hR2 h hm2 hq2 hil hN
 rcases b with _|_
 ·rw [if_neg (by decide)] at hri hrc
  rw [hri,hrc]
  clear hri hrc
  go_enter Tryz.func29,Tryz.ntmps29
  go_upto_region 1 with fail
  rw [←HW1.out,←HI.out]
  go_upto_region 2 with fail
  rw [←HW2.out,←HM.out,←HW3.out,←HB.out]
  go_wp2_with (go_at_call 60;((with_reducible refine HC.out.mono ?_);rintro e w4 ⟨rfl,hj4,hb4⟩))
  go_ret2
  exact ⟨_,rfl,SOw.nil _ _,hb4⟩
 ·rw [if_pos rfl] at hri hrc
  rw [hri,hrc]
  clear hri hrc
  go_enter Tryz.func29,Tryz.ntmps29
  go_upto_region 1 with fail
  rw [←HW1.out,←HI.out]
  go_upto_region 2 with fail
  rw [←HW2.out,←HM.out,←HW3.out,←HB.out]
  go_upto_region 5 with (go_at_call 60;((with_reducible refine HC.out.mono ?_);rintro e w4 ⟨rfl,⟨m4,D4,hr4,hM4,hI4,-,hh4,-⟩,hb4⟩))
  have z0:=(st_at hr4).1
  have HK:=Lib.hid (map_keys w4 M)
  have HS:=Lib.hid (sorted_keys w4 M m4 D4 L hM4 hI4.tidy hh4 HLL.out)
  have HB4:=Lib.hid hb4
  clear hr4 hM4 hI4 hh4 hb4
  go_wp2_with (first
   | (go_at_call 63;((with_reducible refine HK.out.mono ?_);rintro e w5 ⟨rfl,rfl⟩))
   | (go_at_call 62;((with_reducible refine HS.out.mono ?_);rintro e w6 ⟨v6,rfl,ho6,hb6⟩;have HO6:=Lib.hid ho6;have HB6:=Lib.hid hb6;clear ho6 hb6)))
  go_ret2
  exact ⟨_,rfl,SOw.mono HO6.out HB4.out.size,HB4.out.trans (((below_new (Below.refl _ _) _).trans HB6.out).mono HB4.out.size)⟩
set_option maxHeartbeats 4000000 in
set_option maxRecDepth 8000 in
theorem smissing_any (l:List It) (ids:List (List UInt8)) (p q2:Option Addr) (n c m2 d2:Nat) (w:World) (h:StOk w l p n) (hm2:m2=ids.length) (hq2:SRw w q2 ids) (hil:∀ x∈ids,x.length≤140737488355328) (hmn2:m2≤1000000) (hN:rndS l [] ids≤1000000000) :
  Calls Tryz.prog 31 #[.agg #[.slice p n c],.slice q2 m2 d2] w fun e w'=>∃ v,e=.returned v∧SOw w' w.heap.size v (missI l ids)∧Below w.heap.size w w':=by
 obtain ⟨w1,hw1⟩:∃ w1,w1=w.alloc (.cells #[.slice p n c] 24):=⟨_,rfl⟩
 obtain ⟨w2,hw2⟩:∃ w2,w2=w1.alloc (.map #[] 0):=⟨_,rfl⟩
 obtain ⟨w3,hw3⟩:∃ w3,w3=w2.alloc (.cells #[.map (some w1.heap.size)] 83):=⟨_,rfl⟩
 obtain ⟨I,hI⟩:∃ I,I=w.heap.size:=⟨_,rfl⟩
 obtain ⟨M,hM⟩:∃ M,M=w1.heap.size:=⟨_,rfl⟩
 obtain ⟨Bx,hB⟩:∃ Bx,Bx=M+1:=⟨_,rfl⟩
 rw [←hM] at hw3
 have hs1:w1.heap.size=w.heap.size+1:=by rw [hw1];simp
 have hs2:w2.heap.size=w1.heap.size+1:=by rw [hw2];simp
 have hs3:w3.heap.size=w2.heap.size+1:=by rw [hw3];simp
 have h1:w1.heap[I]?=some (.cells #[.slice p n c] 24 (0,0)):=by rw [hw1,hI];exact heap_alloc_new _ _
 have h3:w3.heap[Bx]?=some (.cells #[.map (some M)] 83 (0,0)):=by rw [hw3,hB,hM,←hs2];exact heap_alloc_new _ _
 have hb1:Below w.heap.size w w1:=by rw [hw1];exact below_new (Below.refl _ _) _
 have hb2:Below w1.heap.size w1 w2:=by rw [hw2];exact below_new (Below.refl _ _) _
 have hb3:Below w2.heap.size w2 w3:=by rw [hw3];exact below_new (Below.refl _ _) _
 have hb13:Below w.heap.size w w3:=hb1.trans ((hb2.trans (hb3.mono hb2.size)).mono hb1.size)
 have hm2':Msb w2 M 0 (.map []):=by rw [hw2,hM];exact msb_new _
 have hmm:=make_sb0 w1
 have hmf:=make_fun Tryz.prog
 have x0:w3.cell? ⟨I,0,none⟩=some (.slice p n c):=(st_at ((hb3.block _ (by have:=row_lt h1;omega)).trans ((hb2.block _ (row_lt h1)).trans h1))).1
 have hJ0:SetJ Bx M [] w3:=⟨0,_,h3,hm2'.below hb3,isSt_nil,Nat.le_refl _,fun q=>rfl,by omega⟩
 have hc:=follow_any accM (fun s=>s.length) (rndS l [] ids) (SetJ Bx M) 65 Bx M w.heap.size Tryz.eg_missing l [] ids p none q2 n c 0 0 m2 d2 w w3
  (h.args rfl hb13 (by omega) (by omega) (SetJ.stays (by omega) (by omega))) rfl hm2 (fun k hk=>absurd hk (Nat.not_lt_zero _)) (hq2.below hb13) (fun x hx=>by cases hx) hil (Nat.zero_le _) hmn2 cnt_M
  (fun s lk kd w' hs hl hz _=>missing1_any s lk kd Bx M w' hs hz (by have:s.length≤rndS l [] ids:=hl;omega))
  [] hJ0 (rndS l [] ids) (Nat.lt_succ_self _) hN (by simp)
 have hcn:=fol_cnt l [] accM (fun s=>s.length) cnt_M (rndS l [] ids) (fun _=>none) [toL 0 ids] [] []
 obtain ⟨⟨L,b⟩,hR⟩:∃ R,R=missF l ids:=⟨_,rfl⟩
 have hR2:fol l [] accM (rndS l [] ids) (fun _=>none) [toL 0 ids] [] []=(L,b):=by rw [hR];rfl
 have hri:missI l ids=keysL L:=by rw [missI,←hR]
 rw [hR2] at hc hcn
 rw [hri]
 have HLL:Hid (L.length≤1000000000):=by show _≤_;simp only [List.length_nil] at hcn;omega
 have HC:=Lib.hid hc
 have HW1:=Lib.hid hw1
 have HW2:=Lib.hid hw2
 have HW3:=Lib.hid hw3
 have HI:=Lib.hid hI
 have HM:=Lib.hid hM
 have HB:=Lib.hid hB
 clear hw1 hw2 hw3 hI hM hB hs1 hs2 hs3 h1 h3 hb1 hb2 hb3 hb13 hm2' hJ0 hc hcn hR hR2 h hm2 hq2 hil hN hri
 go_enter Tryz.func31,Tryz.ntmps31
 go_upto_region 1 with fail
 rw [←HW1.out,←HI.out]
 go_upto_region 2 with fail
 rw [←HW2.out,←HM.out,←HW3.out,←HB.out]
 go_upto_region 3 with (go_at_call 60;((with_reducible refine HC.out.mono ?_);rintro e w4 ⟨rfl,⟨m4,D4,hr4,hM4,hI4,-,hh4,-⟩,hb4⟩))
 have z0:=(st_at hr4).1
 have HK:=Lib.hid (map_keys w4 M)
 have HS:=Lib.hid (sorted_keys w4 M m4 D4 L hM4 hI4.tidy hh4 HLL.out)
 have HB4:=Lib.hid hb4
 clear hr4 hM4 hI4 hh4 hb4
 go_wp2_with (first
  | (go_at_call 63;((with_reducible refine HK.out.mono ?_);rintro e w5 ⟨rfl,rfl⟩))
  | (go_at_call 62;((with_reducible refine HS.out.mono ?_);rintro e w6 ⟨v6,rfl,ho6,hb6⟩;have HO6:=Lib.hid ho6;have HB6:=Lib.hid hb6;clear ho6 hb6)))
 go_ret
 exact ⟨_,rfl,SOw.mono HO6.out HB4.out.size,HB4.out.trans (((below_new (Below.refl _ _) _).trans HB6.out).mono HB4.out.size)⟩
end Go.Proofs.YtnoopcenogbjiaaGreatDoor
/-
 The walks of Only and Less.
-/
namespace Go.Proofs.YtnoopcenogbjiaaGreatDoor
open Go Go.RowKit Go.Maps Go.WideMaps
theorem Tryz.eg_only:∀ args w,(callFunc 55 args).run Tryz.prog w=.ok (.enter 55 args) w:=enters_of Tryz.func55 (by kernel_rfl) rfl
theorem Tryz.eg_less:∀ args w,(callFunc 58 args).run Tryz.prog w=.ok (.enter 58 args) w:=enters_of Tryz.func58 (by kernel_rfl) rfl
set_option maxHeartbeats 1000000 in
set_option maxRecDepth 4000 in
theorem only1_any (s:ByteArray) (ls:List (List UInt8)) (B M m:Nat) (D:DataW Unit) (w:World) (hc:w.cell? ⟨B,0,none⟩=some (.map (some M))) (hm:Msb w M m D) (hI:IsSt D ls) (hs:s.size≤140737488355328) :
  Calls Tryz.prog 55 #[.string s,.pointer (some ⟨B,0,none⟩)] w fun e w'=>e=.returned (.bool (decide (s.data.toList∈ls)))∧Below w.heap.size w w':=by
 obtain ⟨R,hR⟩:∃ R,R=decide (s.data.toList∈ls):=⟨_,rfl⟩
 rw [←hR]
 have hlk:=msb_look hm (t:=s) hs (B:=R) (by rw [hI.look,hR])
 clear hR hm hI
 go_enter Tryz.func55,Tryz.ntmps55
 go_wp2
 go_ret
 exact ⟨rfl,Below.refl _ _⟩
set_option maxHeartbeats 1000000 in
set_option maxRecDepth 4000 in
theorem less1_any (s:ByteArray) (l:List It) (B:Nat) (p:Option Addr) (n c:Nat) (w:World) (hc:w.cell? ⟨B,0,none⟩=some (.slice p n c)) (hn:n=l.length) (hp:ItRw w p l) (hn2:n≤140737488355328) :
  Calls Tryz.prog 58 #[.string s,.pointer (some ⟨B,0,none⟩)] w fun e w'=>e=.returned (.bool (!(hasI l s)))∧Below w.heap.size w w':=by
 have HC:=Lib.hid (has_any l s p n c w hn hp hn2)
 obtain ⟨R,hR⟩:∃ R,R=hasI l s:=⟨_,rfl⟩
 rw [←hR] at HC ⊢
 clear hR hn hp
 go_enter Tryz.func58,Tryz.ntmps58
 go_wp2_with (go_at_call 22;((with_reducible refine HC.out.mono ?_);rintro e w2 ⟨rfl,hb2⟩))
 go_ret
 exact ⟨rfl,hb2⟩
def onlyI (l:List It) (ids:List (List UInt8)):List It:=l.filter fun e=>decide (e.i.data.toList∈ids)
def lessI (a b:List It):List It:=a.filter fun e=>!(hasI b e.i)
set_option maxHeartbeats 4000000 in
set_option maxRecDepth 8000 in
theorem sless_any (a b:List It) (p q:Option Addr) (n c m d:Nat) (w:World) (hn:n=a.length) (hm:m=b.length) (hp:ItRw w p a) (hq:ItRw w q b) (hn2:n≤1000000) (hm2:m≤140737488355328) :
  Calls Tryz.prog 27 #[.agg #[.slice p n c],.agg #[.slice q m d]] w fun e w'=>∃ v',e=.returned (.agg #[v'])∧ItOw w' w.heap.size v' (lessI a b)∧Below w.heap.size w w':=by
 obtain ⟨w1,hw1⟩:∃ w1,w1=w.alloc (.cells #[.slice p n c] 24):=⟨_,rfl⟩
 obtain ⟨w2,hw2⟩:∃ w2,w2=w1.alloc (.cells #[.slice q m d] 24):=⟨_,rfl⟩
 obtain ⟨w3,hw3⟩:∃ w3,w3=w2.alloc (.cells #[.slice none 0 0] 24):=⟨_,rfl⟩
 obtain ⟨I,hI⟩:∃ I,I=w.heap.size:=⟨_,rfl⟩
 obtain ⟨O,hO'⟩:∃ O,O=w.heap.size+1:=⟨_,rfl⟩
 obtain ⟨P,hP'⟩:∃ P,P=w.heap.size+1+1:=⟨_,rfl⟩
 have h1:w1.heap[I]?=some (.cells #[.slice p n c] 24 (0,0)):=by rw [hw1,hI];exact heap_alloc_new _ _
 have h2:w2.heap[O]?=some (.cells #[.slice q m d] 24 (0,0)):=by rw [hw2,hO',show w.heap.size+1=w1.heap.size by rw [hw1];simp];exact heap_alloc_new _ _
 have h3:w3.heap[P]?=some (.cells #[.slice none 0 0] 24 (0,0)):=by rw [hw3,hP',show w.heap.size+1+1=w2.heap.size by rw [hw2,hw1];simp];exact heap_alloc_new _ _
 have hbx:Below w.heap.size w w3:=by rw [hw3,hw2,hw1];exact below_new (below_new (below_new (Below.refl _ _) _) _) _
 have x0:w3.cell? ⟨I,0,none⟩=some (.slice p n c):=(st_at (by rw [hw3,hw2];exact row_alloc (row_alloc h1 (row_lt h1)) (row_lt (row_alloc h1 (row_lt h1))))).1
 have y0:w3.cell? ⟨O,0,none⟩=some (.slice q m d):=(st_at (by rw [hw3];exact row_alloc h2 (row_lt h2))).1
 have HC:=Lib.hid (chosen_any (fun s=>!(hasI b s)) 58 O Tryz.eg_less a p n c w3 hn (hp.below hbx) hn2 (fun e _ w' hb'=>less1_any e.i b O q m d w' (cell_bel y0 hb') hm ((hq.below hbx).below hb') hm2))
 have hmf:=make_fun Tryz.prog
 have HW1:=Lib.hid hw1
 have HW2:=Lib.hid hw2
 have HW3:=Lib.hid hw3
 have HI:=Lib.hid hI
 have HO':=Lib.hid hO'
 have HP':=Lib.hid hP'
 have H3:=Lib.hid h3
 have HBX:=Lib.hid hbx
 have HPL:Hid (w.heap.size≤P):=by show _≤_;omega
 clear hn hm hp hq hw1 hw2 hw3 hI hO' hP' h1 h2 h3 hbx y0
 go_enter Tryz.func27,Tryz.ntmps27
 go_upto_region 1 with fail
 rw [←HW1.out,←HW2.out,←HW3.out,←HP'.out,←HO'.out,←HI.out]
 go_wp2_with (go_at_call 54;((with_reducible refine HC.out.mono ?_);rintro e w4 ⟨v4,rfl,hO4,hb4⟩;obtain ⟨p4,n4,c4,rfl⟩:=hO4.form;have H4:=Lib.hid ((hb4.block _ (row_lt H3.out)).trans H3.out);obtain ⟨o0,f0⟩:=st_at H4.out))
 obtain ⟨d0,-⟩:=st_at (st_set (v:=.slice p4 n4 c4) H4.out)
 refine bodyPost_ret (v:=.agg #[.slice p4 n4 c4]) (by simp [results,Tryz.results27,go_sem,d0]) rfl ⟨_,rfl,(hO4.mono HBX.out.size).put (hO4.apart (row_lt H3.out)),(HBX.out.trans (hb4.mono HBX.out.size)).setCell (p:=⟨P,0,none⟩) HPL.out _⟩
set_option maxHeartbeats 4000000 in
set_option maxRecDepth 8000 in
theorem sonly_any (a:List It) (ids:List (List UInt8)) (p q:Option Addr) (n c m d:Nat) (w:World) (hn:n=a.length) (hm:m=ids.length) (hp:ItRw w p a) (hq:SRw w q ids) (hn2:n≤1000000) (hm2:m≤1000000) (hs:∀ e∈a,e.i.size≤140737488355328) (hl:∀ x∈ids,x.length≤140737488355328) :
  Calls Tryz.prog 23 #[.agg #[.slice p n c],.slice q m d] w fun e w'=>∃ v',e=.returned (.agg #[v'])∧ItOw w' w.heap.size v' (onlyI a ids)∧Below w.heap.size w w':=by
 obtain ⟨w1,hw1⟩:∃ w1,w1=w.alloc (.cells #[.slice p n c] 24):=⟨_,rfl⟩
 obtain ⟨w2,hw2⟩:∃ w2,w2=w1.alloc (.cells #[.slice none 0 0] 24):=⟨_,rfl⟩
 obtain ⟨I,hI⟩:∃ I,I=w.heap.size:=⟨_,rfl⟩
 obtain ⟨P,hP'⟩:∃ P,P=w.heap.size+1:=⟨_,rfl⟩
 have h1:w1.heap[I]?=some (.cells #[.slice p n c] 24 (0,0)):=by rw [hw1,hI];exact heap_alloc_new _ _
 have h2:w2.heap[P]?=some (.cells #[.slice none 0 0] 24 (0,0)):=by rw [hw2,hP',show w.heap.size+1=w1.heap.size by rw [hw1];simp];exact heap_alloc_new _ _
 have h3:w2.heap[I]?=some (.cells #[.slice p n c] 24 (0,0)):=by rw [hw2];exact row_alloc h1 (row_lt h1)
 have hbx:Below w.heap.size w w2:=by rw [hw2,hw1];exact below_new (below_new (Below.refl _ _) _) _
 have HS:=Lib.hid (setOf_any ids q m d w2 hm (hq.below hbx) hl hm2)
 have hmf:=make_fun Tryz.prog
 have HC:=Lib.hid (fun (w':World) (B M k:Nat) (D:DataW Unit) (hb:Below w2.heap.size w2 w') (hc:w'.cell? ⟨B,0,none⟩=some (.map (some M))) (hm:Msb w' M k D) (hI:IsSt D ids)=>chosen_any (fun s=>decide (s.data.toList∈ids)) 55 B Tryz.eg_only a p n c w' hn ((hp.below hbx).below hb) hn2 (fun e he w'' hb'=>only1_any e.i ids B M k D w'' (cell_bel hc hb') (hm.below hb') hI (hs e he)))
 have HW1:=Lib.hid hw1
 have HW2:=Lib.hid hw2
 have HI:=Lib.hid hI
 have HP':=Lib.hid hP'
 have H2:=Lib.hid h2
 have H3:=Lib.hid h3
 have HBX:=Lib.hid hbx
 have HPL:Hid (w.heap.size≤P):=by show _≤_;omega
 clear hn hm hp hq hw1 hw2 hI hP' h1 h2 h3 hbx
 go_enter Tryz.func23,Tryz.ntmps23
 go_upto_region 1 with fail
 rw [←HW1.out,←HW2.out,←HP'.out,←HI.out]
 go_upto_region 2 with (go_at_call 53;((with_reducible refine HS.out.mono ?_);rintro e w3 ⟨M,k,D,rfl,hM3,hI3,hM1,hM2,hb3⟩))
 obtain ⟨w4,hw4⟩:∃ w4,w4=w3.alloc (.cells #[.map (some M)] 83):=⟨_,rfl⟩
 obtain ⟨B,hB⟩:∃ B,B=w3.heap.size:=⟨_,rfl⟩
 have hr:w4.heap[B]?=some (.cells #[.map (some M)] 83 (0,0)):=by rw [hw4,hB];exact heap_alloc_new _ _
 have hb4:Below w3.heap.size w3 w4:=by rw [hw4];exact below_new (Below.refl _ _) _
 have hb34:=hb3.trans (hb4.mono hb3.size)
 rw [←hw4,←hB]
 have HC2:=Lib.hid (HC.out w4 B M k D hb34 (st_at hr).1 (hM3.below hb4) hI3)
 have x0:=(st_at ((hb34.block _ (row_lt H3.out)).trans H3.out)).1
 have H5:=Lib.hid ((hb34.block _ (row_lt H2.out)).trans H2.out)
 have HB4:=Lib.hid hb34
 clear hw4 hB hr hb4 hb34 hM3 hI3 hM1 hM2 hb3 HC
 go_wp2_with (go_at_call 54;((with_reducible refine HC2.out.mono ?_);rintro e w5 ⟨v4,rfl,hO4,hb4⟩;obtain ⟨p4,n4,c4,rfl⟩:=hO4.form;have H4:=Lib.hid ((hb4.block _ (row_lt H5.out)).trans H5.out);obtain ⟨o0,f0⟩:=st_at H4.out))
 obtain ⟨d0,-⟩:=st_at (st_set (v:=.slice p4 n4 c4) H4.out)
 have HB5:=HBX.out.trans (HB4.out.mono HBX.out.size)
 refine bodyPost_ret (v:=.agg #[.slice p4 n4 c4]) (by simp [results,Tryz.results23,go_sem,d0]) rfl ⟨_,rfl,(hO4.mono HB5.size).put (hO4.apart (row_lt H5.out)),(HB5.trans (hb4.mono HB5.size)).setCell (p:=⟨P,0,none⟩) HPL.out _⟩
end Go.Proofs.YtnoopcenogbjiaaGreatDoor
/-
 The objects of the law package's own check.
-/
namespace Go.Proofs.YtnoopcenogbjiaaGreatDoor
open Go Go.RowKit
def iA:ByteArray:=⟨#[97,52,57,56,102,56,102,50,48,102,48,54,97,99,100,53,56,56,49,53,49,101,49,55,102,54,52,50,50,97,54,100,52,55,100,97,52,53,97,97]⟩
def iB:ByteArray:=⟨#[54,101,102,49,57,98,52,49,50,50,53,99,53,51,54,57,102,49,99,49,48,52,100,52,53,100,56,100,56,53,101,102,97,57,98,48,53,55,98,53]⟩
def iC:ByteArray:=⟨#[48,50,48,100,55,57,51,49,97,57,98,98,48,98,53,50,98,97,48,54,100,49,56,49,48,102,51,52,51,52,49,57,54,100,55,48,54,100,54,49]⟩
def pnS:Pn:=⟨⟨#[97]⟩,⟨#[97,64,98]⟩,5,60⟩
def cmS:Cm:=⟨iB,[],pnS,pnS,⟨#[120,10]⟩⟩
def bC:ByteArray:=str (encC cmS)
def bA:ByteArray:=⟨#[97,98]⟩
def itA:It:=⟨iA,1,bA⟩
def itB:It:=⟨iB,2,⟨#[]⟩⟩
def itC:It:=⟨iC,3,bC⟩
set_option maxRecDepth 100000 in
theorem so_a:putD 1 bA=iA:=by decide +kernel
set_option maxRecDepth 100000 in
theorem so_b:putD 2 ⟨#[]⟩=iB:=by decide +kernel
set_option maxRecDepth 100000 in
theorem so_c:putD 3 bC=iC:=by decide +kernel
set_option maxRecDepth 100000 in
theorem so_chk:chkC cmS=0:=by decide +kernel
set_option maxRecDepth 100000 in
theorem so_size:bC.size=98:=by decide +kernel
set_option maxRecDepth 100000 in
theorem so_p1:putC [] 1 bA=0∧putI [] 1 bA=[itA]:=by decide +kernel
set_option maxRecDepth 100000 in
theorem so_p2:putC [itA] 2 ⟨#[]⟩=0∧putI [itA] 2 ⟨#[]⟩=[itB,itA]:=by decide +kernel
set_option maxRecDepth 100000 in
theorem so_p3:putC [itB,itA] 3 bC=0∧putI [itB,itA] 3 bC=[itC,itB,itA]:=by decide +kernel
abbrev l3S:List It:=[itC,itB,itA]
abbrev cS:List (List UInt8):=[iC.data.toList]
abbrev caS:List (List UInt8):=[iC.data.toList,iA.data.toList]
set_option maxRecDepth 100000 in
theorem so_v:rightI l3S=true:=by decide +kernel
set_option maxRecDepth 100000 in
theorem so_f1:reachF l3S cS=([iC.data.toList,iB.data.toList],true):=by decide +kernel
set_option maxRecDepth 100000 in
theorem so_r1:reachC l3S cS=0∧(reachI l3S cS).length=2:=by
 rw [reachC,reachI,so_f1]
 refine ⟨rfl,?_⟩
 rw [if_pos rfl,keysL_length]
 decide +kernel
set_option maxRecDepth 100000 in
theorem so_r2:onlyI l3S cS=[itC]∧reachC [itC] cS=171:=by decide +kernel
set_option maxRecDepth 100000 in
theorem so_g:getE l3S iA=0∧getI l3S iA=itA∧getE l3S ⟨#[120]⟩=5∧hasI l3S iB=true∧hasI l3S ⟨#[]⟩=false:=by decide +kernel
set_option maxRecDepth 100000 in
theorem so_m:onlyI l3S caS=[itC,itA]∧missF [itC,itA] cS=([iB.data.toList],true):=by decide +kernel
theorem so_mi:missI [itC,itA] cS=[iB.data.toList]:=by
 rw [missI,so_m.2]
 refine srt_unique _ _ (keysL_srt _) (List.pairwise_singleton _ _) fun x=>keysL_mem _ x
set_option maxRecDepth 100000 in
theorem so_w:wholeI l3S [] cS=true∧lessI l3S l3S=[]:=by decide +kernel
end Go.Proofs.YtnoopcenogbjiaaGreatDoor
/-
 The walk of the program's Valid.
-/
namespace Go.Proofs.YtnoopcenogbjiaaGreatDoor
open Go Go.RowKit Go.Maps Go.WideMaps
set_option maxHeartbeats 8000000 in
set_option maxRecDepth 8000 in
theorem svalid_any (l:List It) (p:Option Addr) (n c:Nat) (w:World) (hT:StrTab w) (hO:WoTab w) (hTr:TrTab w) (hK:KTab w) (hn:n=l.length) (hp:ItRw w p l) (hs:∀ x∈l,x.b.size≤140737488355328) (hn2:n≤140737488355328) :
  Calls Tryz.prog 9 #[.agg #[.slice p n c]] w fun e w'=>e=.returned (.bool (rightI l))∧Below w.heap.size w w':=by
 obtain ⟨R,hR⟩:∃ R,R=rightI l:=⟨_,rfl⟩
 rw [←hR]
 obtain ⟨w1,hw1⟩:∃ w1,w1=w.alloc (.cells #[.slice p n c] 24):=⟨_,rfl⟩
 obtain ⟨B,hB⟩:∃ B,B=w.heap.size:=⟨_,rfl⟩
 have hx:w1.heap[B]?=some (.cells #[.slice p n c] 24 (0,0)):=by rw [hw1,hB];exact heap_alloc_new w _
 have hbx:Below w.heap.size w w1:=by rw [hw1];exact below_new (Below.refl _ _) _
 have x0:w1.cell? ⟨B,0,none⟩=some (.slice p n c):=cell_of_row _ _ 0 _ _ _ hx
 have HR:=Lib.hid hR
 have HN:=Lib.hid hn
 have HP:=Lib.hid (hp.below hbx)
 have HS:=Lib.hid hs
 have HBX:=Lib.hid hbx
 have HW1:=Lib.hid hw1
 have HB:=Lib.hid hB
 have HTT:Hid (∀ w',Below w1.heap.size w1 w'→StrTab w'∧WoTab w'∧TrTab w'∧KTab w'):=fun w' h=>⟨(hT.below hbx).below h,(hO.below hbx).below h,(hTr.below hbx).below h,(hK.below hbx).below h⟩
 clear hR hn hp hs hbx hw1 hB hT hO hTr hK
 by_cases h0:65536<n
 ·have HQ:Hid (R=false):=by show _=_;rw [HR.out];exact rightI_big (by rw [←HN.out];exact h0)
  have g0:(65536:Int)<(n:Int):=by omega
  clear h0 HR
  go_enter Tryz.func9,Tryz.ntmps9
  go_upto_region 1 with fail
  rw [←HW1.out,←HB.out]
  go_wp2_with fail
  go_ret
  exact ⟨by rw [HQ.out];rfl,HBX.out⟩
 have g0:¬ (65536:Int)<(n:Int):=by omega
 have hn3:n≤65536:=by omega
 clear h0 hn2
 go_enter Tryz.func9,Tryz.ntmps9
 go_upto_region 1 with fail
 rw [←HW1.out,←HB.out]
 go_wp2_with fail
 clear g0
 go_loopw [13] (fun iv wr=>∃ k:Nat,k≤n∧iv=.int .i64 (k:Int)∧Hid (∀ j,j<k→badI l j=false)∧Hid (Below w1.heap.size w1 wr)) (fun iv _=>n-(intOf iv).toNat)
 case atStart=>exact ⟨0,by omega,rfl,fun j hj=>absurd hj (Nat.not_lt_zero _),Below.refl _ _⟩
 case round =>
  obtain ⟨k,hk,rfl,HJ,HBW⟩:=hrel
  have c0:=cell_bel x0 HBW.out
  by_cases hlt:k<n
  ·have hkl:k<l.length:=by rw [←HN.out];exact hlt
   have hpw:=HP.out.below HBW.out
   have hbd:badI l k=((decide (0<k)&&!(ltB (l.getD (k-1) It.zero).i l[k].i))||(!(decide ((lnkL l[k].k l[k].b.data.toList).1=0))||!(decide (str (idL l[k].k l[k].b.data.toList)=l[k].i)))):=by rw [badI,getDI_at hkl]
   have hbs:=HS.out _ (List.getElem_mem hkl)
   obtain ⟨y,hy⟩:∃ y,y=(l.getD (k-1) It.zero).i:=⟨_,rfl⟩
   have hprev:0<k→∃ g o,p=some ⟨g,o,none⟩∧wr.cell? ⟨g,o+(k-1)*3,none⟩=some (.string y):=fun h=>by
    obtain ⟨g,o,h1,-,h2,-⟩:=hpw (k-1) (by omega)
    exact ⟨g,o,h1,by rw [h2,hy,getDI_at (by omega)]⟩
   obtain ⟨g,o,hpe,hg,a0,a1,a2⟩:=hpw k hkl
   obtain ⟨e,he⟩:∃ e,e=l[k]:=⟨_,rfl⟩
   rw [←he] at a0 a1 a2 hbd hbs
   rw [←hy] at hbd
   obtain ⟨id,kd,bd⟩:=e
   simp only at a0 a1 a2 hbd hbs
   obtain ⟨W,hW⟩:∃ W,W=(lnkL kd bd.data.toList).1:=⟨_,rfl⟩
   obtain ⟨D,hD⟩:∃ D,D=str (idL kd bd.data.toList):=⟨_,rfl⟩
   have hwh:=fun w' (h:Below w1.heap.size w1 w')=>whole_any kd bd w' (HTT.out w' h).1 (HTT.out w' h).2.1 (HTT.out w' h).2.2.1 hbs bytesE_sz
   have hid:=fun w' (h:Below w1.heap.size w1 w')=>id_any kd bd w' (HTT.out w' h).2.1 (HTT.out w' h).1 (HTT.out w' h).2.2.2 hbs
   have HCT:=Lib.hid (fun w'=>content_any id kd bd w')
   rw [←hW] at hwh hbd
   rw [←hD] at hid hbd
   subst hpe
   obtain ⟨wI,hwI⟩:∃ wI,wI=wr.alloc (.cells #[.string id,.int .i64 kd,.string bd] 39):=⟨_,rfl⟩
   obtain ⟨E,hE⟩:∃ E,E=wr.heap.size:=⟨_,rfl⟩
   have hi:wI.heap[E]?=some (.cells #[.string id,.int .i64 kd,.string bd] 39 (0,0)):=by rw [hwI,hE];exact heap_alloc_new _ _
   have hbI:Below wr.heap.size wr wI:=by rw [hwI];exact below_new (Below.refl _ _) _
   obtain ⟨i0,i1,i2⟩:=it_at hi
   have HWI:=Lib.hid hwI
   have HE:=Lib.hid hE
   clear hwI hE
   go_upto_region 6 with fail
   rw [←HWI.out,←HE.out]
   go_upto_region 7 with (go_at_call 39;((with_reducible refine (HCT.out _).mono ?_);rintro e wC ⟨rfl,hbC⟩))
   obtain ⟨wO,hwO⟩:∃ wO,wO=wC.alloc (.cells #[.int .i64 kd,.string bd] 29):=⟨_,rfl⟩
   obtain ⟨O,hO⟩:∃ O,O=wC.heap.size:=⟨_,rfl⟩
   have ho:wO.heap[O]?=some (.cells #[.int .i64 kd,.string bd] 29 (0,0)):=by rw [hwO,hO];exact heap_alloc_new _ _
   have hbO:Below wI.heap.size wI wO:=hbC.trans (by rw [hwO];exact (below_new (Below.refl _ _) _).mono hbC.size)
   have hbr:Below wr.heap.size wr wO:=hbI.trans (hbO.mono hbI.size)
   rw [←hwO,←hO]
   have k0:∀ z:BelW wO,z.w.cell? ⟨E,0,none⟩=some (.string id):=fun z=>cell_bel (cell_bel i0 hbO) z.h
   have k1:∀ z:BelW wO,z.w.cell? ⟨O,0,none⟩=some (.int .i64 kd):=fun z=>cell_bel (cell_of_row _ _ 0 _ _ _ ho) z.h
   have k2:∀ z:BelW wO,z.w.cell? ⟨O,1,none⟩=some (.string bd):=fun z=>cell_bel (cell_of_row _ _ 1 _ _ _ ho) z.h
   have k3:∀ z:BelW wO,z.w.cell? ⟨B,0,none⟩=some (.slice (some ⟨g,o,none⟩) n c):=fun z=>cell_bel (cell_bel c0 hbr) z.h
   have HWH:Hid (∀ z:BelW wO,Calls Tryz.prog 40 #[.agg #[.int .i64 kd,.string bd]] z.w fun e w''=>e=.returned (.int .i64 (W:Int))∧∃ z:BelW wO,w''=z.w):=fun z=>Calls.bel_class (hwh z.w (HBW.out.trans ((hbr.trans (z.h.mono hbr.size)).mono HBW.out.size)))
   have HID:Hid (∀ z:BelW wO,Calls Tryz.prog 41 #[.agg #[.int .i64 kd,.string bd]] z.w fun e w''=>e=.returned (.string D)∧∃ z:BelW wO,w''=z.w):=fun z=>Calls.bel_class (hid z.w (HBW.out.trans ((hbr.trans (z.h.mono hbr.size)).mono HBW.out.size)))
   have HBr:=Lib.hid (HBW.out.trans (hbr.mono HBW.out.size))
   have hq:Nonempty (BelW wO):=⟨⟨wO,Below.refl _ _⟩⟩
   have HBD:=Lib.hid hbd
   have HKL:=Lib.hid hkl
   have k4:∀ z:BelW wO,0<k→z.w.cell? ⟨g,o+(k-1)*3,none⟩=some (.string y):=fun z h=>by
    obtain ⟨g',o',h1,h2⟩:=hprev h
    simp only [Option.some.injEq,Addr.mk.injEq,and_true] at h1
    obtain ⟨rfl,rfl⟩:=h1
    exact cell_bel (cell_bel h2 hbr) z.h
   have HK4:=Lib.hid k4
   clear hwh hid hbd hbs hW hD hy he hprev hpw HWI HE HCT hi hbI hwO hO hbC ho hbO hbr i0 i1 i2 a0 a1 a2 c0 hkl hg k4
   by_cases hk0:0<k
   case pos =>
    have gk:decide ((0:Int)<(k:Int))=true:=decide_eq_true (by omega)
    have k4:∀ z:BelW wO,z.w.cell? ⟨g,o+(k-1)*3,none⟩=some (.string y):=fun z=>HK4.out z hk0
    obtain ⟨k',hk'⟩:∃ k',k'=k-1:=⟨_,rfl⟩
    have ek:(k:Int)-1=(k':Int):=by omega
    have ek2:IntKind.i64.wrap ((k:Int)-1)=(k':Int):=by rw [IntWalk.i64_in _ (by omega)];omega
    have hk'n:k'<n:=by omega
    have hk'i:(k':Int)<(n:Int):=by omega
    rw [←hk'] at k4
    clear hk'
    cases hlt2:ltB y id with
    | false =>
     have gl:Op.bytesLess y.toList id.toList=false:=hlt2
     have HQ:Hid (R=false):=by
      show _=_
      rw [HR.out]
      exact rightI_bad HKL.out (by rw [HBD.out,hlt2,decide_eq_true hk0];rfl)
     clear hlt2
     refine wp_region_bel (w0:=wO) (Below.refl _ _) (by kernel_rfl) (by kernel_rfl) ?_
     repeat (go_big_quiet_step (first
      | (go_at_call 40;(with_reducible exact HWH.out _))
      | (go_at_call 41;(with_reducible exact HID.out _))))
     refine wpQuiet_nil ?_
     rintro _ ⟨z,rfl⟩
     have HZ:=Lib.hid z.h
     obtain ⟨wz,hwz⟩:∃ wz,wz=z.w:=⟨_,rfl⟩
     rw [←hwz] at HZ ⊢
     clear hwz
     go_wp2_with fail
     go_ret
     exact ⟨by rw [HQ.out];rfl,HBX.out.trans ((HBr.out.trans (HZ.out.mono HBr.out.size)).mono HBX.out.size)⟩
    | true =>
     have gl:Op.bytesLess y.toList id.toList=true:=hlt2
     by_cases hw0:W=0
     case neg =>
      have gw:((W:Int) != 0)=true:=by simp;omega
      have HQ:Hid (R=false):=by
       show _=_
       rw [HR.out]
       exact rightI_bad HKL.out (by rw [HBD.out,decide_eq_false hw0];simp)
      clear hw0
      refine wp_region_bel (w0:=wO) (Below.refl _ _) (by kernel_rfl) (by kernel_rfl) ?_
      repeat (go_big_quiet_step (first
       | (go_at_call 40;(with_reducible exact HWH.out _))
       | (go_at_call 41;(with_reducible exact HID.out _))))
      refine wpQuiet_nil ?_
      rintro _ ⟨z,rfl⟩
      have HZ:=Lib.hid z.h
      obtain ⟨wz,hwz⟩:∃ wz,wz=z.w:=⟨_,rfl⟩
      rw [←hwz] at HZ ⊢
      clear hwz
      go_wp2_with fail
      go_ret
      exact ⟨by rw [HQ.out];rfl,HBX.out.trans ((HBr.out.trans (HZ.out.mono HBr.out.size)).mono HBX.out.size)⟩
     have gw:((W:Int) != 0)=false:=by simp [hw0]
     by_cases hd:D=id
     case neg =>
      have gd:(D.toList==id.toList)=false:=by rw [str_dec];exact decide_eq_false hd
      have HQ:Hid (R=false):=by
       show _=_
       rw [HR.out]
       exact rightI_bad HKL.out (by rw [HBD.out,decide_eq_false hd];simp)
      clear hw0 hd
      refine wp_region_bel (w0:=wO) (Below.refl _ _) (by kernel_rfl) (by kernel_rfl) ?_
      repeat (go_big_quiet_step (first
       | (go_at_call 40;(with_reducible exact HWH.out _))
       | (go_at_call 41;(with_reducible exact HID.out _))))
      refine wpQuiet_nil ?_
      rintro _ ⟨z,rfl⟩
      have HZ:=Lib.hid z.h
      obtain ⟨wz,hwz⟩:∃ wz,wz=z.w:=⟨_,rfl⟩
      rw [←hwz] at HZ ⊢
      clear hwz
      go_wp2_with fail
      go_ret
      exact ⟨by rw [HQ.out];rfl,HBX.out.trans ((HBr.out.trans (HZ.out.mono HBr.out.size)).mono HBX.out.size)⟩
     have gd:(D.toList==id.toList)=true:=by rw [str_dec];exact decide_eq_true hd
     have HJ2:Hid (∀ j,j<k+1→badI l j=false):=fun j hj=>by
      rcases Nat.lt_or_ge j k with h|h
      ·exact HJ.out j h
      ·obtain rfl:j=k:=by omega
       rw [HBD.out,decide_eq_true hw0,decide_eq_true hd]
       simp [*]
     clear hw0 hd
     refine wp_region_bel (w0:=wO) (Below.refl _ _) (by kernel_rfl) (by kernel_rfl) ?_
     repeat (go_big_quiet_step (first
      | (go_at_call 40;(with_reducible exact HWH.out _))
      | (go_at_call 41;(with_reducible exact HID.out _))))
     refine wpQuiet_nil ?_
     rintro _ ⟨z,rfl⟩
     have HZ:=Lib.hid z.h
     obtain ⟨wz,hwz⟩:∃ wz,wz=z.w:=⟨_,rfl⟩
     rw [←hwz] at HZ ⊢
     clear hwz
     go_wp2_with fail
     go_roundw
     case rel=>exact ⟨k+1,by omega,by go_num,HJ2.out,HBr.out.trans (HZ.out.mono HBr.out.size)⟩
     case measure=>simp [intOf];omega
   case neg =>
    have gk:decide ((0:Int)<(k:Int))=false:=decide_eq_false (by omega)
    by_cases hw0:W=0
    case neg =>
     have gw:((W:Int) != 0)=true:=by simp;omega
     have HQ:Hid (R=false):=by
      show _=_
      rw [HR.out]
      exact rightI_bad HKL.out (by rw [HBD.out,decide_eq_false hw0];simp)
     clear hw0
     refine wp_region_bel (w0:=wO) (Below.refl _ _) (by kernel_rfl) (by kernel_rfl) ?_
     repeat (go_big_quiet_step (first
      | (go_at_call 40;(with_reducible exact HWH.out _))
      | (go_at_call 41;(with_reducible exact HID.out _))))
     refine wpQuiet_nil ?_
     rintro _ ⟨z,rfl⟩
     have HZ:=Lib.hid z.h
     obtain ⟨wz,hwz⟩:∃ wz,wz=z.w:=⟨_,rfl⟩
     rw [←hwz] at HZ ⊢
     clear hwz
     go_wp2_with fail
     go_ret
     exact ⟨by rw [HQ.out];rfl,HBX.out.trans ((HBr.out.trans (HZ.out.mono HBr.out.size)).mono HBX.out.size)⟩
    have gw:((W:Int) != 0)=false:=by simp [hw0]
    by_cases hd:D=id
    case neg =>
     have gd:(D.toList==id.toList)=false:=by rw [str_dec];exact decide_eq_false hd
     have HQ:Hid (R=false):=by
      show _=_
      rw [HR.out]
      exact rightI_bad HKL.out (by rw [HBD.out,decide_eq_false hd];simp)
     clear hw0 hd
     refine wp_region_bel (w0:=wO) (Below.refl _ _) (by kernel_rfl) (by kernel_rfl) ?_
     repeat (go_big_quiet_step (first
      | (go_at_call 40;(with_reducible exact HWH.out _))
      | (go_at_call 41;(with_reducible exact HID.out _))))
     refine wpQuiet_nil ?_
     rintro _ ⟨z,rfl⟩
     have HZ:=Lib.hid z.h
     obtain ⟨wz,hwz⟩:∃ wz,wz=z.w:=⟨_,rfl⟩
     rw [←hwz] at HZ ⊢
     clear hwz
     go_wp2_with fail
     go_ret
     exact ⟨by rw [HQ.out];rfl,HBX.out.trans ((HBr.out.trans (HZ.out.mono HBr.out.size)).mono HBX.out.size)⟩
    have gd:(D.toList==id.toList)=true:=by rw [str_dec];exact decide_eq_true hd
    have HJ2:Hid (∀ j,j<k+1→badI l j=false):=fun j hj=>by
     rcases Nat.lt_or_ge j k with h|h
     ·exact HJ.out j h
     ·obtain rfl:j=k:=by omega
      rw [HBD.out,decide_eq_true hw0,decide_eq_true hd]
      simp [*]
    clear hw0 hd
    refine wp_region_bel (w0:=wO) (Below.refl _ _) (by kernel_rfl) (by kernel_rfl) ?_
    repeat (go_big_quiet_step (first
     | (go_at_call 40;(with_reducible exact HWH.out _))
     | (go_at_call 41;(with_reducible exact HID.out _))))
    refine wpQuiet_nil ?_
    rintro _ ⟨z,rfl⟩
    have HZ:=Lib.hid z.h
    obtain ⟨wz,hwz⟩:∃ wz,wz=z.w:=⟨_,rfl⟩
    rw [←hwz] at HZ ⊢
    clear hwz
    go_wp2_with fail
    go_roundw
    case rel=>exact ⟨k+1,by omega,by go_num,HJ2.out,HBr.out.trans (HZ.out.mono HBr.out.size)⟩
    case measure=>simp [intOf];omega
  ·obtain rfl:k=n:=by omega
   have HQ:Hid (R=true):=by
    show _=_
    rw [HR.out]
    exact rightI_ok (by rw [←HN.out];exact hn3) fun j hj=>HJ.out j (by rw [HN.out];exact hj)
   go_wp2_with fail
   go_ret
   exact ⟨by rw [HQ.out];rfl,HBX.out.trans (HBW.out.mono HBX.out.size)⟩
end Go.Proofs.YtnoopcenogbjiaaGreatDoor
/-
 The walks of the reference's Same and SameTexts, and of Ids.
-/
namespace Go.Proofs.YtnoopcenogbjiaaGreatDoor
open Go Go.RowKit
theorem drop_eq_iffS {X Y:List (List UInt8)} {k:Nat} (hx:k<X.length) (hy:k<Y.length):decide (X.drop k=Y.drop k)=(decide (X[k]=Y[k])&&decide (X.drop (k+1)=Y.drop (k+1))):=by
 rw [List.drop_eq_getElem_cons hx,List.drop_eq_getElem_cons hy,Bool.eq_iff_iff]
 simp only [decide_eq_true_eq,Bool.and_eq_true,List.cons.injEq]
theorem str_neS {a b:List UInt8} (h:a≠b):((str a).toList==(str b).toList)=false:=by
 rw [ByteArray.toList_eq,ByteArray.toList_eq,str_list,str_list]
 simpa using h
set_option maxHeartbeats 1000000 in
set_option maxRecDepth 4000 in
theorem sametx_any (X Y:List (List UInt8)) (p q:Option Addr) (c d n m:Nat) (w:World) (hn:n=X.length) (hm:m=Y.length) (hp:SRw w p X) (hq:SRw w q Y) (hl:n≤1099511627776) :
  Calls Tryz.prog 18 #[.slice p n c,.slice q m d] w fun e w'=>e=.returned (.bool (decide (X=Y)))∧∃ k,w'=w.drewN k:=by
 obtain ⟨R,hR⟩:∃ R,R=decide (X=Y):=⟨_,rfl⟩
 rw [←hR]
 by_cases hnm:n=m
 ·subst hnm
  have HN:Hid (n=X.length):=hn
  have HM:Hid (n=Y.length):=hm
  have HB:Hid (R=decide (X.drop 0=Y.drop 0)):=hR
  clear hn hm hR
  go_enter Tryz.func18,Tryz.ntmps18
  go_wp2
  go_loopw [5] (fun i wr=>∃ (k m:Nat),k≤n∧i=.int .i64 k∧Hid (R=decide (X.drop k=Y.drop k))∧wr=w.drewN m) (fun i _=>n-(intOf i).toNat)
  case atStart=>exact ⟨0,0,by omega,rfl,HB.out,rfl⟩
  case round =>
   clear HB
   obtain ⟨k,m,hk,rfl,HB,rfl⟩:=hrel
   by_cases hlt:k<n
   ·have hx:k<X.length:=by rw [←HN.out];exact hlt
    have hy:k<Y.length:=by rw [←HM.out];exact hlt
    obtain ⟨g,o,rfl,hg,a0⟩:=hp k hx
    obtain ⟨h,o2,rfl,hh,b0⟩:=hq k hy
    have hb:=HB.out
    rw [drop_eq_iffS hx hy] at hb
    by_cases he:X[k]=Y[k]
    ·rw [decide_eq_true he,Bool.true_and] at hb
     have HR:=Lib.hid hb
     obtain ⟨t,ht⟩:∃ t,t=str X[k]:=⟨_,rfl⟩
     rw [←he,←ht] at b0
     rw [←ht] at a0
     clear ht hg hh he hb HB
     go_wp2
     go_quiet (fail)
     go_wp2
     go_roundw
     case rel=>exact ⟨k+1,_,by omega,by go_num,HR.out,rfl⟩
     case measure=>simp [intOf];omega
    ·rw [decide_eq_false he,Bool.false_and] at hb
     have HR:=Lib.hid hb
     have hne:=str_neS he
     obtain ⟨t,ht⟩:∃ t,t=str X[k]:=⟨_,rfl⟩
     obtain ⟨u,hu⟩:∃ u,u=str Y[k]:=⟨_,rfl⟩
     rw [←hu] at b0 hne
     rw [←ht] at a0 hne
     clear ht hu hg hh he hb HB
     go_wp2
     go_quiet (fail)
     go_wp2
     go_ret
     exact ⟨by rw [HR.out];rfl,_,World.drewN_drewN _ _ _⟩
   ·obtain rfl:k=n:=by omega
    have hb:=HB.out
    rw [List.drop_of_length_le (by have:=HN.out;omega),List.drop_of_length_le (by have:=HM.out;omega)] at hb
    have HR:Hid (R=true):=by show _=_;rw [hb];simp
    clear hb HB
    go_wp2
    go_ret
    exact ⟨by rw [HR.out];rfl,m,rfl⟩
 ·have HR:Hid (R=false):=by
   show _=_
   rw [hR]
   exact decide_eq_false fun e=>hnm (by rw [hn,hm,e])
  have hnmi:¬ (n:Int)=(m:Int):=by omega
  clear hR hn hm
  go_enter Tryz.func18,Tryz.ntmps18
  go_wp2
  go_ret
  exact ⟨by rw [HR.out];rfl,0,rfl⟩
def idsI (l:List It):List (List UInt8):=l.map fun e=>e.i.data.toList
theorem idsI_take {l:List It} {k:Nat} (h:k<l.length):idsI (l.take (k+1))=idsI (l.take k)++[l[k].i.data.toList]:=by
 unfold idsI
 rw [List.take_succ_eq_append_getElem h,List.map_append,List.map_singleton]
set_option maxHeartbeats 2000000 in
set_option maxRecDepth 4000 in
theorem ids_any (l:List It) (p:Option Addr) (n c:Nat) (w:World) (hn:n=l.length) (hp:ItRw w p l) (hn2:n≤65536) :
  Calls Tryz.prog 19 #[.agg #[.slice p n c]] w fun e w'=>(∃ v,e=.returned v∧SOw w' w.heap.size v (idsI l))∧Below w.heap.size w w':=by
 obtain ⟨w1,hw1⟩:∃ w1,w1=w.alloc (.cells #[.slice p n c] 24):=⟨_,rfl⟩
 obtain ⟨B,hB⟩:∃ B,B=w.heap.size:=⟨_,rfl⟩
 have hx:w1.heap[B]?=some (.cells #[.slice p n c] 24 (0,0)):=by rw [hw1,hB];exact heap_alloc_new w _
 have hbx:Below w.heap.size w w1:=by rw [hw1];exact below_new (Below.refl _ _) _
 have x0:w1.cell? ⟨B,0,none⟩=some (.slice p n c):=cell_of_row _ _ 0 _ _ _ hx
 have HN:=Lib.hid hn
 have HP:=Lib.hid (hp.below hbx)
 have HBX:=Lib.hid hbx
 have HW1:=Lib.hid hw1
 have HB:=Lib.hid hB
 clear hn hp hbx hw1 hB hx
 go_enter Tryz.func19,Tryz.ntmps19
 go_upto_region 1 with fail
 rw [←HW1.out,←HB.out]
 go_wp2_with fail
 go_loopw [3,9] (fun ov iv wr=>∃ (k:Nat) (os:List (List UInt8)),k≤n∧iv=.int .i64 (k:Int)∧SOw wr w1.heap.size ov os∧os.length=k∧Hid (os=idsI (l.take k))∧Hid (Below w1.heap.size w1 wr)) (fun _ iv _=>n-(intOf iv).toNat)
 case atStart=>exact ⟨0,[],by omega,rfl,SOw.nil _ _,rfl,rfl,Below.refl _ _⟩
 case round =>
  obtain ⟨k,os,hk,rfl,ho,hol,HO,HBW⟩:=hrel
  have c0:=cell_bel x0 HBW.out
  by_cases hlt:k<n
  ·have hkl:k<l.length:=by rw [←HN.out];exact hlt
   obtain ⟨e,he⟩:∃ e,e=l[k]:=⟨_,rfl⟩
   obtain ⟨g,o,rfl,hg,a0,a1,a2⟩:=HP.out.below HBW.out k hkl
   rw [←he] at a0 a1 a2
   have HO2:Hid (os++[e.i.data.toList]=idsI (l.take (k+1))):=by show _=_;rw [idsI_take hkl,←he,HO.out]
   obtain ⟨i',m',n'⟩:=e
   simp only at a0 a1 a2 HO2
   obtain ⟨w2,hw2⟩:∃ w2,w2=wr.alloc (.cells #[.string i',.int .i64 m',.string n'] 39):=⟨_,rfl⟩
   obtain ⟨E,hE⟩:∃ E,E=wr.heap.size:=⟨_,rfl⟩
   have hrow:w2.heap[E]?=some (.cells #[.string i',.int .i64 m',.string n'] 39 (0,0)):=by rw [hw2,hE];exact heap_alloc_new _ _
   have hbx:Below wr.heap.size wr w2:=by rw [hw2];exact below_new (Below.refl _ _) _
   have e0:w2.cell? ⟨E,0,none⟩=some (.string i'):=cell_of_row w2 _ 0 _ _ _ hrow
   have ho2:=ho.below hbx
   have HB2:=Lib.hid (HBW.out.trans (hbx.mono HBW.out.size))
   have hs2:=HB2.out.size
   have HW2:=Lib.hid hw2
   have HE0:=Lib.hid hE
   clear he hw2 hE hrow hbx ho hkl hg
   go_upto_region 5 with fail
   rw [←HW2.out,←HE0.out]
   go_wp2_with (at_builtin;refine wp_so_one rfl _ _ rfl rfl ho2 i' rfl (by omega) hs2 ?_;intro v4 w4 ho4 hg4;have hb4:=ho2.bel1 HB2.out (Nat.le_refl _) hs2 hg4)
   go_roundw
   case rel=>exact ⟨k+1,_,by omega,by go_num,ho4,by simp [hol],HO2.out,hb4⟩
   case measure=>simp [intOf];omega
  ·obtain rfl:k=n:=by omega
   have HX:Hid (os=idsI l):=by
    show _=_
    rw [HO.out,List.take_of_length_le (by have:=HN.out;omega)]
   have HOO:=Lib.hid ho
   clear ho
   go_wp2_with fail
   go_ret
   refine ⟨⟨_,rfl,?_⟩,HBX.out.trans (HBW.out.mono HBX.out.size)⟩
   rw [←HX.out]
   exact HOO.out.mono HBX.out.size
end Go.Proofs.YtnoopcenogbjiaaGreatDoor
