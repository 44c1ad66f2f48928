/-
 The walk of the law StoreUnions.
-/
import Derived.Test.YtpkgiojicbdcfaaGreatDoorSoLivesPk
import Derived.Test.YtpkgiojicbdcfaaGreatDoorSoRUniPk
set_option linter.unusedVariables false
set_option linter.unusedSimpArgs false
namespace Go.Proofs.YtpkgiojicbdcfaaGreatDoor
open Go Go.RowKit Go.Maps Go.WideMaps
theorem unL_some {a b : List It} (h : unE a b = 0) : mrgI a b = some (unL a b):=by
 unfold unE at h
 unfold unL
 cases e : mrgI a b with
 | none => rw [e] at h;simp at h
 | some u => rfl
set_option maxHeartbeats 16000000 in
set_option maxRecDepth 8000 in
theorem storeUnions_walk (a b : List It) (p q : Option Addr) (n c m d : Nat) (W : World) (hT : StrTab W) (hO : WoTab W) (hTr : TrTab W) (hK : KTab W) (hn : n = a.length) (hm : m = b.length) (hnc : n ≤ c) (hmd : m ≤ d) (hpc : p = none → c = 0) (hqd : q = none → d = 0) (hr : ItRw W p a) (hq : ItRw W q b)
  (hs : ∀ x ∈ a,x.b.size ≤ 140737488355328) (hl : ∀ x ∈ b,x.b.size ≤ 140737488355328) (hn2 : n ≤ 140737488355328) (hm2 : m ≤ 140737488355328) :
  Calls Tryz.prog 6 #[.agg #[.slice p n c],.agg #[.slice q m d]] W fun e W' => e = .returned (.bool true) ∧ Below W.heap.size W W':=by
 obtain ⟨w0,hw0⟩ : ∃ w0,w0 = W.alloc (.cells #[.slice p n c] 24):=⟨_,rfl⟩
 obtain ⟨w1,hw1⟩ : ∃ w1,w1 = w0.alloc (.cells #[.slice q m d] 24):=⟨_,rfl⟩
 obtain ⟨I,hI⟩ : ∃ I,I = W.heap.size:=⟨_,rfl⟩
 obtain ⟨O,hO'⟩ : ∃ O,O = W.heap.size + 1:=⟨_,rfl⟩
 have h0 : w0.heap[I]? = some (.cells #[.slice p n c] 24 (0,0)):=by rw [hw0,hI];exact heap_alloc_new W _
 have h1 : w1.heap[O]? = some (.cells #[.slice q m d] 24 (0,0)):=by rw [hw1,hO',show W.heap.size + 1 = w0.heap.size by rw [hw0];simp];exact heap_alloc_new _ _
 have hbx : Below W.heap.size W w1:=by rw [hw1,hw0];exact below_new (below_new (Below.refl _ _) _) _
 have x0 : w1.cell? ⟨I,0,none⟩ = some (.slice p n c):=(st_at (by rw [hw1];exact row_alloc h0 (row_lt h0))).1
 have y0:=(st_at h1).1
 have HLV : Hid (∀ w',Below w1.heap.size w1 w' → Calls Tryz.prog 8 #[] w' fun e w'' => e = .returned (.bool true) ∧ Below w'.heap.size w' w''):=fun w' h => lives_any w' ((hT.below hbx).below h) ((hO.below hbx).below h) ((hTr.below hbx).below h) ((hK.below hbx).below h)
 have HSA:=Lib.hid (small_any a p n c w1 hn (hr.below hbx) hs hn2)
 have HSB:=Lib.hid (fun w' (h : Below w1.heap.size w1 w') => small_any b q m d w' hm ((hq.below hbx).below h) hl hm2)
 have HN:=Lib.hid hn
 have HM:=Lib.hid hm
 have HP:=Lib.hid (hr.below hbx)
 have HQ:=Lib.hid (hq.below hbx)
 have HPC:=Lib.hid hpc
 have HQD:=Lib.hid hqd
 have HSZA:=Lib.hid hs
 have HSZB:=Lib.hid hl
 have HBX:=Lib.hid hbx
 have HW0:=Lib.hid hw0
 have HW1:=Lib.hid hw1
 have HI:=Lib.hid hI
 have HO':=Lib.hid hO'
 clear hT hO hTr hK hn hm hpc hqd hr hq hs hl hn2 hm2 hbx hw0 hw1 hI hO' h0 h1
 go_enter Tryz.func6,Tryz.ntmps6
 go_upto_region 1 with fail
 rw [← HW0.out,← HW1.out,← HO'.out,← HI.out]
 go_cut [18] from 11 to 18 (fun v wx => (∃ b1,v = .bool b1 ∧ Hid (b1 = false → SmI a ∧ SmI b)) ∧ Hid (Below w1.heap.size w1 wx))
 case first =>
  go_wp2_with (first
   | (go_at_call 11;first
    | ((with_reducible refine HSA.out.mono ?_);rintro e w2 ⟨⟨b1,rfl,hb1⟩,hb2⟩;have HA:=Lib.hid hb1;have y2:=cell_bel y0 hb2;clear hb1;rcases b1 with _ | _)
    | ((with_reducible refine (HSB.out _ hb2).mono ?_);rintro e w3 ⟨⟨b3,rfl,hb3⟩,hb4⟩;have HB:=Lib.hid hb3;clear hb3;rcases b3 with _ | _)))
  ·go_meet
   exact ⟨⟨_,rfl,fun h => by cases h⟩,hb2⟩
  ·go_meet
   exact ⟨⟨_,rfl,fun h => by cases h⟩,hb2.trans (hb4.mono hb2.size)⟩
  ·go_meet
   exact ⟨⟨_,rfl,fun _ => ⟨HA.out (by first | rfl | trivial),HB.out (by first | rfl | trivial)⟩⟩,hb2.trans (hb4.mono hb2.size)⟩
 case rest =>
  obtain ⟨⟨b1,rfl,HAB⟩,HB1⟩:=hcut
  rename World => w2
  clear HSA HSB
  rcases b1 with _ | _
  case true =>
   go_wp2_with (go_at_call 8;((with_reducible refine (HLV.out _ HB1.out).mono ?_);rintro e w3 ⟨rfl,hb3⟩))
   go_ret
   exact ⟨rfl,HBX.out.trans ((HB1.out.trans (hb3.mono HB1.out.size)).mono HBX.out.size)⟩
  obtain ⟨sa,sb⟩:=HAB.out rfl
  have hn80 : n ≤ 80:=by rw [HN.out];exact sa.2.1
  have hm80 : m ≤ 80:=by rw [HM.out];exact sb.2.1
  obtain ⟨U,hU⟩ : ∃ U,U = unL a b:=⟨_,rfl⟩
  obtain ⟨E,hE⟩ : ∃ E,E = unE a b:=⟨_,rfl⟩
  have hcm : mrgI b a = mrgI a b:=mrgI_comm _ b a (Nat.le_refl _)
  have hU2 : U = unL b a:=by rw [hU,unL,unL,hcm]
  have hE2 : E = unE b a:=by rw [hE,unE,unE,hcm]
  have HE3 : Hid (E = 0 ∨ E = 170):=by
   show _ ∨ _
   rw [hE]
   unfold unE
   split
   ·exact .inr rfl
   ·exact .inl rfl
  have HUR : Hid (E = 0 → rightI U = true ∧ lessI U b = lessI a b):=fun h => by
   have h1:=union_right sa sb (unL_some (by rw [← hE];exact h))
   rw [← hU] at h1
   exact ⟨h1.1,h1.2.2⟩
  obtain ⟨z,hz⟩ : ∃ z,z = U.length:=⟨_,rfl⟩
  have hz160 : z ≤ 160:=by
   by_cases h : E = 0
   ·have h1:=union_right sa sb (unL_some (by rw [← hE];exact h))
    rw [hz,hU]
    exact h1.2.1
   ·have : mrgI a b = none:=by
     rw [hE] at h
     unfold unE at h
     by_cases e : mrgI a b = none
     ·exact e
     ·rw [if_neg e] at h;exact absurd rfl h
    rw [hz,hU,unL,this]
    simp
  have HUS : Hid (∀ x ∈ U,x.b.size ≤ 140737488355328):=fun x hx => by
   by_cases h : E = 0
   ·have h1:=(mrgI_spec (fun _ => true) _ a b U (Nat.le_refl _) (by rw [hU];exact unL_some (by rw [← hE];exact h))).2.1 x hx
    rcases h1 with h1 | h1
    ·exact HSZA.out x h1
    ·exact HSZB.out x h1
   ·have : mrgI a b = none:=by
     rw [hE] at h
     unfold unE at h
     by_cases e : mrgI a b = none
     ·exact e
     ·rw [if_neg e] at h;exact absurd rfl h
    rw [hU,unL,this] at hx
    simp at hx
  have HU1 : Hid (∀ w',Below w1.heap.size w1 w' → Calls Tryz.prog 25 #[.agg #[.slice p n c],.agg #[.slice q m d]] w' fun e w'' => (∃ pu cu,e = .returned (.tuple #[.agg #[.slice pu z cu],.int .i64 (E : Int)]) ∧ ItRw w'' pu U) ∧ Below w'.heap.size w' w''):=fun w' h =>
   (sunion_any a b p q n c m d w' HN.out HM.out hnc hmd HPC.out HQD.out (HP.out.below h) (HQ.out.below h) (by omega) (by omega)).mono fun e w'' ⟨v,h1,h2,h3⟩ => by
    rw [← hU] at h2
    rw [← hE] at h1
    obtain ⟨pu,cu,rfl,-,-,h4⟩:=h2.rw2 hz
    exact ⟨⟨pu,cu,h1,h4⟩,h3⟩
  have HU2 : Hid (∀ w',Below w1.heap.size w1 w' → Calls Tryz.prog 26 #[.agg #[.slice p n c],.agg #[.slice q m d]] w' fun e w'' => (∃ pu cu,e = .returned (.tuple #[.agg #[.slice pu z cu],.int .i64 (E : Int)]) ∧ ItRw w'' pu U) ∧ Below w'.heap.size w' w''):=fun w' h =>
   (runion_any a b p q n c m d w' HN.out HM.out hnc hmd HPC.out HQD.out (HP.out.below h) (HQ.out.below h) (by omega) (by omega)).mono fun e w'' ⟨v,h1,h2,h3⟩ => by
    rw [← hU] at h2
    rw [← hE] at h1
    obtain ⟨pu,cu,rfl,-,-,h4⟩:=h2.rw2 hz
    exact ⟨⟨pu,cu,h1,h4⟩,h3⟩
  have HU3 : Hid (∀ w',Below w1.heap.size w1 w' → Calls Tryz.prog 25 #[.agg #[.slice q m d],.agg #[.slice p n c]] w' fun e w'' => (∃ pu cu,e = .returned (.tuple #[.agg #[.slice pu z cu],.int .i64 (E : Int)]) ∧ ItRw w'' pu U) ∧ Below w'.heap.size w' w''):=fun w' h =>
   (sunion_any b a q p m d n c w' HM.out HN.out hmd hnc HQD.out HPC.out (HQ.out.below h) (HP.out.below h) (by omega) (by omega)).mono fun e w'' ⟨v,h1,h2,h3⟩ => by
    rw [← hU2] at h2
    rw [← hE2] at h1
    obtain ⟨pu,cu,rfl,-,-,h4⟩:=h2.rw2 hz
    exact ⟨⟨pu,cu,h1,h4⟩,h3⟩
  have HZ:=Lib.hid hz
  clear hU hE hcm hU2 hE2 sa sb HAB hz
  have c0:=cell_bel x0 HB1.out
  have d0:=cell_bel y0 HB1.out
  clear x0 y0
  go_upto_region 4 with (go_at_call 25;((with_reducible refine (HU1.out _ HB1.out).mono ?_);rintro e w3 ⟨⟨pu,cu,rfl,hru⟩,hb3⟩))
  obtain ⟨w4,hw4⟩ : ∃ w4,w4 = w3.alloc (.cells #[.slice pu z cu] 24):=⟨_,rfl⟩
  obtain ⟨X,hX⟩ : ∃ X,X = w3.heap.size:=⟨_,rfl⟩
  have hbn : Below w3.heap.size w3 w4:=by rw [hw4];exact below_new (Below.refl _ _) _
  have hx4 : w4.heap[X]? = some (.cells #[.slice pu z cu] 24 (0,0)):=by rw [hw4,hX];exact heap_alloc_new _ _
  rw [← hw4,← hX]
  have hb24:=hb3.trans (hbn.mono hb3.size)
  have HB4:=Lib.hid (HB1.out.trans (hb24.mono HB1.out.size))
  have HRU:=Lib.hid (hru.below hbn)
  have HX4:=Lib.hid hx4
  replace c0:=cell_bel c0 hb24
  replace d0:=cell_bel d0 hb24
  clear hw4 hX hbn hx4 hb24 hru hb3
  go_upto_region 5 with (go_at_call 26;((with_reducible refine (HU2.out _ HB4.out).mono ?_);rintro e w5 ⟨⟨pv,cv,rfl,hrv⟩,hb5⟩))
  obtain ⟨w6,hw6⟩ : ∃ w6,w6 = w5.alloc (.cells #[.slice pv z cv] 24):=⟨_,rfl⟩
  obtain ⟨Y,hY⟩ : ∃ Y,Y = w5.heap.size:=⟨_,rfl⟩
  have hbn : Below w5.heap.size w5 w6:=by rw [hw6];exact below_new (Below.refl _ _) _
  have hy6 : w6.heap[Y]? = some (.cells #[.slice pv z cv] 24 (0,0)):=by rw [hw6,hY];exact heap_alloc_new _ _
  rw [← hw6,← hY]
  have hb46:=hb5.trans (hbn.mono hb5.size)
  have HB6:=Lib.hid (HB4.out.trans (hb46.mono HB4.out.size))
  have HRU6:=Lib.hid (HRU.out.below hb46)
  have HRV6:=Lib.hid (hrv.below hbn)
  have HX6:=Lib.hid ((hb46.block _ (row_lt HX4.out)).trans HX4.out)
  have HY6:=Lib.hid hy6
  replace c0:=cell_bel c0 hb46
  replace d0:=cell_bel d0 hb46
  clear hw6 hY hbn hy6 hb46 hrv hb5 HX4 HRU HB4
  go_upto_region 6 with (go_at_call 25;((with_reducible refine (HU3.out _ HB6.out).mono ?_);rintro e w7 ⟨⟨pw,cw,rfl,hrw⟩,hb7⟩))
  obtain ⟨w8,hw8⟩ : ∃ w8,w8 = w7.alloc (.cells #[.slice pw z cw] 24):=⟨_,rfl⟩
  obtain ⟨Z,hZ⟩ : ∃ Z,Z = w7.heap.size:=⟨_,rfl⟩
  have hbn : Below w7.heap.size w7 w8:=by rw [hw8];exact below_new (Below.refl _ _) _
  have hz8 : w8.heap[Z]? = some (.cells #[.slice pw z cw] 24 (0,0)):=by rw [hw8,hZ];exact heap_alloc_new _ _
  rw [← hw8,← hZ]
  have hb68:=hb7.trans (hbn.mono hb7.size)
  have HB8:=Lib.hid (HB6.out.trans (hb68.mono HB6.out.size))
  have HRU8:=Lib.hid (HRU6.out.below hb68)
  have HRV8:=Lib.hid (HRV6.out.below hb68)
  have HRW8:=Lib.hid (hrw.below hbn)
  have u0:=(st_at ((hb68.block _ (row_lt HX6.out)).trans HX6.out)).1
  have v0:=(st_at ((hb68.block _ (row_lt HY6.out)).trans HY6.out)).1
  have t0:=(st_at hz8).1
  replace c0:=cell_bel c0 hb68
  replace d0:=cell_bel d0 hb68
  clear hw8 hZ hbn hz8 hb68 hrw hb7 HX6 HY6 HRU6 HRV6 HB6 HU1 HU2 HU3
  have HSUV : Hid (∀ w',Below w8.heap.size w8 w' → Calls Tryz.prog 14 #[.agg #[.slice pu z cu],.agg #[.slice pv z cv]] w' fun e w'' => e = .returned (.bool true) ∧ Below w'.heap.size w' w''):=fun w' h => stsame_any U U pu pv cu cv z z true w' HZ.out HZ.out (HRU8.out.below h) (HRV8.out.below h) (by omega) (by omega) (by simp)
  have HSUW : Hid (∀ w',Below w8.heap.size w8 w' → Calls Tryz.prog 14 #[.agg #[.slice pu z cu],.agg #[.slice pw z cw]] w' fun e w'' => e = .returned (.bool true) ∧ Below w'.heap.size w' w''):=fun w' h => stsame_any U U pu pw cu cw z z true w' HZ.out HZ.out (HRU8.out.below h) (HRW8.out.below h) (by omega) (by omega) (by simp)
  have HLV8 : Hid (∀ w',Below w8.heap.size w8 w' → Calls Tryz.prog 8 #[] w' fun e w'' => e = .returned (.bool true) ∧ Below w'.heap.size w' w''):=fun w' h => HLV.out w' (HB8.out.trans (h.mono HB8.out.size))
  have hqq : Below w8.heap.size w8 w8:=Below.refl _ _
  have e1 : ((E : Int) != (E : Int)) = false:=by simp
  go_upto_region 8 with (first
   | (go_at_call 8;((with_reducible refine (HLV8.out _ hqq).mono ?_);rintro e w9 ⟨rfl,hb⟩;have hqq:=hqq.trans (hb.mono hqq.size);have u0:=cell_bel u0 hb;have v0:=cell_bel v0 hb;have t0:=cell_bel t0 hb;have c0:=cell_bel c0 hb;have d0:=cell_bel d0 hb;clear hb))
   | (go_at_call 14;first
    | ((with_reducible refine (HSUV.out _ hqq).mono ?_);rintro e w10 ⟨rfl,hb⟩;have hqq:=hqq.trans (hb.mono hqq.size);have u0:=cell_bel u0 hb;have v0:=cell_bel v0 hb;have t0:=cell_bel t0 hb;have c0:=cell_bel c0 hb;have d0:=cell_bel d0 hb;clear hb)
    | ((with_reducible refine (HSUW.out _ hqq).mono ?_);rintro e w11 ⟨rfl,hb⟩;have hqq:=hqq.trans (hb.mono hqq.size);have u0:=cell_bel u0 hb;have v0:=cell_bel v0 hb;have t0:=cell_bel t0 hb;have c0:=cell_bel c0 hb;have d0:=cell_bel d0 hb;clear hb)))
  rcases HE3.out with hE0 | hE0
  ·clear HSUV HSUW HLV8 HLV HRV8 HRW8 v0 t0 e1
   obtain ⟨LI,hLI⟩ : ∃ LI,LI = lessI a b:=⟨_,rfl⟩
   obtain ⟨zl,hzl⟩ : ∃ zl,zl = LI.length:=⟨_,rfl⟩
   have hzl2 : zl ≤ 80:=by
    rw [hzl,hLI]
    have h1 : (lessI a b).length ≤ a.length:=List.length_filter_le _ _
    have h2:=HN.out
    omega
   have HB11:=Lib.hid (HB8.out.trans (hqq.mono HB8.out.size))
   have HRU11:=Lib.hid (HRU8.out.below hqq)
   have HSM:=Lib.hid hLI
   have hS : ∀ w',Below w11.heap.size w11 w' → Below w1.heap.size w1 w':=fun w' h => HB11.out.trans (h.mono HB11.out.size)
   have HL1 : Hid (∀ w',(Below w11.heap.size w11 w' ∧ w'.cell? ⟨I,0,none⟩ = some (.slice p n c) ∧ w'.cell? ⟨O,0,none⟩ = some (.slice q m d) ∧ w'.cell? ⟨X,0,none⟩ = some (.slice pu z cu)) → Calls Tryz.prog 27 #[.agg #[.slice p n c],.agg #[.slice q m d]] w' fun e w'' => (∃ p1 c1,e = .returned (.agg #[.slice p1 zl c1]) ∧ ItRw w'' p1 LI) ∧ Below w'.heap.size w' w'' ∧ Below w11.heap.size w11 w''):=fun w' h =>
    (sless_any a b p q n c m d w' HN.out HM.out (HP.out.below (hS w' h.1)) (HQ.out.below (hS w' h.1)) (by omega) (by omega)).mono fun e w'' ⟨v,h1,h2,h3⟩ => by
     rw [← hLI] at h2
     obtain ⟨p1,c1,rfl,-,-,h4⟩:=h2.rw2 hzl
     exact ⟨⟨p1,c1,h1,h4⟩,h3,h.1.trans (h3.mono h.1.size)⟩
   have HL2 : Hid (∀ w',(Below w11.heap.size w11 w' ∧ w'.cell? ⟨I,0,none⟩ = some (.slice p n c) ∧ w'.cell? ⟨O,0,none⟩ = some (.slice q m d) ∧ w'.cell? ⟨X,0,none⟩ = some (.slice pu z cu)) → Calls Tryz.prog 28 #[.agg #[.slice p n c],.agg #[.slice q m d]] w' fun e w'' => (∃ p1 c1,e = .returned (.agg #[.slice p1 zl c1]) ∧ ItRw w'' p1 LI) ∧ Below w'.heap.size w' w'' ∧ Below w11.heap.size w11 w''):=fun w' h =>
    (rless_any a b p q n c m d w' HN.out HM.out (HP.out.below (hS w' h.1)) (HQ.out.below (hS w' h.1)) (by omega) (by omega)).mono fun e w'' ⟨v,h1,h2,h3⟩ => by
     rw [← hLI] at h2
     obtain ⟨p1,c1,rfl,-,-,h4⟩:=h2.rw2 hzl
     exact ⟨⟨p1,c1,h1,h4⟩,h3,h.1.trans (h3.mono h.1.size)⟩
   have HSS : Hid (∀ (w' : World) (p1 p2 : Option Addr) (c1 c2 : Nat),(Below w11.heap.size w11 w' ∧ w'.cell? ⟨I,0,none⟩ = some (.slice p n c) ∧ w'.cell? ⟨O,0,none⟩ = some (.slice q m d) ∧ w'.cell? ⟨X,0,none⟩ = some (.slice pu z cu)) → ItRw w' p1 LI → ItRw w' p2 LI → Calls Tryz.prog 14 #[.agg #[.slice p1 zl c1],.agg #[.slice p2 zl c2]] w' fun e w'' => e = .returned (.bool true) ∧ Below w'.heap.size w' w'' ∧ Below w11.heap.size w11 w''):=fun w' p1 p2 c1 c2 h h1 h2 =>
    (stsame_any LI LI p1 p2 c1 c2 zl zl true w' hzl hzl h1 h2 (by omega) (by omega) (by simp)).mono fun e w'' ⟨h3,h4⟩ => ⟨h3,h4,h.1.trans (h4.mono h.1.size)⟩
   have g0 : ((E : Int) != 0) = false:=by simp [hE0]
   have hur:=HUR.out hE0
   have HL3 : Hid (∀ w',(Below w11.heap.size w11 w' ∧ w'.cell? ⟨I,0,none⟩ = some (.slice p n c) ∧ w'.cell? ⟨O,0,none⟩ = some (.slice q m d) ∧ w'.cell? ⟨X,0,none⟩ = some (.slice pu z cu)) → Calls Tryz.prog 27 #[.agg #[.slice pu z cu],.agg #[.slice q m d]] w' fun e w'' => (∃ p1 c1,e = .returned (.agg #[.slice p1 zl c1]) ∧ ItRw w'' p1 LI) ∧ Below w'.heap.size w' w'' ∧ Below w11.heap.size w11 w''):=fun w' h =>
    (sless_any U b pu q z cu m d w' HZ.out HM.out (HRU11.out.below h.1) (HQ.out.below (hS w' h.1)) (by omega) (by omega)).mono fun e w'' ⟨v,h1,h2,h3⟩ => by
     rw [hur.2,← hLI] at h2
     obtain ⟨p1,c1,rfl,-,-,h4⟩:=h2.rw2 hzl
     exact ⟨⟨p1,c1,h1,h4⟩,h3,h.1.trans (h3.mono h.1.size)⟩
   have HRI : Hid (∀ w',(Below w11.heap.size w11 w' ∧ w'.cell? ⟨I,0,none⟩ = some (.slice p n c) ∧ w'.cell? ⟨O,0,none⟩ = some (.slice q m d) ∧ w'.cell? ⟨X,0,none⟩ = some (.slice pu z cu)) → Calls Tryz.prog 10 #[.agg #[.slice pu z cu]] w' fun e w'' => e = .returned (.bool true) ∧ Below w'.heap.size w' w'' ∧ Below w11.heap.size w11 w''):=fun w' h => by
    have h1:=rright_any U pu z cu w' HZ.out (HRU11.out.below h.1) HUS.out (by omega)
    rw [hur.1] at h1
    exact h1.mono fun e w'' ⟨h3,h4⟩ => ⟨h3,h4,h.1.trans (h4.mono h.1.size)⟩
   clear hur
   clear hLI hzl hzl2 hS hE0 hz160 hqq
   go_region_held3 (fun w' => (Below w11.heap.size w11 w' ∧ w'.cell? ⟨I,0,none⟩ = some (.slice p n c) ∧ w'.cell? ⟨O,0,none⟩ = some (.slice q m d) ∧ w'.cell? ⟨X,0,none⟩ = some (.slice pu z cu))) (first
    | exact keepR3 hb9 (by assumption)
    | exact keepR3 hb8 (by assumption)
    | exact keepR3 hb7 (by assumption)
    | exact keepR3 hb6 (by assumption)
    | exact keepR3 hb5 (by assumption)
    | exact keepR3 one_drew ⟨Below.refl _ _,c0,d0,u0⟩) (first
    | (go_at_call 27;first
     | ((with_reducible refine (HL1.out _ (by assumption)).mono ?_);rintro e v6 ⟨⟨p6,c6,rfl,hr6⟩,hb6,hd6⟩)
     | ((with_reducible refine (HL3.out _ (by assumption)).mono ?_);rintro e v5 ⟨⟨p5,c5,rfl,hr5⟩,hb5,hd5⟩))
    | (go_at_call 28;((with_reducible refine (HL2.out _ (by assumption)).mono ?_);rintro e v7 ⟨⟨p7,c7,rfl,hr7⟩,hb7,hd7⟩;first | (have hr5:=hr5.below hb7) | (have hr6:=hr6.below hb7)))
    | (go_at_call 14;first
     | ((with_reducible refine (HSS.out _ _ _ _ _ (by assumption) hr6 hr7).mono ?_);rintro e v8 ⟨rfl,hb8,hd8⟩)
     | ((with_reducible refine (HSS.out _ _ _ _ _ (by assumption) hr5 hr7).mono ?_);rintro e v8 ⟨rfl,hb8,hd8⟩))
    | (go_at_call 10;((with_reducible refine (HRI.out _ (by assumption)).mono ?_);rintro e v9 ⟨rfl,hb9,hd9⟩)))
   all_goals go_wp2_with fail
   all_goals go_ret
   all_goals exact ⟨rfl,HBX.out.trans ((HB11.out.trans (hd9.mono HB11.out.size)).mono HBX.out.size)⟩
  ·clear HSUV HSUW HLV8 HLV HRV8 HRW8 v0 t0 e1
   obtain ⟨LI,hLI⟩ : ∃ LI,LI = lessI a b:=⟨_,rfl⟩
   obtain ⟨zl,hzl⟩ : ∃ zl,zl = LI.length:=⟨_,rfl⟩
   have hzl2 : zl ≤ 80:=by
    rw [hzl,hLI]
    have h1 : (lessI a b).length ≤ a.length:=List.length_filter_le _ _
    have h2:=HN.out
    omega
   have HB11:=Lib.hid (HB8.out.trans (hqq.mono HB8.out.size))
   have HRU11:=Lib.hid (HRU8.out.below hqq)
   have HSM:=Lib.hid hLI
   have hS : ∀ w',Below w11.heap.size w11 w' → Below w1.heap.size w1 w':=fun w' h => HB11.out.trans (h.mono HB11.out.size)
   have HL1 : Hid (∀ w',(Below w11.heap.size w11 w' ∧ w'.cell? ⟨I,0,none⟩ = some (.slice p n c) ∧ w'.cell? ⟨O,0,none⟩ = some (.slice q m d) ∧ w'.cell? ⟨X,0,none⟩ = some (.slice pu z cu)) → Calls Tryz.prog 27 #[.agg #[.slice p n c],.agg #[.slice q m d]] w' fun e w'' => (∃ p1 c1,e = .returned (.agg #[.slice p1 zl c1]) ∧ ItRw w'' p1 LI) ∧ Below w'.heap.size w' w'' ∧ Below w11.heap.size w11 w''):=fun w' h =>
    (sless_any a b p q n c m d w' HN.out HM.out (HP.out.below (hS w' h.1)) (HQ.out.below (hS w' h.1)) (by omega) (by omega)).mono fun e w'' ⟨v,h1,h2,h3⟩ => by
     rw [← hLI] at h2
     obtain ⟨p1,c1,rfl,-,-,h4⟩:=h2.rw2 hzl
     exact ⟨⟨p1,c1,h1,h4⟩,h3,h.1.trans (h3.mono h.1.size)⟩
   have HL2 : Hid (∀ w',(Below w11.heap.size w11 w' ∧ w'.cell? ⟨I,0,none⟩ = some (.slice p n c) ∧ w'.cell? ⟨O,0,none⟩ = some (.slice q m d) ∧ w'.cell? ⟨X,0,none⟩ = some (.slice pu z cu)) → Calls Tryz.prog 28 #[.agg #[.slice p n c],.agg #[.slice q m d]] w' fun e w'' => (∃ p1 c1,e = .returned (.agg #[.slice p1 zl c1]) ∧ ItRw w'' p1 LI) ∧ Below w'.heap.size w' w'' ∧ Below w11.heap.size w11 w''):=fun w' h =>
    (rless_any a b p q n c m d w' HN.out HM.out (HP.out.below (hS w' h.1)) (HQ.out.below (hS w' h.1)) (by omega) (by omega)).mono fun e w'' ⟨v,h1,h2,h3⟩ => by
     rw [← hLI] at h2
     obtain ⟨p1,c1,rfl,-,-,h4⟩:=h2.rw2 hzl
     exact ⟨⟨p1,c1,h1,h4⟩,h3,h.1.trans (h3.mono h.1.size)⟩
   have HSS : Hid (∀ (w' : World) (p1 p2 : Option Addr) (c1 c2 : Nat),(Below w11.heap.size w11 w' ∧ w'.cell? ⟨I,0,none⟩ = some (.slice p n c) ∧ w'.cell? ⟨O,0,none⟩ = some (.slice q m d) ∧ w'.cell? ⟨X,0,none⟩ = some (.slice pu z cu)) → ItRw w' p1 LI → ItRw w' p2 LI → Calls Tryz.prog 14 #[.agg #[.slice p1 zl c1],.agg #[.slice p2 zl c2]] w' fun e w'' => e = .returned (.bool true) ∧ Below w'.heap.size w' w'' ∧ Below w11.heap.size w11 w''):=fun w' p1 p2 c1 c2 h h1 h2 =>
    (stsame_any LI LI p1 p2 c1 c2 zl zl true w' hzl hzl h1 h2 (by omega) (by omega) (by simp)).mono fun e w'' ⟨h3,h4⟩ => ⟨h3,h4,h.1.trans (h4.mono h.1.size)⟩
   subst hE0
   clear hLI hzl hzl2 hS hz160 hqq
   refine wp_region_held_drew (S:=fun w' => (Below w11.heap.size w11 w' ∧ w'.cell? ⟨I,0,none⟩ = some (.slice p n c) ∧ w'.cell? ⟨O,0,none⟩ = some (.slice q m d) ∧ w'.cell? ⟨X,0,none⟩ = some (.slice pu z cu))) (by kernel_rfl) (keepR3 one_drew ⟨Below.refl _ _,c0,d0,u0⟩) (fun hHeld => ?_)
   refine wpAnyH_take (i:=0) (v:=(.agg #[.slice p n c])) rfl (by kernel_rfl) (by kernel_rfl) (by kernel_rfl) (fun _ _ _ h => h) (Or.inl ⟨by kernel_rfl,fun w hSw => by (go_split_ands;go_simp)⟩) (by assumption) ?_
   try simp only [Act.put,List.setIfInBounds_toArray,List.set_cons_zero,List.set_cons_succ]
   refine wpAnyH_take (i:=1) (v:=(.agg #[.slice q m d])) rfl (by kernel_rfl) (by kernel_rfl) (by kernel_rfl) (fun _ _ _ h => h) (Or.inl ⟨by kernel_rfl,fun w hSw => by (go_split_ands;go_simp)⟩) (by assumption) ?_
   try simp only [Act.put,List.setIfInBounds_toArray,List.set_cons_zero,List.set_cons_succ]
   refine wpAnyH_take (i:=3) (v:=(.agg #[.slice p n c])) rfl (by kernel_rfl) (by kernel_rfl) (by kernel_rfl) (fun _ _ _ h => h) (Or.inl ⟨by kernel_rfl,fun w hSw => by (go_split_ands;go_simp)⟩) (by assumption) ?_
   try simp only [Act.put,List.setIfInBounds_toArray,List.set_cons_zero,List.set_cons_succ]
   refine wpAnyH_take (i:=4) (v:=(.agg #[.slice q m d])) rfl (by kernel_rfl) (by kernel_rfl) (by kernel_rfl) (fun _ _ _ h => h) (Or.inl ⟨by kernel_rfl,fun w hSw => by (go_split_ands;go_simp)⟩) (by assumption) ?_
   try simp only [Act.put,List.setIfInBounds_toArray,List.set_cons_zero,List.set_cons_succ]
   refine wpAnyH_ready (rs:=[2]) (by kernel_rfl) (by simp) ?_
   refine AllReadyH.cons rfl (fun K hK => ?_) AllReadyH.nil
   go_simp
   go_at_call 27
   (with_reducible refine (HL1.out _ (by assumption)).mono ?_);rintro e v6 ⟨⟨p6,c6,rfl,hr6⟩,hb6,hd6⟩
   refine hK.out _ _ (keepR3 hb6 (by assumption)) (fun hHeld => ?_)
   clear hK K
   try simp only [Act.put,List.setIfInBounds_toArray,List.set_cons_zero,List.set_cons_succ]
   refine wpAnyH_ready (rs:=[5]) (by kernel_rfl) (by simp) ?_
   refine AllReadyH.cons rfl (fun K hK => ?_) AllReadyH.nil
   go_simp
   go_at_call 28
   (with_reducible refine (HL2.out _ (by assumption)).mono ?_);rintro e v7 ⟨⟨p7,c7,rfl,hr7⟩,hb7,hd7⟩;have hr6:=hr6.below hb7
   refine hK.out _ _ (keepR3 hb7 (by assumption)) (fun hHeld => ?_)
   clear hK K
   try simp only [Act.put,List.setIfInBounds_toArray,List.set_cons_zero,List.set_cons_succ]
   refine wpAnyH_ready (rs:=[6]) (by kernel_rfl) (by simp) ?_
   refine AllReadyH.cons rfl (fun K hK => ?_) AllReadyH.nil
   go_simp
   go_at_call 14
   (with_reducible refine (HSS.out _ _ _ _ _ (by assumption) hr6 hr7).mono ?_);rintro e v8 ⟨rfl,hb8,hd8⟩
   refine hK.out _ _ (keepR3 hb8 (by assumption)) (fun hHeld => ?_)
   clear hK K
   try simp only [Act.put,List.setIfInBounds_toArray,List.set_cons_zero,List.set_cons_succ]
   refine wpAnyH_take (i:=7) (v:=.bool true) rfl (by kernel_rfl) (by kernel_rfl) (by kernel_rfl) (fun _ _ _ h => h) (Or.inl ⟨by kernel_rfl,fun w hSw => by first | kernel_rfl | (go_split_ands;go_simp)⟩) (by assumption) ?_
   try simp only [Act.put,List.setIfInBounds_toArray,List.set_cons_zero,List.set_cons_succ]
   refine wpAnyH_take (i:=8) (v:=.int .i64 170) rfl (by kernel_rfl) (by kernel_rfl) (by kernel_rfl) (fun _ _ _ h => h) (Or.inl ⟨by kernel_rfl,fun w hSw => by first | kernel_rfl | (go_split_ands;go_simp)⟩) (by assumption) ?_
   try simp only [Act.put,List.setIfInBounds_toArray,List.set_cons_zero,List.set_cons_succ]
   refine wpAnyH_take (i:=9) (v:=.bool true) rfl (by kernel_rfl) (by kernel_rfl) (by kernel_rfl) (fun _ _ _ h => h) (Or.inl ⟨by kernel_rfl,fun w hSw => by first | kernel_rfl | (go_split_ands;go_simp)⟩) (by assumption) ?_
   try simp only [Act.put,List.setIfInBounds_toArray,List.set_cons_zero,List.set_cons_succ]
   refine wpAnyH_take (i:=10) (v:=.bool true) rfl (by kernel_rfl) (by kernel_rfl) (by kernel_rfl) (fun _ _ _ h => h) (Or.inl ⟨by kernel_rfl,fun w hSw => by first | kernel_rfl | (go_split_ands;go_simp)⟩) (by assumption) ?_
   try simp only [Act.put,List.setIfInBounds_toArray,List.set_cons_zero,List.set_cons_succ]
   refine wpAnyH_take (i:=11) (v:=undef) rfl (by kernel_rfl) (by kernel_rfl) (by kernel_rfl) (fun _ _ _ h => h) (Or.inr ⟨by kernel_rfl,by kernel_rfl⟩) (by assumption) ?_
   try simp only [Act.put,List.setIfInBounds_toArray,List.set_cons_zero,List.set_cons_succ]
   refine wpAnyH_take (i:=12) (v:=undef) rfl (by kernel_rfl) (by kernel_rfl) (by kernel_rfl) (fun _ _ _ h => h) (Or.inr ⟨by kernel_rfl,by kernel_rfl⟩) (by assumption) ?_
   try simp only [Act.put,List.setIfInBounds_toArray,List.set_cons_zero,List.set_cons_succ]
   refine wpAnyH_take (i:=13) (v:=undef) rfl (by kernel_rfl) (by kernel_rfl) (by kernel_rfl) (fun _ _ _ h => h) (Or.inr ⟨by kernel_rfl,by kernel_rfl⟩) (by assumption) ?_
   try simp only [Act.put,List.setIfInBounds_toArray,List.set_cons_zero,List.set_cons_succ]
   refine wpAnyH_take (i:=14) (v:=undef) rfl (by kernel_rfl) (by kernel_rfl) (by kernel_rfl) (fun _ _ _ h => h) (Or.inr ⟨by kernel_rfl,by kernel_rfl⟩) (by assumption) ?_
   try simp only [Act.put,List.setIfInBounds_toArray,List.set_cons_zero,List.set_cons_succ]
   refine wpAnyH_take (i:=15) (v:=undef) rfl (by kernel_rfl) (by kernel_rfl) (by kernel_rfl) (fun _ _ _ h => h) (Or.inr ⟨by kernel_rfl,by kernel_rfl⟩) (by assumption) ?_
   try simp only [Act.put,List.setIfInBounds_toArray,List.set_cons_zero,List.set_cons_succ]
   refine wpAnyH_take (i:=16) (v:=undef) rfl (by kernel_rfl) (by kernel_rfl) (by kernel_rfl) (fun _ _ _ h => h) (Or.inr ⟨by kernel_rfl,by kernel_rfl⟩) (by assumption) ?_
   try simp only [Act.put,List.setIfInBounds_toArray,List.set_cons_zero,List.set_cons_succ]
   refine wpAnyH_take (i:=17) (v:=undef) rfl (by kernel_rfl) (by kernel_rfl) (by kernel_rfl) (fun _ _ _ h => h) (Or.inr ⟨by kernel_rfl,by kernel_rfl⟩) (by assumption) ?_
   try simp only [Act.put,List.setIfInBounds_toArray,List.set_cons_zero,List.set_cons_succ]
   refine wpAnyH_take (i:=18) (v:=undef) rfl (by kernel_rfl) (by kernel_rfl) (by kernel_rfl) (fun _ _ _ h => h) (Or.inr ⟨by kernel_rfl,by kernel_rfl⟩) (by assumption) ?_
   try simp only [Act.put,List.setIfInBounds_toArray,List.set_cons_zero,List.set_cons_succ]
   refine wpAnyH_take (i:=19) (v:=undef) rfl (by kernel_rfl) (by kernel_rfl) (by kernel_rfl) (fun _ _ _ h => h) (Or.inr ⟨by kernel_rfl,by kernel_rfl⟩) (by assumption) ?_
   try simp only [Act.put,List.setIfInBounds_toArray,List.set_cons_zero,List.set_cons_succ]
   refine wpAnyH_take (i:=20) (v:=undef) rfl (by kernel_rfl) (by kernel_rfl) (by kernel_rfl) (fun _ _ _ h => h) (Or.inr ⟨by kernel_rfl,by kernel_rfl⟩) (by assumption) ?_
   try simp only [Act.put,List.setIfInBounds_toArray,List.set_cons_zero,List.set_cons_succ]
   refine wpAnyH_take (i:=21) (v:=undef) rfl (by kernel_rfl) (by kernel_rfl) (by kernel_rfl) (fun _ _ _ h => h) (Or.inr ⟨by kernel_rfl,by kernel_rfl⟩) (by assumption) ?_
   try simp only [Act.put,List.setIfInBounds_toArray,List.set_cons_zero,List.set_cons_succ]
   refine wpAnyH_take (i:=22) (v:=.bool true) rfl (by kernel_rfl) (by kernel_rfl) (by kernel_rfl) (fun _ _ _ h => h) (Or.inl ⟨by kernel_rfl,fun w hSw => by first | kernel_rfl | (go_split_ands;go_simp)⟩) (by assumption) ?_
   try simp only [Act.put,List.setIfInBounds_toArray,List.set_cons_zero,List.set_cons_succ]
   refine wpAnyH_take (i:=23) (v:=.bool true) rfl (by kernel_rfl) (by kernel_rfl) (by kernel_rfl) (fun _ _ _ h => h) (Or.inl ⟨by kernel_rfl,fun w hSw => by first | kernel_rfl | (go_split_ands;go_simp)⟩) (by assumption) ?_
   try simp only [Act.put,List.setIfInBounds_toArray,List.set_cons_zero,List.set_cons_succ]
   refine wpAnyH_take (i:=24) (v:=.bool true) rfl (by kernel_rfl) (by kernel_rfl) (by kernel_rfl) (fun _ _ _ h => h) (Or.inl ⟨by kernel_rfl,fun w hSw => by first | kernel_rfl | (go_split_ands;go_simp)⟩) (by assumption) ?_
   try simp only [Act.put,List.setIfInBounds_toArray,List.set_cons_zero,List.set_cons_succ]
   refine wpAnyH_done (by kernel_rfl) ?_ _
   all_goals go_wp2_with fail
   all_goals go_ret
   all_goals exact ⟨rfl,HBX.out.trans ((HB11.out.trans (hd8.mono HB11.out.size)).mono HBX.out.size)⟩
end Go.Proofs.YtpkgiojicbdcfaaGreatDoor
