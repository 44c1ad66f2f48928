/-
 The walk of the law package's own check.
-/
import Derived.Test.YtpkgiojicbdcfaaGreatDoorSoReachPk
import Derived.Test.YtpkgiojicbdcfaaGreatDoorCmRTagPPk
import Derived.Test.YtpkgiojicbdcfaaGreatDoorSoPutPk
import Derived.Maps.AppendAt
import Derived.Test.YtpkgiojicbdcfaaGreatDoorTrPlainPk
import Derived.Test.YtpkgiojicbdcfaaGreatDoorSoValPk
import Derived.StillTailTactics
set_option linter.unusedVariables false
set_option linter.unusedSimpArgs false
namespace Go.Proofs.YtpkgiojicbdcfaaGreatDoor
open Go Go.RowKit Go.Maps Go.WideMaps
theorem ItOw.rw2 {w : World} {base : Nat} {v : Value} {l : List It} (h : ItOw w base v l) {n : Nat} (hn : n = l.length) : ∃ p cap,v = .slice p n cap ∧ n ≤ cap ∧ (p = none → cap = 0) ∧ ItRw w p l:=by
 subst hn
 obtain ⟨p,cap,hv,hc,hr⟩:=h.rw
 refine ⟨p,cap,hv,hc,fun hp => ?_,hr⟩
 rcases h.2 with ⟨hx,_⟩ | ⟨g,cap',cur,hx,_⟩
 ·rw [hv] at hx;injection hx with _ _ h3
 ·rw [hv,hp] at hx;cases hx
theorem put_s {l l' : List It} {k : Int} {b id : ByteArray} (h0 : putC l k b = 0 ∧ putI l k b = l') (hd : putD k b = id) (p : Option Addr) (n m c : Nat) (w : World) (hT : StrTab w) (hO : WoTab w) (hTr : TrTab w) (hK : KTab w) (hn : n = l.length) (hm : m = l'.length) (hnc : n ≤ c) (hpc : p = none → c = 0) (hp : ItRw w p l) (hb : b.size ≤ 140737488355328) (hn2 : n ≤ 1000000) :
  Calls Tryz.prog 12 #[.agg #[.slice p n c],.agg #[.int .i64 k,.string b]] w fun e w' => ∃ p' c',e = .returned (.tuple #[.agg #[.slice p' m c'],.string id,.int .i64 0]) ∧ m ≤ c' ∧ (p' = none → c' = 0) ∧ ItOw w' w.heap.size (.slice p' m c') l' ∧ Below w.heap.size w w':=by
 refine (sput_any l k b p n c w hT hO hTr hK hn hnc hpc hp hb hn2).mono ?_
 rintro e w' ⟨v',he,ho,hb'⟩
 have hs : putS l k b = id:=by rw [putS,if_pos h0.1,hd]
 rw [h0.1,hs] at he
 rw [h0.2] at ho
 obtain ⟨p',c',rfl,h1,h2,h3⟩:=ho.rw2 hm
 exact ⟨p',c',he,h1,h2,ho,hb'⟩
structure LvS (w wk : World) (S : Nat) (p : Option Addr) (n c : Nat) (l : List It) : Prop where
 b : Below w.heap.size w wk
 s : wk.heap[S]? = some (.cells #[.slice p n c] 24 (0,0))
 r : ItRw wk p l
 nc : n ≤ c
 pc : p = none → c = 0
 hS : w.heap.size ≤ S
theorem LvS.below {w wk w' : World} {S : Nat} {p : Option Addr} {n c : Nat} {l : List It} (h : LvS w wk S p n c l) (hb : Below wk.heap.size wk w') : LvS w w' S p n c l:=⟨h.b.trans (hb.mono h.b.size),(hb.block _ (row_lt h.s)).trans h.s,h.r.below hb,h.nc,h.pc,h.hS⟩
theorem LvS.put {w wk w' : World} {S : Nat} {p p' : Option Addr} {n c m c' : Nat} {l l' : List It} (h : LvS w wk S p n c l) (hb : Below wk.heap.size wk w') (ho : ItOw w' wk.heap.size (.slice p' m c') l') (hnc : m ≤ c') (hpc : p' = none → c' = 0) (hm : m = l'.length) : LvS w (w'.setCell ⟨S,0,none⟩ (.slice p' m c')) S p' m c' l':=by
 have h2:=h.below hb
 have ho2:=ho.put (P:=S) (x:=.slice p' m c') (ho.apart (row_lt h.s))
 obtain ⟨q,d,he,_,_,hr⟩:=ho2.rw2 hm
 cases he
 exact ⟨h2.b.setCell (p:=⟨S,0,none⟩) h.hS _,st_set h2.s,hr,hnc,hpc,h.hS⟩
theorem srw_one {w : World} {s : ByteArray} {t : TypeId} : SRw (w.alloc (.cells #[.string s] t)) (some ⟨w.heap.size,0,none⟩) [s.data.toList]:=fun k hk => by
 obtain rfl : k = 0:=by simpa using hk
 exact ⟨w.heap.size,0,rfl,by simp,cell_of_row _ _ 0 _ _ _ (heap_alloc_new w (.cells #[.string s] t))⟩
theorem srw_two {w : World} {s s2 : ByteArray} {t : TypeId} : SRw (w.alloc (.cells #[.string s,.string s2] t)) (some ⟨w.heap.size,0,none⟩) [s.data.toList,s2.data.toList]:=fun k hk => by
 have hk' : k = 0 ∨ k = 1:=by simp at hk;omega
 rcases hk' with rfl | rfl
 ·exact ⟨w.heap.size,0,rfl,by simp,cell_of_row _ _ 0 _ _ _ (heap_alloc_new w (.cells #[.string s,.string s2] t))⟩
 ·exact ⟨w.heap.size,0,rfl,by simp,cell_of_row _ _ 1 _ _ _ (heap_alloc_new w (.cells #[.string s,.string s2] t))⟩
set_option maxHeartbeats 1000000 in
theorem lperson_any (w : World) : Calls Tryz.prog 38 #[] w fun e w' => e = .returned (.agg #[.string ⟨#[97]⟩,.string ⟨#[97,64,98]⟩,.int .i64 5,.int .i64 60]) ∧ Below w.heap.size w w':=by
 go_enter Tryz.func38,Tryz.ntmps38
 go_wp2
 have hr:=heap_alloc_new w (.cells #[.string ⟨#[97]⟩,.string ⟨#[97,64,98]⟩,.int .i64 5,.int .i64 60] 61)
 have d0:=cell_of_row _ _ 0 _ _ _ hr
 have d1:=cell_of_row _ _ 1 _ _ _ hr
 have d2:=cell_of_row _ _ 2 _ _ _ hr
 have d3:=cell_of_row _ _ 3 _ _ _ hr
 refine bodyPost_ret (v:=.agg #[.string ⟨#[97]⟩,.string ⟨#[97,64,98]⟩,.int .i64 5,.int .i64 60]) (by simp [results,Tryz.results38,go_sem,d0,d1,d2,d3]) rfl ⟨rfl,below_new (Below.refl _ _) _⟩
set_option maxHeartbeats 16000000 in
set_option maxRecDepth 40000 in
theorem lives_any (w : World) (hT : StrTab w) (hO : WoTab w) (hTr : TrTab w) (hK : KTab w) :
  Calls Tryz.prog 8 #[] w fun e w' => e = .returned (.bool true) ∧ Below w.heap.size w w':=by
 have HTT : Hid (∀ w',Below w.heap.size w w' → StrTab w' ∧ WoTab w' ∧ TrTab w' ∧ KTab w'):=fun w' h => ⟨hT.below h,hO.below h,hTr.below h,hK.below h⟩
 have P1:=Lib.hid (put_s so_p1 so_a none 0 1 0 w hT hO hTr hK rfl rfl (Nat.le_refl _) (fun _ => rfl) (ItRw.nil _ _) (by decide) (by decide))
 clear hT hO hTr hK
 go_enter Tryz.func8,Tryz.ntmps8
 go_upto_region 2 with (go_at_call 12;((refine P1.out.mono ?_);rintro e w1 ⟨p1,c1,rfl,h1,h2,ho1,hb1⟩))
 obtain ⟨wa,hwa⟩ : ∃ wa,wa = w1.alloc (.cells #[.slice p1 1 c1] 24):=⟨_,rfl⟩
 obtain ⟨S,hS⟩ : ∃ S,S = w1.heap.size:=⟨_,rfl⟩
 have hra : wa.heap[S]? = some (.cells #[.slice p1 1 c1] 24 (0,0)):=by rw [hwa,hS];exact heap_alloc_new _ _
 have hba : Below w1.heap.size w1 wa:=by rw [hwa];exact below_new (Below.refl _ _) _
 have hLa : LvS w wa S p1 1 c1 [itA]:=⟨hb1.trans (hba.mono hb1.size),hra,by
  obtain ⟨q,d,he,_,_,hr⟩:=(ho1.below hba).rw2 (n:=1) rfl
  cases he
  exact hr,h1,h2,by rw [hS];exact hb1.size⟩
 rw [← hwa,← hS]
 have HLa:=Lib.hid hLa
 clear hwa hS hra hba hLa h1 h2 ho1 hb1 P1
 have ta:=HTT.out wa HLa.out.b
 have P2:=Lib.hid (put_s so_p2 so_b p1 1 2 c1 wa ta.1 ta.2.1 ta.2.2.1 ta.2.2.2 rfl rfl HLa.out.nc HLa.out.pc HLa.out.r (by decide) (by decide))
 have x0:=(st_at HLa.out.s).1
 clear ta
 go_upto_region 3 with (go_at_call 12;((refine P2.out.mono ?_);rintro e w2 ⟨p2,c2,rfl,h1,h2,ho2,hb2⟩;obtain ⟨s0,f0⟩:=st_at (HLa.out.below hb2).s))
 have HLb:=Lib.hid (HLa.out.put hb2 ho2 h1 h2 rfl)
 obtain ⟨wb,hwb⟩ : ∃ wb,wb = w2.setCell ⟨S,0,none⟩ (.slice p2 2 c2):=⟨_,rfl⟩
 rw [← hwb] at HLb ⊢
 clear hwb h1 h2 ho2 hb2 s0 f0 P2 x0
 have HPN:=Lib.hid lperson_any
 have hbc : str (bodyC cmS) = bC:=by rw [bodyC,if_pos so_chk];rfl
 have HBD : Hid (∀ w',Calls Tryz.prog 37 #[.agg #[.string iB,.slice none 0 0,.string ⟨#[97]⟩,.string ⟨#[97,64,98]⟩,.int .i64 5,.int .i64 60,.string ⟨#[97]⟩,.string ⟨#[97,64,98]⟩,.int .i64 5,.int .i64 60,.string ⟨#[120,10]⟩]] w' fun e w'' => e = .returned (.tuple #[.string bC,.int .i64 0]) ∧ Below w'.heap.size w' w''):=fun w' =>
  (rcbody_any cmS none 0 0 w' rfl (SRw.none _ _) (fun y hy => absurd hy (by simp [cmS])) (by decide) (by decide)).mono fun e w'' ⟨he,hb⟩ => ⟨by rw [he,hbc,so_chk];rfl,hb⟩
 have hq : Below wb.heap.size wb wb:=Below.refl _ _
 go_upto_region 4 with (first
  | (go_at_call 38;((with_reducible refine (HPN.out _).mono ?_);rintro e w' ⟨rfl,hb'⟩;have hq:=hq.trans (hb'.mono hq.size);clear hb'))
  | (go_at_call 37;((refine (HBD.out _).mono ?_);rintro e wc ⟨rfl,hb'⟩;have hq:=hq.trans (hb'.mono hq.size);clear hb')))
 have HLc:=Lib.hid (HLb.out.below hq)
 clear hq hbc HBD HPN HLa HLb
 have tc:=HTT.out wc HLc.out.b
 have P3:=Lib.hid (put_s so_p3 so_c p2 2 3 c2 wc tc.1 tc.2.1 tc.2.2.1 tc.2.2.2 rfl rfl HLc.out.nc HLc.out.pc HLc.out.r (by rw [so_size];decide) (by decide))
 have x0:=(st_at HLc.out.s).1
 clear tc
 go_upto_region 5 with (go_at_call 12;((refine P3.out.mono ?_);rintro e w4 ⟨p3,c3,rfl,h1,h2,ho2,hb2⟩;obtain ⟨s0,f0⟩:=st_at (HLc.out.below hb2).s))
 have HLd:=Lib.hid (HLc.out.put hb2 ho2 h1 h2 rfl)
 obtain ⟨wd,hwd⟩ : ∃ wd,wd = w4.setCell ⟨S,0,none⟩ (.slice p3 3 c3):=⟨_,rfl⟩
 rw [← hwd] at HLd ⊢
 clear hwd h1 h2 ho2 hb2 s0 f0 P3 x0 HLc
 have hsz : ∀ e ∈ l3S,e.b.size ≤ 1048576:=by
  intro e he
  simp only [List.mem_cons,List.not_mem_nil,or_false] at he
  rcases he with rfl | rfl | rfl
  ·show bC.size ≤ _;rw [so_size];decide
  ·decide
  ·decide
 have hkw : ∀ e ∈ l3S,(Lit.int .i64 e.k).wf = true:=by
  intro e he
  simp only [List.mem_cons,List.not_mem_nil,or_false] at he
  rcases he with rfl | rfl | rfl <;> decide
 have hmk : ∀ (w' : World) (l : List It) (p : Option Addr) (n : Nat),Below w.heap.size w w' → ItRw w' p l → n = l.length → n ≤ 1000 → (∀ e ∈ l,e ∈ l3S) → StOk w' l p n:=fun w' l p n hb hr hn hn2 hm => ⟨hn,by omega,fun e he => hsz e (hm e he),fun e he => hkw e (hm e he),hr,(HTT.out w' hb).1,(HTT.out w' hb).2.1,(HTT.out w' hb).2.2.1⟩
 have HMK:=Lib.hid hmk
 have HSZ:=Lib.hid hsz
 clear hsz hkw hmk
 have x0:=(st_at HLd.out.s).1
 have hbn : Below wd.heap.size wd (wd.alloc (.cells #[.string iC] 9)):=below_new (Below.refl _ _) _
 have HLn:=Lib.hid (HLd.out.below hbn)
 have R5:=Lib.hid (sreach_any l3S cS p3 (some ⟨wd.heap.size,0,none⟩) 3 c3 1 1 _ (HMK.out _ l3S p3 3 HLn.out.b HLn.out.r rfl (by decide) (fun _ h => h)) rfl (srw_one (w:=wd) (s:=iC) (t:=9)) (by intro x hx;rw [List.mem_singleton] at hx;subst hx;decide) (by decide) (by decide +kernel))
 clear hbn
 go_upto_region 6 with (go_at_call 29;((refine R5.out.mono ?_);rintro e we ⟨v5,rfl,ho5,hb5⟩))
 obtain ⟨p5,c5,rfl,-⟩:=ho5.rw
 rw [so_r1.2,so_r1.1]
 have HLe:=Lib.hid (HLn.out.below hb5)
 clear ho5 hb5 x0 R5 HLn HLd
 -- Only and Reach
 have x0:=(st_at HLe.out.s).1
 have hbn : Below we.heap.size we (we.alloc (.cells #[.string iC] 9)):=below_new (Below.refl _ _) _
 have HLn:=Lib.hid (HLe.out.below hbn)
 have hids : ∀ x ∈ cS,x.length ≤ 140737488355328:=by intro x hx;rw [List.mem_singleton] at hx;subst hx;decide
 have hisz : ∀ e ∈ l3S,e.i.size ≤ 140737488355328:=by
  intro e he
  simp only [List.mem_cons,List.not_mem_nil,or_false] at he
  rcases he with rfl | rfl | rfl <;> decide
 have R6:=Lib.hid (sonly_any l3S cS p3 (some ⟨we.heap.size,0,none⟩) 3 c3 1 1 _ rfl rfl HLn.out.r (srw_one (w:=we) (s:=iC) (t:=9)) (by decide) (by decide) hisz hids)
 have R7 : Hid (∀ (w' : World) (p6 : Option Addr) (c6 : Nat),Below w.heap.size w w' → ItRw w' p6 [itC] → Calls Tryz.prog 29 #[.agg #[.slice p6 1 c6],.slice (some ⟨w'.heap.size,0,none⟩) 1 1] (w'.alloc (.cells #[.string iC] 9)) fun e w'' => (∃ v,e = .returned (.tuple #[v,.int .i64 171])) ∧ Below w'.heap.size w' w''):=fun w' p6 c6 hb hr => by
  have hbn' : Below w'.heap.size w' (w'.alloc (.cells #[.string iC] 9)):=below_new (Below.refl _ _) _
  refine (sreach_any [itC] cS p6 (some ⟨w'.heap.size,0,none⟩) 1 c6 1 1 _ (HMK.out _ [itC] p6 1 (hb.trans (hbn'.mono hb.size)) (hr.below hbn') rfl (by decide) (fun e he => by rw [List.mem_singleton] at he;subst he;simp [l3S])) rfl (srw_one (w:=w') (s:=iC) (t:=9)) hids (by decide) (by decide +kernel)).mono ?_
  rintro e w'' ⟨v,he,-,hb2⟩
  rw [so_r2.2] at he
  exact ⟨⟨v,he⟩,hbn'.trans (hb2.mono hbn'.size)⟩
 have HIDS:=Lib.hid hids
 have HISZ:=Lib.hid hisz
 clear hbn hids hisz
 go_upto_region 7 with (first
  | (go_at_call 23;((refine R6.out.mono ?_);rintro e w6 ⟨v6,rfl,ho6,hb6⟩;rw [so_r2.1] at ho6;obtain ⟨p6,c6,rfl,-,-,hr6⟩:=ho6.rw2 (n:=1) rfl;have HL6:=Lib.hid (HLn.out.below hb6)))
  | (go_at_call 29;((refine (R7.out w6 p6 c6 HL6.out.b hr6).mono ?_);rintro e w7 ⟨⟨v7,rfl⟩,hb7⟩)))
 have HLf:=Lib.hid (HL6.out.below hb7)
 clear ho6 hb6 hr6 hb7 HL6 HLn HLe R6 R7 x0
 -- Get, twice
 have x0:=(st_at HLf.out.s).1
 have G1:=Lib.hid (sget_any l3S iA p3 3 c3 w7 rfl HLf.out.r (by decide))
 rw [so_g.1,so_g.2.1,show itA.k = 1 from rfl,show itA.b = bA from rfl] at G1
 go_upto_region 8 with (go_at_call 15;((refine G1.out.mono ?_);rintro e w8 ⟨rfl,hb8⟩))
 obtain ⟨wg,hwg⟩ : ∃ wg,wg = w8.alloc (.cells #[.int .i64 1,.string bA] 29):=⟨_,rfl⟩
 obtain ⟨O,hO⟩ : ∃ O,O = w8.heap.size:=⟨_,rfl⟩
 have ho8 : wg.heap[O]? = some (.cells #[.int .i64 1,.string bA] 29 (0,0)):=by rw [hwg,hO];exact heap_alloc_new _ _
 have hbg : Below w8.heap.size w8 wg:=by rw [hwg];exact below_new (Below.refl _ _) _
 rw [← hwg,← hO]
 have HLg:=Lib.hid ((HLf.out.below hb8).below hbg)
 have y1:=(ob_at ho8).2.1
 clear hwg hO hbg hb8 HLf x0 G1 ho8
 have x0:=(st_at HLg.out.s).1
 have G2:=Lib.hid (sget_any l3S ⟨#[120]⟩ p3 3 c3 wg rfl HLg.out.r (by decide))
 rw [so_g.2.2.1] at G2
 obtain ⟨xk,hxk⟩ : ∃ xk,xk = (getI l3S ⟨#[120]⟩).k:=⟨_,rfl⟩
 obtain ⟨xb,hxb⟩ : ∃ xb,xb = (getI l3S ⟨#[120]⟩).b:=⟨_,rfl⟩
 rw [← hxk,← hxb] at G2
 clear hxk hxb
 go_upto_region 9 with (go_at_call 15;((refine G2.out.mono ?_);rintro e w9 ⟨rfl,hb9⟩;have y1:=cell_bel y1 hb9))
 obtain ⟨wh,hwh⟩ : ∃ wh,wh = w9.alloc (.cells #[.int .i64 xk,.string xb] 29):=⟨_,rfl⟩
 have hbh : Below w9.heap.size w9 wh:=by rw [hwh];exact below_new (Below.refl _ _) _
 rw [← hwh]
 have hl:=(HLg.out.below hb9).below hbh
 have y1:=cell_bel y1 hbh
 clear hwh hbh HLg G2
 have x0:=(st_at hl.s).1
 have hbn : Below wh.heap.size wh (wh.alloc (.cells #[.string iC,.string iA] 9)):=below_new (Below.refl _ _) _
 have hln:=hl.below hbn
 have HYN:=Lib.hid (cell_bel y1 hbn)
 have hca : ∀ x ∈ caS,x.length ≤ 140737488355328:=by
  intro x hx
  simp only [List.mem_cons,List.not_mem_nil,or_false] at hx
  rcases hx with rfl | rfl <;> decide
 have R9:=Lib.hid (sonly_any l3S caS p3 (some ⟨wh.heap.size,0,none⟩) 3 c3 2 2 _ rfl rfl hln.r (srw_two (w:=wh) (s:=iC) (s2:=iA) (t:=9)) (by decide) (by decide) HISZ.out hca)
 have HLN:=Lib.hid hln
 clear hln hbn hca
 have M9 : Hid (∀ (w' : World) (p6 : Option Addr) (c6 : Nat),Below w.heap.size w w' → ItRw w' p6 [itC,itA] → Calls Tryz.prog 31 #[.agg #[.slice p6 2 c6],.slice (some ⟨w'.heap.size,0,none⟩) 1 1] (w'.alloc (.cells #[.string iC] 9)) fun e w'' => (∃ q d,e = .returned (.slice q 1 d) ∧ SRw w'' q [iB.data.toList]) ∧ Below w'.heap.size w' w''):=fun w' p6 c6 hb hr => by
  have hbn' : Below w'.heap.size w' (w'.alloc (.cells #[.string iC] 9)):=below_new (Below.refl _ _) _
  refine (smissing_any [itC,itA] cS p6 (some ⟨w'.heap.size,0,none⟩) 2 c6 1 1 _ (HMK.out _ [itC,itA] p6 2 (hb.trans (hbn'.mono hb.size)) (hr.below hbn') rfl (by decide) (fun e he => by simp only [List.mem_cons,List.not_mem_nil,or_false] at he ⊢;rcases he with rfl | rfl <;> simp)) rfl (srw_one (w:=w') (s:=iC) (t:=9)) HIDS.out (by decide) (by decide +kernel)).mono ?_
  rintro e w'' ⟨v,he,ho,hb2⟩
  rw [so_mi] at ho
  obtain ⟨q,d,rfl,hr2⟩:=ho.rw
  exact ⟨⟨q,d,he,hr2⟩,hbn'.trans (hb2.mono hbn'.size)⟩
 have V9 : Hid (∀ w',LvS w w' S p3 3 c3 l3S → Calls Tryz.prog 9 #[.agg #[.slice p3 3 c3]] w' fun e w'' => e = .returned (.bool true) ∧ Below w'.heap.size w' w''):=fun w' h => by
  have:=svalid_any l3S p3 3 c3 w' (HTT.out _ h.b).1 (HTT.out _ h.b).2.1 (HTT.out _ h.b).2.2.1 (HTT.out _ h.b).2.2.2 rfl h.r (fun x hx => Nat.le_trans (HSZ.out x hx) (by decide)) (by decide)
  rw [so_v] at this
  exact this
 have I9 : Hid (∀ w',LvS w w' S p3 3 c3 l3S → Calls Tryz.prog 19 #[.agg #[.slice p3 3 c3]] w' fun e w'' => (∃ q d,e = .returned (.slice q 3 d)) ∧ Below w'.heap.size w' w''):=fun w' h => by
  refine (ids_any l3S p3 3 c3 w' rfl h.r (by decide)).mono ?_
  rintro e w'' ⟨⟨v,he,ho⟩,hb⟩
  obtain ⟨q,d,rfl,-⟩:=ho.rw
  exact ⟨⟨q,d,he⟩,hb⟩
 have B9 : Hid (∀ w',LvS w w' S p3 3 c3 l3S → Calls Tryz.prog 22 #[.agg #[.slice p3 3 c3],.string iB] w' fun e w'' => e = .returned (.bool true) ∧ Below w'.heap.size w' w''):=fun w' h => by
  have:=has_any l3S iB p3 3 c3 w' rfl h.r (by decide)
  rw [so_g.2.2.2.1] at this
  exact this
 have E9 : Hid (∀ w',LvS w w' S p3 3 c3 l3S → Calls Tryz.prog 22 #[.agg #[.slice p3 3 c3],.string ⟨#[]⟩] w' fun e w'' => e = .returned (.bool false) ∧ Below w'.heap.size w' w''):=fun w' h => by
  have:=has_any l3S ⟨#[]⟩ p3 3 c3 w' rfl h.r (by decide)
  rw [so_g.2.2.2.2] at this
  exact this
 have W9 : Hid (∀ w',LvS w w' S p3 3 c3 l3S → Calls Tryz.prog 33 #[.agg #[.slice p3 3 c3],.slice none 0 0,.slice (some ⟨w'.heap.size,0,none⟩) 1 1] (w'.alloc (.cells #[.string iC] 9)) fun e w'' => e = .returned (.bool true) ∧ Below w'.heap.size w' w''):=fun w' h => by
  have hbn' : Below w'.heap.size w' (w'.alloc (.cells #[.string iC] 9)):=below_new (Below.refl _ _) _
  have h2:=h.below hbn'
  have:=swhole_any l3S [] cS p3 none (some ⟨w'.heap.size,0,none⟩) 3 c3 0 0 1 1 _ (HMK.out _ l3S p3 3 h2.b h2.r rfl (by decide) (fun _ h => h)) rfl rfl (fun k hk => absurd hk (Nat.not_lt_zero _)) (srw_one (w:=w') (s:=iC) (t:=9)) (fun x hx => by cases hx) HIDS.out (by decide) (by decide) (by decide +kernel)
  rw [so_w.1] at this
  exact this.mono fun e w'' ⟨he,hb⟩ => ⟨he,hbn'.trans (hb.mono hbn'.size)⟩
 have L9 : Hid (∀ w',LvS w w' S p3 3 c3 l3S → Calls Tryz.prog 27 #[.agg #[.slice p3 3 c3],.agg #[.slice p3 3 c3]] w' fun e w'' => (∃ q d,e = .returned (.agg #[.slice q 0 d])) ∧ Below w'.heap.size w' w''):=fun w' h => by
  refine (sless_any l3S l3S p3 p3 3 c3 3 c3 w' rfl rfl h.r h.r (by decide) (by decide)).mono ?_
  rintro e w'' ⟨v,he,ho,hb⟩
  rw [so_w.2] at ho
  obtain ⟨q,d,rfl,-⟩:=ho.rw2 (n:=0) rfl
  exact ⟨⟨q,d,he⟩,hb⟩
 clear hl y1
 go_upto_region 10 with (first
  | (go_at_call 23;(refine R9.out.mono ?_);rintro e w10 ⟨v10,rfl,ho10,hb10⟩;rw [so_m.1] at ho10;obtain ⟨p10,c10,rfl,-,-,hr10⟩:=ho10.rw2 (n:=2) rfl;have hl:=HLN.out.below hb10;have y1:=cell_bel HYN.out hb10;have x0:=(st_at hl.s).1)
  | (go_at_call 31;(refine (M9.out w10 p10 c10 hl.b hr10).mono ?_);rintro e w11 ⟨⟨q11,d11,rfl,hr11⟩,hb'⟩;have hl:=hl.below hb';have x0:=(st_at hl.s).1;have y1:=cell_bel y1 hb';obtain ⟨g11,o11,rfl,-,z0⟩:=hr11 0 (by decide);have z0 : w11.cell? ⟨g11,o11,none⟩ = some (.string iB):=z0))
 clear R9 M9 HYN HLN hr10 ho10 hr11 HMK HSZ HIDS HISZ HTT
 have HAB : Hid ((bA.toList == [97,98]) = true):=by show _ = _;rw [show bA = (⟨#[97,98]⟩ : ByteArray) from rfl,ByteArray.toList_eq];rfl
 generalize iB = bb at z0 B9 ⊢
 generalize bA = ba at y1 HAB ⊢
 have hab:=HAB.out
 have hfld : ∀ (q : Option Addr) (d : Nat) (w' : World),(Instr.field 24 (.agg #[.slice q 0 d]) 0).run Tryz.prog w' = .ok (.slice q 0 d) w':=fun q d w' => by kernel_rfl
 have hbb : (bb.toList == bb.toList) = true:=beq_self_eq_true _
 go_step
 simp only [List.append_eq,List.cons_append,List.nil_append]
 go_wp2_with (first
  | (go_at_call 9;(with_reducible refine (V9.out _ hl).mono ?_);rintro e w' ⟨rfl,hb'⟩;have hl:=hl.below hb';have x0:=(st_at hl.s).1;have y1:=cell_bel y1 hb';have z0:=cell_bel z0 hb')
  | (go_at_call 19;(with_reducible refine (I9.out _ hl).mono ?_);rintro e w' ⟨⟨q12,d12,rfl⟩,hb'⟩;have hl:=hl.below hb';have x0:=(st_at hl.s).1;have y1:=cell_bel y1 hb';have z0:=cell_bel z0 hb')
  | (go_at_call 22;first
   | ((with_reducible refine (E9.out _ hl).mono ?_);rintro e w' ⟨rfl,hb'⟩;have hl:=hl.below hb';have x0:=(st_at hl.s).1;have y1:=cell_bel y1 hb';have z0:=cell_bel z0 hb')
   | ((with_reducible refine (B9.out _ hl).mono ?_);rintro e w' ⟨rfl,hb'⟩;have hl:=hl.below hb';have x0:=(st_at hl.s).1;have y1:=cell_bel y1 hb';have z0:=cell_bel z0 hb'))
  | (go_at_call 33;(with_reducible refine (W9.out _ hl).mono ?_);rintro e w' ⟨rfl,hb'⟩;have hl:=hl.below hb';have x0:=(st_at hl.s).1;have y1:=cell_bel y1 hb';have z0:=cell_bel z0 hb')
  | (go_at_call 27;(with_reducible refine (L9.out _ hl).mono ?_);rintro e w' ⟨⟨q13,d13,rfl⟩,hb'⟩;have hl:=hl.below hb';have x0:=(st_at hl.s).1;have y1:=cell_bel y1 hb';have z0:=cell_bel z0 hb'))
 go_ret
 exact ⟨rfl,hl.b⟩
end Go.Proofs.YtpkgiojicbdcfaaGreatDoor
/-
 Rows that are told by functions; rows of rows of small numbers of the call's own.
-/
namespace Go.Proofs.YtpkgiojicbdcfaaGreatDoor
open Go Go.RowKit
def fRow (N : Nat) (f : Nat → Value) : Array Value:=((List.range N).map f).toArray
theorem fRow_size (N : Nat) (f : Nat → Value) : (fRow N f).size = N:=by simp [fRow]
theorem fRow_at {N i : Nat} {f : Nat → Value} (h : i < N) : (fRow N f)[i]? = some (f i):=by simp [fRow,h]
def setF {α : Type} (f : Nat → α) (i : Nat) (v : α) : Nat → α:=fun j => if j = i then v else f j
theorem setF_at {α : Type} (f : Nat → α) (i : Nat) (v : α) : setF f i v i = v:=if_pos rfl
theorem setF_ne {α : Type} (f : Nat → α) {i j : Nat} (v : α) (h : j ≠ i) : setF f i v j = f j:=if_neg h
theorem fRow_set {N i : Nat} {f : Nat → Value} {v : Value} : (fRow N f).setIfInBounds i v = fRow N (setF f i v):=by
 unfold fRow
 rw [List.setIfInBounds_toArray]
 congr 1
 refine List.ext_getElem (by simp) fun j h1 h2 => ?_
 rw [List.getElem_set]
 by_cases h : i = j
 ·subst h
  simp [setF]
 ·have h' : ¬ j = i:=fun e => h e.symm
  simp [h,setF,h']
theorem fRow_made (z : Value) (n : Nat) : madeCells #[z] n = fRow n (fun _ => z):=by
 rw [← Array.toList_inj,toList_madeCells_one]
 unfold fRow
 exact List.ext_getElem (by simp) fun j h1 h2 => by simp
def FRw (w : World) (B N : Nat) (t : TypeId) (f : Nat → Value) : Prop:=w.heap[B]? = some (.cells (fRow N f) t (0,0))
section
variable {w w' : World} {B N : Nat} {t : TypeId} {f : Nat → Value}
theorem FRw.at (h : FRw w B N t f) {i : Nat} (hi : i < N) : w.cell? ⟨B,i,none⟩ = some (f i):=(cell_of_row _ _ i _ _ _ h).trans (fRow_at hi)
theorem FRw.fz (h : FRw w B N t f) (i : Nat) : w.frozen? ⟨B,i,none⟩ = false:=frozen_of_row _ _ i _ _ h
theorem FRw.set (h : FRw w B N t f) (i : Nat) (v : Value) : FRw (w.setCell ⟨B,i,none⟩ v) B N t (setF f i v):=by
 unfold FRw
 rw [heap_setCell_same w B i _ t v h,fRow_set]
theorem FRw.below (h : FRw w B N t f) (hb : Below w.heap.size w w') : FRw w' B N t f:=(hb.block _ (row_lt h)).trans h
theorem FRw.other (h : FRw w B N t f) {P i : Nat} (hne : B ≠ P) (v : Value) : FRw (w.setCell ⟨P,i,none⟩ v) B N t f:=(Below.heap_setCell w ⟨P,i,none⟩ v B hne).trans h
theorem FRw.grown (h : FRw w B N t f) {r : Option Nat} (hg : w.grownBy w' r) (hne : some B ≠ r) : FRw w' B N t f:=(hg.block B (row_lt h) hne).trans h
end
def ints (l : List Nat) : List Value:=l.map fun (x : Nat) => Value.int .i64 (x : Int)
theorem ints_app (a b : List Nat) : ints (a ++ b) = ints a ++ ints b:=by simp [ints]
theorem Tryz.infoIntS : (Tryz.prog.info? 3).map (fun i => (i.zero,i.size,i.bytes)) = some (some (.int .i64 0),1,8):=by kernel_rfl
structure IRs (w : World) (base L N K : Nat) (vf : Nat → Value) (lf : Nat → List Nat) : Prop where
 row : FRw w L N 105 vf
 own : ∀ i,i < N → w.ownsRow base 3 1 (vf i) (lf i).length (ints (lf i))
 apart : ∀ i j,i < N → j < N → i ≠ j → (vf i).ownBlock = none ∨ (vf i).ownBlock ≠ (vf j).ownBlock
 lt : ∀ i,i < N → ∀ x ∈ lf i,x < K
 hL : L < base
section
variable {w w' : World} {base L N K : Nat} {vf : Nat → Value} {lf : Nat → List Nat}
theorem IRs.below (h : IRs w base L N K vf lf) (hb : Below w.heap.size w w') : IRs w' base L N K vf lf :=
 ⟨h.row.below hb,fun i hi => own_below (h.own i hi) hb,h.apart,h.lt,h.hL⟩
theorem IRs.start {w : World} {L N K : Nat} (hr : FRw w L N 105 (fun _ => .slice none 0 0)) : IRs w (L + 1) L N K (fun _ => .slice none 0 0) (fun _ => []) :=
 ⟨hr,fun i _ => World.ownsRow_nil w (L + 1) 3 1,fun i j _ _ _ => .inl rfl,fun i _ x hx => (by cases hx),Nat.lt_succ_self _⟩
theorem IRs.form (h : IRs w base L N K vf lf) {i : Nat} (hi : i < N) : ∃ p c,vf i = .slice p (lf i).length c ∧ ∀ k (hk : k < (lf i).length),∃ g,p = some ⟨g,0,none⟩ ∧ w.cell? ⟨g,k,none⟩ = some (.int .i64 ((lf i)[k] : Int)):=by
 have ho:=h.own i hi
 rcases ho.2 with ⟨hv,h0⟩ | ⟨g,cap,cur,hv,_⟩
 ·exact ⟨none,0,by rw [hv,h0],fun k hk => by omega⟩
 ·refine ⟨_,cap,hv,fun k hk => ⟨g,rfl,?_⟩⟩
  rw [hv] at ho
  rw [World.ownsRow.cellAt ho k (by omega)]
  simp [ints,hk]
theorem IRs.len (h : IRs w base L N K vf lf) {i : Nat} (hi : i < N) : (lf i).length ≤ 9223372036854775807:=by
 have ho:=h.own i hi
 rcases ho.2 with ⟨hv,h0⟩ | ⟨g,cap,cur,hv,_,_,h1,h2,_⟩
 ·omega
 ·have : maxLen ≤ 9223372036854775807:=by decide
  omega
theorem IRs.other (h : IRs w base L N K vf lf) {P i : Nat} {v : Value} (hP : P < base) (hne : L ≠ P) : IRs (w.setCell ⟨P,i,none⟩ v) base L N K vf lf :=
 ⟨h.row.other hne v,fun j hj => ownsRow_setCell_other (h.own j hj) (a:=⟨P,i,none⟩) (fun e => by have:=((h.own j hj).lt P e).1;omega) v,h.apart,h.lt,h.hL⟩
theorem IRs.app (h : IRs w base L N K vf lf) {i x : Nat} (hi : i < N) (hx : x < K) {o : Obj} {v' : Value} (ho : w'.ownsRow base 3 1 v' ((lf i).length + 1) (ints (lf i) ++ [.int .i64 (x : Int)]))
  (hg : (w.alloc o).grownBy w' (vf i).ownBlock) (hat : v'.ownBlock = (vf i).ownBlock ∨ v'.ownBlock = some (w.alloc o).heap.size) :
  IRs (w'.setCell ⟨L,i,none⟩ v') base L N K (setF vf i v') (setF lf i (lf i ++ [x])):=by
 have hLo : ∀ j,j < N → some L ≠ (vf j).ownBlock:=fun j hj e => by
  have:=((h.own j hj).lt L e.symm).1
  have:=h.hL
  omega
 have hLv : some L ≠ v'.ownBlock:=fun e => by
  have:=(ho.lt L e.symm).1
  have:=h.hL
  omega
 have hlt : ∀ j,j < N → ∀ k,(vf j).ownBlock = some k → k < w.heap.size:=fun j hj k e => ((h.own j hj).lt k e).2
 refine ⟨?_,fun j hj => ?_,fun j k hj hk hjk => ?_,fun j hj y hy => ?_,h.hL⟩
 ·exact FRw.set ((h.row.below (below_new (Below.refl _ _) o)).grown hg (hLo i hi)) i v'
 ·by_cases e : j = i
  ·subst e
   rw [setF_at,setF_at]
   refine ownsRow_setCell_other (a:=⟨L,j,none⟩) ?_ (fun e => hLv e.symm) v'
   rw [ints_app,List.length_append]
   exact ho
  ·rw [setF_ne _ _ e,setF_ne _ _ e]
   exact ownsRow_setCell_other (a:=⟨L,i,none⟩) (((h.own j hj).alloc o).kept hg (h.apart j i hj hi e)) (fun e => hLo j hj e.symm) v'
 ·by_cases e : j = i
  ·subst e
   rw [setF_at,setF_ne _ _ (Ne.symm hjk)]
   rcases hat with e2 | e2
   ·rw [e2];exact h.apart j k hj hk hjk
   ·right
    rw [e2]
    intro e3
    have:=hlt k hk _ e3.symm
    simp at this
    omega
  ·rw [setF_ne _ _ e]
   by_cases e2 : k = i
   ·subst e2
    rw [setF_at]
    rcases hat with e3 | e3
    ·rw [e3];exact h.apart j k hj hk hjk
    ·right
     rw [e3]
     intro e4
     have:=hlt j hj _ e4
     simp at this
     omega
   ·rw [setF_ne _ _ e2];exact h.apart j k hj hk hjk
 ·by_cases e : j = i
  ·subst e
   rw [setF_at,List.mem_append,List.mem_singleton] at hy
   rcases hy with hy | rfl
   ·exact h.lt j hj y hy
   ·exact hx
  ·rw [setF_ne _ _ e] at hy
   exact h.lt j hj y hy
end
theorem wp_in_one {ops : Array Oper} {rest : List Oper} {o : Oper} {a : Act} {Q : Exit → Act → World → Prop} {w : World} (hgd : o.guard = none) (sl x : Operand)
  (ho : o.op = .call { callee:=.builtin .append,args:=#[sl,x],argTypes:=#[105,105] })
  {base : Nat} {v : Value} {l : List Nat} (hs : a.eval sl = v) (hown : w.ownsRow base 3 1 v l.length (ints l)) (y : Nat) (hx : a.eval x = .slice (some ⟨w.heap.size,0,none⟩) 1 1) (hb : l.length + 1 ≤ 1048576) (hbase : base ≤ w.heap.size)
  (h : ∀ v' w',w'.ownsRow base 3 1 v' (l.length + 1) (ints l ++ [.int .i64 (y : Int)]) → (w.alloc (.cells #[.int .i64 (y : Int)] 3)).grownBy w' v.ownBlock → (v'.ownBlock = v.ownBlock ∨ v'.ownBlock = some (w.alloc (.cells #[.int .i64 (y : Int)] 3)).heap.size) → wpList Tryz.prog ops Q rest (a.put o.dst v') w') : wpList Tryz.prog ops Q (o :: rest) a (w.alloc (.cells #[.int .i64 (y : Int)] 3)):=by
 obtain ⟨i0,hi,hz0,hz1,hz2⟩:=info_parts Tryz.infoIntS
 exact wpList_append_own_at _ hgd sl x 105 ho base 3 i0 (.int .i64 0) 1 8 Tryz.underlying105 hi hz0 hz1 hz2 rfl (by decide) v l.length (ints l) hs (hown.alloc _) ⟨w.heap.size,0,none⟩ 1 1 [.int .i64 (y : Int)] hx rfl (cell_one_new _ _ _) (fun u hu => by simp at hu;subst hu;rfl) (by unfold maxLen;omega) (by omega) (by simp;omega)
  (fun v' w' h1 h2 _ h4 => h v' w' h1 h2 h4)
def cntN (f : Nat → Bool) : Nat → Nat
 | 0 => 0
 | n + 1 => cntN f n + (if f n = true then 0 else 1)
theorem cntN_le (f : Nat → Bool) : ∀ n,cntN f n ≤ n
 | 0 => Nat.le_refl _
 | n + 1 => by have:=cntN_le f n;rw [cntN];split <;> omega
theorem cntN_false : ∀ n,cntN (fun _ => false) n = n
 | 0 => rfl
 | n + 1 => by rw [cntN,cntN_false n];rfl
theorem cntN_far (f : Nat → Bool) (i : Nat) (b : Bool) : ∀ n,n ≤ i → cntN (setF f i b) n = cntN f n
 | 0,_ => rfl
 | n + 1,h => by rw [cntN,cntN,cntN_far f i b n (by omega),setF_ne _ _ (by omega)]
theorem cntN_set (f : Nat → Bool) (i : Nat) (hf : f i = false) : ∀ n,i < n → cntN (setF f i true) n + 1 = cntN f n
 | n + 1,h => by
  by_cases e : n = i
  ·subst e
   rw [cntN,cntN,cntN_far f n true n (Nat.le_refl _),setF_at,hf]
   rfl
  ·have:=cntN_set f i hf n (by omega)
   rw [cntN,cntN,setF_ne _ _ e]
   omega
def sumN (f : Nat → Nat) : Nat → Nat
 | 0 => 0
 | n + 1 => sumN f n + f n
theorem sumN_far (f : Nat → Nat) (i v : Nat) : ∀ n,n ≤ i → sumN (setF f i v) n = sumN f n
 | 0,_ => rfl
 | n + 1,h => by rw [sumN,sumN,sumN_far f i v n (by omega),setF_ne _ _ (by omega)]
theorem sumN_set (f : Nat → Nat) (i v : Nat) : ∀ n,i < n → sumN (setF f i v) n + f i = sumN f n + v
 | n + 1,h => by
  by_cases e : n = i
  ·subst e
   rw [sumN,sumN,sumN_far f n v n (Nat.le_refl _),setF_at]
   omega
  ·have:=sumN_set f i v n (by omega)
   rw [sumN,sumN,setF_ne _ _ e]
   omega
def perE (l : List It) (m : Nat → Nat) (e : En) : Nat:=1 + if hasI l e.i = true ∧ e.m = 4 then m (atI l e.i) else 0
def sumE (l : List It) (m : Nat → Nat) : List En → Nat
 | [] => 0
 | e :: es => perE l m e + sumE l m es
theorem perE_mono {l : List It} {m m' : Nat → Nat} (h : ∀ j,m j ≤ m' j) (e : En) : perE l m e ≤ perE l m' e:=by
 unfold perE
 split
 ·have:=h (atI l e.i);omega
 ·exact Nat.le_refl _
theorem sumE_mono {l : List It} {m m' : Nat → Nat} (h : ∀ j,m j ≤ m' j) : ∀ es,sumE l m es ≤ sumE l m' es
 | [] => Nat.le_refl _
 | e :: es => Nat.add_le_add (perE_mono h e) (sumE_mono h es)
theorem sumE_append (l : List It) (m : Nat → Nat) : ∀ a b,sumE l m (a ++ b) = sumE l m a + sumE l m b
 | [],b => by simp [sumE]
 | e :: a,b => by rw [List.cons_append,sumE,sumE,sumE_append l m a b,Nat.add_assoc]
theorem sumE_more {l : List It} {m : Nat → Nat} {es : List En} {k : Nat} (h : k < es.length) : sumE l m (es.take (k + 1)) = sumE l m (es.take k) + perE l m es[k]:=by
 rw [List.take_succ_eq_append_getElem h,sumE_append]
 rfl
def OkM (l : List It) (N : Nat) (es : Nat → List En) (m : Nat → Nat) : Prop:=(∀ i,m i ≤ 20000) ∧ ∀ i,i < N → m i ≤ sumE l m (es i)
theorem OkM.start (l : List It) (N : Nat) (es : Nat → List En) : OkM l N es (fun _ => 0):=⟨fun _ => Nat.zero_le _,fun _ _ => Nat.zero_le _⟩
theorem OkM.set {l : List It} {N : Nat} {es : Nat → List En} {m : Nat → Nat} (h : OkM l N es m) {i : Nat} (hi : i < N) (hs : sumE l m (es i) ≤ 20000) : OkM l N es (setF m i (sumE l m (es i))):=by
 have hm : ∀ j,m j ≤ setF m i (sumE l m (es i)) j:=fun j => by
  by_cases e : j = i
  ·subst e;rw [setF_at];exact h.2 j hi
  ·rw [setF_ne _ _ e];exact Nat.le_refl _
 refine ⟨fun j => ?_,fun j hj => ?_⟩
 ·by_cases e : j = i
  ·subst e;rw [setF_at];exact hs
  ·rw [setF_ne _ _ e];exact h.1 j
 ·by_cases e : j = i
  ·subst e;rw [setF_at];exact sumE_mono hm _
  ·rw [setF_ne _ _ e];exact Nat.le_trans (h.2 j hj) (sumE_mono hm _)
def leftM (m : Nat → Nat) : Nat → Nat:=sumN fun i => 20000 - m i
theorem leftM_set {l : List It} {N : Nat} {es : Nat → List En} {m : Nat → Nat} (h : OkM l N es m) {i : Nat} (hi : i < N) (hs : sumE l m (es i) ≤ 20000) :
  leftM (setF m i (sumE l m (es i))) N + (if sumE l m (es i) = m i then 0 else 1) ≤ leftM m N:=by
 have e : (fun j => 20000 - setF m i (sumE l m (es i)) j) = setF (fun j => 20000 - m j) i (20000 - sumE l m (es i)):=by
  funext j
  by_cases e : j = i
  ·subst e;rw [setF_at,setF_at]
  ·rw [setF_ne _ _ e,setF_ne _ _ e]
 have h1:=sumN_set (fun j => 20000 - m j) i (20000 - sumE l m (es i)) N hi
 have h2:=h.2 i hi
 unfold leftM
 rw [e]
 split <;> omega
end Go.Proofs.YtpkgiojicbdcfaaGreatDoor
/-
 The walk of the reference's ringed: it answers something, and leaves what was there.
-/
namespace Go.Proofs.YtpkgiojicbdcfaaGreatDoor
open Go Go.RowKit Go.Maps Go.WideMaps
theorem Tryz.infoSlI : (Tryz.prog.info? 105).map (fun i => (i.zero,i.size,i.bytes)) = some (some (.slice none 0 0),1,24):=by kernel_rfl
theorem Tryz.infoBoolS : (Tryz.prog.info? 4).map (fun i => (i.zero,i.size,i.bytes)) = some (some (.bool false),1,1):=by kernel_rfl
theorem make_slis (n : Nat) (hn : n ≤ 1048576) (w : World) : (Instr.makeSlice 133 (.int .i64 (n : Int)) (.int .i64 (n : Int))).run Tryz.prog w = .ok (.slice (some ⟨w.heap.size,0,none⟩) n n) (w.alloc (.cells (fRow n (fun _ => .slice none 0 0)) 105)):=by
 obtain ⟨i0,hi,hz0,hz1,hz2⟩:=info_parts Tryz.infoSlI
 have h:=run_makeSlice (P:=Tryz.prog) w 133 105 i0 (.slice none 0 0) Tryz.underlying133 hi hz0 .i64 .i64 (n : Int) (n : Int) (by omega) (by omega) (by rw [hz1];omega) (by rw [hz2];omega) (by omega)
 rw [hz1] at h
 simp only [Int.toNat_natCast,Nat.mul_one] at h
 rw [← fRow_made]
 exact h
theorem make_bools (n : Nat) (hn : n ≤ 1048576) (w : World) : (Instr.makeSlice 134 (.int .i64 (n : Int)) (.int .i64 (n : Int))).run Tryz.prog w = .ok (.slice (some ⟨w.heap.size,0,none⟩) n n) (w.alloc (.cells (fRow n (fun _ => .bool false)) 4)):=by
 obtain ⟨i0,hi,hz0,hz1,hz2⟩:=info_parts Tryz.infoBoolS
 have h:=run_makeSlice (P:=Tryz.prog) w 134 4 i0 (.bool false) Tryz.underlying134 hi hz0 .i64 .i64 (n : Int) (n : Int) (by omega) (by omega) (by rw [hz1];omega) (by rw [hz2];omega) (by omega)
 rw [hz1] at h
 simp only [Int.toNat_natCast,Nat.mul_one] at h
 rw [← fRow_made]
 exact h
theorem SOw.grownI {w w' : World} {b1 b2 n : Nat} {v u : Value} {l : List (List UInt8)} {xs : List Value} {o : Obj} (h : SOw w b1 v l) (hu : w.ownsRow b2 3 1 u n xs) (hg : (w.alloc o).grownBy w' u.ownBlock) : SOw w' b1 v l:=by
 refine World.ownsRow.kept (World.ownsRow.alloc h o) hg ?_
 rcases h.2 with ⟨rfl,_⟩ | ⟨g,cap,cur,rfl,_,hg1,_⟩
 ·exact .inl rfl
 ·right
  intro e
  rcases hu.2 with ⟨rfl,_⟩ | ⟨g',cap',cur',rfl,_,hg2,_⟩
  ·simp [Value.ownBlock] at e
  ·simp only [Value.ownBlock,Option.some.injEq] at e
   subst e
   rw [hg1] at hg2
   simp at hg2
theorem lnkL_len2 (k : Int) (l : List UInt8) : (lnkL k l).2.length ≤ 1100:=by
 by_cases h0 : bytesE k l = 0
 ·rcases bytesE_kinds h0 with rfl | rfl | rfl | rfl
  ·rw [lnkL_1 h0];simp
  ·rw [lnkL_2 h0]
   have h1:=disL_len (trL l).2
   have h2:=trL_len l
   show (disL (trL l).2).length ≤ 1100
   omega
  ·rw [lnkL_3 h0]
   have h1:=disL_len (cmL l).2
   have h2:=cmL_len l
   show (disL (cmL l).2).length ≤ 1100
   omega
  ·rw [lnkL_4 h0,tgL]
   show (if (parG l).1 = 0 then [(parG l).2.o.data.toList] else []).length ≤ 1100
   split <;> simp
 ·rw [lnkL_err h0];simp
theorem keepR3 {w0 wa wb : World} {a1 a2 b1 b2 c1 c2 : Nat} {x y z : Value} (hb : Below wa.heap.size wa wb) (h : Below w0.heap.size w0 wa ∧ wa.cell? ⟨a1,a2,none⟩ = some x ∧ wa.cell? ⟨b1,b2,none⟩ = some y ∧ wa.cell? ⟨c1,c2,none⟩ = some z) : Below w0.heap.size w0 wb ∧ wb.cell? ⟨a1,a2,none⟩ = some x ∧ wb.cell? ⟨b1,b2,none⟩ = some y ∧ wb.cell? ⟨c1,c2,none⟩ = some z :=
 ⟨h.1.trans (hb.mono h.1.size),cell_bel h.2.1 hb,cell_bel h.2.2.1 hb,cell_bel h.2.2.2 hb⟩
def moreOf : Value → Nat
 | .bool true => 1
 | _ => 0
theorem setF_bool (f : Nat → Bool) (i : Nat) (b : Bool) : setF (fun j => Value.bool (f j)) i (.bool b) = fun j => .bool (setF f i b j):=by
 funext j
 by_cases e : j = i
 ·subst e;rw [setF_at,setF_at]
 ·rw [setF_ne _ _ e,setF_ne _ _ e]
theorem ring_row {w w' : World} {base L N K i : Nat} {vf : Nat → Value} {lf : Nat → List Nat} (h : IRs w base L N K vf lf) (hi : i < N) {v : Value} (hv : vf i = v) {o : Obj} (hg : (w.alloc o).grownBy w' v.ownBlock) : FRw w' L N 105 vf :=
 (h.row.below (below_new (Below.refl _ _) o)).grown hg fun e => by
  rw [← hv] at e
  have:=((h.own i hi).lt L e.symm).1
  have:=h.hL
  omega
set_option maxHeartbeats 16000000 in
set_option maxRecDepth 8000 in
theorem ringed_any (l : List It) (p : Option Addr) (n c : Nat) (w : World) (hn : n = l.length) (hp : ItRw w p l) (hs : ∀ x ∈ l,x.b.size ≤ 140737488355328) (hn2 : n ≤ 1000) :
  Calls Tryz.prog 75 #[.agg #[.slice p n c]] w fun e w' => (∃ b,e = .returned (.bool b)) ∧ Below w.heap.size w w':=by
 obtain ⟨w1,hw1⟩ : ∃ w1,w1 = w.alloc (.cells #[.slice p n c] 24):=⟨_,rfl⟩
 obtain ⟨B,hB⟩ : ∃ B,B = w.heap.size:=⟨_,rfl⟩
 have hx : w1.heap[B]? = some (.cells #[.slice p n c] 24 (0,0)):=by rw [hw1,hB];exact heap_alloc_new w _
 have hbx : Below w.heap.size w w1:=by rw [hw1];exact below_new (Below.refl _ _) _
 have x0 : w1.cell? ⟨B,0,none⟩ = some (.slice p n c):=cell_of_row _ _ 0 _ _ _ hx
 obtain ⟨L,hL⟩ : ∃ L,L = w1.heap.size:=⟨_,rfl⟩
 obtain ⟨w2,hw2⟩ : ∃ w2,w2 = w1.alloc (.cells (fRow n (fun _ => .slice none 0 0)) 105):=⟨_,rfl⟩
 have hfr : FRw w2 L n 105 (fun _ => .slice none 0 0):=by rw [hw2,hL];exact heap_alloc_new w1 _
 have hb2 : Below w1.heap.size w1 w2:=by rw [hw2];exact below_new (Below.refl _ _) _
 have hmk:=fun w' => make_slis n (by omega) w'
 have hmb:=fun w' => make_bools n (by omega) w'
 have HIR:=Lib.hid (IRs.start (K:=n) hfr)
 have HN:=Lib.hid hn
 have HP:=Lib.hid (hp.below hbx)
 have HS:=Lib.hid hs
 have HBX:=Lib.hid hbx
 have HB2:=Lib.hid hb2
 have HW1:=Lib.hid hw1
 have HW2:=Lib.hid hw2
 have HB:=Lib.hid hB
 have HL:=Lib.hid hL
 clear hn hp hs hbx hw1 hB hx hfr hb2 hw2 hL
 go_enter Tryz.func75,Tryz.ntmps75
 go_upto_region 1 with fail
 rw [← HW1.out,← HB.out]
 go_upto_region 2 with fail
 rw [← HW2.out,← HL.out]
 go_wp2_with fail
 clear hmk
 go_loopw [4] (fun iv wr => ∃ k : Nat,k ≤ n ∧ iv = .int .i64 (k : Int) ∧ Hid (∃ vf lf,IRs wr (L + 1) L n n vf lf ∧ ∀ j,k ≤ j → lf j = []) ∧ Hid (Below w1.heap.size w1 wr)) (fun iv _ => n - (intOf iv).toNat)
 case atStart => exact ⟨0,by omega,rfl,⟨_,_,HIR.out,fun _ _ => rfl⟩,HB2.out⟩
 case round =>
  clear HIR
  rename World => wx
  obtain ⟨k,hk,rfl,HI,HBW⟩:=hrel
  have c0:=cell_bel x0 HBW.out
  by_cases hlt : k < n
  ·have hkl : k < l.length:=by rw [← HN.out];exact hlt
   have q1 : (k : Int) < (n : Int):=by omega
   obtain ⟨g,o,hpe,hg,a0,a1,a2⟩:=HP.out.below HBW.out k hkl
   subst hpe
   have hbs:=HS.out _ (List.getElem_mem hkl)
   obtain ⟨e,he⟩ : ∃ e,e = l[k]:=⟨_,rfl⟩
   rw [← he] at a0 a1 a2 hbs
   obtain ⟨id,kd,bd⟩:=e
   simp only at a0 a1 a2 hbs
   clear he hg hkl
   obtain ⟨⟨K,LL⟩,hq⟩ : ∃ q,q = lnkL kd bd.data.toList:=⟨_,rfl⟩
   have hlen:=lnkL_len2 kd bd.data.toList
   have hLk:=fun w' => rlinks_any kd bd w' hbs
   rw [← hq] at hLk hlen
   simp only at hlen
   obtain ⟨m,hm⟩ : ∃ m,m = LL.length:=⟨_,rfl⟩
   have hLk2 : ∀ w',Calls Tryz.prog 68 #[.agg #[.int .i64 kd,.string bd]] w' fun e w'' => (∃ q d,e = .returned (.tuple #[.slice q m d,.int .i64 (K : Int)]) ∧ SOw w'' w'.heap.size (.slice q m d) LL) ∧ Below w'.heap.size w' w'':=fun w' => (hLk w').mono fun e w'' ⟨⟨v,h1,hv⟩,h2⟩ => by
    obtain ⟨q,d,h3,hr⟩:=hv.rw
    rw [← hm] at h3
    subst h3
    exact ⟨⟨q,d,h1,hv⟩,h2⟩
   have hm2 : m ≤ 1100:=by omega
   have HM:=Lib.hid hm
   clear hLk hlen hq hm
   have HLk : Hid (∀ w',(Below wx.heap.size wx w' ∧ w'.cell? ⟨B,0,none⟩ = some (.slice (some ⟨g,o,none⟩) n c) ∧ w'.cell? ⟨g,o + k * 3 + 1,none⟩ = some (.int .i64 kd) ∧ w'.cell? ⟨g,o + k * 3 + 2,none⟩ = some (.string bd)) → Calls Tryz.prog 68 #[.agg #[.int .i64 kd,.string bd]] w' fun e w'' => ∃ q d,e = .returned (.tuple #[.slice q m d,.int .i64 (K : Int)]) ∧ SOw w'' wx.heap.size (.slice q m d) LL ∧ Below w'.heap.size w' w'' ∧ Below wx.heap.size wx w''):=fun w' h => (hLk2 w').mono fun e w'' ⟨⟨q,d,h1,h2⟩,h3⟩ => ⟨q,d,h1,h2.mono h.1.size,h3,h.1.trans (h3.mono h.1.size)⟩
   clear hLk2
   go_upto_region 5 with fail
   go_cut [5] from 28 to 43 (fun lv wy => (∃ q d,lv = .slice q m d ∧ Hid (SOw wy wx.heap.size (.slice q m d) LL)) ∧ Hid (Below wx.heap.size wx wy))
   case first =>
    go_region_held3 (fun w' => Below wx.heap.size wx w' ∧ w'.cell? ⟨B,0,none⟩ = some (.slice (some ⟨g,o,none⟩) n c) ∧ w'.cell? ⟨g,o + k * 3 + 1,none⟩ = some (.int .i64 kd) ∧ w'.cell? ⟨g,o + k * 3 + 2,none⟩ = some (.string bd)) (first
     | exact keepR3 hb5 (by assumption)
     | exact keepR3 one_drew ⟨Below.refl _ _,c0,a1,a2⟩) (first
     | (go_at_call 68;((with_reducible refine (HLk.out _ (by assumption)).mono ?_);rintro e v1 ⟨q1,d1,rfl,ho5,hb5,hd5⟩)))
    all_goals go_wp2_with fail
    all_goals go_meet
    all_goals exact ⟨⟨_,_,rfl,ho5⟩,hd5⟩
   case rest =>
   obtain ⟨⟨q,d,rfl,HO5⟩,HD5⟩:=hcut
   rename World => w5
   have HI5 : Hid (∃ vf lf,IRs w5 (L + 1) L n n vf lf ∧ (lf k).length ≤ 0 ∧ ∀ j,k + 1 ≤ j → lf j = []):=by
    obtain ⟨vf,lf,h1,h2⟩:=HI.out
    exact ⟨vf,lf,h1.below HD5.out,by rw [h2 k (Nat.le_refl _)];exact Nat.le_refl _,fun j hj => h2 j (by omega)⟩
   have HB5:=Lib.hid (HBW.out.trans (HD5.out.mono HBW.out.size))
   obtain ⟨Bq,hBq⟩ : ∃ Bq,Bq = wx.heap.size:=⟨_,rfl⟩
   rw [← hBq] at HO5
   have HBQ : Hid (L < Bq):=by
    obtain ⟨vf,lf,h1,h2⟩:=HI.out
    show L < Bq
    rw [hBq]
    exact row_lt h1.row
   clear HI HBW HLk HD5 hBq a0 a1 a2 c0
   go_wp2_with fail
   go_loopw [7] (fun tv wx => ∃ t : Nat,t ≤ m ∧ tv = .int .i64 (t : Int) ∧ Hid (∃ vf lf,IRs wx (L + 1) L n n vf lf ∧ (lf k).length ≤ t ∧ ∀ j,k + 1 ≤ j → lf j = []) ∧ Hid (SOw wx Bq (.slice q m d) LL) ∧ Hid (Below w1.heap.size w1 wx)) (fun tv _ => m - (intOf tv).toNat)
   case atStart => exact ⟨0,by omega,rfl,HI5.out,HO5.out,HB5.out⟩
   case round =>
    clear HI5 HO5 HB5
    rename World => wy
    obtain ⟨t,ht,rfl,HJ,HO,HBY⟩:=hrel
    have c0:=cell_bel x0 HBY.out
    by_cases htl : t < m
    ·have htL : t < LL.length:=by rw [← HM.out];exact htl
     have q2 : (t : Int) < (m : Int):=by omega
     obtain ⟨_,_,hx1,hr1⟩:=HO.out.rw
     cases hx1
     obtain ⟨g2,o2,rfl,hg2,b9⟩:=hr1 t htL
     obtain ⟨s,hs⟩ : ∃ s,s = str LL[t]:=⟨_,rfl⟩
     have b0 : wy.cell? ⟨g2,o2 + t,none⟩ = some (.string s):=by rw [hs];exact b9
     obtain ⟨A,hA⟩ : ∃ A,A = atI l s:=⟨_,rfl⟩
     obtain ⟨H,hH⟩ : ∃ H,H = hasI l s:=⟨_,rfl⟩
     have hAn : H = true → A < n:=fun h => by
      rw [hH] at h
      rw [hA,HN.out]
      exact hasI_lt h
     have HPL : Hid (∀ z : BelW wy,Calls Tryz.prog 47 #[.slice (some ⟨g,o,none⟩) n c,.string s] z.w fun e w'' => e = .returned (.tuple #[.int .i64 (A : Int),.bool H]) ∧ ∃ y : BelW wy,w'' = y.w):=fun z => by
      rw [hA,hH]
      exact Calls.bel_class ((rplace_any l s (some ⟨g,o,none⟩) n c z.w HN.out ((HP.out.below HBY.out).below z.h) (by omega)).mono fun e w'' ⟨h1,k7,h2⟩ => ⟨h1,by rw [h2];exact below_drewN (Below.refl _ _) k7⟩)
     clear b9 hA hH hs hr1 hg2 htL
     have k0 : ∀ z : BelW wy,z.w.cell? ⟨B,0,none⟩ = some (.slice (some ⟨g,o,none⟩) n c):=fun z => cell_bel c0 z.h
     have k1 : ∀ z : BelW wy,z.w.cell? ⟨g2,o2 + t,none⟩ = some (.string s):=fun z => cell_bel b0 z.h
     have hqn : Nonempty (BelW wy):=⟨⟨wy,Below.refl _ _⟩⟩
     go_upto_region 9 with fail
     clear b0 c0
     refine wp_region_bel (w0:=wy) (Below.refl _ _) (by kernel_rfl) (by kernel_rfl) ?_
     repeat (go_big_quiet_step (first
      | (go_at_call 47;(with_reducible exact HPL.out _))))
     refine wpQuiet_nil ?_
     rintro _ ⟨zz,rfl⟩
     have hbk:=zz.h
     have HJ7 : Hid (∃ vf lf,IRs zz.w (L + 1) L n n vf lf ∧ (lf k).length ≤ t ∧ ∀ j,k + 1 ≤ j → lf j = []):=by
      obtain ⟨vf,lf,h1,h2⟩:=HJ.out
      exact ⟨vf,lf,h1.below hbk,h2⟩
     have HO7:=Lib.hid (HO.out.below hbk)
     have HB7:=Lib.hid (HBY.out.trans (hbk.mono HBY.out.size))
     obtain ⟨w7,hw7⟩ : ∃ w7,w7 = zz.w:=⟨_,rfl⟩
     rw [← hw7] at HJ7 HO7 HB7 ⊢
     clear k0 k1 hqn HPL HJ HO HBY hbk hw7 zz
     rcases H with _ | _
     ·clear hAn
      go_wp2_with fail
      go_roundw
      case rel =>
       obtain ⟨vf,lf,h1,h2,h3⟩:=HJ7.out
       exact ⟨t + 1,by omega,by go_num,⟨vf,lf,h1,by omega,h3⟩,HO7.out,HB7.out⟩
      case measure => simp [intOf];omega
     ·have hA2:=hAn rfl
      clear hAn
      obtain ⟨vf,lf,hI7,h2,h3⟩:=HJ7.out
      have HI7:=Lib.hid hI7
      have H2:=Lib.hid h2
      have H3:=Lib.hid h3
      have hls : L < w7.heap.size:=row_lt HI7.out.row
      have HLS : Hid (L + 1 ≤ w7.heap.size):=hls
      have HLB : Hid (w1.heap.size ≤ L):=by show _ ≤ L;rw [HL.out];exact Nat.le_refl _
      clear HJ7 hI7 h2 h3 hls
      obtain ⟨pv,cv,hv,-⟩:=HI7.out.form hlt
      have hown:=HI7.out.own k hlt
      have r0:=HI7.out.row.at hlt
      rw [hv] at hown r0
      obtain ⟨lk,hlk⟩ : ∃ lk,lk = lf k:=⟨_,rfl⟩
      rw [← hlk] at hown r0 hv
      have hz : lk.length ≤ t:=by rw [hlk];exact H2.out
      obtain ⟨z,hz2⟩ : ∃ z,z = lk.length:=⟨_,rfl⟩
      rw [← hz2] at hv r0 hown hz
      have HV:=Lib.hid hv
      have HLK:=Lib.hid hlk
      have HZ2:=Lib.hid hz2
      have HOWN:=Lib.hid hown
      clear hv hlk hz2 hown
      go_wp2_with (at_builtin;refine wp_in_one rfl _ _ rfl rfl (v:=.slice pv z cv) (l:=lk) (by rw [← HZ2.out];exact HOWN.out) A rfl (by rw [← HZ2.out];omega) HLS.out ?_;intro v8 w8 h8 g8 t8;obtain ⟨g9,cap9,rfl,_,_⟩:=h8.form (by omega);have H8:=Lib.hid h8;have G8:=Lib.hid g8;have T8:=Lib.hid t8;have HR8:=Lib.hid (ring_row HI7.out hlt HV.out g8);have f8:=HR8.out.at hlt;have z8:=HR8.out.fz k;clear h8 g8 t8)
      go_roundw
      case rel =>
       have g8:=G8.out
       have t8:=T8.out
       have h8:=H8.out
       rw [← HV.out] at g8 t8
       rw [HLK.out] at h8
       have hI8:=HI7.out.app hlt hA2 h8 g8 t8
       rw [← HLK.out] at hI8
       refine ⟨t + 1,by omega,by go_num,⟨_,_,hI8,?_,fun j hj => ?_⟩,?_,?_⟩
       ·rw [setF_at,List.length_append]
        have:=HZ2.out
        simp
        omega
       ·rw [setF_ne _ _ (by omega)]
        exact H3.out j hj
       ·refine ownsRow_setCell_other (a:=⟨L,k,none⟩) (HO7.out.grownI (HI7.out.own k hlt) g8) (fun e => ?_) _
        have h1:=(HO7.out.lt L e).1
        have h2:=HBQ.out
        omega
       ·exact (app_step HB7.out (HI7.out.own k hlt) g8 (by have:=HLB.out;omega) (by have:=HLB.out;have:=HLS.out;omega)).setCell (p:=⟨L,k,none⟩) HLB.out _
      case measure => simp [intOf];omega
    ·obtain rfl : m = t:=by omega
     go_wp2_with fail
     go_roundw
     case rel =>
      obtain ⟨vf,lf,h1,h2,h3⟩:=HJ.out
      exact ⟨k + 1,by omega,by go_num,⟨vf,lf,h1,h3⟩,HBY.out⟩
     case measure => simp [intOf];omega
  ·obtain rfl : n = k:=by omega
   obtain ⟨vf,lf,hI,-⟩:=HI.out
   obtain ⟨D,hD⟩ : ∃ D,D = wx.heap.size:=⟨_,rfl⟩
   obtain ⟨w3,hw3⟩ : ∃ w3,w3 = wx.alloc (.cells (fRow n (fun _ => .bool false)) 4):=⟨_,rfl⟩
   have hfd : FRw w3 D n 4 (fun _ => .bool false):=by rw [hw3,hD];exact heap_alloc_new wx _
   have hb3 : Below wx.heap.size wx w3:=by rw [hw3];exact below_new (Below.refl _ _) _
   have HIR:=Lib.hid hI
   have HFD:=Lib.hid hfd
   have HB3:=Lib.hid hb3
   have HW3:=Lib.hid hw3
   have HD:=Lib.hid hD
   have HDL : Hid (wx.heap.size ≤ D):=by show _ ≤ D;rw [hD];exact Nat.le_refl _
   have e0:=cell_bel c0 hb3
   clear HI hI hfd hb3 hw3 hD hlt
   go_upto_region 13 with fail
   rw [← HW3.out,← HD.out]
   clear c0 hmb
   go_wp2_with fail
   clear e0
   go_loopw [11,12] (fun lv mv w9 => ∃ (bf : Nat → Bool) (M : Bool),lv = .int .i64 (cntN bf n : Int) ∧ mv = .bool M ∧ Hid (FRw w9 D n 4 (fun j => .bool (bf j))) ∧ Hid (Below wx.heap.size wx w9)) (fun lv mv _ => moreOf mv * ((intOf lv).toNat + 1))
   case atStart => exact ⟨fun _ => false,true,by rw [cntN_false],rfl,HFD.out,HB3.out⟩
   case round =>
    clear HFD HB3
    obtain ⟨bf,M,rfl,rfl,HF,HBY⟩:=hrel
    obtain ⟨C,hC⟩ : ∃ C,C = cntN bf n:=⟨_,rfl⟩
    rw [← hC]
    have HC:=Lib.hid hC
    have HCN : Hid (C ≤ n):=by show C ≤ n;rw [hC];exact cntN_le _ _
    clear hC
    rcases M with _ | _
    ·go_wp2_with fail
     go_ret
     exact ⟨⟨_,rfl⟩,HBX.out.trans ((HBW.out.trans (HBY.out.mono HBW.out.size)).mono HBX.out.size)⟩
    ·go_wp2_with fail
     go_loopw [11,12,13] (fun lv mv iv wy => ∃ (b2 : Nat → Bool) (M : Bool) (i : Nat),i ≤ n ∧ lv = .int .i64 (cntN b2 n : Int) ∧ mv = .bool M ∧ iv = .int .i64 (i : Int) ∧ Hid (cntN b2 n + (if M = true then 1 else 0) ≤ C) ∧ Hid (FRw wy D n 4 (fun j => .bool (b2 j))) ∧ Hid (Below wx.heap.size wx wy)) (fun _ _ iv _ => n - (intOf iv).toNat)
     case atStart => exact ⟨bf,false,0,by omega,by rw [← HC.out],rfl,rfl,by show cntN bf n + _ ≤ C;rw [HC.out];simp,HF.out,HBY.out⟩
     case round =>
      clear HF HBY
      rename World => wy
      obtain ⟨b2,M,i,hi,rfl,rfl,rfl,HS2,HF,HBY⟩:=hrel
      obtain ⟨C2,hC2⟩ : ∃ C2,C2 = cntN b2 n:=⟨_,rfl⟩
      rw [← hC2]
      have HC2:=Lib.hid hC2
      have hCN2 : C2 ≤ n:=by rw [hC2];exact cntN_le _ _
      clear hC2
      by_cases hin : i < n
      ·have q3 : (i : Int) < (n : Int):=by omega
       have HIY:=Lib.hid (HIR.out.below HBY.out)
       obtain ⟨pv,cv,hv,hcs⟩:=HIY.out.form hin
       have r0:=HIY.out.row.at hin
       rw [hv] at r0
       obtain ⟨z,hz⟩ : ∃ z,z = (lf i).length:=⟨_,rfl⟩
       rw [← hz] at r0
       have d0:=HF.out.at hin
       have hzb : z ≤ 9223372036854775807:=by rw [hz];exact HIY.out.len hin
       have HZ:=Lib.hid hz
       have HCS:=Lib.hid hcs
       clear hv hcs hz
       go_wp2_with fail
       go_loopw [14,15] (fun ev tv wz => ∃ (E : Bool) (t : Nat),t ≤ z ∧ ev = .bool E ∧ tv = .int .i64 (t : Int) ∧ Hid (E = true → b2 i = false) ∧ Hid (wz = wy)) (fun _ tv _ => z - (intOf tv).toNat)
       case atStart => exact ⟨_,0,by omega,rfl,rfl,fun h => by simpa using h,rfl⟩
       case round =>
        obtain ⟨E,t,ht,rfl,rfl,HE,HWZ⟩:=hrel
        obtain rfl:=HWZ.out
        clear HWZ
        by_cases htz : t < z
        ·have q4 : (t : Int) < (z : Int):=by omega
         rcases E with _ | _
         ·go_wp2_with fail
          go_roundw
          case rel => exact ⟨b2,M,i + 1,by omega,by rw [← HC2.out],rfl,by go_num,HS2.out,HF.out,HBY.out⟩
          case measure => simp [intOf];omega
         ·obtain ⟨g,rfl,a0⟩:=HCS.out t (by rw [← HZ.out];exact htz)
          obtain ⟨y,hy⟩ : ∃ y,y = (lf i)[t]'(by rw [← HZ.out];exact htz):=⟨_,rfl⟩
          rw [← hy] at a0
          have hyn : y < n:=HIY.out.lt i hin y (by rw [hy];exact List.getElem_mem _)
          have q5 : (y : Int) < (n : Int):=by omega
          have d1:=HF.out.at hyn
          clear hy
          go_wp2_with fail
          go_roundw
          case rel => exact ⟨b2 y,t + 1,by omega,rfl,by go_num,fun _ => HE.out rfl,(by first | exact rfl | trivial)⟩
          case measure => simp [intOf];omega
        ·obtain rfl : z = t:=by omega
         rcases E with _ | _
         ·go_wp2_with fail
          go_roundw
          case rel => exact ⟨b2,M,i + 1,by omega,by rw [← HC2.out],rfl,by go_num,HS2.out,HF.out,HBY.out⟩
          case measure => simp [intOf];omega
         ·have z0:=HF.out.fz i
          have HSET:=Lib.hid (cntN_set b2 i (HE.out rfl) n hin)
          have hC1 : 1 ≤ C2:=by rw [HC2.out,← HSET.out];omega
          go_wp2_with fail
          go_roundw
          case rel =>
           refine ⟨setF b2 i true,true,i + 1,by omega,?_,rfl,by go_num,?_,?_,HBY.out.setCell (p:=⟨D,i,none⟩) HDL.out _⟩
           ·have h1:=HSET.out
            have h2:=HC2.out
            have h3 : (C2 : Int) - 1 = (cntN (setF b2 i true) n : Int):=by omega
            rw [h3]
           ·have h1:=HSET.out
            have h2:=HC2.out
            have h3:=HS2.out
            show _ ≤ C
            rw [if_pos rfl]
            have h4 : cntN b2 n ≤ C:=Nat.le_trans (Nat.le_add_right _ _) h3
            omega
           ·have h:=HF.out.set i (.bool true)
            rw [setF_bool] at h
            exact h
          case measure => simp [intOf];omega
      ·obtain rfl : n = i:=by omega
       go_wp2_with fail
       go_roundw
       case rel => exact ⟨b2,M,by rw [← HC2.out],rfl,HF.out,HBY.out⟩
       case measure =>
        have h1:=HS2.out
        rw [← HC2.out] at h1
        rcases M with _ | _
        ·simp [intOf,moreOf]
        ·simp at h1
         simp [intOf,moreOf]
         omega
end Go.Proofs.YtpkgiojicbdcfaaGreatDoor
