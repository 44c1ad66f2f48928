/-
 Plain mathematics of the hash: words below 2^32 as natural numbers.
-/
import Derived.Test.YtnoopcenogbjiaaGreatDoorLawPostPk
import Derived.BigQuiet
import Derived.Deep.QuietTactic
import Derived.IntWalk
import Derived.WalkSmall
set_option linter.unusedVariables false
set_option linter.unusedSimpArgs false
namespace Go.Proofs.YtnoopcenogbjiaaGreatDoor
def rotr (x n:Nat):Nat:=(x / 2^n) ||| (x*2^(32-n)%4294967296)
def ls0 (x:Nat):Nat:=(rotr x 7 ^^^ rotr x 18) ^^^ x / 8
def ls1 (x:Nat):Nat:=(rotr x 17 ^^^ rotr x 19) ^^^ x / 1024
def bs0 (x:Nat):Nat:=(rotr x 2 ^^^ rotr x 13) ^^^ rotr x 22
def bs1 (x:Nat):Nat:=(rotr x 6 ^^^ rotr x 11) ^^^ rotr x 25
def chs (e f g:Nat):Nat:=(e &&& f) ^^^ ((4294967295 ^^^ e) &&& g)
def maj (a b c:Nat):Nat:=((a &&& b) ^^^ (a &&& c)) ^^^ (b &&& c)
theorem rotr_lt {x n:Nat} (hx:x<4294967296):rotr x n<4294967296 :=
 Nat.or_lt_two_pow (n:=32) (Nat.lt_of_le_of_lt (Nat.div_le_self _ _) hx) (Nat.mod_lt _ (by decide))
theorem ls0_lt {x:Nat} (hx:x<4294967296):ls0 x<4294967296:=Nat.xor_lt_two_pow (n:=32) (Nat.xor_lt_two_pow (n:=32) (rotr_lt hx) (rotr_lt hx)) (Nat.lt_of_le_of_lt (Nat.div_le_self _ _) hx)
theorem ls1_lt {x:Nat} (hx:x<4294967296):ls1 x<4294967296:=Nat.xor_lt_two_pow (n:=32) (Nat.xor_lt_two_pow (n:=32) (rotr_lt hx) (rotr_lt hx)) (Nat.lt_of_le_of_lt (Nat.div_le_self _ _) hx)
theorem bs0_lt {x:Nat} (hx:x<4294967296):bs0 x<4294967296:=Nat.xor_lt_two_pow (n:=32) (Nat.xor_lt_two_pow (n:=32) (rotr_lt hx) (rotr_lt hx)) (rotr_lt hx)
theorem bs1_lt {x:Nat} (hx:x<4294967296):bs1 x<4294967296:=Nat.xor_lt_two_pow (n:=32) (Nat.xor_lt_two_pow (n:=32) (rotr_lt hx) (rotr_lt hx)) (rotr_lt hx)
theorem and_lt {x y:Nat} (hx:x<4294967296):x &&& y<4294967296:=Nat.lt_of_le_of_lt Nat.and_le_left hx
theorem chs_lt {e f g:Nat} (he:e<4294967296) (_hg:g<4294967296):chs e f g<4294967296 :=
 Nat.xor_lt_two_pow (n:=32) (and_lt he) (and_lt (Nat.xor_lt_two_pow (n:=32) (by decide) he))
theorem maj_lt {a b c:Nat} (ha:a<4294967296) (hb:b<4294967296):maj a b c<4294967296 :=
 Nat.xor_lt_two_pow (n:=32) (Nat.xor_lt_two_pow (n:=32) (and_lt ha) (and_lt ha)) (and_lt hb)
structure St where
 a:Nat
 b:Nat
 c:Nat
 d:Nat
 e:Nat
 f:Nat
 g:Nat
 h:Nat
deriving DecidableEq
def rnd (s:St) (k w:Nat):St :=
 let t:=(((s.h+bs1 s.e)%4294967296+chs s.e s.f s.g)%4294967296+k)%4294967296
 let t:=(t+w)%4294967296
 let u:=(bs0 s.a+maj s.a s.b s.c)%4294967296
 { a:=(t+u)%4294967296,b:=s.a,c:=s.b,d:=s.c,e:=(s.d+t)%4294967296,f:=s.e,g:=s.f,h:=s.g }
def kw:List Nat:=[0x428a2f98,0x71374491,0xb5c0fbcf,0xe9b5dba5,0x3956c25b,0x59f111f1,0x923f82a4,0xab1c5ed5,0xd807aa98,0x12835b01,0x243185be,0x550c7dc3,0x72be5d74,0x80deb1fe,0x9bdc06a7,0xc19bf174,0xe49b69c1,0xefbe4786,0x0fc19dc6,0x240ca1cc,0x2de92c6f,0x4a7484aa,0x5cb0a9dc,0x76f988da,0x983e5152,0xa831c66d,0xb00327c8,0xbf597fc7,0xc6e00bf3,0xd5a79147,0x06ca6351,0x14292967,0x27b70a85,0x2e1b2138,0x4d2c6dfc,0x53380d13,0x650a7354,0x766a0abb,0x81c2c92e,0x92722c85,0xa2bfe8a1,0xa81a664b,0xc24b8b70,0xc76c51a3,0xd192e819,0xd6990624,0xf40e3585,0x106aa070,0x19a4c116,0x1e376c08,0x2748774c,0x34b0bcb5,0x391c0cb3,0x4ed8aa4a,0x5b9cca4f,0x682e6ff3,0x748f82ee,0x78a5636f,0x84c87814,0x8cc70208,0x90befffa,0xa4506ceb,0xbef9a3f7,0xc67178f2]
theorem kw_lt (t:Nat):kw.getD t 0<4294967296:=by
 have h:∀ x∈kw,x<4294967296:=by decide
 rw [List.getD_eq_getElem?_getD]
 by_cases ht:t<kw.length
 ·rw [List.getElem?_eq_getElem ht];exact h _ (List.getElem_mem ht)
 ·rw [List.getElem?_eq_none (by omega)];decide
def rounds (s:St) (w:List Nat):Nat→St
 | 0=>s
 | t+1=>rnd (rounds s w t) (kw.getD t 0) (w.getD t 0)
def St.ok (s:St):Prop:=s.a<4294967296∧s.b<4294967296∧s.c<4294967296∧s.d<4294967296∧s.e<4294967296∧s.f<4294967296∧s.g<4294967296∧s.h<4294967296
theorem rnd_ok {s:St} (h:s.ok) (k w:Nat):(rnd s k w).ok:=by
 obtain ⟨ha,hb,hc,hd,he,hf,hg,hh⟩:=h
 exact ⟨Nat.mod_lt _ (by decide),ha,hb,hc,Nat.mod_lt _ (by decide),he,hf,hg⟩
theorem rounds_ok {s:St} (h:s.ok) (w:List Nat) (t:Nat):(rounds s w t).ok:=by
 induction t with
 | zero=>exact h
 | succ t ih=>exact rnd_ok ih _ _
def St.add (s t:St):St:={ a:=(s.a+t.a)%4294967296,b:=(s.b+t.b)%4294967296,c:=(s.c+t.c)%4294967296,d:=(s.d+t.d)%4294967296,e:=(s.e+t.e)%4294967296,f:=(s.f+t.f)%4294967296,g:=(s.g+t.g)%4294967296,h:=(s.h+t.h)%4294967296 }
theorem add_ok (s t:St):(s.add t).ok:=⟨Nat.mod_lt _ (by decide),Nat.mod_lt _ (by decide),Nat.mod_lt _ (by decide),Nat.mod_lt _ (by decide),Nat.mod_lt _ (by decide),Nat.mod_lt _ (by decide),Nat.mod_lt _ (by decide),Nat.mod_lt _ (by decide)⟩
def nextW (w:List Nat) (t:Nat):Nat:=(((ls1 (w.getD (t-2) 0)+w.getD (t-7) 0)%4294967296+ls0 (w.getD (t-15) 0))%4294967296+w.getD (t-16) 0)%4294967296
def sched (w:List Nat):Nat→List Nat
 | 0=>w
 | n+1=>sched w n++[nextW (sched w n) (16+n)]
theorem sched_len {w:List Nat} (h:w.length=16) (n:Nat):(sched w n).length=16+n:=by
 induction n with
 | zero=>exact h
 | succ n ih=>rw [sched,List.length_append,ih];rfl
theorem sched_lt {w:List Nat} (h:∀ x∈w,x<4294967296) (n:Nat):∀ x∈sched w n,x<4294967296:=by
 induction n with
 | zero=>exact h
 | succ n ih =>
  intro x hx
  rw [sched,List.mem_append] at hx
  rcases hx with hx|hx
  ·exact ih x hx
  ·simp at hx;subst hx;exact Nat.mod_lt _ (by decide)
def word4 (l:List UInt8) (i:Nat):Nat:=(((l.getD i 0).toNat*256+(l.getD (i+1) 0).toNat)*256+(l.getD (i+2) 0).toNat)*256+(l.getD (i+3) 0).toNat
theorem word4_lt (l:List UInt8) (i:Nat):word4 l i<4294967296:=by
 have h0:=UInt8.toNat_lt (l.getD i 0)
 have h1:=UInt8.toNat_lt (l.getD (i+1) 0)
 have h2:=UInt8.toNat_lt (l.getD (i+2) 0)
 have h3:=UInt8.toNat_lt (l.getD (i+3) 0)
 unfold word4;omega
def words16 (l:List UInt8) (i:Nat):List Nat:=(List.range 16).map fun t=>word4 l (i+4*t)
theorem words16_len (l:List UInt8) (i:Nat):(words16 l i).length=16:=by simp [words16]
theorem words16_lt (l:List UInt8) (i:Nat):∀ x∈words16 l i,x<4294967296:=by
 intro x hx;simp only [words16,List.mem_map] at hx;obtain ⟨t,_,rfl⟩:=hx;exact word4_lt _ _
def oneBlock (s:St) (l:List UInt8) (i:Nat):St:=s.add (rounds s (sched (words16 l i) 48) 64)
def blocks (s:St) (l:List UInt8):Nat→St
 | 0=>s
 | n+1=>oneBlock (blocks s l n) l (64*n)
theorem blocks_ok {s:St} (h:s.ok) (l:List UInt8) (n:Nat):(blocks s l n).ok:=by
 cases n with
 | zero=>exact h
 | succ n=>exact add_ok _ _
def st0:St:=⟨0x6a09e667,0xbb67ae85,0x3c6ef372,0xa54ff53a,0x510e527f,0x9b05688c,0x1f83d9ab,0x5be0cd19⟩
theorem st0_ok:st0.ok:=by unfold St.ok st0;decide
end Go.Proofs.YtnoopcenogbjiaaGreatDoor
/-
 The walks of the rotations.
-/
namespace Go.Proofs.YtnoopcenogbjiaaGreatDoor
open Go.RowKit
theorem rot_left {x n:Nat} (_hx:x<4294967296) (_h1:1≤n) (_h2:n≤31) (X Y:Int) (hX:X=((x*2^(32-n)%4294967296:Nat):Int)) (hY:Y=((x / 2^n:Nat):Int)):bits .or .u32 X Y=(rotr x n:Nat):=by
 subst hX hY
 rw [u32_or_nat _ _ (Nat.mod_lt _ (by decide)) (Nat.lt_of_le_of_lt (Nat.div_le_self _ _) _hx),Nat.or_comm]
 rfl
theorem rot_right {x n:Nat} (_hx:x<4294967296) (X Y:Int) (hX:X=((x / 2^n:Nat):Int)) (hY:Y=((x*2^(32-n)%4294967296:Nat):Int)):bits .or .u32 X Y=(rotr x n:Nat):=by
 subst hX hY
 rw [u32_or_nat _ _ (Nat.lt_of_le_of_lt (Nat.div_le_self _ _) _hx) (Nat.mod_lt _ (by decide))]
 rfl
set_option maxRecDepth 4000 in
theorem turned_2 (x:Nat) (w:World) (hx:x<4294967296) :
  Calls Tryz.prog 194 #[.int .u32 x,.int .i64 2] w fun e w'=>e=.returned (.int .u32 (rotr x 2:Nat))∧w=w':=by
 have h1:bits .and .u64 (IntKind.u64.wrap (-2)) 31=30:=by decide
 go_enter Tryz.func194,Tryz.ntmps194
 go_wp2
 go_ret
 exact ⟨ret_int (rot_left hx (by decide) (by decide) _ _ (by simp) (by simp)),rfl⟩
set_option maxRecDepth 4000 in
theorem turn_2 (x:Nat) (w:World) (hx:x<4294967296) :
  Calls Tryz.prog 135 #[.int .u32 x,.int .i64 2] w fun e w'=>e=.returned (.int .u32 (rotr x 2:Nat))∧∃ n,w'=w.drewN n:=by
 go_enter Tryz.func135,Tryz.ntmps135
 go_wp2
 go_quiet (fail)
 go_wp2
 go_ret
 exact ⟨ret_int (rot_right hx _ _ (by simp) (by simp)),_,rfl⟩
set_option maxRecDepth 4000 in
theorem turned_6 (x:Nat) (w:World) (hx:x<4294967296) :
  Calls Tryz.prog 194 #[.int .u32 x,.int .i64 6] w fun e w'=>e=.returned (.int .u32 (rotr x 6:Nat))∧w=w':=by
 have h1:bits .and .u64 (IntKind.u64.wrap (-6)) 31=26:=by decide
 go_enter Tryz.func194,Tryz.ntmps194
 go_wp2
 go_ret
 exact ⟨ret_int (rot_left hx (by decide) (by decide) _ _ (by simp) (by simp)),rfl⟩
set_option maxRecDepth 4000 in
theorem turn_6 (x:Nat) (w:World) (hx:x<4294967296) :
  Calls Tryz.prog 135 #[.int .u32 x,.int .i64 6] w fun e w'=>e=.returned (.int .u32 (rotr x 6:Nat))∧∃ n,w'=w.drewN n:=by
 go_enter Tryz.func135,Tryz.ntmps135
 go_wp2
 go_quiet (fail)
 go_wp2
 go_ret
 exact ⟨ret_int (rot_right hx _ _ (by simp) (by simp)),_,rfl⟩
set_option maxRecDepth 4000 in
theorem turned_7 (x:Nat) (w:World) (hx:x<4294967296) :
  Calls Tryz.prog 194 #[.int .u32 x,.int .i64 7] w fun e w'=>e=.returned (.int .u32 (rotr x 7:Nat))∧w=w':=by
 have h1:bits .and .u64 (IntKind.u64.wrap (-7)) 31=25:=by decide
 go_enter Tryz.func194,Tryz.ntmps194
 go_wp2
 go_ret
 exact ⟨ret_int (rot_left hx (by decide) (by decide) _ _ (by simp) (by simp)),rfl⟩
set_option maxRecDepth 4000 in
theorem turn_7 (x:Nat) (w:World) (hx:x<4294967296) :
  Calls Tryz.prog 135 #[.int .u32 x,.int .i64 7] w fun e w'=>e=.returned (.int .u32 (rotr x 7:Nat))∧∃ n,w'=w.drewN n:=by
 go_enter Tryz.func135,Tryz.ntmps135
 go_wp2
 go_quiet (fail)
 go_wp2
 go_ret
 exact ⟨ret_int (rot_right hx _ _ (by simp) (by simp)),_,rfl⟩
set_option maxRecDepth 4000 in
theorem turned_11 (x:Nat) (w:World) (hx:x<4294967296) :
  Calls Tryz.prog 194 #[.int .u32 x,.int .i64 11] w fun e w'=>e=.returned (.int .u32 (rotr x 11:Nat))∧w=w':=by
 have h1:bits .and .u64 (IntKind.u64.wrap (-11)) 31=21:=by decide
 go_enter Tryz.func194,Tryz.ntmps194
 go_wp2
 go_ret
 exact ⟨ret_int (rot_left hx (by decide) (by decide) _ _ (by simp) (by simp)),rfl⟩
set_option maxRecDepth 4000 in
theorem turn_11 (x:Nat) (w:World) (hx:x<4294967296) :
  Calls Tryz.prog 135 #[.int .u32 x,.int .i64 11] w fun e w'=>e=.returned (.int .u32 (rotr x 11:Nat))∧∃ n,w'=w.drewN n:=by
 go_enter Tryz.func135,Tryz.ntmps135
 go_wp2
 go_quiet (fail)
 go_wp2
 go_ret
 exact ⟨ret_int (rot_right hx _ _ (by simp) (by simp)),_,rfl⟩
set_option maxRecDepth 4000 in
theorem turned_13 (x:Nat) (w:World) (hx:x<4294967296) :
  Calls Tryz.prog 194 #[.int .u32 x,.int .i64 13] w fun e w'=>e=.returned (.int .u32 (rotr x 13:Nat))∧w=w':=by
 have h1:bits .and .u64 (IntKind.u64.wrap (-13)) 31=19:=by decide
 go_enter Tryz.func194,Tryz.ntmps194
 go_wp2
 go_ret
 exact ⟨ret_int (rot_left hx (by decide) (by decide) _ _ (by simp) (by simp)),rfl⟩
set_option maxRecDepth 4000 in
theorem turn_13 (x:Nat) (w:World) (hx:x<4294967296) :
  Calls Tryz.prog 135 #[.int .u32 x,.int .i64 13] w fun e w'=>e=.returned (.int .u32 (rotr x 13:Nat))∧∃ n,w'=w.drewN n:=by
 go_enter Tryz.func135,Tryz.ntmps135
 go_wp2
 go_quiet (fail)
 go_wp2
 go_ret
 exact ⟨ret_int (rot_right hx _ _ (by simp) (by simp)),_,rfl⟩
set_option maxRecDepth 4000 in
theorem turned_17 (x:Nat) (w:World) (hx:x<4294967296) :
  Calls Tryz.prog 194 #[.int .u32 x,.int .i64 17] w fun e w'=>e=.returned (.int .u32 (rotr x 17:Nat))∧w=w':=by
 have h1:bits .and .u64 (IntKind.u64.wrap (-17)) 31=15:=by decide
 go_enter Tryz.func194,Tryz.ntmps194
 go_wp2
 go_ret
 exact ⟨ret_int (rot_left hx (by decide) (by decide) _ _ (by simp) (by simp)),rfl⟩
set_option maxRecDepth 4000 in
theorem turn_17 (x:Nat) (w:World) (hx:x<4294967296) :
  Calls Tryz.prog 135 #[.int .u32 x,.int .i64 17] w fun e w'=>e=.returned (.int .u32 (rotr x 17:Nat))∧∃ n,w'=w.drewN n:=by
 go_enter Tryz.func135,Tryz.ntmps135
 go_wp2
 go_quiet (fail)
 go_wp2
 go_ret
 exact ⟨ret_int (rot_right hx _ _ (by simp) (by simp)),_,rfl⟩
set_option maxRecDepth 4000 in
theorem turned_18 (x:Nat) (w:World) (hx:x<4294967296) :
  Calls Tryz.prog 194 #[.int .u32 x,.int .i64 18] w fun e w'=>e=.returned (.int .u32 (rotr x 18:Nat))∧w=w':=by
 have h1:bits .and .u64 (IntKind.u64.wrap (-18)) 31=14:=by decide
 go_enter Tryz.func194,Tryz.ntmps194
 go_wp2
 go_ret
 exact ⟨ret_int (rot_left hx (by decide) (by decide) _ _ (by simp) (by simp)),rfl⟩
set_option maxRecDepth 4000 in
theorem turn_18 (x:Nat) (w:World) (hx:x<4294967296) :
  Calls Tryz.prog 135 #[.int .u32 x,.int .i64 18] w fun e w'=>e=.returned (.int .u32 (rotr x 18:Nat))∧∃ n,w'=w.drewN n:=by
 go_enter Tryz.func135,Tryz.ntmps135
 go_wp2
 go_quiet (fail)
 go_wp2
 go_ret
 exact ⟨ret_int (rot_right hx _ _ (by simp) (by simp)),_,rfl⟩
set_option maxRecDepth 4000 in
theorem turned_19 (x:Nat) (w:World) (hx:x<4294967296) :
  Calls Tryz.prog 194 #[.int .u32 x,.int .i64 19] w fun e w'=>e=.returned (.int .u32 (rotr x 19:Nat))∧w=w':=by
 have h1:bits .and .u64 (IntKind.u64.wrap (-19)) 31=13:=by decide
 go_enter Tryz.func194,Tryz.ntmps194
 go_wp2
 go_ret
 exact ⟨ret_int (rot_left hx (by decide) (by decide) _ _ (by simp) (by simp)),rfl⟩
set_option maxRecDepth 4000 in
theorem turn_19 (x:Nat) (w:World) (hx:x<4294967296) :
  Calls Tryz.prog 135 #[.int .u32 x,.int .i64 19] w fun e w'=>e=.returned (.int .u32 (rotr x 19:Nat))∧∃ n,w'=w.drewN n:=by
 go_enter Tryz.func135,Tryz.ntmps135
 go_wp2
 go_quiet (fail)
 go_wp2
 go_ret
 exact ⟨ret_int (rot_right hx _ _ (by simp) (by simp)),_,rfl⟩
set_option maxRecDepth 4000 in
theorem turned_22 (x:Nat) (w:World) (hx:x<4294967296) :
  Calls Tryz.prog 194 #[.int .u32 x,.int .i64 22] w fun e w'=>e=.returned (.int .u32 (rotr x 22:Nat))∧w=w':=by
 have h1:bits .and .u64 (IntKind.u64.wrap (-22)) 31=10:=by decide
 go_enter Tryz.func194,Tryz.ntmps194
 go_wp2
 go_ret
 exact ⟨ret_int (rot_left hx (by decide) (by decide) _ _ (by simp) (by simp)),rfl⟩
set_option maxRecDepth 4000 in
theorem turn_22 (x:Nat) (w:World) (hx:x<4294967296) :
  Calls Tryz.prog 135 #[.int .u32 x,.int .i64 22] w fun e w'=>e=.returned (.int .u32 (rotr x 22:Nat))∧∃ n,w'=w.drewN n:=by
 go_enter Tryz.func135,Tryz.ntmps135
 go_wp2
 go_quiet (fail)
 go_wp2
 go_ret
 exact ⟨ret_int (rot_right hx _ _ (by simp) (by simp)),_,rfl⟩
set_option maxRecDepth 4000 in
theorem turned_25 (x:Nat) (w:World) (hx:x<4294967296) :
  Calls Tryz.prog 194 #[.int .u32 x,.int .i64 25] w fun e w'=>e=.returned (.int .u32 (rotr x 25:Nat))∧w=w':=by
 have h1:bits .and .u64 (IntKind.u64.wrap (-25)) 31=7:=by decide
 go_enter Tryz.func194,Tryz.ntmps194
 go_wp2
 go_ret
 exact ⟨ret_int (rot_left hx (by decide) (by decide) _ _ (by simp) (by simp)),rfl⟩
set_option maxRecDepth 4000 in
theorem turn_25 (x:Nat) (w:World) (hx:x<4294967296) :
  Calls Tryz.prog 135 #[.int .u32 x,.int .i64 25] w fun e w'=>e=.returned (.int .u32 (rotr x 25:Nat))∧∃ n,w'=w.drewN n:=by
 go_enter Tryz.func135,Tryz.ntmps135
 go_wp2
 go_quiet (fail)
 go_wp2
 go_ret
 exact ⟨ret_int (rot_right hx _ _ (by simp) (by simp)),_,rfl⟩
def u32s (l:List Nat):Array Value:=(l.map fun (n:Nat)=>Value.int .u32 (n:Int)).toArray
def stV (s:St):Value:=.agg #[.int .u32 (s.a:Int),.int .u32 (s.b:Int),.int .u32 (s.c:Int),.int .u32 (s.d:Int),.int .u32 (s.e:Int),.int .u32 (s.f:Int),.int .u32 (s.g:Int),.int .u32 (s.h:Int)]
def KTab (w:World):Prop:=∀ t,t<64→w.cell? ⟨2,t,none⟩=some (.int .u32 (kw.getD t 0:Nat))
theorem KTab.below {w w':World} (h:KTab w) (hb:Below w.heap.size w w'):KTab w':=fun i hi=>by
 have hc:=h i hi
 have hlt:=World.block_lt_of_cell? w _ hc
 exact (hb.cell (p:=⟨2,i,none⟩) hlt).trans hc
theorem sig_eq {x y z:Nat} (hx:x<4294967296) (hy:y<4294967296) (hz:z<4294967296):bits .xor .u32 (bits .xor .u32 (x:Int) (y:Int)) (z:Int)=(((x ^^^ y) ^^^ z:Nat):Int):=by
 rw [u32_xor_nat x y hx hy,u32_xor_nat _ z (Nat.xor_lt_two_pow (n:=32) hx hy) hz]
theorem chs_eq {e f g:Nat} (he:e<4294967296) (hf:f<4294967296) (hg:g<4294967296):bits .xor .u32 (bits .and .u32 (e:Int) (f:Int)) (bits .and .u32 (bits .xor .u32 IntKind.u32.max (e:Int)) (g:Int))=(chs e f g:Nat):=by
 have h1:bits .xor .u32 IntKind.u32.max (e:Int)=((4294967295 ^^^ e:Nat):Int):=u32_xor_nat 4294967295 e (by decide) he
 have h2:4294967295 ^^^ e<4294967296:=Nat.xor_lt_two_pow (n:=32) (by decide) he
 rw [h1,u32_and_nat _ _ he hf,u32_and_nat _ _ h2 hg,u32_xor_nat _ _ (and_lt he) (and_lt h2)]
 rfl
theorem maj_eq {a b c:Nat} (ha:a<4294967296) (hb:b<4294967296) (hc:c<4294967296):bits .xor .u32 (bits .xor .u32 (bits .and .u32 (a:Int) (b:Int)) (bits .and .u32 (a:Int) (c:Int))) (bits .and .u32 (b:Int) (c:Int))=(maj a b c:Nat):=by
 rw [u32_and_nat _ _ ha hb,u32_and_nat _ _ ha hc,u32_and_nat _ _ hb hc,u32_xor_nat _ _ (and_lt ha) (and_lt ha),u32_xor_nat _ _ (Nat.xor_lt_two_pow (n:=32) (and_lt ha) (and_lt ha)) (and_lt hb)]
 rfl
def WTab (w:World) (B:Nat) (l:List Nat):Prop:=∀ t,t<l.length→w.cell? ⟨B,t,none⟩=some (.int .u32 (l.getD t 0:Nat))
theorem WTab.below {w w':World} {B B':Nat} {l:List Nat} (h:WTab w B l) (hb:Below B' w w') (hB:B<B'):WTab w' B l:=fun i hi=>(hb.cell (p:=⟨B,i,none⟩) hB).trans (h i hi)
theorem WTab.alloc {w:World} {B:Nat} {l:List Nat} (h:WTab w B l) (hB:B<w.heap.size) (o:Obj):WTab (w.alloc o) B l :=
 h.below ((Below.refl w.heap.size w).alloc (Nat.le_refl _) o) hB
theorem WTab.new (w:World) (l:List Nat) (t:TypeId):WTab (w.alloc (.cells (u32s l) t)) w.heap.size l:=fun i hi=>by
 have h:=World.cell?_alloc_mark w (u32s l) t (0,0) i
 refine h.trans ?_
 simp [u32s,List.getD_eq_getElem?_getD,hi]
theorem row8 {w:World} {B:Nat} {t:TypeId} {c0 c1 c2 c3 c4 c5 c6 c7:Value} (h:w.heap[B]?=some (.cells #[c0,c1,c2,c3,c4,c5,c6,c7] t (0,0))) (v0 v1 v2 v3 v4 v5 v6 v7:Value) :
  ((((((((w.setCell ⟨B,0,none⟩ v0).setCell ⟨B,1,none⟩ v1).setCell ⟨B,2,none⟩ v2).setCell ⟨B,3,none⟩ v3).setCell ⟨B,4,none⟩ v4).setCell ⟨B,5,none⟩ v5).setCell ⟨B,6,none⟩ v6).setCell ⟨B,7,none⟩ v7).heap[B]?=some (.cells #[v0,v1,v2,v3,v4,v5,v6,v7] t (0,0)):=by
 have h0:(w.setCell ⟨B,0,none⟩ v0).heap[B]?=some (.cells #[v0,c1,c2,c3,c4,c5,c6,c7] t (0,0)):=by
  have h:=heap_setCell_same w B 0 _ t v0 h
  simp only [List.setIfInBounds_toArray,List.set_cons_zero,List.set_cons_succ] at h
  exact h
 have h1:((w.setCell ⟨B,0,none⟩ v0).setCell ⟨B,1,none⟩ v1).heap[B]?=some (.cells #[v0,v1,c2,c3,c4,c5,c6,c7] t (0,0)):=by
  have h:=heap_setCell_same (w.setCell ⟨B,0,none⟩ v0) B 1 _ t v1 h0
  simp only [List.setIfInBounds_toArray,List.set_cons_zero,List.set_cons_succ] at h
  exact h
 have h2:(((w.setCell ⟨B,0,none⟩ v0).setCell ⟨B,1,none⟩ v1).setCell ⟨B,2,none⟩ v2).heap[B]?=some (.cells #[v0,v1,v2,c3,c4,c5,c6,c7] t (0,0)):=by
  have h:=heap_setCell_same ((w.setCell ⟨B,0,none⟩ v0).setCell ⟨B,1,none⟩ v1) B 2 _ t v2 h1
  simp only [List.setIfInBounds_toArray,List.set_cons_zero,List.set_cons_succ] at h
  exact h
 have h3:((((w.setCell ⟨B,0,none⟩ v0).setCell ⟨B,1,none⟩ v1).setCell ⟨B,2,none⟩ v2).setCell ⟨B,3,none⟩ v3).heap[B]?=some (.cells #[v0,v1,v2,v3,c4,c5,c6,c7] t (0,0)):=by
  have h:=heap_setCell_same (((w.setCell ⟨B,0,none⟩ v0).setCell ⟨B,1,none⟩ v1).setCell ⟨B,2,none⟩ v2) B 3 _ t v3 h2
  simp only [List.setIfInBounds_toArray,List.set_cons_zero,List.set_cons_succ] at h
  exact h
 have h4:(((((w.setCell ⟨B,0,none⟩ v0).setCell ⟨B,1,none⟩ v1).setCell ⟨B,2,none⟩ v2).setCell ⟨B,3,none⟩ v3).setCell ⟨B,4,none⟩ v4).heap[B]?=some (.cells #[v0,v1,v2,v3,v4,c5,c6,c7] t (0,0)):=by
  have h:=heap_setCell_same ((((w.setCell ⟨B,0,none⟩ v0).setCell ⟨B,1,none⟩ v1).setCell ⟨B,2,none⟩ v2).setCell ⟨B,3,none⟩ v3) B 4 _ t v4 h3
  simp only [List.setIfInBounds_toArray,List.set_cons_zero,List.set_cons_succ] at h
  exact h
 have h5:((((((w.setCell ⟨B,0,none⟩ v0).setCell ⟨B,1,none⟩ v1).setCell ⟨B,2,none⟩ v2).setCell ⟨B,3,none⟩ v3).setCell ⟨B,4,none⟩ v4).setCell ⟨B,5,none⟩ v5).heap[B]?=some (.cells #[v0,v1,v2,v3,v4,v5,c6,c7] t (0,0)):=by
  have h:=heap_setCell_same (((((w.setCell ⟨B,0,none⟩ v0).setCell ⟨B,1,none⟩ v1).setCell ⟨B,2,none⟩ v2).setCell ⟨B,3,none⟩ v3).setCell ⟨B,4,none⟩ v4) B 5 _ t v5 h4
  simp only [List.setIfInBounds_toArray,List.set_cons_zero,List.set_cons_succ] at h
  exact h
 have h6:(((((((w.setCell ⟨B,0,none⟩ v0).setCell ⟨B,1,none⟩ v1).setCell ⟨B,2,none⟩ v2).setCell ⟨B,3,none⟩ v3).setCell ⟨B,4,none⟩ v4).setCell ⟨B,5,none⟩ v5).setCell ⟨B,6,none⟩ v6).heap[B]?=some (.cells #[v0,v1,v2,v3,v4,v5,v6,c7] t (0,0)):=by
  have h:=heap_setCell_same ((((((w.setCell ⟨B,0,none⟩ v0).setCell ⟨B,1,none⟩ v1).setCell ⟨B,2,none⟩ v2).setCell ⟨B,3,none⟩ v3).setCell ⟨B,4,none⟩ v4).setCell ⟨B,5,none⟩ v5) B 6 _ t v6 h5
  simp only [List.setIfInBounds_toArray,List.set_cons_zero,List.set_cons_succ] at h
  exact h
 have h7:((((((((w.setCell ⟨B,0,none⟩ v0).setCell ⟨B,1,none⟩ v1).setCell ⟨B,2,none⟩ v2).setCell ⟨B,3,none⟩ v3).setCell ⟨B,4,none⟩ v4).setCell ⟨B,5,none⟩ v5).setCell ⟨B,6,none⟩ v6).setCell ⟨B,7,none⟩ v7).heap[B]?=some (.cells #[v0,v1,v2,v3,v4,v5,v6,v7] t (0,0)):=by
  have h:=heap_setCell_same (((((((w.setCell ⟨B,0,none⟩ v0).setCell ⟨B,1,none⟩ v1).setCell ⟨B,2,none⟩ v2).setCell ⟨B,3,none⟩ v3).setCell ⟨B,4,none⟩ v4).setCell ⟨B,5,none⟩ v5).setCell ⟨B,6,none⟩ v6) B 7 _ t v7 h6
  simp only [List.setIfInBounds_toArray,List.set_cons_zero,List.set_cons_succ] at h
  exact h
 exact h7
structure MixW (w wr:World) (l:List Nat):Prop where
 below:Below w.heap.size w wr
 k:KTab wr
 t:WTab wr (w.heap.size+1) l
 r:wr.heap[w.heap.size+1+1]?=some (.cells #[.int .u32 0,.int .u32 0,.int .u32 0,.int .u32 0,.int .u32 0,.int .u32 0,.int .u32 0,.int .u32 0] 153 (0,0))
theorem MixW.drewN {w wr:World} {l:List Nat} (h:MixW w wr l) (n:Nat):MixW w (wr.drewN n) l :=
 ⟨below_drewN h.below n,h.k.below (below_drewN (Below.refl _ _) n),fun i hi=>(h.t i hi),h.r⟩
set_option maxHeartbeats 1000000 in
set_option maxRecDepth 4000 in
theorem mix_any (s:St) (l:List Nat) (w:World) (hs:s.ok) (hl:l.length=64) (hlw:∀ x∈l,x<4294967296) (hk:KTab w) :
  Calls Tryz.prog 165 #[stV s,.agg (u32s l)] w fun e w'=>e=.returned (stV (rounds s l 64))∧Below w.heap.size w w':=by
 have hm:∀ n,MixW w ((((w.alloc (.cells #[.int .u32 (s.a:Int),.int .u32 (s.b:Int),.int .u32 (s.c:Int),.int .u32 (s.d:Int),.int .u32 (s.e:Int),.int .u32 (s.f:Int),.int .u32 (s.g:Int),.int .u32 (s.h:Int)] 153)).alloc (.cells (u32s l) 178)).alloc (.cells #[.int .u32 0,.int .u32 0,.int .u32 0,.int .u32 0,.int .u32 0,.int .u32 0,.int .u32 0,.int .u32 0] 153)).drewN n) l:=fun n=>by
  have hb:=(((Below.refl w.heap.size w).alloc (Nat.le_refl _) (.cells #[.int .u32 (s.a:Int),.int .u32 (s.b:Int),.int .u32 (s.c:Int),.int .u32 (s.d:Int),.int .u32 (s.e:Int),.int .u32 (s.f:Int),.int .u32 (s.g:Int),.int .u32 (s.h:Int)] 153)).alloc (by simp) (.cells (u32s l) 178)).alloc (by simp;omega) (.cells #[.int .u32 0,.int .u32 0,.int .u32 0,.int .u32 0,.int .u32 0,.int .u32 0,.int .u32 0,.int .u32 0] 153)
  refine MixW.drewN ⟨hb,hk.below hb,?_,?_⟩ n
  ·have h:=(WTab.new (w.alloc (.cells #[.int .u32 (s.a:Int),.int .u32 (s.b:Int),.int .u32 (s.c:Int),.int .u32 (s.d:Int),.int .u32 (s.e:Int),.int .u32 (s.f:Int),.int .u32 (s.g:Int),.int .u32 (s.h:Int)] 153)) l 178).alloc (by simp) (.cells #[.int .u32 0,.int .u32 0,.int .u32 0,.int .u32 0,.int .u32 0,.int .u32 0,.int .u32 0,.int .u32 0] 153)
   simpa using h
  ·have h:=heap_alloc_new ((w.alloc (.cells #[.int .u32 (s.a:Int),.int .u32 (s.b:Int),.int .u32 (s.c:Int),.int .u32 (s.d:Int),.int .u32 (s.e:Int),.int .u32 (s.f:Int),.int .u32 (s.g:Int),.int .u32 (s.h:Int)] 153)).alloc (.cells (u32s l) 178)) (.cells #[.int .u32 0,.int .u32 0,.int .u32 0,.int .u32 0,.int .u32 0,.int .u32 0,.int .u32 0,.int .u32 0] 153)
   simpa using h
 unfold stV
 go_enter Tryz.func165,Tryz.ntmps165
 go_wp2
 go_quiet (fail)
 have hm0:=hm nq
 clear hm
 go_wp2
 go_loopw [5,6,7,8,9,10,11,12,36] (fun a b c d e f g h i wr=>∃ (t:Nat) (v:St),t≤64∧i=.int .i64 t∧v=rounds s l t∧a=.int .u32 (v.a:Int)∧b=.int .u32 (v.b:Int)∧c=.int .u32 (v.c:Int)∧d=.int .u32 (v.d:Int)∧e=.int .u32 (v.e:Int)∧f=.int .u32 (v.f:Int)∧g=.int .u32 (v.g:Int)∧h=.int .u32 (v.h:Int)∧MixW w wr l)
  (fun _ _ _ _ _ _ _ _ i _=>64-(intOf i).toNat)
 case atStart=>exact ⟨0,s,by omega,rfl,rfl,rfl,rfl,rfl,rfl,rfl,rfl,rfl,rfl,hm0⟩
 case round =>
  obtain ⟨t,v,ht,rfl,hv,rfl,rfl,rfl,rfl,rfl,rfl,rfl,rfl,hmw⟩:=hrel
  have hvo:v.ok:=by rw [hv];exact rounds_ok hs l t
  have HV:Hid (v=rounds s l t):=hv
  clear hv hm0 hk hs
  by_cases hlt:t<64
  ·obtain ⟨la,lb,lc,ld,le,lf,lg,lh⟩:=hvo
   obtain ⟨x1,hx1⟩:∃ x,x=bs1 v.e:=⟨_,rfl⟩
   obtain ⟨x2,hx2⟩:∃ x,x=chs v.e v.f v.g:=⟨_,rfl⟩
   obtain ⟨x3,hx3⟩:∃ x,x=bs0 v.a:=⟨_,rfl⟩
   obtain ⟨x4,hx4⟩:∃ x,x=maj v.a v.b v.c:=⟨_,rfl⟩
   have q1:=sig_eq (rotr_lt (n:=6) le) (rotr_lt (n:=11) le) (rotr_lt (n:=25) le)
   have q2:=chs_eq le lf lg
   have q3:=sig_eq (rotr_lt (n:=2) la) (rotr_lt (n:=13) la) (rotr_lt (n:=22) la)
   have q4:=maj_eq la lb lc
   rw [←bs1,←hx1] at q1
   rw [←hx2] at q2
   rw [←bs0,←hx3] at q3
   rw [←hx4] at q4
   have m1:x1<4294967296:=by rw [hx1];exact bs1_lt le
   have m2:x2<4294967296:=by rw [hx2];exact chs_lt le lg
   have m3:x3<4294967296:=by rw [hx3];exact bs0_lt la
   have m4:x4<4294967296:=by rw [hx4];exact maj_lt la lb
   have kt:=hmw.k t hlt
   have wt:=hmw.t t (by omega)
   have kl:=kw_lt t
   obtain ⟨K,hK⟩:∃ K,K=kw.getD t 0:=⟨_,rfl⟩
   obtain ⟨W,hW⟩:∃ W,W=l.getD t 0:=⟨_,rfl⟩
   have wl:W<4294967296:=by
    rw [hW,List.getD_eq_getElem?_getD,List.getElem?_eq_getElem (by omega)]
    exact hlw _ (List.getElem_mem _)
   rw [←hK] at kt kl
   rw [←hW] at wt
   obtain ⟨y1,hy1⟩:∃ y,y=(v.h+x1)%4294967296:=⟨_,rfl⟩
   obtain ⟨y2,hy2⟩:∃ y,y=(y1+x2)%4294967296:=⟨_,rfl⟩
   obtain ⟨y3,hy3⟩:∃ y,y=(y2+K)%4294967296:=⟨_,rfl⟩
   obtain ⟨y4,hy4⟩:∃ y,y=(y3+W)%4294967296:=⟨_,rfl⟩
   have r1:IntKind.u32.wrap ((v.h:Int)+x1)=(y1:Int):=by rw [IntKind.wrap_u32',hy1];rfl
   have r2:IntKind.u32.wrap ((y1:Int)+x2)=(y2:Int):=by rw [IntKind.wrap_u32',hy2];rfl
   have r3:IntKind.u32.wrap ((y2:Int)+K)=(y3:Int):=by rw [IntKind.wrap_u32',hy3];rfl
   have r4:IntKind.u32.wrap ((y3:Int)+W)=(y4:Int):=by rw [IntKind.wrap_u32',hy4];rfl
   have t1:(0:Int)≤t:=by omega
   have t2:(t:Int)<64:=by omega
   have HX:Hid (rounds s l (t+1)=⟨(y4+(x3+x4)%4294967296)%4294967296,v.a,v.b,v.c,(v.d+y4)%4294967296,v.e,v.f,v.g⟩):=by
    show _=_
    rw [rounds,←HV.out,rnd,←hx1,←hx2,←hx3,←hx4,←hK,←hW,←hy1,←hy2,←hy3,←hy4]
   clear hx1 hx2 hx3 hx4 hy1 hy2 hy3 hy4 hK hW
   go_wp2_with (go_at_call 194;first
    | ((with_reducible refine (turned_6 _ _ (by assumption)).mono ?_);rintro e w' ⟨rfl,rfl⟩)
    | ((with_reducible refine (turned_11 _ _ (by assumption)).mono ?_);rintro e w' ⟨rfl,rfl⟩)
    | ((with_reducible refine (turned_25 _ _ (by assumption)).mono ?_);rintro e w' ⟨rfl,rfl⟩)
    | ((with_reducible refine (turned_2 _ _ (by assumption)).mono ?_);rintro e w' ⟨rfl,rfl⟩)
    | ((with_reducible refine (turned_13 _ _ (by assumption)).mono ?_);rintro e w' ⟨rfl,rfl⟩)
    | ((with_reducible refine (turned_22 _ _ (by assumption)).mono ?_);rintro e w' ⟨rfl,rfl⟩))
   go_quiet (fail)
   go_wp2_with (go_at_call 194;first
    | ((with_reducible refine (turned_2 _ _ (by assumption)).mono ?_);rintro e w' ⟨rfl,rfl⟩)
    | ((with_reducible refine (turned_13 _ _ (by assumption)).mono ?_);rintro e w' ⟨rfl,rfl⟩)
    | ((with_reducible refine (turned_22 _ _ (by assumption)).mono ?_);rintro e w' ⟨rfl,rfl⟩))
   go_roundw
   case rel=>exact ⟨t+1,_,by omega,by go_num,HX.out.symm,val_int (by show _=(((y4+(x3+x4)%4294967296)%4294967296:Nat):Int);omega),rfl,rfl,rfl,val_int (by show _=(((v.d+y4)%4294967296:Nat):Int);omega),rfl,rfl,rfl,hmw.drewN _⟩
   case measure=>simp [intOf];omega
  ·obtain rfl:t=64:=by omega
   have hr:=hmw.r
   obtain ⟨B,hB⟩:∃ B,B=w.heap.size+1+1:=⟨_,rfl⟩
   have HB:Hid (B=w.heap.size+1+1):=hB
   have hbl:=hmw.below
   have f0:=frozen_of_row wr _ 0 _ _ hr
   have f1:=frozen_of_row wr _ 1 _ _ hr
   have f2:=frozen_of_row wr _ 2 _ _ hr
   have f3:=frozen_of_row wr _ 3 _ _ hr
   have f4:=frozen_of_row wr _ 4 _ _ hr
   have f5:=frozen_of_row wr _ 5 _ _ hr
   have f6:=frozen_of_row wr _ 6 _ _ hr
   have f7:=frozen_of_row wr _ 7 _ _ hr
   have z0:wr.cell? ⟨w.heap.size+1+1,0,none⟩=some (.int .u32 0):=cell_of_row wr _ 0 _ _ _ hr
   have z1:wr.cell? ⟨w.heap.size+1+1,1,none⟩=some (.int .u32 0):=cell_of_row wr _ 1 _ _ _ hr
   have z2:wr.cell? ⟨w.heap.size+1+1,2,none⟩=some (.int .u32 0):=cell_of_row wr _ 2 _ _ _ hr
   have z3:wr.cell? ⟨w.heap.size+1+1,3,none⟩=some (.int .u32 0):=cell_of_row wr _ 3 _ _ _ hr
   have z4:wr.cell? ⟨w.heap.size+1+1,4,none⟩=some (.int .u32 0):=cell_of_row wr _ 4 _ _ _ hr
   have z5:wr.cell? ⟨w.heap.size+1+1,5,none⟩=some (.int .u32 0):=cell_of_row wr _ 5 _ _ _ hr
   have z6:wr.cell? ⟨w.heap.size+1+1,6,none⟩=some (.int .u32 0):=cell_of_row wr _ 6 _ _ _ hr
   have z7:wr.cell? ⟨w.heap.size+1+1,7,none⟩=some (.int .u32 0):=cell_of_row wr _ 7 _ _ _ hr
   have HR:Hid (wr.heap[w.heap.size+1+1]?=some (.cells #[.int .u32 0,.int .u32 0,.int .u32 0,.int .u32 0,.int .u32 0,.int .u32 0,.int .u32 0,.int .u32 0] 153 (0,0))):=hr
   clear hr hmw hB
   go_wp2
   refine bodyPost_ret (v:=stV v) (results_cell_row (fn:=Tryz.f165) (p:=4) (ty:=153) Tryz.results165 _ _ (w.heap.size+1+1) 153 _ (0,0) _ rfl (row8 HR.out _ _ _ _ _ _ _ _) Tryz.underlying153 rfl (by kernel_rfl)) rfl ⟨by rw [HV.out];rfl,?_⟩
   refine Below.setCell (Below.setCell (Below.setCell (Below.setCell (Below.setCell (Below.setCell (Below.setCell (Below.setCell hbl ?_ _) ?_ _) ?_ _) ?_ _) ?_ _) ?_ _) ?_ _) ?_ _<;>(show w.heap.size≤w.heap.size+1+1;omega)
end Go.Proofs.YtnoopcenogbjiaaGreatDoor
