/-
 Plain mathematics of hexadecimal there and back.
-/
import Derived.Test.YtnoopcenogbjiaaGreatDoorIdRaw
import Derived.Test.YtnoopcenogbjiaaGreatDoorLawPostPk
set_option linter.unusedVariables false
set_option linter.unusedSimpArgs false
namespace Go.Proofs.YtnoopcenogbjiaaGreatDoor
open Go.RowKit
theorem half_dig:∀ n:Fin 16,halfOf (dig16 n.val)=some n.val:=by decide
theorem hv_dig {n:Nat} (h:n<16):hv (dig16 n)=n:=by rw [hv,half_dig ⟨n,h⟩];rfl
theorem hexL_at (l:List UInt8) (i:Nat) (h:i<l.length):(hexL l).getD (2*i) 0=dig16 ((l.getD i 0).toNat / 16)∧(hexL l).getD (2*i+1) 0=dig16 ((l.getD i 0).toNat%16):=by
 induction l generalizing i with
 | nil=>simp at h
 | cons b l ih =>
  cases i with
  | zero=>exact ⟨rfl,rfl⟩
  | succ i =>
   have:=ih i (by simpa using h)
   rw [show 2*(i+1)=2*i+1+1 by omega,hexL]
   exact this
theorem raw_hex (l:List UInt8) (n:Nat) (h:n≤l.length):rawL (hexL l) n=l.take n:=by
 induction n with
 | zero=>rfl
 | succ n ih =>
  have ha:=hexL_at l n (by omega)
  have hb:=UInt8.toNat_lt (l.getD n 0)
  rw [rawL_next,ih (by omega),ha.1,ha.2,hv_dig (by omega),hv_dig (by omega),List.take_succ_eq_append_getElem (by omega:n<l.length),show (l.getD n 0).toNat / 16*16+(l.getD n 0).toNat%16=(l.getD n 0).toNat by omega]
  congr 2
  simp [List.getD_eq_getElem?_getD,List.getElem?_eq_getElem (by omega:n<l.length)]
end Go.Proofs.YtnoopcenogbjiaaGreatDoor
