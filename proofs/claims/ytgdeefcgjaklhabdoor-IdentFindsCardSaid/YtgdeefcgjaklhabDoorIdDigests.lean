/-
  The walks of the laws IdentDigests and IdentFinds.
-/
import Derived.Test.YtgdeefcgjaklhabDoorIdInv
namespace Go.Proofs.YtgdeefcgjaklhabDoor
open Go.RowKit

set_option maxHeartbeats 1000000 in
set_option maxRecDepth 10000 in
theorem digests_walk (k s : ByteArray) (w : World) (hk : k.size ≤ 140737488351232) (hs : s.size ≤ 140737488351232) (ht : KTab w) :
    Calls Tryd.prog 3 #[.string k, .string s] w fun e w' => e = .returned (.bool true) ∧ Below w.heap.size w w' := by
  have h0 := IdInv.self ht
  obtain ⟨d1, hd1⟩ : ∃ d, d = str (shaC s) := ⟨_, rfl⟩
  obtain ⟨d2, hd2⟩ : ∃ d, d = str (ofC s) := ⟨_, rfl⟩
  obtain ⟨d3, hd3⟩ : ∃ d, d = str (macC k s) := ⟨_, rfl⟩
  have H1 : Hid (d1 = str (shaC s)) := hd1
  have H2 : Hid (d2 = str (ofC s)) := hd2
  have H3 : Hid (d3 = str (macC k s)) := hd3
  clear hd1 hd2 hd3 ht
  go_enter Tryd.func3, Tryd.ntmps3
  go_wp2_with (first
    | (go_at_call 7; ((with_reducible refine (lives_inv (by assumption)).mono ?_); rintro e w' ⟨rfl, hi⟩))
    | (go_at_call 8; ((with_reducible refine (digest_inv (by assumption) s (by omega) d1 H1.out).mono ?_); rintro e w' ⟨rfl, hi⟩))
    | (go_at_call 9; ((with_reducible refine (rdigest_inv (by assumption) s (by omega) d1 H1.out).mono ?_); rintro e w' ⟨rfl, hi⟩))
    | (go_at_call 10; ((with_reducible refine (of_inv (by assumption) s (by omega) d2 H2.out).mono ?_); rintro e w' ⟨rfl, hi⟩))
    | (go_at_call 11; ((with_reducible refine (rof_inv (by assumption) s (by omega) d2 H2.out).mono ?_); rintro e w' ⟨rfl, hi⟩))
    | (go_at_call 12; ((with_reducible refine (mac_inv (by assumption) k s (by omega) hs d3 H3.out).mono ?_); rintro e w' ⟨rfl, hi⟩))
    | (go_at_call 13; ((with_reducible refine (rmac_inv (by assumption) k s (by omega) hs d3 H3.out).mono ?_); rintro e w' ⟨rfl, hi⟩)))
  go_ret
  exact ⟨rfl, (‹IdInv w _›).1⟩

set_option maxHeartbeats 1000000 in
set_option maxRecDepth 10000 in
theorem finds_walk (v : Value) (L : List ByteArray) (p : ByteArray) (w : World) (hv : SVal w v L) (hL : L.length ≤ 140737488355328) (hsz : ∀ s ∈ L, s.size ≤ 140737488355328) (hp : p.size ≤ 140737488355328) (ht : KTab w) :
    Calls Tryd.prog 5 #[v, .string p] w fun e w' => e = .returned (.bool true) ∧ Below w.heap.size w w' := by
  have h0 := IdInv.self ht
  obtain ⟨r, hr⟩ : ∃ r, findS p L = r := ⟨_, rfl⟩
  obtain ⟨x, k⟩ := r
  have HR : Hid (findS p L = (x, k)) := hr
  have HV : Hid (SVal w v L) := hv
  have HS : Hid (∀ s ∈ L, s.size ≤ 140737488355328) := hsz
  clear hr ht hv hsz
  go_enter Tryd.func5, Tryd.ntmps5
  go_wp2_with (first
    | (go_at_call 7; ((with_reducible refine (lives_inv (by assumption)).mono ?_); rintro e w' ⟨rfl, hi⟩))
    | (go_at_call 20; ((with_reducible refine (find_inv0 (by assumption) v L p HV.out hL HS.out hp x k HR.out).mono ?_); rintro e w' ⟨rfl, hi⟩))
    | (go_at_call 21; ((with_reducible refine (rfind_inv0 (by assumption) v L p HV.out hL HS.out hp x k HR.out).mono ?_); rintro e w' ⟨rfl, hi⟩)))
  go_ret
  exact ⟨rfl, (‹IdInv w _›).1⟩
end Go.Proofs.YtgdeefcgjaklhabDoor
