/-
  The contracts of ident and of its reference, over a world that has only grown since a call began and still holds the table.
-/
import Derived.Test.YtgdeefcgjaklhabDoorIdLives
import Derived.Test.YtgdeefcgjaklhabDoorIdRMac
import Derived.Test.YtgdeefcgjaklhabDoorIdRRaw
import Derived.Test.YtgdeefcgjaklhabDoorIdRShort
namespace Go.Proofs.YtgdeefcgjaklhabDoor
open Go.RowKit

theorem SVal.inv {w0 w : World} {v : Value} {L : List ByteArray} (h : SVal w0 v L) (hb : Below w0.heap.size w0 w) : SVal w v L := by
  rcases h with h | ⟨a, cap, rfl, hc⟩
  · exact .inl h
  · exact .inr ⟨a, cap, rfl, fun k hk => by
      have h1 := hc k hk
      exact (hb.cell (p := a.add k) (World.block_lt_of_cell? w0 _ h1)).trans h1⟩

/-- What Raw gives. -/
def rawR (s : ByteArray) (b : Bool) : ByteArray := if b then str (rawL s.data.toList 20) else ⟨#[]⟩

section
variable {w0 w : World} (h : IdInv w0 w)
include h
theorem digest_inv (s : ByteArray) (hs : s.size ≤ 140737488355328) (d : ByteArray) (hd : d = str (shaC s)) :
    Calls Tryd.prog 8 #[.string s] w fun e w' => e = .returned (.string d) ∧ IdInv w0 w' :=
  (digest_any s w hs h.2).mono fun _ _ x => ⟨by rw [x.1, hd], h.step x.2⟩
theorem of_inv (s : ByteArray) (hs : s.size ≤ 140737488355328) (d : ByteArray) (hd : d = str (ofC s)) :
    Calls Tryd.prog 10 #[.string s] w fun e w' => e = .returned (.string d) ∧ IdInv w0 w' :=
  (of_any s w hs h.2).mono fun _ _ x => ⟨by rw [x.1, hd], h.step x.2⟩
theorem mac_inv (k s : ByteArray) (hk : k.size ≤ 140737488355328) (hs : s.size ≤ 140737488351232) (d : ByteArray) (hd : d = str (macC k s)) :
    Calls Tryd.prog 12 #[.string k, .string s] w fun e w' => e = .returned (.string d) ∧ IdInv w0 w' :=
  (mac_any k s w hk hs h.2).mono fun _ _ x => ⟨by rw [x.1, hd], h.step x.2⟩
theorem hex_inv (s : ByteArray) (hs : s.size ≤ 70368744177664) (d : ByteArray) (hd : str (hexL s.data.toList) = d) :
    Calls Tryd.prog 16 #[.string s] w fun e w' => e = .returned (.string d) ∧ IdInv w0 w' :=
  (hex_any s w hs).mono fun _ _ x => ⟨by rw [x.1, hd], h.step x.2⟩
theorem raw_inv (s : ByteArray) (hs : s.size ≤ 140737488355328) (d : ByteArray) (b : Bool) (hb : isId s = b) (hd : rawR s b = d) :
    Calls Tryd.prog 14 #[.string s] w fun e w' => e = .returned (.tuple #[.string d, .bool b]) ∧ IdInv w0 w' :=
  (raw_any s w hs).mono fun _ _ x => ⟨by rw [x.1, hb, ← hd]; rfl, h.step x.2⟩
theorem is_inv (s : ByteArray) (hs : s.size ≤ 140737488355328) (b : Bool) (hb : isId s = b) :
    Calls Tryd.prog 17 #[.string s] w fun e w' => e = .returned (.bool b) ∧ IdInv w0 w' :=
  (is_at s w hs b hb).mono fun _ _ x => ⟨x.1, x.2 ▸ h⟩
theorem find_inv (v : Value) (L : List ByteArray) (p : ByteArray) (hv : SVal w v L) (hL : L.length ≤ 140737488355328) (hsz : ∀ s ∈ L, s.size ≤ 140737488355328) (hp : p.size ≤ 140737488355328) (r : ByteArray) (k : Nat) (hr : findS p L = (r, k)) :
    Calls Tryd.prog 20 #[v, .string p] w fun e w' => e = .returned (.tuple #[.string r, .int .i64 k]) ∧ IdInv w0 w' :=
  (find_any v L p w hv hL hsz hp).mono fun _ _ x => ⟨by rw [x.1, hr], x.2 ▸ h⟩
theorem short_inv (v : Value) (L : List ByteArray) (p : ByteArray) (hv : SVal w v L) (hL : L.length ≤ 140737488355328) (hsz : ∀ s ∈ L, s.size ≤ 140737488355328) (hp : p.size ≤ 140737488355328) (r : ByteArray) (hr : shortS L p = r) :
    Calls Tryd.prog 22 #[v, .string p] w fun e w' => e = .returned (.string r) ∧ IdInv w0 w' :=
  (short_any v L p w hv hL hsz hp).mono fun _ _ ⟨x, m, hm⟩ => ⟨by rw [x, hr], hm ▸ h.drewN m⟩
theorem rdigest_inv (s : ByteArray) (hs : s.size ≤ 140737488355328) (d : ByteArray) (hd : d = str (shaC s)) :
    Calls Tryd.prog 9 #[.string s] w fun e w' => e = .returned (.string d) ∧ IdInv w0 w' :=
  (rdigest_any s w hs).mono fun _ _ x => ⟨by rw [x.1, hd], h.step x.2⟩
theorem rof_inv (s : ByteArray) (hs : s.size ≤ 140737488355328) (d : ByteArray) (hd : d = str (ofC s)) :
    Calls Tryd.prog 11 #[.string s] w fun e w' => e = .returned (.string d) ∧ IdInv w0 w' :=
  (rof_any s w hs).mono fun _ _ x => ⟨by rw [x.1, hd], h.step x.2⟩
theorem rmac_inv (k s : ByteArray) (hk : k.size ≤ 140737488355328) (hs : s.size ≤ 140737488351232) (d : ByteArray) (hd : d = str (macC k s)) :
    Calls Tryd.prog 13 #[.string k, .string s] w fun e w' => e = .returned (.string d) ∧ IdInv w0 w' :=
  (rmac_any k s w hk hs).mono fun _ _ x => ⟨by rw [x.1, hd], h.step x.2⟩
theorem rhex_inv (s : ByteArray) (hs : s.size ≤ 70368744177664) (d : ByteArray) (hd : str (hexL s.data.toList) = d) :
    Calls Tryd.prog 19 #[.string s] w fun e w' => e = .returned (.string d) ∧ IdInv w0 w' :=
  (rhex_any s w hs).mono fun _ _ x => ⟨by rw [x.1, hd], h.step x.2⟩
theorem rraw_inv (s : ByteArray) (hs : s.size ≤ 140737488355328) (d : ByteArray) (b : Bool) (hb : isId s = b) (hd : rawR s b = d) :
    Calls Tryd.prog 15 #[.string s] w fun e w' => e = .returned (.tuple #[.string d, .bool b]) ∧ IdInv w0 w' :=
  (rraw_any s w hs).mono fun _ _ x => ⟨by rw [x.1, hb, ← hd]; rfl, h.step x.2⟩
theorem ris_inv (s : ByteArray) (hs : s.size ≤ 140737488355328) (b : Bool) (hb : isId s = b) :
    Calls Tryd.prog 18 #[.string s] w fun e w' => e = .returned (.bool b) ∧ IdInv w0 w' :=
  (ris_at s w hs b hb).mono fun _ _ x => ⟨x.1, x.2 ▸ h⟩
theorem rfind_inv (v : Value) (L : List ByteArray) (p : ByteArray) (hv : SVal w v L) (hL : L.length ≤ 140737488355328) (hsz : ∀ s ∈ L, s.size ≤ 140737488355328) (hp : p.size ≤ 140737488355328) (r : ByteArray) (k : Nat) (hr : findS p L = (r, k)) :
    Calls Tryd.prog 21 #[v, .string p] w fun e w' => e = .returned (.tuple #[.string r, .int .i64 k]) ∧ IdInv w0 w' :=
  (rfind_any v L p w hv hL hsz hp).mono fun _ _ x => ⟨by rw [x.1, hr], x.2 ▸ h⟩
theorem rshort_inv (v : Value) (L : List ByteArray) (p : ByteArray) (hv : SVal w v L) (hL : L.length ≤ 140737488355328) (hsz : ∀ s ∈ L, s.size ≤ 140737488355328) (hp : p.size ≤ 140737488355328) (r : ByteArray) (hr : shortS L p = r) :
    Calls Tryd.prog 23 #[v, .string p] w fun e w' => e = .returned (.string r) ∧ IdInv w0 w' :=
  (rshort_any v L p w hv hL hsz hp).mono fun _ _ ⟨x, m, hm⟩ => ⟨by rw [x, hr], hm ▸ h.drewN m⟩
theorem find_inv0 (v : Value) (L : List ByteArray) (p : ByteArray) (hv : SVal w0 v L) (hL : L.length ≤ 140737488355328) (hsz : ∀ s ∈ L, s.size ≤ 140737488355328) (hp : p.size ≤ 140737488355328) (r : ByteArray) (k : Nat) (hr : findS p L = (r, k)) :
    Calls Tryd.prog 20 #[v, .string p] w fun e w' => e = .returned (.tuple #[.string r, .int .i64 k]) ∧ IdInv w0 w' := find_inv h v L p (hv.inv h.1) hL hsz hp r k hr
theorem rfind_inv0 (v : Value) (L : List ByteArray) (p : ByteArray) (hv : SVal w0 v L) (hL : L.length ≤ 140737488355328) (hsz : ∀ s ∈ L, s.size ≤ 140737488355328) (hp : p.size ≤ 140737488355328) (r : ByteArray) (k : Nat) (hr : findS p L = (r, k)) :
    Calls Tryd.prog 21 #[v, .string p] w fun e w' => e = .returned (.tuple #[.string r, .int .i64 k]) ∧ IdInv w0 w' := rfind_inv h v L p (hv.inv h.1) hL hsz hp r k hr
theorem short_inv0 (v : Value) (L : List ByteArray) (p : ByteArray) (hv : SVal w0 v L) (hL : L.length ≤ 140737488355328) (hsz : ∀ s ∈ L, s.size ≤ 140737488355328) (hp : p.size ≤ 140737488355328) (r : ByteArray) (hr : shortS L p = r) :
    Calls Tryd.prog 22 #[v, .string p] w fun e w' => e = .returned (.string r) ∧ IdInv w0 w' := short_inv h v L p (hv.inv h.1) hL hsz hp r hr
theorem rshort_inv0 (v : Value) (L : List ByteArray) (p : ByteArray) (hv : SVal w0 v L) (hL : L.length ≤ 140737488355328) (hsz : ∀ s ∈ L, s.size ≤ 140737488355328) (hp : p.size ≤ 140737488355328) (r : ByteArray) (hr : shortS L p = r) :
    Calls Tryd.prog 23 #[v, .string p] w fun e w' => e = .returned (.string r) ∧ IdInv w0 w' := rshort_inv h v L p (hv.inv h.1) hL hsz hp r hr
end
end Go.Proofs.YtgdeefcgjaklhabDoor
