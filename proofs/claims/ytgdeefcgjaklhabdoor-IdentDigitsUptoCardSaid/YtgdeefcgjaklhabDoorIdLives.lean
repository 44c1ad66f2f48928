/-
  The walk of the law package's own check.
-/
import Derived.Test.YtgdeefcgjaklhabDoorIdConsts
import Derived.Test.YtgdeefcgjaklhabDoorIdFind
import Derived.Test.YtgdeefcgjaklhabDoorIdShort
namespace Go.Proofs.YtgdeefcgjaklhabDoor
open Go.RowKit

/-- w is w0 with new blocks, and holds the table. -/
def IdInv (w0 w : World) : Prop := Below w0.heap.size w0 w ∧ KTab w
theorem IdInv.step {w0 w w' : World} (h : IdInv w0 w) (hb : Below w.heap.size w w') : IdInv w0 w' := ⟨h.1.trans (hb.mono h.1.size), h.2.below hb⟩
theorem IdInv.alloc {w0 w : World} (h : IdInv w0 w) (o : Obj) : IdInv w0 (w.alloc o) := h.step ((Below.refl _ _).alloc (Nat.le_refl _) _)
theorem IdInv.drewN {w0 w : World} (h : IdInv w0 w) (n : Nat) : IdInv w0 (w.drewN n) := h.step (below_drewN (Below.refl _ _) _)
theorem IdInv.self {w : World} (h : KTab w) : IdInv w w := ⟨Below.refl _ _, h⟩

theorem scells_two (w : World) (a b : ByteArray) (t : TypeId) : SCells (w.alloc (.cells #[.string a, .string b] t)) ⟨w.heap.size, 0, none⟩ [a, b] := fun k hk => by
  rw [Addr.add_lit, Nat.zero_add]
  have h := World.cell?_alloc_mark w #[.string a, .string b] t (0, 0) k
  refine h.trans ?_
  match k, hk with
  | 0, _ => rfl
  | 1, _ => rfl

section
variable {w0 w : World} (h : IdInv w0 w)
include h
theorem lc_pair (p r : ByteArray) (e : Nat) (hp : p.size ≤ 100) (hr : findS p [lA, lB] = (r, e)) :
    Calls Tryd.prog 20 #[.slice (some ⟨w.heap.size, 0, none⟩) 2 2, .string p] (w.alloc (.cells #[.string { data := #[48, 48, 48, 48, 48, 48, 48, 49, 48, 48, 48, 48, 48, 48, 48, 48, 48, 48, 48, 48, 48, 48, 48, 48, 48, 48, 48, 48, 48, 48, 48, 48, 48, 48, 48, 48, 48, 48, 48, 48] }, .string { data := #[48, 48, 48, 48, 48, 48, 48, 50, 48, 48, 48, 48, 48, 48, 48, 48, 48, 48, 48, 48, 48, 48, 48, 48, 48, 48, 48, 48, 48, 48, 48, 48, 48, 48, 48, 48, 48, 48, 48, 48] }] 9)) fun e' w' => e' = .returned (.tuple #[.string r, .int .i64 e]) ∧ IdInv w0 w' :=
  (find_any _ [lA, lB] p _ (.inr ⟨_, 2, rfl, scells_two w lA lB 9⟩) (by decide) (by intro s hs; simp at hs; rcases hs with rfl | rfl <;> decide) (by omega)).mono fun _ _ x => ⟨by rw [x.1, hr], x.2 ▸ h.alloc _⟩
theorem lc_find1 :
    Calls Tryd.prog 20 #[.slice (some ⟨w.heap.size, 0, none⟩) 2 2, .string { data := #[48, 48, 48, 48, 48, 48, 48, 50] }] (w.alloc (.cells #[.string { data := #[48, 48, 48, 48, 48, 48, 48, 49, 48, 48, 48, 48, 48, 48, 48, 48, 48, 48, 48, 48, 48, 48, 48, 48, 48, 48, 48, 48, 48, 48, 48, 48, 48, 48, 48, 48, 48, 48, 48, 48] }, .string { data := #[48, 48, 48, 48, 48, 48, 48, 50, 48, 48, 48, 48, 48, 48, 48, 48, 48, 48, 48, 48, 48, 48, 48, 48, 48, 48, 48, 48, 48, 48, 48, 48, 48, 48, 48, 48, 48, 48, 48, 48] }] 9)) fun e' w' => e' = .returned (.tuple #[.string { data := #[48, 48, 48, 48, 48, 48, 48, 50, 48, 48, 48, 48, 48, 48, 48, 48, 48, 48, 48, 48, 48, 48, 48, 48, 48, 48, 48, 48, 48, 48, 48, 48, 48, 48, 48, 48, 48, 48, 48, 48] }, .int .i64 0]) ∧ IdInv w0 w' := lc_pair h _ _ 0 (by decide) lv_find
theorem lc_find2 :
    Calls Tryd.prog 20 #[.slice (some ⟨w.heap.size, 0, none⟩) 2 2, .string { data := #[48, 48, 48, 48] }] (w.alloc (.cells #[.string { data := #[48, 48, 48, 48, 48, 48, 48, 49, 48, 48, 48, 48, 48, 48, 48, 48, 48, 48, 48, 48, 48, 48, 48, 48, 48, 48, 48, 48, 48, 48, 48, 48, 48, 48, 48, 48, 48, 48, 48, 48] }, .string { data := #[48, 48, 48, 48, 48, 48, 48, 50, 48, 48, 48, 48, 48, 48, 48, 48, 48, 48, 48, 48, 48, 48, 48, 48, 48, 48, 48, 48, 48, 48, 48, 48, 48, 48, 48, 48, 48, 48, 48, 48] }] 9)) fun e' w' => e' = .returned (.tuple #[.string { data := #[] }, .int .i64 401]) ∧ IdInv w0 w' := lc_pair h _ _ 401 (by decide) lv_find2
theorem lc_short :
    Calls Tryd.prog 22 #[.slice (some ⟨w.heap.size, 0, none⟩) 2 2, .string { data := #[48, 48, 48, 48, 48, 48, 48, 49, 48, 48, 48, 48, 48, 48, 48, 48, 48, 48, 48, 48, 48, 48, 48, 48, 48, 48, 48, 48, 48, 48, 48, 48, 48, 48, 48, 48, 48, 48, 48, 48] }] (w.alloc (.cells #[.string { data := #[48, 48, 48, 48, 48, 48, 48, 49, 48, 48, 48, 48, 48, 48, 48, 48, 48, 48, 48, 48, 48, 48, 48, 48, 48, 48, 48, 48, 48, 48, 48, 48, 48, 48, 48, 48, 48, 48, 48, 48] }, .string { data := #[48, 48, 48, 48, 48, 48, 48, 50, 48, 48, 48, 48, 48, 48, 48, 48, 48, 48, 48, 48, 48, 48, 48, 48, 48, 48, 48, 48, 48, 48, 48, 48, 48, 48, 48, 48, 48, 48, 48, 48] }] 9)) fun e' w' => e' = .returned (.string { data := #[48, 48, 48, 48, 48, 48, 48, 49] }) ∧ IdInv w0 w' :=
  (short_any _ [lA, lB] lA _ (.inr ⟨_, 2, rfl, scells_two w lA lB 9⟩) (by decide) (by intro s hs; simp at hs; rcases hs with rfl | rfl <;> decide) (by decide)).mono fun _ _ ⟨x, m, hm⟩ => ⟨by rw [x, lv_short], hm ▸ (h.alloc _).drewN m⟩
theorem lc_raw :
    Calls Tryd.prog 14 #[.string { data := #[48, 48, 48, 48, 48, 48, 48, 49, 48, 48, 48, 48, 48, 48, 48, 48, 48, 48, 48, 48, 48, 48, 48, 48, 48, 48, 48, 48, 48, 48, 48, 48, 48, 48, 48, 48, 48, 48, 48, 48] }] w fun e' w' => e' = .returned (.tuple #[.string { data := #[0, 0, 0, 1, 0, 0, 0, 0, 0, 0, 0, 0, 0, 0, 0, 0, 0, 0, 0, 0] }, .bool true]) ∧ IdInv w0 w' :=
  (raw_any lA w (by decide)).mono fun _ _ x => ⟨by rw [x.1, lv_isA, if_pos rfl, lv_raw], h.step x.2⟩
theorem lc_dig (d : ByteArray) (hd : d = str (shaC { data := #[97, 98, 99] })) :
    Calls Tryd.prog 8 #[.string { data := #[97, 98, 99] }] w fun e' w' => e' = .returned (.string d) ∧ IdInv w0 w' :=
  (digest_any _ w (by decide) h.2).mono fun _ _ x => ⟨by rw [x.1, hd], h.step x.2⟩
theorem lc_hex (d : ByteArray) (hd : d = str (shaC { data := #[97, 98, 99] })) :
    Calls Tryd.prog 16 #[.string d] w fun e' w' => e' = .returned (.string { data := #[98, 97, 55, 56, 49, 54, 98, 102, 56, 102, 48, 49, 99, 102, 101, 97, 52, 49, 52, 49, 52, 48, 100, 101, 53, 100, 97, 101, 50, 50, 50, 51, 98, 48, 48, 51, 54, 49, 97, 51, 57, 54, 49, 55, 55, 97, 57, 99, 98, 52, 49, 48, 102, 102, 54, 49, 102, 50, 48, 48, 49, 53, 97, 100] }) ∧ IdInv w0 w' :=
  (hex_any d w (by rw [hd, str_size, shaC_len]; decide)).mono fun _ _ x => ⟨by rw [x.1, hd, str_list, lv_digest]; rfl, h.step x.2⟩
theorem lc_of :
    Calls Tryd.prog 10 #[.string { data := #[] }] w fun e' w' => e' = .returned (.string { data := #[101, 51, 98, 48, 99, 52, 52, 50, 57, 56, 102, 99, 49, 99, 49, 52, 57, 97, 102, 98, 102, 52, 99, 56, 57, 57, 54, 102, 98, 57, 50, 52, 50, 55, 97, 101, 52, 49, 101, 52] }) ∧ IdInv w0 w' :=
  (of_any _ w (by decide) h.2).mono fun _ _ x => ⟨by rw [x.1, lv_of]; rfl, h.step x.2⟩
theorem lc_is1 :
    Calls Tryd.prog 17 #[.string { data := #[48, 48, 48, 48, 48, 48, 48, 49, 48, 48, 48, 48, 48, 48, 48, 48, 48, 48, 48, 48, 48, 48, 48, 48, 48, 48, 48, 48, 48, 48, 48, 48, 48, 48, 48, 48, 48, 48, 48, 48] }] w fun e' w' => e' = .returned (.bool true) ∧ IdInv w0 w' :=
  (is_at lA w (by decide) true lv_isA).mono fun _ _ x => ⟨x.1, x.2 ▸ h⟩
theorem lc_is2 :
    Calls Tryd.prog 17 #[.string { data := #[97, 98, 99] }] w fun e' w' => e' = .returned (.bool false) ∧ IdInv w0 w' :=
  (is_at _ w (by decide) false lv_isN).mono fun _ _ x => ⟨x.1, x.2 ▸ h⟩
theorem lc_mac :
    Calls Tryd.prog 12 #[.string { data := #[107, 101, 121] }, .string { data := #[84, 104, 101, 32, 113, 117, 105, 99, 107, 32, 98, 114, 111, 119, 110, 32, 102, 111, 120, 32, 106, 117, 109, 112, 115, 32, 111, 118, 101, 114, 32, 116, 104, 101, 32, 108, 97, 122, 121, 32, 100, 111, 103] }] w fun e' w' => e' = .returned (.string { data := #[102, 55, 98, 99, 56, 51, 102, 52, 51, 48, 53, 51, 56, 52, 50, 52, 98, 49, 51, 50, 57, 56, 101, 54, 97, 97, 54, 102, 98, 49, 52, 51, 101, 102, 52, 100, 53, 57, 97, 49, 52, 57, 52, 54, 49, 55, 53, 57, 57, 55, 52, 55, 57, 100, 98, 99, 50, 100, 49, 97, 51, 99, 100, 56] }) ∧ IdInv w0 w' :=
  (mac_any _ _ w (by decide) (by decide) h.2).mono fun _ _ x => ⟨by rw [x.1, lv_mac]; rfl, h.step x.2⟩
end

set_option maxHeartbeats 2000000 in
set_option maxRecDepth 10000 in
theorem lives_inv {w0 w : World} (h : IdInv w0 w) : Calls Tryd.prog 7 #[] w fun e w' => e = .returned (.bool true) ∧ IdInv w0 w' := by
  obtain ⟨d, hd⟩ : ∃ d, d = str (shaC { data := #[97, 98, 99] }) := ⟨_, rfl⟩
  have HD : Hid (d = str (shaC { data := #[97, 98, 99] })) := hd
  clear hd
  go_enter Tryd.func7, Tryd.ntmps7
  go_wp2_with (first
    | (go_at_call 20; first | ((with_reducible refine (lc_find1 (by assumption)).mono ?_); rintro e w' ⟨rfl, hi⟩) | ((with_reducible refine (lc_find2 (by assumption)).mono ?_); rintro e w' ⟨rfl, hi⟩))
    | (go_at_call 14; ((with_reducible refine (lc_raw (by assumption)).mono ?_); rintro e w' ⟨rfl, hi⟩))
    | (go_at_call 8; ((with_reducible refine (lc_dig (by assumption) d HD.out).mono ?_); rintro e w' ⟨rfl, hi⟩))
    | (go_at_call 16; ((with_reducible refine (lc_hex (by assumption) d HD.out).mono ?_); rintro e w' ⟨rfl, hi⟩))
    | (go_at_call 10; ((with_reducible refine (lc_of (by assumption)).mono ?_); rintro e w' ⟨rfl, hi⟩))
    | (go_at_call 22; ((with_reducible refine (lc_short (by assumption)).mono ?_); rintro e w' ⟨rfl, hi⟩))
    | (go_at_call 17; first | ((with_reducible refine (lc_is1 (by assumption)).mono ?_); rintro e w' ⟨rfl, hi⟩) | ((with_reducible refine (lc_is2 (by assumption)).mono ?_); rintro e w' ⟨rfl, hi⟩))
    | (go_at_call 12; ((with_reducible refine (lc_mac (by assumption)).mono ?_); rintro e w' ⟨rfl, hi⟩)))
  go_ret
  exact ⟨rfl, ‹_›⟩
end Go.Proofs.YtgdeefcgjaklhabDoor
