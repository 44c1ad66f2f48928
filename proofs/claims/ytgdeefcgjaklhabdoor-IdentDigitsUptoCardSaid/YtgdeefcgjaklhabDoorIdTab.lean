/-
  The table of ident out of the row's list; a slice of strings that is handed in.
-/
import Derived.Test.YtgdeefcgjaklhabDoorFrame
import Derived.Test.YtgdeefcgjaklhabDoorIdInv
import Derived.SliceStrings
namespace Go.Proofs.YtgdeefcgjaklhabDoor
open Go.ChangeShapes Go.WideShapes Go.RowKit

theorem Tryd.gKw : Tryd.prog.globalNamed "graftage/ident.roundWords" = some 0 := by kernel_rfl
theorem Tryd.gKwType : (Tryd.prog.globals[0]?).map (·.type) = some 52 := by kernel_rfl
theorem Tryd.cellsKw : Tryd.prog.cellsOf 52 = 64 := by kernel_rfl
theorem Tryd.cellsU32 : Tryd.prog.cellsOf 35 = 1 := by kernel_rfl
theorem Tryd.cellsStr : Tryd.prog.cellsOf 9 = 1 := by kernel_rfl
theorem Tryd.bytesStr : Tryd.prog.bytesOf 9 = 16 := by kernel_rfl
theorem kw_tab {W : World} (h : laidMetH Tryd.prog [("graftage/ident.roundWords", Rows.laid_graftage_ident_roundWords)] W) :
    Lib.TabIs Tryd.prog W "graftage/ident.roundWords" .u32 [1116352408, 1899447441, 3049323471, 3921009573, 961987163, 1508970993, 2453635748, 2870763221, 3624381080, 310598401, 607225278, 1426881987, 1925078388, 2162078206, 2614888103, 3248222580, 3835390401, 4022224774, 264347078, 604807628, 770255983, 1249150122, 1555081692, 1996064986, 2554220882, 2821834349, 2952996808, 3210313671, 3336571891, 3584528711, 113926993, 338241895, 666307205, 773529912, 1294757372, 1396182291, 1695183700, 1986661051, 2177026350, 2456956037, 2730485921, 2820302411, 3259730800, 3345764771, 3516065817, 3600352804, 4094571909, 275423344, 430227734, 506948616, 659060556, 883997877, 958139571, 1322822218, 1537002063, 1747873779, 1955562222, 2024104815, 2227730452, 2361852424, 2428436474, 2756734187, 3204031479, 3329325298] :=
  Lib.tabIs_of_head (rest := []) Tryd.gKw Tryd.gKwType Tryd.underlying52 Tryd.underlying35 Tryd.cellsU32 Tryd.cellsKw h
theorem ktab_of {W : World} (h : laidMetH Tryd.prog [("graftage/ident.roundWords", Rows.laid_graftage_ident_roundWords)] W) : KTab W := by
  intro i hi
  have hc := (kw_tab h).cell Tryd.gKw i (by simpa using hi)
  rw [hc]
  have e : ∀ i, i < 64 → ([1116352408, 1899447441, 3049323471, 3921009573, 961987163, 1508970993, 2453635748, 2870763221, 3624381080, 310598401, 607225278, 1426881987, 1925078388, 2162078206, 2614888103, 3248222580, 3835390401, 4022224774, 264347078, 604807628, 770255983, 1249150122, 1555081692, 1996064986, 2554220882, 2821834349, 2952996808, 3210313671, 3336571891, 3584528711, 113926993, 338241895, 666307205, 773529912, 1294757372, 1396182291, 1695183700, 1986661051, 2177026350, 2456956037, 2730485921, 2820302411, 3259730800, 3345764771, 3516065817, 3600352804, 4094571909, 275423344, 430227734, 506948616, 659060556, 883997877, 958139571, 1322822218, 1537002063, 1747873779, 1955562222, 2024104815, 2227730452, 2361852424, 2428436474, 2756734187, 3204031479, 3329325298] : List Int).getD i 0 = (kw.getD i 0 : Nat) := by decide +kernel
  rw [e i hi]

section
variable {H : Type} {P : Program}
theorem weights_strs (e : TypeId) : ∀ (L : List ByteArray) (s : ByteArray), s ∈ L → s.size ∈ DataW.weightsAll (H := H) P e (strs L)
  | t :: L, s, h => by
    rw [strs, List.map_cons, DataW.weightsAll, List.mem_append]
    rcases List.mem_cons.1 h with rfl | h
    · exact .inl (by simp [DataW.weights])
    · exact .inr (weights_strs e L s h)
end

/-- A slice of strings that came in: what it holds, and how much. -/
theorem open_sval {H : Type} {enc : TypeId × Value → H} {W : World} {base : Nat} {v : Value} {d : DataW H} {p : List MemPlace} (hval : Value.okWide Tryd.prog W .any base 29 v)
    (h : DataW.Trod enc Tryd.prog W 0 (fun _ => true) true 29 v d p) :
    ∃ L : List ByteArray, SVal W v L ∧ ∀ (ts : List TypeId) (ds : List (DataW H)), (DataW.weightsEach Tryd.prog (29 :: ts) (d :: ds)).all (· ≤ reachBytes) = true → L.length * 16 ≤ 140737488351232 ∧ ∀ s ∈ L, s.size ≤ 140737488351232 := by
  obtain ⟨a, len, cap, rfl⟩ := okWide_slice Tryd.underlying29 hval
  obtain ⟨fuel, hf⟩ := h
  rcases open_strings Tryd.underlying29 Tryd.underlying9 Tryd.cellsStr hf with ⟨hcs, hx⟩ | ⟨ad, len', cap', ss, hcs, _, hl, hm, hz, hx, hcell, hws⟩
  · simp only [Value.cells, List.cons.injEq, Value.slice.injEq, and_true] at hcs
    obtain ⟨rfl, rfl, rfl⟩ := hcs
    exact ⟨[], .inl ⟨rfl, rfl⟩, fun _ _ _ => ⟨by decide, by simp⟩⟩
  · simp only [Value.cells, List.cons.injEq, Value.slice.injEq, and_true] at hcs
    obtain ⟨rfl, rfl, rfl⟩ := hcs
    simp only [Prod.mk.injEq] at hx
    obtain ⟨rfl, -⟩ := hx
    simp only [if_true] at hz
    have hlen : (ss.take len).length = len := by rw [List.length_take]; omega
    refine ⟨ss.take len, .inr ⟨ad, cap, by rw [hlen], fun k hk => ?_⟩, fun ts ds hw => ⟨?_, fun s hs => ?_⟩⟩
    · rw [hlen] at hk
      rw [hcell k (by omega), List.getD_eq_getElem?_getD, List.getD_eq_getElem?_getD, List.getElem?_take_of_lt hk, List.getElem?_eq_getElem (by omega)]
      rfl
    · have := sized_slice hw (j := 0) rfl rfl Tryd.underlying29
      rw [Tryd.bytesStr] at this
      simp only [strs, List.length_map] at this
      have h2 : (ss.take len).length * 16 ≤ ((ss.take len).length + (ss.drop len).length) * 16 := Nat.mul_le_mul_right _ (by omega)
      unfold reachBytes at this
      omega
    · have := List.all_eq_true.1 hw _ (DataW.weights_mem_each (j := 0) rfl rfl s.size (by
        simp only [DataW.weights, Tryd.underlying29, List.mem_cons, List.mem_append]
        exact .inr (.inl (weights_strs _ _ s hs))))
      unfold reachBytes at this
      simpa using this
end Go.Proofs.YtgdeefcgjaklhabDoor
