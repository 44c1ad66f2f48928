/-
  The walk of the reference's Spread.
-/
import Derived.Test.YtgdeefcgjaklhaaSqSpreadPlain
import Derived.Test.YtgdeefcgjaklhaaOctRTake
namespace Go.Proofs.Ytgdeefcgjaklhaa
open Go.RowKit

/-- A call of the reference's Take whose answer is known. -/
def RT (s : ByteArray) (q : Int) (v : Nat) (q2 : Int) (e0 : Nat) : Prop := ∀ w, Calls Try.prog 43 #[.string s, .int .i64 q] w fun e w' => e = .returned (.tuple #[.int .u64 v, .int .i64 q2, .int .i64 e0]) ∧ w = w'
theorem RT.at {s : ByteArray} {q : Int} {v : Nat} {q2 : Int} {e0 : Nat} (h : RT s q v q2 e0) (w : World) : Calls Try.prog 43 #[.string s, .int .i64 q] w fun e w' => e = .returned (.tuple #[.int .u64 v, .int .i64 q2, .int .i64 e0]) ∧ w = w' := h w
theorem rt_of (s : ByteArray) (q : Int) (hs : s.size ≤ 4611686018427387904) (v : Nat) (q2 : Int) (e0 : Nat) (hv : takeAt s.data.toList q = (v, q2, e0)) : RT s q v q2 e0 := fun w =>
  (rtake_any s q w hs).mono fun _ _ x => ⟨by rw [x.1, hv], x.2⟩
theorem Ow.shape {w : World} {base : Nat} {v : Value} {l : List UInt8} (h : Ow w base v l) : ∃ p cap, v = .slice p l.length cap := by
  rcases h.2 with ⟨rfl, hx⟩ | ⟨g, cap, cur, rfl, _⟩
  · have : l = [] := by cases l with
      | nil => rfl
      | cons a l => simp [bcells] at hx
    exact ⟨none, 0, by rw [this]; rfl⟩
  · exact ⟨_, _, rfl⟩
/-- The length of a slice. -/
def slen : Value → Nat
  | .slice _ n _ => n
  | _ => 0
theorem slen_own {w : World} {base : Nat} {v : Value} {l : List UInt8} (h : Ow w base v l) : slen v = l.length := by
  obtain ⟨p, cap, rfl⟩ := h.shape
  rfl

set_option maxHeartbeats 8000000 in
set_option maxRecDepth 4000 in
theorem rspread_any (s : ByteArray) (m : Int) (w : World) (hs : s.size ≤ 1048576) (hm : m ≤ 1048576) (hm2 : -9223372036854775808 ≤ m) :
    Calls Try.prog 19 #[.string s, .int .i64 m] w (DecRes (dec s m) w) := by
  obtain ⟨i0, hi, hz0, hz1, hz2⟩ := info_parts Try.info5
  rcases takeAt_cases s.data.toList 0 with ⟨e, he1, he3, ht⟩ | ⟨V, q0, a, -, -, hq0, hV, ht, -⟩
  · have HT : Hid (RT s 0 0 0 e) := rt_of s 0 (by omega) _ _ _ ht
    have HR : Hid (dec s m = ([], e)) := dec_err ht (by omega)
    have hne : ((e : Int) != 0) = true := by simp; omega
    have hne2 : ((e : Int) == 0) = false := by simp; omega
    clear ht
    go_enter Try.func19, Try.ntmps19
    go_wp2_with (go_at_call 43; ((with_reducible refine (RT.at HT.out _).mono ?_); rintro e1 w1 ⟨rfl, rfl⟩))
    go_ret2
    exact decRes_mk HR.out rfl (Below.refl _ _)
  · rw [list_len] at hq0
    have HT : Hid (RT s 0 V q0 0) := rt_of s 0 (by omega) _ _ _ ht
    by_cases h1 : m < 0
    · have HR : Hid (dec s m = ([], 4)) := dec_large ht (.inl h1)
      clear ht
      go_enter Try.func19, Try.ntmps19
      go_wp2_with (go_at_call 43; ((with_reducible refine (RT.at HT.out _).mono ?_); rintro e1 w1 ⟨rfl, rfl⟩))
      go_ret2
      exact decRes_mk HR.out rfl (Below.refl _ _)
    · obtain ⟨M, rfl⟩ : ∃ M : Nat, m = (M : Int) := ⟨m.toNat, by omega⟩
      have i1 : IntKind.u64.wrap (M : Int) = (M : Int) := IntWalk.u64_in _ (by omega)
      by_cases h2 : M < V
      · have HR : Hid (dec s M = ([], 4)) := dec_large ht (.inr (by omega))
        clear ht h1
        go_enter Try.func19, Try.ntmps19
        go_wp2_with (go_at_call 43; ((with_reducible refine (RT.at HT.out _).mono ?_); rintro e1 w1 ⟨rfl, rfl⟩))
        go_ret2
        exact decRes_mk HR.out rfl (Below.refl _ _)
      · obtain ⟨R, hR⟩ : ∃ R, R = dec s M := ⟨_, rfl⟩
        rw [← hR]
        have HR : Hid (R = fin [] (tps s V q0 0)) := by show _ = _; rw [hR, dec_fin ht (by omega)]
        have hVs : V ≤ 1048576 := by omega
        clear ht h1 hR
        go_enter Try.func19, Try.ntmps19
        go_wp2_with (go_at_call 43; ((with_reducible refine (RT.at HT.out _).mono ?_); rintro e1 w1 ⟨rfl, rfl⟩))
        clear h2 i1 hm hm2 hV HT
        go_loopw [7, 9] (fun qv v9 wr => ∃ (q : Nat) (l : List UInt8), qv = .int .i64 q ∧ q ≤ s.size ∧ l.length ≤ V ∧ R = fin l (tps s V q l.length) ∧ Ow wr w.heap.size v9 l ∧ Below w.heap.size w wr) (fun _ v9 _ => V - slen v9)
        case atStart => exact ⟨q0, [], rfl, hq0, Nat.zero_le _, HR.out, Ow.nil _ _, Below.refl _ _⟩
        case round =>
          clear HR hq0
          obtain ⟨q, l, rfl, hqs, hll, hR, ho, hb⟩ := hrel
          have HR : Hid (R = fin l (tps s V q l.length)) := hR
          clear hR
          obtain ⟨p9, cap9, rfl⟩ := ho.shape
          have hsz := hb.size
          have j1 : IntKind.u64.wrap (l.length : Int) = (l.length : Int) := IntWalk.u64_in _ (by omega)
          have j2 : IntKind.u64.wrap ((V : Int) - l.length) = (V : Int) - l.length := IntWalk.u64_in _ (by omega)
          by_cases hlt : l.length < V
          · rcases takeAt_cases s.data.toList q with ⟨e, he1, he3, ht⟩ | ⟨x, q2, a, -, -, hq2, hx, ht, -⟩
            · have HT : Hid (RT s q 0 0 e) := rt_of s q (by omega) _ _ _ ht
              have HX : Hid (R = ([], e)) := by show _ = _; rw [HR.out]; exact sp_err hlt ht (by omega)
              have hne : ((e : Int) != 0) = true := by simp; omega
              have hne2 : ((e : Int) == 0) = false := by simp; omega
              clear ht HR
              go_wp2_with (go_at_call 43; ((with_reducible refine (RT.at HT.out _).mono ?_); rintro e1 w1 ⟨rfl, rfl⟩))
              go_ret2
              exact decRes_mk HX.out rfl hb
            · rw [list_len] at hq2
              have HT : Hid (RT s q x q2 0) := rt_of s q (by omega) _ _ _ ht
              obtain ⟨n, hn⟩ : ∃ n, n = x / 2 := ⟨_, rfl⟩
              obtain ⟨z, hz⟩ : ∃ z, z = x % 2 := ⟨_, rfl⟩
              have hhalf : (x : Int) / 2 = (n : Int) := by omega
              have hmod : (x : Int) % 2 = (z : Int) := by omega
              have hz1' : z = 0 ∨ z = 1 := by omega
              have HTT : Hid (takeAt s.data.toList q = (x, (q2 : Int), 0)) := ht
              have HN : Hid (n = x / 2) := hn
              have HZ : Hid (z = x % 2) := hz
              have hn63 : n < 9223372036854775808 := by omega
              have i3 : IntKind.i64.wrap (n : Int) = (n : Int) := IntWalk.i64_in _ (by omega)
              clear ht hn hz hx
              by_cases h0 : n = 0
              · have HX : Hid (R = ([], 2)) := by show _ = _; rw [HR.out]; exact sp_bad hlt HTT.out HN.out HZ.out (.inl h0)
                have a0 : ((n : Int) == 0) = true := by simp; omega
                clear h0 HR hz1'
                go_wp2_with (go_at_call 43; ((with_reducible refine (RT.at HT.out _).mono ?_); rintro e1 w1 ⟨rfl, rfl⟩))
                go_ret2
                exact decRes_mk HX.out rfl hb
              · have a0 : ((n : Int) == 0) = false := by simp; omega
                by_cases h1 : z = 1
                · have a1 : ((z : Int) == 1) = true := by simp; omega
                  have a1' : ((z : Int) == 0) = false := by simp; omega
                  by_cases h4 : n < 4
                  · have HX : Hid (R = ([], 2)) := by show _ = _; rw [HR.out]; exact sp_bad hlt HTT.out HN.out HZ.out (.inr (.inl ⟨h1, h4⟩))
                    clear h0 h1 HR hz1'
                    go_wp2_with (go_at_call 43; ((with_reducible refine (RT.at HT.out _).mono ?_); rintro e1 w1 ⟨rfl, rfl⟩))
                    go_ret2
                    exact decRes_mk HX.out rfl hb
                  · by_cases h5 : V - l.length < n
                    · have HX : Hid (R = ([], 2)) := by show _ = _; rw [HR.out]; exact sp_bad hlt HTT.out HN.out HZ.out (.inr (.inr h5))
                      have a3 : (V : Int) - l.length < n := by omega
                      clear h0 h1 HR hz1' h5
                      go_wp2_with (go_at_call 43; ((with_reducible refine (RT.at HT.out _).mono ?_); rintro e1 w1 ⟨rfl, rfl⟩))
                      go_ret2
                      exact decRes_mk HX.out rfl hb
                    · have a3 : (n : Int) ≤ (V : Int) - l.length := by omega
                      have hok : ¬ (n = 0 ∨ (z = 1 ∧ n < 4) ∨ V - l.length < n) := by omega
                      rcases takeAt_cases s.data.toList q2 with ⟨e, he1, he3, ht2⟩ | ⟨b, q3, a2, -, -, hq3, hbx, ht2, -⟩
                      · have HT2 : Hid (RT s q2 0 0 e) := rt_of s q2 (by omega) _ _ _ ht2
                        have HX : Hid (R = ([], e)) := by show _ = _; rw [HR.out]; exact sp_cerr hlt HTT.out HN.out HZ.out hok h1 ht2 (by omega)
                        have hne : ((e : Int) != 0) = true := by simp; omega
                        have hne2 : ((e : Int) == 0) = false := by simp; omega
                        clear ht2 HR hok h0 h1 h5 hz1'
                        go_wp2_with (first | (go_at_call 43; ((with_reducible refine (RT.at HT.out _).mono ?_); rintro e1 w1 ⟨rfl, rfl⟩)) | (go_at_call 43; ((with_reducible refine (RT.at HT2.out _).mono ?_); rintro e1 w1 ⟨rfl, rfl⟩)))
                        go_ret2
                        exact decRes_mk HX.out rfl hb
                      · rw [list_len] at hq3
                        have HT2 : Hid (RT s q2 b q3 0) := rt_of s q2 (by omega) _ _ _ ht2
                        by_cases hb0 : b = 0
                        · have HX : Hid (R = ([], 2)) := by show _ = _; rw [HR.out]; exact sp_cbad hlt HTT.out HN.out HZ.out hok h1 ht2 (.inl hb0)
                          have b0 : ((b : Int) == 0) = true := by simp; omega
                          clear ht2 HR hok h0 h1 h5 hz1' hb0
                          go_wp2_with (first | (go_at_call 43; ((with_reducible refine (RT.at HT.out _).mono ?_); rintro e1 w1 ⟨rfl, rfl⟩)) | (go_at_call 43; ((with_reducible refine (RT.at HT2.out _).mono ?_); rintro e1 w1 ⟨rfl, rfl⟩)))
                          go_ret2
                          exact decRes_mk HX.out rfl hb
                        · have b0 : ((b : Int) == 0) = false := by simp; omega
                          by_cases hb1 : l.length < b
                          · have HX : Hid (R = ([], 2)) := by show _ = _; rw [HR.out]; exact sp_cbad hlt HTT.out HN.out HZ.out hok h1 ht2 (.inr hb1)
                            clear ht2 HR hok h0 h1 h5 hz1' hb0
                            go_wp2_with (first | (go_at_call 43; ((with_reducible refine (RT.at HT.out _).mono ?_); rintro e1 w1 ⟨rfl, rfl⟩)) | (go_at_call 43; ((with_reducible refine (RT.at HT2.out _).mono ?_); rintro e1 w1 ⟨rfl, rfl⟩)))
                            go_ret2
                            exact decRes_mk HX.out rfl hb
                          · have HX : Hid (R = fin (cpy b n l) (tps s V (q3 : Int) (l.length + n))) := by show _ = _; rw [HR.out]; exact sp_copy hlt HTT.out HN.out HZ.out hok h1 ht2 (by omega)
                            have i7 : IntKind.i64.wrap (b : Int) = (b : Int) := IntWalk.i64_in _ (by omega)
                            have hn5 : n ≤ V - l.length := by omega
                            have hbl : b ≤ l.length := by omega
                            have hbp : 0 < b := by omega
                            have hso := slen_own ho
                            have HSO : Hid (slen (.slice p9 l.length cap9) = l.length) := hso
                            clear ht2 HR hok h0 h1 h5 hz1' hb0 hso
                            go_wp2_with (first | (go_at_call 43; ((with_reducible refine (RT.at HT.out _).mono ?_); rintro e1 w1 ⟨rfl, rfl⟩)) | (go_at_call 43; ((with_reducible refine (RT.at HT2.out _).mono ?_); rintro e1 w1 ⟨rfl, rfl⟩)))
                            go_loopw [9, 17] (fun u jv wi => ∃ (d : Nat) (k : List UInt8), d ≤ n ∧ jv = .int .i64 d ∧ k.length = l.length + d ∧ cpy b n l = cpy b (n - d) k ∧ Ow wi w.heap.size u k ∧ Below w.heap.size w wi) (fun _ jv _ => n - (intOf jv).toNat)
                            case atStart => exact ⟨0, l, Nat.zero_le _, rfl, rfl, rfl, ho, hb⟩
                            case round =>
                              clear ho hb
                              obtain ⟨d, k, hd, rfl, hkl, hcp, hok2, hb2⟩ := hrel
                              have HC : Hid (cpy b n l = cpy b (n - d) k) := hcp
                              have HKL : Hid (k.length = l.length + d) := hkl
                              clear hcp
                              by_cases hdl : d < n
                              · obtain ⟨y0, hy0⟩ : ∃ y0, y0 + b = k.length := ⟨k.length - b, by omega⟩
                                obtain ⟨g2, cap2, rfl, hrd⟩ := hok2.read (by omega)
                                have fq := hrd y0 (by omega)
                                obtain ⟨y, hy⟩ : ∃ y : UInt8, y = k.getD y0 0 := ⟨_, rfl⟩
                                rw [← hy] at fq
                                have HC2 : Hid (cpy b n l = cpy b (n - (d + 1)) (k ++ [y])) := by
                                  show _ = _
                                  rw [HC.out, show n - d = (n - (d + 1)) + 1 by omega, cpy, hy, show k.length - b = y0 by omega]
                                have i8 : IntKind.i64.wrap ((k.length : Int) - (b : Int)) = (y0 : Int) := by rw [IntWalk.i64_in _ (by omega)]; omega
                                have hqm : y0 < k.length := by omega
                                have hkb : k.length + 1 ≤ V := by omega
                                have hsz2 := hb2.size
                                clear HC hy hrd hkl hy0
                                unfold Ow at hok2
                                go_wp2_with (at_builtin; refine wpList_append_own _ rfl _ _ 30 rfl w.heap.size 5 i0 (.int .u8 0) 1 1 Try.underlying30 hi hz0 hz1 hz2 rfl (by decide) _ _ _ rfl (hok2.alloc _) ⟨wr.heap.size, 0, none⟩ 1 1 (bcells [y]) rfl rfl ?c1 ?c2 ?c3 ?c4 ?c5 ?_)
                                case c1 =>
                                  intro j u hj
                                  match j, hj with
                                  | 0, hj => simp [bcells] at hj; subst hj; simp [Addr.add]
                                case c2 => exact bcells_one _
                                case c3 => unfold maxLen; omega
                                case c4 => omega
                                case c5 => simp; omega
                                intro v3 w3 ho3 hg3 _
                                have hb3 := app_step hb2 hok2 hg3 (Nat.le_refl _) hsz2
                                clear hok2 hg3 fq
                                go_wp2
                                go_roundw
                                case rel => exact ⟨d + 1, k ++ [y], by omega, by go_num, by have := HKL.out; simp; omega, HC2.out, by unfold Ow; rw [bcells_append]; simpa using ho3, hb3⟩
                                case measure => simp [intOf]; omega
                              · obtain rfl : d = n := by omega
                                have HC2 : Hid (R = fin k (tps s V (q3 : Int) k.length)) := by show _ = _; rw [HX.out, HC.out, Nat.sub_self, hkl]; rfl
                                have hkV : k.length ≤ V := by omega
                                clear HC hkl
                                go_wp2
                                go_roundw
                                case rel => exact ⟨q3, k, rfl, hq3, hkV, HC2.out, hok2, hb2⟩
                                case measure =>
                                  rw [slen_own hok2, HSO.out, HKL.out]
                                  omega
                · obtain rfl : z = 0 := by omega
                  have a1 : (((0 : Nat) : Int) == 1) = false := rfl
                  by_cases h5 : V - l.length < n
                  · have HX : Hid (R = ([], 2)) := by show _ = _; rw [HR.out]; exact sp_bad hlt HTT.out HN.out HZ.out (.inr (.inr h5))
                    have a3 : (V : Int) - l.length < n := by omega
                    clear h0 h1 HR hz1' h5
                    go_wp2_with (go_at_call 43; ((with_reducible refine (RT.at HT.out _).mono ?_); rintro e1 w1 ⟨rfl, rfl⟩))
                    go_ret2
                    exact decRes_mk HX.out rfl hb
                  · have a3 : (n : Int) ≤ (V : Int) - l.length := by omega
                    have hok : ¬ (n = 0 ∨ (0 = 1 ∧ n < 4) ∨ V - l.length < n) := by omega
                    have i4 : IntKind.i64.wrap ((s.size : Int) - q2) = (s.size : Int) - q2 := IntWalk.i64_in _ (by omega)
                    have i5 : IntKind.u64.wrap ((s.size : Int) - q2) = (s.size : Int) - q2 := IntWalk.u64_in _ (by omega)
                    by_cases h6 : s.size - q2 < n
                    · have HX : Hid (R = ([], 3)) := by show _ = _; rw [HR.out]; exact sp_short hlt HTT.out HN.out HZ.out hok rfl h6
                      have a4 : (s.size : Int) - q2 < n := by omega
                      clear h0 h1 HR hz1' h5 h6 hok
                      go_wp2_with (go_at_call 43; ((with_reducible refine (RT.at HT.out _).mono ?_); rintro e1 w1 ⟨rfl, rfl⟩))
                      go_ret2
                      exact decRes_mk HX.out rfl hb
                    · have a4 : (n : Int) ≤ (s.size : Int) - q2 := by omega
                      obtain ⟨e6, he6⟩ : ∃ e6, e6 = q2 + n := ⟨_, rfl⟩
                      have i6 : IntKind.i64.wrap ((q2 : Int) + n) = (e6 : Int) := by rw [IntWalk.i64_in _ (by omega)]; omega
                      have a5 : q2 ≤ e6 := by omega
                      have a6 : e6 ≤ s.size := by omega
                      obtain ⟨t, ht⟩ : ∃ t, t = s.extract q2 e6 := ⟨_, rfl⟩
                      have hts : t.size = n := by rw [ht, ByteArray.size_extract]; omega
                      have HX : Hid (R = fin (l ++ t.data.toList) (tps s V (e6 : Int) (l.length + n))) := by
                        show _ = _
                        rw [HR.out, ht, he6]
                        exact sp_lit hlt HTT.out HN.out HZ.out hok rfl h6
                      have HTX : Hid (s.extract q2 e6 = t) := ht.symm
                      have htl : l.length + t.size ≤ 1048576 := by omega
                      have HTS : Hid (t.size = n) := hts
                      have hn5 : n ≤ V - l.length := by omega
                      have hn0 : 0 < n := by omega
                      have HSO : Hid (slen (.slice p9 l.length cap9) = l.length) := rfl
                      clear h0 h1 HR hz1' h5 h6 hok ht hts he6
                      go_wp2_with (first | (go_at_call 43; ((with_reducible refine (RT.at HT.out _).mono ?_); rintro e1 w1 ⟨rfl, rfl⟩)) | (at_builtin; rw [HTX.out]; refine Lib.wpList_append_own_string _ rfl _ _ 30 9 rfl w.heap.size 5 i0 Try.underlying30 Try.underlying9 hi hz0 hz1 hz2 _ l.length (bcells l) rfl ho t rfl (by unfold maxLen; omega) (by omega) hsz ?_))
                      intro v2 w2 ho2 hg2 _
                      have hb2 : Below w.heap.size w w2 := hb.grown hg2 hsz (fun k hk => (ho.lt k hk).1)
                      have ho3 := Ow.add (by omega) ho2
                      have hs3 := slen_own ho3
                      clear ho2 hg2 ho
                      go_wp2
                      go_roundw
                      case rel => exact ⟨e6, _, by go_num, by omega, by rw [List.length_append, list_len, HTS.out]; omega, by rw [List.length_append, list_len, HTS.out]; exact HX.out, ho3, hb2⟩
                      case measure =>
                        rw [hs3, HSO.out, List.length_append, list_len, HTS.out]
                        omega
          · by_cases hq : q < s.size
            · have HX : Hid (R = ([], 2)) := by show _ = _; rw [HR.out]; exact fin_err (tps_left hlt (by omega)) (by decide)
              clear HR
              go_wp2
              go_ret2
              exact decRes_mk HX.out rfl hb
            · have HX : Hid (R = (l, 0)) := by show _ = _; rw [HR.out, tps_end hlt (by omega)]; exact fin_end l
              have hcv : (convert 30 9 (.slice p9 l.length cap9)).run Try.prog wr = .ok (.string (str l)) wr :=
                conv_owned (P := Try.prog) 30 9 5 Try.underlying30 Try.underlying5 Try.underlying9 ho
              clear HR
              go_wp2
              go_ret2
              exact decRes_mk HX.out rfl hb
end Go.Proofs.Ytgdeefcgjaklhaa
