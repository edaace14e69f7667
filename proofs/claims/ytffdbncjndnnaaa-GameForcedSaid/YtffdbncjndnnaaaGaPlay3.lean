/-
  winnerOf and Play of package game, where the game and the choices are valid.
-/
import Derived.Test.YtffdbncjndnnaaaGaPlay2
namespace Go.Proofs.Ytffdbncjndnnaaa.Wd
open Go.RowKit
set_option linter.unusedVariables false
set_option linter.unusedSimpArgs false

theorem topP_bounds {P l : List Int} (h : ∀ v ∈ l, P.getD v.toNat 0 ≤ 60) : -1 ≤ topP P l ∧ topP P l ≤ 60 := foldmax_le P l (-1) h (by omega) (by omega)

set_option maxHeartbeats 2000000 in
theorem winner_any (a p x A : Option Addr) (n c m d k e s cs : Nat) (G : Gm) (l : List Int) (w : World) (h : GameIn w a n p m x k G) (hA : Ints w A s l) (hm : m ≤ 20000) (hs : s ≤ 100000) (hl : ∀ i, i < s → 0 ≤ l.getD i 0 ∧ l.getD i 0 < m) (ht : -1 ≤ topP G.P l ∧ topP G.P l ≤ 60) :
    Calls Try.prog 35 #[.agg #[.slice a n c, .slice p m d, .slice x k e], .slice A s cs] w fun r w' => r = .returned (.int .i64 ((topP G.P l).tmod 2)) ∧ Below w.heap.size w w' := by
  obtain ⟨W0, hW0⟩ : ∃ W0, w.alloc (.cells #[.slice a n c, .slice p m d, .slice x k e] 25) = W0 := ⟨_, rfl⟩
  have HBW := Lib.hid (show Below w.heap.size w W0 by rw [← hW0]; exact (Below.refl _ _).alloc (Nat.le_refl _) _)
  have HT := Lib.hid (top_any a p x A n c m d k e s cs G l W0 (h.below HBW.out) (hA.below HBW.out) hm hs hl)
  clear h hA hl
  obtain ⟨q0, q1, q2⟩ := box_game w (.slice a n c) (.slice p m d) (.slice x k e) 25
  rw [hW0] at q0 q1 q2
  generalize topP G.P l = tp at *
  obtain ⟨h1, h2⟩ := ht
  go_enter Try.func35, Try.ntmps35
  go_wp2_with fail
  refine HT.out.mono ?_
  rintro r w1 ⟨rfl, hb1⟩
  have HB1 := Lib.hid (HBW.out.trans (hb1.mono HBW.out.size))
  clear hb1 hW0
  go_wp2_with fail
  go_ret
  exact ⟨rfl, HB1.out⟩

theorem choice_in {G : Gm} {ch : List Int} (h : gmB G = true) {v : Nat} (hv : v < G.X.length) (hc : hasB (G.X.getD v []) (ch.getD v 0) = true) : 0 ≤ ch.getD v 0 ∧ ch.getD v 0 < G.X.length := by
  obtain ⟨i, hi, e⟩ := hasB_out hc
  have hs := (posB_true ((gmB_true h).2.2.2 v hv)).2.2.2
  rw [← e]
  exact (succB_true hs).2.2 i hi

set_option maxRecDepth 100000 in
set_option maxHeartbeats 4000000 in
theorem play_good (a p x A : Option Addr) (n c m d k e na ca f : Nat) (G : Gm) (ch : List Int) (w : World) (h : GameIn w a n p m x k G) (hA : Ints w A na ch) (hv : gmB G = true) (hna : na = G.X.length) (hf : f < G.X.length) (hch : ∀ v, v < G.X.length → hasB (G.X.getD v []) (ch.getD v 0) = true) :
    Calls Try.prog 12 #[.agg #[.slice a n c, .slice p m d, .slice x k e], .slice A na ca, .int .i64 f] w fun r w' =>
      ∃ i t A1 c1 A2 c2, r = .returned (.tuple #[.slice A1 i c1, .slice A2 (t - i) c2, .int .i64 ((topP G.P ((pathL ch f t).drop i)).tmod 2), .int .i64 0]) ∧ Meet ch f i t ∧ t ≤ na ∧ Ints w' A1 i ((pathL ch f t).take i) ∧ Ints w' A2 (t - i) ((pathL ch f t).drop i) ∧ Below w.heap.size w w' := by
  obtain ⟨hg1, hg2, hg3, hg4⟩ := gmB_true hv
  have hxl := h.x.1
  have hol := h.o.1
  have hpl := h.p.1
  have hal := hA.1
  obtain rfl : n = k := by omega
  obtain rfl : m = n := by omega
  obtain rfl : na = m := by omega
  have hn0 : (0 : Int) ≤ (na : Int) := by omega
  obtain ⟨W0, hW0⟩ : ∃ W0, w.alloc (.cells #[.slice a na c, .slice p na d, .slice x na e] 25) = W0 := ⟨_, rfl⟩
  have HBW := Lib.hid (show Below w.heap.size w W0 by rw [← hW0]; exact (Below.refl _ _).alloc (Nat.le_refl _) _)
  have HV := Lib.hid (valid_any a p x na c na d na e G W0 (h.below HBW.out) (by omega) (fun v => by have := gmB_len hv v; omega))
  rw [hv] at HV
  obtain ⟨q0, q1, q2⟩ := box_game w (.slice a na c) (.slice p na d) (.slice x na e) 25
  rw [hW0] at q0 q1 q2
  have hz0 : w.heap.size < W0.heap.size := by rw [← hW0]; simp
  have HW0 := Lib.hid hW0
  have hrange : ∀ v, v < na → 0 ≤ ch.getD v 0 ∧ ch.getD v 0 < na := fun v hvn => by
    have := choice_in hv (show v < G.X.length by omega) (hch v (by omega))
    omega
  have H0 := Lib.hid (h.below HBW.out)
  have HA := Lib.hid (hA.below HBW.out)
  have HCH := Lib.hid (fun v (hvn : v < na) => hch v (by omega))
  have HLEN := Lib.hid (fun v => gmB_len hv v)
  have HRG := Lib.hid hrange
  have HPR := Lib.hid (show ∀ v : Int, 0 ≤ v → v < na → G.P.getD v.toNat 0 ≤ 60 from fun v h0 h1 => (posB_true (hg4 v.toNat (by omega))).2.2.1)
  have hf1 : (f : Int) < (na : Int) := by omega
  have hf0 : (0 : Int) ≤ (f : Int) := by omega
  have hfn : f < na := by omega
  have hnn : ((na : Int) != (na : Int)) = false := by simp
  have hf3 : ¬ na ≤ f := by omega
  have hf4 : ¬ (f : Int) < 0 := by omega
  have hn2 : na ≤ 20000 := by omega
  clear h hA hv hch hrange hg4 hg1 hg2 hg3 hxl hol hpl hal hf hna
  go_enter Try.func12, Try.ntmps12
  go_wp2_with fail
  clear hW0
  refine HV.out.mono ?_
  rintro r w1 ⟨rfl, hb1⟩
  have HB1 := Lib.hid hb1
  have k0 := (hb1.cell (p := ⟨w.heap.size, 0, none⟩) hz0).trans q0
  have k1 := (hb1.cell (p := ⟨w.heap.size, 1, none⟩) hz0).trans q1
  have k2 := (hb1.cell (p := ⟨w.heap.size, 2, none⟩) hz0).trans q2
  clear hb1 q0 q1 q2
  go_wp2_with fail
  go_loopg [32] na (fun g i wx => ∃ j : Nat, j + g = na ∧ i = .int .i64 j ∧ wx = w1)
  case atStart => exact ⟨0, by omega, rfl, rfl⟩
  case round =>
    obtain ⟨j, hjg, rfl, rfl⟩ := hrel
    have hj0 : (0 : Int) ≤ (j : Int) := by omega
    cases gk with
    | zero =>
      obtain rfl : na = j := by omega
      have HFO := Lib.hid (followed_any A na ca f ch _ (HA.out.below HB1.out) hn2 hfn HRG.out)
      go_wp2_with fail
      refine HFO.out.mono ?_
      rintro r w2 ⟨i, t, A1, c1, A2, c2, rfl, hmt, htn, hi1, hi2, hb2⟩
      have hloop : ∀ s, s < t - i → 0 ≤ ((pathL ch f t).drop i).getD s 0 ∧ ((pathL ch f t).drop i).getD s 0 < na := fun s hs => by
        have e : ((pathL ch f t).drop i).getD s 0 = (ptP ch f (i + s) : Int) := by
          unfold pathL
          simp [List.getD_eq_getElem?_getD, List.getElem?_drop, show i + s < t by omega]
        rw [e]
        have hp : ∀ u, ptP ch f u < na := fun u => by
          induction u with
          | zero => exact hfn
          | succ u ih =>
            have := HRG.out _ ih
            show (ch.getD (ptP ch f u) 0).toNat < na
            omega
        have := hp (i + s)
        omega
      have HWI := Lib.hid (winner_any a p x A2 na c na d na e (t - i) c2 G _ w2 ((H0.out.below HB1.out).below hb2) hi2 hn2 (by omega) hloop (topP_bounds (fun v hv => by
        obtain ⟨s, hs, e⟩ := List.mem_iff_getElem.1 hv
        have hs2 : s < t - i := by simpa [pathL_len] using hs
        have := hloop s hs2
        rw [List.getD_eq_getElem?_getD, List.getElem?_eq_getElem hs] at this
        simp only [Option.getD_some] at this
        rw [e] at this
        exact HPR.out v this.1 this.2)))
      have HMT := Lib.hid hmt
      have HI1 := Lib.hid hi1
      have HI2 := Lib.hid hi2
      have HB2 := Lib.hid hb2
      have HZ1 := Lib.hid HB1.out.size
      have m0 := (hb2.cell (p := ⟨w.heap.size, 0, none⟩) (by have := HZ1.out; show w.heap.size < _; omega)).trans k0
      have m1 := (hb2.cell (p := ⟨w.heap.size, 1, none⟩) (by have := HZ1.out; show w.heap.size < _; omega)).trans k1
      have m2 := (hb2.cell (p := ⟨w.heap.size, 2, none⟩) (by have := HZ1.out; show w.heap.size < _; omega)).trans k2
      clear hmt hi1 hi2 hb2 hloop
      generalize ht : (topP G.P ((pathL ch f t).drop i)).tmod 2 = wn at *
      have HT := Lib.hid ht
      clear ht
      go_wp2_with fail
      refine HWI.out.mono ?_
      rintro r3 w3 ⟨rfl, hb3⟩
      have HB3 := Lib.hid hb3
      clear hb3
      go_wp2_with fail
      exact bodyPost_ret (v := .tuple #[.slice A1 i c1, .slice A2 (t - i) c2, .int .i64 wn, .int .i64 0]) (by simp [results, Try.results12, go_sem]) rfl ⟨i, t, A1, c1, A2, c2, by rw [HT.out], HMT.out, htn, HI1.out.below HB3.out, HI2.out.below HB3.out, HBW.out.trans ((HB1.out.mono HBW.out.size).trans ((HB2.out.mono (Nat.le_trans HBW.out.size HB1.out.size)).trans (HB3.out.mono (Nat.le_trans (Nat.le_trans HBW.out.size HB1.out.size) HB2.out.size))))⟩
    | succ g =>
      have hjl : j < na := by omega
      have hjl2 : (j : Int) < (na : Int) := by omega
      have HAX := Lib.hid (HA.out.below HB1.out)
      obtain ⟨bA, oA, rfl, _, hcA⟩ := HAX.out.2 (by omega)
      obtain ⟨bx, ox, rfl, _, hcx⟩ := (H0.out.below HB1.out).x.2 (by omega)
      have kc := hcA j hjl
      obtain ⟨bl, cl, kl, il⟩ := hcx j hjl
      have hlen := HLEN.out j
      have HCO := Lib.hid (contains_any bl (G.X.getD j []).length cl (G.X.getD j []) (ch.getD j 0) _ il (by omega))
      rw [HCH.out j hjl] at HCO
      clear hcA hcx il
      generalize ch.getD j 0 = u at *
      generalize (G.X.getD j []).length = ll at *
      go_wp2_with fail
      refine HCO.out.mono ?_
      rintro r5 w5 ⟨rfl, rfl⟩
      go_wp2_with fail
      go_roundg g
      case measure => omega
      case rel => exact ⟨j + 1, by omega, by go_num, rfl⟩

end Go.Proofs.Ytffdbncjndnnaaa.Wd
