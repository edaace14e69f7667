/-
  Attract of the reference, where its arguments are valid.
-/
import Derived.Test.YtffdbncjndnnaaaGaRefForced
namespace Go.Proofs.Ytffdbncjndnnaaa.Wd
open Go.RowKit
set_option linter.unusedVariables false
set_option linter.unusedSimpArgs false

/-- The first of the positions that is found one move before. -/
def firstF (S : Nat → Int) (s : Int) (l : List Int) : Int := l.foldl (fun c y => if c < 0 ∧ S y.toNat = s - 1 then y else c) (-1)
theorem firstF_next (S : Nat → Int) (s : Int) (l : List Int) {t : Nat} (h : t < l.length) : firstF S s (l.take (t + 1)) = if firstF S s (l.take t) < 0 ∧ S (l.getD t 0).toNat = s - 1 then l.getD t 0 else firstF S s (l.take t) := by
  have e : l.take (t + 1) = l.take t ++ [l.getD t 0] := by
    rw [List.take_succ_eq_append_getElem h]
    simp [List.getD_eq_getElem?_getD, List.getElem?_eq_getElem h]
  unfold firstF
  rw [e, List.foldl_append]
  rfl
/-- The choice at a position. -/
def chF (G : Gm) (q : Int) (S : Nat → Int) (v : Nat) : Int := if 0 < S v ∧ G.O.getD v 0 = q then firstF S (S v) (G.X.getD v []) else -1

set_option maxRecDepth 100000 in
set_option maxHeartbeats 16000000 in
theorem refAttract_good (a p x A : Option Addr) (n c d e ca : Nat) (G : Gm) (q : Int) (T : Nat → Bool) (w : World) (h : GameIn w a n p n x n G) (hT : BoolsIn w A n T) (hv : gmB G = true) (hq : plB q = true) :
    Calls Try.prog 11 #[.agg #[.slice a n c, .slice p n d, .slice x n e], .int .i64 q, .slice A n ca] w fun r w' =>
      ∃ A1 c1 A2 c2 k, r = .returned (.tuple #[.slice A1 n c1, .slice A2 n c2, .int .i64 0]) ∧ Stab G q T n k ∧ Ints w' A1 n ((List.range n).map (stepsF G q T k)) ∧ Ints w' A2 n ((List.range n).map (chF G q (stepsF G q T k))) ∧ Below w.heap.size w w' := by
  obtain ⟨hg1, hg2, hg3, hg4⟩ := gmB_true hv
  have hxl := h.x.1
  have hn0 : (0 : Int) ≤ (n : Int) := by omega
  have hn2 : n ≤ 20000 := by omega
  have hnn : ((n : Int) != (n : Int)) = false := by simp
  obtain ⟨W0, hW0⟩ : ∃ W0, w.alloc (.cells #[.slice a n c, .slice p n d, .slice x n e] 25) = W0 := ⟨_, rfl⟩
  have HBW := Lib.hid (show Below w.heap.size w W0 by rw [← hW0]; exact (Below.refl _ _).alloc (Nat.le_refl _) _)
  have HV := Lib.hid (refValidG_any a p x n c n d n e G W0 (h.below HBW.out) (by omega) (by omega) (fun v => by have := gmB_len hv v; omega))
  rw [hv] at HV
  obtain ⟨q0, q1, q2⟩ := box_game w (.slice a n c) (.slice p n d) (.slice x n e) 25
  rw [hW0] at q0 q1 q2
  have hz0 : w.heap.size < W0.heap.size := by rw [← hW0]; simp
  have H0 := Lib.hid (h.below HBW.out)
  have HFO := Lib.hid (fun W (hW : Below W0.heap.size W0 W) => forced_any a p x A n c d e ca G q T W ((h.below HBW.out).below hW) ((hT.below HBW.out).below hW) hv)
  have HLEN := Lib.hid (fun v => gmB_len hv v)
  have HSU := Lib.hid (fun v (hvn : v < n) => (succB_true (posB_true (hg4 v (by omega))).2.2.2).2.2)
  rw [show (G.X.length : Int) = (n : Int) by omega] at HSU
  have hqq : q = 0 ∨ q = 1 := by
    unfold plB at hq
    simpa using hq
  obtain ⟨i0, hi, hi0, hi1, hi2⟩ := g_info_parts g_ints_info
  clear h hT hv hq hg4 hg1 hg2 hg3 hxl
  have hq1 : (q != 0) = false ∨ ((q != 0) = true ∧ (q != 1) = false) := by
    rcases hqq with rfl | rfl
    · exact .inl rfl
    · exact .inr ⟨rfl, rfl⟩
  clear hqq
  rcases hq1 with hqa | ⟨hqa, hqb⟩
  all_goals
    go_enter Try.func11, Try.ntmps11
    go_wp2_with fail
    clear hW0
    refine HV.out.mono ?_
    rintro r w1 ⟨rfl, hb1⟩
    have HB1 := Lib.hid hb1
    have k0 := (hb1.cell (p := ⟨w.heap.size, 0, none⟩) hz0).trans q0
    have k1 := (hb1.cell (p := ⟨w.heap.size, 1, none⟩) hz0).trans q1
    have k2 := (hb1.cell (p := ⟨w.heap.size, 2, none⟩) hz0).trans q2
    clear hb1 q0 q1 q2
    go_wp2_with fail
    refine (HFO.out _ HB1.out).mono ?_
    rintro r w2 ⟨bn, k, rfl, hbn, hrow, hst, hkn, hb2⟩
    have HB2 := Lib.hid (HB1.out.trans (hb2.mono HB1.out.size))
    have m0 := (hb2.cell (p := ⟨w.heap.size, 0, none⟩) (by have := HB1.out.size; show w.heap.size < _; omega)).trans k0
    have m2 := (hb2.cell (p := ⟨w.heap.size, 2, none⟩) (by have := HB1.out.size; show w.heap.size < _; omega)).trans k2
    have hzw : w.heap.size < w2.heap.size := by have := HB2.out.size; omega
    have HST := Lib.hid hst
    have HLO := Lib.hid (stepsF_low G q T k)
    have HR2 := Lib.hid hrow
    have HBL := Lib.hid hrow.lt
    clear hb2 hst hrow k0 k1 k2 hbn
    generalize hS : stepsF G q T k = S at *
    have HS := Lib.hid hS
    clear hS
    go_wp2_with fail
    obtain ⟨B, hB, HB⟩ : ∃ B, w2.heap.size = B ∧ Hid (w2.heap.size = B) := ⟨_, rfl, rfl⟩
    rw [hB] at HBL hzw
    clear hB
    go_loopg [7, 38] n (fun g s7 i wx => ∃ j : Nat, j + g = n ∧ i = .int .i64 j ∧ (∃ A7 c7, s7 = .slice A7 j c7 ∧ Hid (wx.ownsRow B 3 1 (.slice A7 j c7) j (((List.range j).map (chF G q S)).map (Value.int .i64)))) ∧ Hid (Below B w2 wx))
    case atStart => exact ⟨0, by omega, rfl, ⟨none, 0, rfl, World.ownsRow_nil _ _ _ _⟩, Below.refl _ _⟩
    case round =>
      obtain ⟨j, hjg, rfl, ⟨A7, c7, rfl, HO7⟩, HBX⟩ := hrel
      have hj0 : (0 : Int) ≤ (j : Int) := by omega
      cases gk with
      | zero =>
        obtain rfl : n = j := by omega
        have HJ1 := Lib.hid (Ints.of_row (xs := (List.range n).map S) ((HR2.out.of_block (HBX.out.block bn (by have := HBL.out; omega))).congr (fun i hi => by simp [List.getD_eq_getElem?_getD, hi])) (by simp))
        have HJ2 := Lib.hid (Ints.of_own HO7.out)
        go_wp2_with fail
        refine bodyPost_ret (v := .tuple #[.slice (some ⟨bn, 0, none⟩) n n, .slice A7 n c7, .int .i64 0]) (by simp [results, Try.results11, go_sem]) rfl ?_
        exact ⟨some ⟨bn, 0, none⟩, n, A7, c7, k, rfl, HST.out, by rw [HS.out]; exact HJ1.out, by rw [HS.out]; exact HJ2.out, HBW.out.trans ((HB2.out.trans (HBX.out.mono (by have := HB2.out.size; have := HB.out; omega))).mono HBW.out.size)⟩
      | succ g =>
        have hjl : j < n := by omega
        have hjl2 : (j : Int) < (n : Int) := by omega
        have hBw : B ≤ wr.heap.size := by have := HBX.out.size; have := HB.out; omega
        have n0 := (HBX.out.cell (p := ⟨w.heap.size, 0, none⟩) (by show w.heap.size < _; omega)).trans m0
        have n2 := (HBX.out.cell (p := ⟨w.heap.size, 2, none⟩) (by show w.heap.size < _; omega)).trans m2
        have HRX := Lib.hid (HR2.out.of_block (HBX.out.block bn (by have := HBL.out; omega)))
        have kp := HRX.out.cell hjl
        have HWX := Lib.hid (HB2.out.trans (HBX.out.mono (by have := HB2.out.size; have := HB.out; omega)))
        obtain ⟨bo, oo, rfl, _, hco⟩ := (H0.out.below HWX.out).o.2 (by omega)
        have ko := hco j hjl
        have hsl := HLO.out j
        have HCD := Lib.hid (show chF G q S j = if 0 < S j ∧ G.O.getD j 0 = q then firstF S (S j) (G.X.getD j []) else -1 from rfl)
        clear hco
        generalize hsv : S j = sv at *
        clear hsv
        generalize G.O.getD j 0 = oj at *
        by_cases hs : 0 < sv
        · by_cases ho : oj = q
          · have ho2 : (oj == q) = true := by simp [ho]
            rw [if_pos ⟨hs, ho⟩] at HCD
            obtain ⟨bx, ox, rfl, _, hcx⟩ := (H0.out.below HWX.out).x.2 (by omega)
            obtain ⟨bl, cl, kl, il⟩ := hcx j hjl
            have HLS := Lib.hid (fun i hi => HSU.out j hjl i hi)
            have hll := HLEN.out j
            have HIL := Lib.hid il
            clear hcx il
            generalize hl : G.X.getD j [] = l at *
            clear hl
            obtain ⟨ll, hlen⟩ : ∃ ll, l.length = ll := ⟨_, rfl⟩
            have HLN := Lib.hid hlen
            rw [hlen] at kl HIL HLS hll
            clear hlen
            have hll0 : (0 : Int) ≤ (ll : Int) := by omega
            go_wp2_with fail
            obtain ⟨w5, rfl⟩ : ∃ w5, w5 = wr := ⟨_, rfl⟩
            go_loopg [11, 60] ll (fun g s11 i wx => ∃ t : Nat, t + g = ll ∧ i = .int .i64 t ∧ s11 = .int .i64 (firstF S sv (l.take t)) ∧ wx = w5)
            case atStart => exact ⟨0, by omega, rfl, rfl, rfl⟩
            case round =>
              obtain ⟨t, htg, rfl, rfl, rfl⟩ := hrel
              have ht0 : (0 : Int) ≤ (t : Int) := by omega
              cases gk with
              | zero =>
                obtain rfl : ll = t := by omega
                have HT := Lib.hid (show l.take ll = l from List.take_of_length_le (by have := HLN.out; omega))
                rw [HT.out]
                have HCH := HCD
                generalize firstF S sv l = fc at *
                go_wp2_with (refine wpList_append_ints _ (by rfl) _ _ _ (by rfl) B 3 i0 _ Try.underlying22 hi hi0 hi1 hi2 rfl (.slice A7 j c7) j (((List.range j).map (chF G q S)).map (Value.int .i64)) (by rfl) (by exact HO7.out.alloc _) (some ⟨wr.heap.size, 0, none⟩) 1 1 [fc] (by rfl) (int_new' _ rfl _ _) (by omega) (by rw [World.size_alloc]; omega) ?_; intro v' w4 hown hgrow hat; obtain ⟨A8, c8, rfl, _⟩ := own_slice hown; have HBEL := Lib.hid (below_own (HO7.out.alloc _) hgrow (by rw [World.size_alloc]; omega)); have HOWN := Lib.hid hown; clear hown hgrow hat)
                go_roundg g
                case measure => omega
                case rel =>
                  refine ⟨j + 1, by omega, by go_num, ⟨A8, c8, rfl, ?_⟩, (HBX.out.alloc hBw _).trans HBEL.out⟩
                  rw [List.range_succ, List.map_append, List.map_append, List.map_singleton, HCH.out]
                  exact HOWN.out
              | succ g4 =>
                have htl : t < ll := by omega
                have htl2 : (t : Int) < (ll : Int) := by omega
                obtain ⟨bL, oL, rfl, _, hcL⟩ := HIL.out.2 (by omega)
                have kc := hcL t htl
                obtain ⟨hy0, hy1⟩ := HLS.out t htl
                have HNF := Lib.hid (firstF_next S sv l (t := t) (by have := HLN.out; omega))
                obtain ⟨y, hy⟩ : ∃ y : Nat, l.getD t 0 = (y : Int) := ⟨(l.getD t 0).toNat, by omega⟩
                rw [hy] at kc hy0 hy1 HNF
                rw [Int.toNat_natCast] at HNF
                have hyn : y < n := by omega
                have kz := HRX.out.cell hyn
                have hsy := HLO.out y
                clear hcL hy
                generalize firstF S sv (l.take t) = fc at *
                generalize S y = sy at *
                by_cases hfc : fc < 0
                · by_cases hse : sy = sv - 1
                  · rw [if_pos ⟨hfc, hse⟩] at HNF
                    have hse2 : (sy == sv - 1) = true := by simp [hse]
                    go_wp2_with fail
                    go_roundg g4
                    case measure => omega
                    case rel => exact ⟨t + 1, by omega, by go_num, by rw [HNF.out], rfl⟩
                  · rw [if_neg (fun h => hse h.2)] at HNF
                    have hse2 : (sy == sv - 1) = false := beq_false_of_ne hse
                    go_wp2_with fail
                    go_roundg g4
                    case measure => omega
                    case rel => exact ⟨t + 1, by omega, by go_num, by rw [HNF.out], rfl⟩
                · rw [if_neg (fun h => hfc h.1)] at HNF
                  go_wp2_with fail
                  go_roundg g4
                  case measure => omega
                  case rel => exact ⟨t + 1, by omega, by go_num, by rw [HNF.out], rfl⟩
          · have ho2 : (oj == q) = false := beq_false_of_ne ho
            rw [if_neg (fun h => ho h.2)] at HCD
            have HCH := HCD
            go_wp2_with (refine wpList_append_ints _ (by rfl) _ _ _ (by rfl) B 3 i0 _ Try.underlying22 hi hi0 hi1 hi2 rfl (.slice A7 j c7) j (((List.range j).map (chF G q S)).map (Value.int .i64)) (by rfl) (by exact HO7.out.alloc _) (some ⟨wr.heap.size, 0, none⟩) 1 1 [-1] (by rfl) (int_new' _ rfl _ _) (by omega) (by rw [World.size_alloc]; omega) ?_; intro v' w4 hown hgrow hat; obtain ⟨A8, c8, rfl, _⟩ := own_slice hown; have HBEL := Lib.hid (below_own (HO7.out.alloc _) hgrow (by rw [World.size_alloc]; omega)); have HOWN := Lib.hid hown; clear hown hgrow hat)
            go_roundg g
            case measure => omega
            case rel =>
              refine ⟨j + 1, by omega, by go_num, ⟨A8, c8, rfl, ?_⟩, (HBX.out.alloc hBw _).trans HBEL.out⟩
              rw [List.range_succ, List.map_append, List.map_append, List.map_singleton, HCH.out]
              exact HOWN.out
        · rw [if_neg (fun h => hs h.1)] at HCD
          have HCH := HCD
          go_wp2_with (refine wpList_append_ints _ (by rfl) _ _ _ (by rfl) B 3 i0 _ Try.underlying22 hi hi0 hi1 hi2 rfl (.slice A7 j c7) j (((List.range j).map (chF G q S)).map (Value.int .i64)) (by rfl) (by exact HO7.out.alloc _) (some ⟨wr.heap.size, 0, none⟩) 1 1 [-1] (by rfl) (int_new' _ rfl _ _) (by omega) (by rw [World.size_alloc]; omega) ?_; intro v' w4 hown hgrow hat; obtain ⟨A8, c8, rfl, _⟩ := own_slice hown; have HBEL := Lib.hid (below_own (HO7.out.alloc _) hgrow (by rw [World.size_alloc]; omega)); have HOWN := Lib.hid hown; clear hown hgrow hat)
          go_roundg g
          case measure => omega
          case rel =>
            refine ⟨j + 1, by omega, by go_num, ⟨A8, c8, rfl, ?_⟩, (HBX.out.alloc hBw _).trans HBEL.out⟩
            rw [List.range_succ, List.map_append, List.map_append, List.map_singleton, HCH.out]
            exact HOWN.out

end Go.Proofs.Ytffdbncjndnnaaa.Wd
