/-
  Forced of the reference: the layers of an attractor.
-/
import Derived.Test.YtffdbncjndnnaaaGaForce
import Derived.Test.YtffdbncjndnnaaaGaRefTrade0
namespace Go.Proofs.Ytffdbncjndnnaaa.Wd
open Go.RowKit
set_option linter.unusedVariables false
set_option linter.unusedSimpArgs false

/-- The row while a layer is found: the positions below j have been looked at. -/
def midF (S S' : Nat → Int) (j v : Nat) : Int := if v < j then S' v else S v
theorem midF_next (S S' : Nat → Int) (j v : Nat) : midF S S' (j + 1) v = if v = j then S' j else midF S S' j v := by
  unfold midF
  by_cases e : v = j
  · subst e
    rw [if_pos (by omega), if_pos rfl]
  · rw [if_neg e]
    by_cases h : v < j
    · rw [if_pos (by omega), if_pos h]
    · rw [if_neg (by omega), if_neg h]
theorem midF_same (S S' : Nat → Int) {j : Nat} (h : S' j = S j) (v : Nat) : midF S S' (j + 1) v = midF S S' j v := by
  rw [midF_next]
  unfold midF
  by_cases e : v = j
  · subst e
    rw [if_pos rfl, if_neg (Nat.lt_irrefl _), h]
  · rw [if_neg e]
theorem midF_all (S S' : Nat → Int) {n v : Nat} (h : v < n) : midF S S' n v = S' v := if_pos h
theorem midF_zero (S S' : Nat → Int) (v : Nat) : midF S S' 0 v = S v := if_neg (Nat.not_lt_zero _)

theorem openN_le (n : Nat) (pl : Nat → Int) : openN n pl ≤ n := by
  have := List.length_filter_le (fun v => decide (pl v = -1)) (List.range n)
  rw [List.length_range] at this
  exact this

set_option maxRecDepth 100000 in
set_option maxHeartbeats 16000000 in
theorem forced_any (a p x A : Option Addr) (n c d e ca : Nat) (G : Gm) (q : Int) (T : Nat → Bool) (w : World) (h : GameIn w a n p n x n G) (hT : BoolsIn w A n T) (hv : gmB G = true) :
    Calls Try.prog 32 #[.agg #[.slice a n c, .slice p n d, .slice x n e], .int .i64 q, .slice A n ca] w fun r w' =>
      ∃ b k, r = .returned (.slice (some ⟨b, 0, none⟩) n n) ∧ w.heap.size ≤ b ∧ w'.rowIs b 3 n (fun i => .int .i64 (stepsF G q T k i)) ∧ Stab G q T n k ∧ k ≤ n ∧ Below w.heap.size w w' := by
  obtain ⟨hg1, hg2, hg3, hg4⟩ := gmB_true hv
  have hxl := h.x.1
  have hn0 : (0 : Int) ≤ (n : Int) := by omega
  have hn2 : n ≤ 20000 := by omega
  obtain ⟨W0, hW0⟩ : ∃ W0, w.alloc (.cells #[.slice a n c, .slice p n d, .slice x n e] 25) = W0 := ⟨_, rfl⟩
  have HBW := Lib.hid (show Below w.heap.size w W0 by rw [← hW0]; exact (Below.refl _ _).alloc (Nat.le_refl _) _)
  obtain ⟨q0, q1, q2⟩ := box_game w (.slice a n c) (.slice p n d) (.slice x n e) 25
  rw [hW0] at q0 q1 q2
  have hz0 : w.heap.size < W0.heap.size := by rw [← hW0]; simp
  have H0 := Lib.hid (h.below HBW.out)
  have HT := Lib.hid (hT.below HBW.out)
  have HLEN := Lib.hid (fun v => gmB_len hv v)
  have HSU := Lib.hid (fun v (hvn : v < n) => (succB_true (posB_true (hg4 v (by omega))).2.2.2).2.2)
  rw [show (G.X.length : Int) = (n : Int) by omega] at HSU
  obtain ⟨i0, hi, hi0, hi1, hi2⟩ := g_info_parts g_ints_info
  have hmk := run_make_row' (P := Try.prog) 22 3 (.int .i64 0) 8 Try.underlying22 g_ints_info rfl .i64 .i64 n (by omega) (by omega)
  clear h hT hv hg4 hg1 hg2 hg3 hxl
  go_enter Try.func32, Try.ntmps32
  go_wp2_with fail
  clear hW0
  obtain ⟨W1, hW1⟩ : ∃ W1, W0.alloc (.cells (madeCells #[.int .i64 0] n) 3) = W1 := ⟨_, rfl⟩
  have HN1 := Lib.hid (show W1.rowIs W0.heap.size 3 n (fun i => .int .i64 0) by rw [← hW1]; exact World.rowIs_made _ _ _ _)
  have HW1 := Lib.hid (show Below W0.heap.size W0 W1 by rw [← hW1]; exact (Below.refl _ _).alloc (Nat.le_refl _) _)
  rw [hW1]
  clear hW1 hmk
  obtain ⟨bn, hbn, HBN⟩ : ∃ bn, W0.heap.size = bn ∧ Hid (W0.heap.size = bn) := ⟨_, rfl, rfl⟩
  rw [hbn] at HN1 ⊢
  rw [hbn] at hz0
  clear hbn
  have HBB := Lib.hid (show Below bn W0 W1 by have := HW1.out; rw [HBN.out] at this; exact this)
  go_loopg [23] n (fun g i wx => ∃ j : Nat, j + g = n ∧ i = .int .i64 j ∧ Hid (wx.rowIs bn 3 n (fun i => .int .i64 (midF (fun _ => 0) (stepsF G q T 0) j i))) ∧ Hid (Below bn W0 wx))
  case atStart => exact ⟨0, by omega, rfl, HN1.out.congr (fun i _ => by rw [midF_zero]), HBB.out⟩
  case round =>
    obtain ⟨j, hjg, rfl, HR, HB⟩ := hrel
    have hj0 : (0 : Int) ≤ (j : Int) := by omega
    cases gk with
    | zero =>
      obtain rfl : n = j := by omega
      go_wp2_with fail
      have HR0 := Lib.hid (HR.out.congr (g := fun i => .int .i64 (stepsF G q T 0 i)) (fun i hi => by rw [midF_all _ _ hi]))
      obtain ⟨w1, rfl⟩ : ∃ w1, w1 = wr := ⟨_, rfl⟩
      go_loopg [9] (openN n (stepsF G q T 0)) (fun g s9 wx => ∃ k : Nat, g = openN n (stepsF G q T k) ∧ s9 = .int .i64 ((k : Int) + 1) ∧ k + openN n (stepsF G q T k) ≤ n ∧ Hid (wx.rowIs bn 3 n (fun i => .int .i64 (stepsF G q T k i))) ∧ Hid (Below bn W0 wx))
      case atStart => exact ⟨0, rfl, rfl, by have := openN_le n (stepsF G q T 0); omega, HR0.out, HB.out⟩
      case round =>
        obtain ⟨k, hg, rfl, hkc, HRK, HBK⟩ := hrel
        have hk0 : (0 : Int) ≤ (k : Int) := by omega
        have hkn : k ≤ n := by omega
        have hbl : bn < wr.heap.size := HRK.out.lt
        obtain ⟨xs, hxs⟩ : ∃ xs, (List.range n).map (stepsF G q T k) = xs := ⟨_, rfl⟩
        have HXS := Lib.hid (show ∀ i, i < n → xs.getD i 0 = stepsF G q T k i from fun i hi => by rw [← hxs]; simp [List.getD_eq_getElem?_getD, hi])
        have hxl : xs.length = n := by rw [← hxs]; simp
        have HIX := Lib.hid (Ints.of_row (xs := xs) (HRK.out.congr (fun i hi => by rw [HXS.out i hi])) hxl)
        clear hxs
        go_wp2_with (refine wpList_append_ints _ (by rfl) _ _ _ (by rfl) wr.heap.size 3 i0 _ Try.underlying22 hi hi0 hi1 hi2 rfl (.slice (some ⟨wr.heap.size, 0, none⟩) 0 0) 0 [] (by rfl) (by exact lit0' wr) (some ⟨bn, 0, none⟩) n n xs (by rfl) (by exact HIX.out.alloc _) (by omega) (by rw [World.size_alloc]; exact Nat.le_succ _) ?_; intro v' w4 hown hgrow hat; rw [Nat.zero_add, List.nil_append] at hown; obtain ⟨A7, c7, rfl, _⟩ := own_slice hown; have HBEL := Lib.hid (below_own (lit0' wr) hgrow (by rw [World.size_alloc]; exact Nat.le_succ _)); have HOWN := Lib.hid hown; clear hown hgrow hat)
        have HB4 := Lib.hid ((HBK.out.alloc (by omega) _).trans (HBEL.out.mono (by omega)))
        have HR4 := Lib.hid ((HRK.out.alloc (.cells #[] 3)).of_block (HBEL.out.block bn hbl))
        have HZW := Lib.hid (show bn < wr.heap.size from hbl)
        obtain ⟨bz, hbz, HBZ⟩ : ∃ bz, wr.heap.size = bz ∧ Hid (wr.heap.size = bz) := ⟨_, rfl, rfl⟩
        rw [hbz] at HOWN HZW
        clear hbz HBEL HRK HBK HIX hbl
        go_loopg [10, 44] n (fun g s10 i wx => ∃ (j : Nat) (more : Bool), j + g = n ∧ i = .int .i64 j ∧ s10 = .bool more ∧ Hid (wx.rowIs bn 3 n (fun i => .int .i64 (midF (stepsF G q T k) (stepsF G q T (k + 1)) j i))) ∧ Hid (Below bn W0 wx) ∧ Hid (wx.ownsRow bz 3 1 (.slice A7 n c7) n (xs.map (Value.int .i64))) ∧ Hid (more = true → ∃ u, u < n ∧ ¬ stepsF G q T (k + 1) u = stepsF G q T k u) ∧ Hid (more = false → ∀ u, u < j → stepsF G q T (k + 1) u = stepsF G q T k u))
        case atStart => exact ⟨0, false, by omega, rfl, rfl, HR4.out.congr (fun i _ => by rw [midF_zero]), HB4.out, HOWN.out, (fun h => by cases h), fun _ u hu => absurd hu (Nat.not_lt_zero _)⟩
        case round =>
          obtain ⟨j, more, hjg, rfl, rfl, HRJ, HBJ, HOJ, HM1, HM0⟩ := hrel
          have hj0 : (0 : Int) ≤ (j : Int) := by omega
          cases gk with
          | zero =>
            obtain rfl : n = j := by omega
            cases more
            · have HSB := Lib.hid (HM0.out rfl)
              have HRN := Lib.hid (HRJ.out.congr (g := fun i => .int .i64 (stepsF G q T k i)) (fun i hi => by rw [midF_all _ _ hi, HSB.out i hi]))
              go_wp2_with fail
              refine bodyPost_ret (v := .slice (some ⟨bn, 0, none⟩) n n) (by simp [results, Try.results32, go_sem]) rfl ?_
              exact ⟨bn, rfl, by omega, k, HRN.out, HSB.out, hkn, HBW.out.trans (HBJ.out.mono (by omega))⟩
            · obtain ⟨u, hu, hne⟩ := HM1.out rfl
              have hop := open_layer (G := G) (q := q) (T := T) hu hne
              have HRN := Lib.hid (HRJ.out.congr (g := fun i => .int .i64 (stepsF G q T (k + 1) i)) (fun i hi => by rw [midF_all _ _ hi]))
              clear hne
              go_wp2_with fail
              go_roundg (openN n (stepsF G q T (k + 1)))
              case measure => omega
              case rel => exact ⟨k + 1, rfl, by go_num, by omega, HRN.out, HBJ.out⟩
          | succ g =>
            have hjl : j < n := by omega
            have hjl2 : (j : Int) < (n : Int) := by omega
            have k0 := (HBJ.out.cell (p := ⟨w.heap.size, 0, none⟩) hz0).trans q0
            have k2 := (HBJ.out.cell (p := ⟨w.heap.size, 2, none⟩) hz0).trans q2
            have HI7 := Lib.hid (Ints.of_own HOJ.out)
            obtain ⟨b7, o7, rfl, _, hc7⟩ := HI7.out.2 (by omega)
            have HC7 := Lib.hid (fun i (hi : i < n) => (hc7 i hi).trans (by rw [HXS.out i hi]))
            clear hc7
            have kw := HC7.out j hjl
            have HKE := Lib.hid (fun h => stepsF_keep (G := G) (q := q) (T := T) (k := k) (v := j) h)
            by_cases hs : 0 ≤ stepsF G q T k j
            · have HE := Lib.hid (HKE.out hs)
              generalize hsv : stepsF G q T k j = sv at kw hs
              clear hsv
              go_wp2_with fail
              go_roundg g
              case measure => omega
              case rel =>
                refine ⟨j + 1, more, by omega, by go_num, rfl, HRJ.out.congr (fun i _ => by rw [midF_same _ _ HE.out]), HBJ.out, HOJ.out, HM1.out, fun h u hu => ?_⟩
                by_cases e : u = j
                · rw [e]
                  exact HE.out
                · exact HM0.out h u (by omega)
            · have HGO := Lib.hid (fun h => stepsF_got (G := G) (q := q) (T := T) (k := k) (v := j) hs h)
              have HNO := Lib.hid (fun h => stepsF_not (G := G) (q := q) (T := T) (k := k) (v := j) hs h)
              have HRD := Lib.hid (show rdyB G q (stepsF G q T k) j = if G.O.getD j 0 = q then anyF (stepsF G q T k) (G.X.getD j []) else allF (stepsF G q T k) (G.X.getD j []) from rfl)
              have HDF := Lib.hid (show ¬ stepsF G q T k j = ((k + 1 : Nat) : Int) by omega)
              have HW0 := Lib.hid (show Below W0.heap.size W0 wr by rw [HBN.out]; exact HBJ.out)
              obtain ⟨bo, oo, rfl, _, hco⟩ := (H0.out.below HW0.out).o.2 (by omega)
              obtain ⟨bx, ox, rfl, _, hcx⟩ := (H0.out.below HW0.out).x.2 (by omega)
              have ko := hco j hjl
              obtain ⟨bl, cl, kl, il⟩ := hcx j hjl
              have HLS := Lib.hid (fun i hi => HSU.out j hjl i hi)
              have hll := HLEN.out j
              have HIL := Lib.hid il
              clear hco hcx il
              generalize hsv : stepsF G q T k j = sv at kw hs
              clear hsv
              generalize hl : G.X.getD j [] = l at *
              clear hl
              obtain ⟨ll, hlen⟩ : ∃ ll, l.length = ll := ⟨_, rfl⟩
              have HLN := Lib.hid hlen
              rw [hlen] at kl HIL HLS hll
              clear hlen
              generalize G.O.getD j 0 = oj at *
              have hll0 : (0 : Int) ≤ (ll : Int) := by omega
              go_wp2_with fail
              obtain ⟨w5, rfl⟩ : ∃ w5, w5 = wr := ⟨_, rfl⟩
              go_loopg [13, 14, 58] ll (fun g s13 s14 i wx => ∃ t : Nat, t + g = ll ∧ i = .int .i64 t ∧ s13 = .bool (anyF (stepsF G q T k) (l.take t)) ∧ s14 = .bool (allF (stepsF G q T k) (l.take t)) ∧ wx = w5)
              case atStart => exact ⟨0, by omega, rfl, rfl, rfl, rfl⟩
              case round =>
                obtain ⟨t, htg, rfl, rfl, rfl, rfl⟩ := hrel
                have ht0 : (0 : Int) ≤ (t : Int) := by omega
                rename World => w5
                cases gk with
                | zero =>
                  obtain rfl : ll = t := by omega
                  have HT := Lib.hid (show l.take ll = l from List.take_of_length_le (by have := HLN.out; omega))
                  rw [HT.out]
                  generalize anyF (stepsF G q T k) l = so at *
                  generalize allF (stepsF G q T k) l = al at *
                  have kp := HRJ.out.cell hjl
                  have fp := HRJ.out.frozen j
                  have HSJ := Lib.hid (fun u => HRJ.out.set j u)
                  by_cases ho : oj = q
                  · rw [if_pos ho] at HRD
                    subst ho
                    cases so
                    · have HE := Lib.hid (HNO.out HRD.out)
                      go_wp2_with fail
                      go_roundg g
                      case measure => omega
                      case rel =>
                        refine ⟨j + 1, more, by omega, by go_num, rfl, HRJ.out.congr (fun i _ => by rw [midF_same _ _ HE.out]), HBJ.out, HOJ.out, HM1.out, fun h u hu => ?_⟩
                        by_cases e : u = j
                        · rw [e]
                          exact HE.out
                        · exact HM0.out h u (by omega)
                    · have HE := Lib.hid (HGO.out HRD.out)
                      go_wp2_with fail
                      go_roundg g
                      case measure => omega
                      case rel =>
                        refine ⟨j + 1, true, by omega, by go_num, rfl, (HSJ.out _).congr (fun i _ => ?_), HBJ.out.setCell (by show bn ≤ bn; omega) _, own_put' HOJ.out (by
                          intro e
                          have h1 := (HOJ.out.lt bn e).1
                          have h2 := HZW.out
                          omega) _, (fun _ => ⟨j, hjl, fun e => HDF.out (e.symm.trans HE.out)⟩), fun h => by cases h⟩
                        rw [midF_next]
                        by_cases e : i = j
                        · rw [if_pos e, if_pos e, HE.out]
                          go_num
                        · rw [if_neg e, if_neg e]
                  · rw [if_neg ho] at HRD
                    have ho2 : (oj == q) = false := beq_false_of_ne ho
                    have ho3 : (oj != q) = true := by simp [ho]
                    cases al
                    · have HE := Lib.hid (HNO.out HRD.out)
                      go_wp2_with fail
                      go_roundg g
                      case measure => omega
                      case rel =>
                        refine ⟨j + 1, more, by omega, by go_num, rfl, HRJ.out.congr (fun i _ => by rw [midF_same _ _ HE.out]), HBJ.out, HOJ.out, HM1.out, fun h u hu => ?_⟩
                        by_cases e : u = j
                        · rw [e]
                          exact HE.out
                        · exact HM0.out h u (by omega)
                    · have HE := Lib.hid (HGO.out HRD.out)
                      go_wp2_with fail
                      go_roundg g
                      case measure => omega
                      case rel =>
                        refine ⟨j + 1, true, by omega, by go_num, rfl, (HSJ.out _).congr (fun i _ => ?_), HBJ.out.setCell (by show bn ≤ bn; omega) _, own_put' HOJ.out (by
                          intro e
                          have h1 := (HOJ.out.lt bn e).1
                          have h2 := HZW.out
                          omega) _, (fun _ => ⟨j, hjl, fun e => HDF.out (e.symm.trans HE.out)⟩), fun h => by cases h⟩
                        rw [midF_next]
                        by_cases e : i = j
                        · rw [if_pos e, if_pos e, HE.out]
                          go_num
                        · rw [if_neg e, if_neg e]
                | succ g4 =>
                  have htl : t < ll := by omega
                  have htl2 : (t : Int) < (ll : Int) := by omega
                  obtain ⟨bL, oL, rfl, _, hcL⟩ := HIL.out.2 (by omega)
                  have kc := hcL t htl
                  obtain ⟨hy0, hy1⟩ := HLS.out t htl
                  have HNA := Lib.hid (anyF_next (stepsF G q T k) l (j := t) (by have := HLN.out; omega))
                  have HNL := Lib.hid (allF_next (stepsF G q T k) l (j := t) (by have := HLN.out; omega))
                  obtain ⟨y, hy⟩ : ∃ y : Nat, l.getD t 0 = (y : Int) := ⟨(l.getD t 0).toNat, by omega⟩
                  rw [hy] at kc hy0 hy1 HNA HNL
                  rw [Int.toNat_natCast] at HNA HNL
                  have hyn : y < n := by omega
                  have kz := HC7.out y hyn
                  clear hcL hy
                  generalize anyF (stepsF G q T k) (l.take t) = so at *
                  generalize allF (stepsF G q T k) (l.take t) = al at *
                  generalize stepsF G q T k y = sy at *
                  cases so <;> cases al <;> by_cases hsy : 0 ≤ sy
                  all_goals
                    go_wp2_with fail
                    go_roundg g4
                    case measure => omega
                    case rel => exact ⟨t + 1, by omega, by go_num, by rw [HNA.out]; simp [hsy], by rw [HNL.out]; simp [hsy], rfl⟩
    | succ g =>
      have hjl : j < n := by omega
      have hjl2 : (j : Int) < (n : Int) := by omega
      have kp := HR.out.cell hjl
      have fp := HR.out.frozen j
      have hbl : bn < wr.heap.size := HR.out.lt
      obtain ⟨bA, oA, rfl, hbA, hcA⟩ := HT.out (by omega)
      have HST := Lib.hid (fun u => HR.out.set j u)
      have kt : ∀ u, (wr.setCell ⟨bn, j, none⟩ u).cell? ⟨bA, oA + j, none⟩ = some (.bool (T j)) := fun u => (Below.cell (p := ⟨bA, oA + j, none⟩) (HB.out.setCell (by show bn ≤ bn; omega) u) (by have := HBN.out; show bA < bn; omega)).trans (hcA j hjl)
      clear hcA
      cases hTj : T j
      · rw [hTj] at kt
        go_wp2_with fail
        go_roundg g
        case measure => omega
        case rel =>
          refine ⟨j + 1, by omega, by go_num, (HST.out _).congr (fun i _ => ?_), HB.out.setCell (by show bn ≤ bn; omega) _⟩
          rw [midF_next]
          by_cases e : i = j
          · rw [if_pos e, if_pos e, show stepsF G q T 0 j = -1 by unfold stepsF; rw [hTj]; rfl]
          · rw [if_neg e, if_neg e]
      · rw [hTj] at kt
        have kp2 : ∀ u, (wr.setCell ⟨bn, j, none⟩ u).cell? ⟨bn, j, none⟩ = some u := fun u => by have := (HST.out u).cell hjl; rw [if_pos rfl] at this; exact this
        have fp2 := fun u => (HST.out u).frozen j
        have HS2 := Lib.hid (fun u u' => (HST.out u).set j u')
        go_wp2_with fail
        go_roundg g
        case measure => omega
        case rel =>
          refine ⟨j + 1, by omega, by go_num, (HS2.out _ _).congr (fun i _ => ?_), (HB.out.setCell (by show bn ≤ bn; omega) _).setCell (by show bn ≤ bn; omega) _⟩
          rw [midF_next]
          by_cases e : i = j
          · rw [if_pos e, if_pos e, show stepsF G q T 0 j = 0 by unfold stepsF; rw [hTj]; rfl]
          · rw [if_neg e, if_neg e, if_neg e]

end Go.Proofs.Ytffdbncjndnnaaa.Wd
