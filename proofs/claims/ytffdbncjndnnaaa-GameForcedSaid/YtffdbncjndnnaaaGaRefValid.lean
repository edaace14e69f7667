/-
  Valid of the reference of package game.
-/
import Derived.Test.YtffdbncjndnnaaaGaValid
namespace Go.Proofs.Ytffdbncjndnnaaa.Wd
open Go.RowKit
set_option linter.unusedVariables false

theorem stepB_ref {n : Int} {l : List Int} {j : Nat} : stepB n l j = !(decide (l.getD j 0 < 0) || decide (n ≤ l.getD j 0) || (decide (0 < j) && decide (l.getD j 0 ≤ l.getD (j - 1) 0))) := by
  unfold stepB
  by_cases h1 : l.getD j 0 < 0
  · rw [decide_eq_true h1, decide_eq_false (show ¬ 0 ≤ l.getD j 0 by omega)]; simp
  rw [decide_eq_false h1, decide_eq_true (show 0 ≤ l.getD j 0 by omega)]
  by_cases h2 : n ≤ l.getD j 0
  · rw [decide_eq_true h2, decide_eq_false (show ¬ l.getD j 0 < n by omega)]; simp
  rw [decide_eq_false h2, decide_eq_true (show l.getD j 0 < n by omega)]
  by_cases h3 : j = 0
  · rw [decide_eq_true h3, decide_eq_false (show ¬ 0 < j by omega)]; simp
  rw [decide_eq_false h3, decide_eq_true (show 0 < j by omega)]
  by_cases h4 : l.getD (j - 1) 0 < l.getD j 0
  · rw [decide_eq_true h4, decide_eq_false (show ¬ l.getD j 0 ≤ l.getD (j - 1) 0 by omega)]; rfl
  · rw [decide_eq_false h4, decide_eq_true (show l.getD j 0 ≤ l.getD (j - 1) 0 by omega)]; rfl

set_option maxRecDepth 100000 in
set_option maxHeartbeats 8000000 in
theorem refValidG_any (a p x : Option Addr) (n c m d k e : Nat) (G : Gm) (w : World) (h : GameIn w a n p m x k G) (hn : n ≤ 17592186044416) (hk : k ≤ 17592186044416) (hl : ∀ v, (G.X.getD v []).length ≤ 17592186044416) :
    Calls Try.prog 15 #[.agg #[.slice a n c, .slice p m d, .slice x k e]] w fun r w' => r = .returned (.bool (gmB G)) ∧ Below w.heap.size w w' := by
  have ho := h.o.1
  have hp := h.p.1
  have hx := h.x.1
  have hk0 : (0 : Int) ≤ (k : Int) := by omega
  by_cases h1 : 20000 < n
  · have HR := Lib.hid (show gmB G = false by
      unfold gmB
      by_cases e : G.X.length ≤ 20000
      · rw [decide_eq_false (show ¬ G.O.length = G.X.length by omega)]; simp
      · rw [decide_eq_false e]; rfl)
    have h1' : (20000 : Int) < (n : Int) := by omega
    go_enter Try.func15, Try.ntmps15
    go_wp2_with fail
    go_ret
    exact ⟨ret_bool HR.out.symm, (Below.refl _ _).alloc (Nat.le_refl _) _⟩
  have h1' : ¬ (20000 : Int) < (n : Int) := by omega
  by_cases h2 : ¬ m = n
  · have HR := Lib.hid (show gmB G = false by
      unfold gmB
      by_cases e : G.O.length = G.X.length
      · rw [decide_eq_false (show ¬ G.P.length = G.X.length by omega)]; simp
      · rw [decide_eq_false e]; simp)
    have h2' : ((m : Int) != (n : Int)) = true := by simp; omega
    go_enter Try.func15, Try.ntmps15
    go_wp2_with fail
    go_ret
    exact ⟨ret_bool HR.out.symm, (Below.refl _ _).alloc (Nat.le_refl _) _⟩
  by_cases h3 : ¬ k = n
  · have HR := Lib.hid (show gmB G = false by unfold gmB; rw [decide_eq_false (show ¬ G.O.length = G.X.length by omega)]; simp)
    have h2' : ((m : Int) != (n : Int)) = false := by simp; omega
    have h3' : ((k : Int) != (n : Int)) = true := by simp; omega
    go_enter Try.func15, Try.ntmps15
    go_wp2_with fail
    go_ret
    exact ⟨ret_bool HR.out.symm, (Below.refl _ _).alloc (Nat.le_refl _) _⟩
  obtain rfl : n = k := by omega
  obtain rfl : m = n := by omega
  have h2' : ((m : Int) != (m : Int)) = false := by simp
  have HS := Lib.hid (show gmB G = allB m (posB G) by unfold gmB; rw [decide_eq_true (show G.X.length ≤ 20000 by omega), decide_eq_true (show G.O.length = G.X.length by omega), decide_eq_true (show G.P.length = G.X.length by omega), hx]; rfl)
  have HXL := Lib.hid hx
  have HLEN := Lib.hid hl
  generalize gmB G = R at *
  have HG := Lib.hid h
  clear h hl
  go_enter Try.func15, Try.ntmps15
  go_wp2_with fail
  obtain ⟨W0, hW0⟩ : ∃ W0, w.alloc (.cells #[.slice a m c, .slice p m d, .slice x m e] 25) = W0 := ⟨_, rfl⟩
  have HBW := Lib.hid (show Below w.heap.size w W0 by rw [← hW0]; exact (Below.refl _ _).alloc (Nat.le_refl _) _)
  obtain ⟨q0, q1, q2⟩ := box_game w (.slice a m c) (.slice p m d) (.slice x m e) 25
  rw [hW0] at q0 q1 q2 ⊢
  clear hW0
  go_loopg [27] m (fun g i wx => ∃ j : Nat, j + g = m ∧ i = .int .i64 j ∧ wx = W0 ∧ Hid (∀ i, i < j → posB G i = true))
  case atStart => exact ⟨0, by omega, rfl, rfl, fun i hi => by omega⟩
  case round =>
    obtain ⟨j, hjg, rfl, rfl, HI⟩ := hrel
    have hj0 : (0 : Int) ≤ (j : Int) := by omega
    cases gk with
    | zero =>
      obtain rfl : m = j := by omega
      have HF := Lib.hid (HS.out.trans (allB_good HI.out))
      go_wp2_with fail
      go_ret
      exact ⟨ret_bool HF.out.symm, HBW.out⟩
    | succ g =>
      have hjl : j < m := by omega
      have hjl2 : (j : Int) < (m : Int) := by omega
      have HGW := Lib.hid (HG.out.below HBW.out)
      obtain ⟨bo, oo, rfl, hbo, hco⟩ := HGW.out.o.2 (by omega)
      obtain ⟨bp, op, rfl, hbp, hcp⟩ := HGW.out.p.2 (by omega)
      obtain ⟨bx, ox, rfl, hbx, hcx⟩ := HGW.out.x.2 (by omega)
      have ko := hco j hjl
      have kp := hcp j hjl
      obtain ⟨bl, cl, kl, il⟩ := hcx j hjl
      have hlen := HLEN.out j
      have HPO := Lib.hid (show posB G j = (plB (G.O.getD j 0) && decide (0 ≤ G.P.getD j 0) && decide (G.P.getD j 0 ≤ 60) && succB (m : Int) (G.X.getD j [])) by unfold posB; rw [HXL.out])
      have HIL := Lib.hid il
      have HB := Lib.hid (fun (e : posB G j = false) => HS.out.trans (allB_bad hjl e))
      have HQ := Lib.hid (fun (e : posB G j = true) => show ∀ i, i < j + 1 → posB G i = true from fun i hi => by
        by_cases hij : i = j
        · subst hij; exact e
        · exact HI.out i (by omega))
      clear hco hcp hcx il
      generalize posB G j = pv at *
      generalize G.O.getD j 0 = o at *
      generalize G.P.getD j 0 = q at *
      generalize G.X.getD j [] = l at *
      have HSU := Lib.hid (show succB (m : Int) l = (decide (1 ≤ l.length) && decide (l.length ≤ 64) && allB l.length (stepB m l)) from rfl)
      rcases Int.lt_or_le o 0 with g1 | g1
      · have HN := Lib.hid (HB.out (by rw [HPO.out]; unfold plB; rw [decide_eq_false (show ¬ o = 0 by omega), decide_eq_false (show ¬ o = 1 by omega)]; rfl))
        go_wp2_with fail
        go_ret
        exact ⟨ret_bool HN.out.symm, HBW.out⟩
      have g1' : ¬ o < 0 := by omega
      rcases Int.lt_or_le 1 o with g2 | g2
      · have HN := Lib.hid (HB.out (by rw [HPO.out]; unfold plB; rw [decide_eq_false (show ¬ o = 0 by omega), decide_eq_false (show ¬ o = 1 by omega)]; rfl))
        go_wp2_with fail
        go_ret
        exact ⟨ret_bool HN.out.symm, HBW.out⟩
      have g2' : ¬ 1 < o := by omega
      have HPL := Lib.hid (show plB o = true by
        have : o = 0 ∨ o = 1 := by omega
        rcases this with rfl | rfl <;> rfl)
      rcases Int.lt_or_le q 0 with h5 | h5
      · have HN := Lib.hid (HB.out (by rw [HPO.out, decide_eq_false (show ¬ 0 ≤ q by omega)]; simp))
        go_wp2_with fail
        go_ret
        exact ⟨ret_bool HN.out.symm, HBW.out⟩
      have h5' : ¬ q < 0 := by omega
      rcases Int.lt_or_le 60 q with h6 | h6
      · have HN := Lib.hid (HB.out (by rw [HPO.out, decide_eq_false (show ¬ q ≤ 60 by omega)]; simp))
        go_wp2_with fail
        go_ret
        exact ⟨ret_bool HN.out.symm, HBW.out⟩
      have h6' : ¬ 60 < q := by omega
      have HPQ := Lib.hid (show pv = succB (m : Int) l by rw [HPO.out, HPL.out, decide_eq_true h5, decide_eq_true h6]; rfl)
      rcases Nat.lt_or_ge l.length 1 with h7 | h7
      · have HN := Lib.hid (HB.out (by rw [HPQ.out, HSU.out, decide_eq_false (show ¬ 1 ≤ l.length by omega)]; rfl))
        have h7' : (l.length : Int) < 1 := by omega
        go_wp2_with fail
        go_ret
        exact ⟨ret_bool HN.out.symm, HBW.out⟩
      have h7' : ¬ (l.length : Int) < 1 := by omega
      rcases Nat.lt_or_ge 64 l.length with h8 | h8
      · have HN := Lib.hid (HB.out (by rw [HPQ.out, HSU.out, decide_eq_false (show ¬ l.length ≤ 64 by omega)]; simp))
        have h8' : (64 : Int) < (l.length : Int) := by omega
        go_wp2_with fail
        go_ret
        exact ⟨ret_bool HN.out.symm, HBW.out⟩
      have h8' : ¬ (64 : Int) < (l.length : Int) := by omega
      have HPS := Lib.hid (show pv = allB l.length (stepB m l) by rw [HPQ.out, HSU.out, decide_eq_true (show 1 ≤ l.length from h7), decide_eq_true (show l.length ≤ 64 from h8)]; rfl)
      obtain ⟨b, off, rfl, hb, hc⟩ := HIL.out.at_ (show 0 < l.length by omega)
      have HC := Lib.hid hc
      generalize hll : l.length = ll at *
      clear HIL hc HSU HPO HPQ
      go_wp2_with fail
      go_loopg [84] ll (fun g2 i wx => ∃ t : Nat, t + g2 = ll ∧ i = .int .i64 t ∧ wx = wr ∧ Hid (∀ i, i < t → stepB m l i = true))
      case atStart => exact ⟨0, by omega, rfl, rfl, fun i hi => by omega⟩
      case round =>
        obtain ⟨t, htg, rfl, rfl, HT⟩ := hrel
        have ht0 : (0 : Int) ≤ (t : Int) := by omega
        cases gk with
        | zero =>
          obtain rfl : ll = t := by omega
          have HN := Lib.hid (HQ.out (HPS.out.trans (allB_good HT.out)))
          go_wp2_with fail
          go_roundg g
          case measure => omega
          case rel => exact ⟨j + 1, by omega, by go_num, rfl, HN⟩
        | succ g2 =>
          have htl : t < ll := by omega
          have htl2 : (t : Int) < (ll : Int) := by omega
          have hct := HC.out t htl
          have HSR := Lib.hid (stepB_ref (n := (m : Int)) (l := l) (j := t))
          have HTB := Lib.hid (fun (e : stepB m l t = false) => HB.out (HPS.out.trans (allB_bad htl e)))
          have HTQ := Lib.hid (fun (e : stepB m l t = true) => show ∀ i, i < t + 1 → stepB m l i = true from fun i hi => by
            by_cases hij : i = t
            · subst hij; exact e
            · exact HT.out i (by omega))
          generalize hy : l.getD t 0 = y at *
          rcases Int.lt_or_le y 0 with f1 | f1
          · have HN := Lib.hid (HTB.out (by rw [HSR.out, decide_eq_true f1]; rfl))
            go_wp2_with fail
            go_ret
            exact ⟨ret_bool HN.out.symm, HBW.out⟩
          have f1' : ¬ y < 0 := by omega
          rcases Int.lt_or_le y (m : Int) with f2 | f2
          · have f2' : ¬ (m : Int) ≤ y := by omega
            rcases Nat.eq_zero_or_pos t with f3 | f3
            · subst f3
              rw [Nat.add_zero] at hct
              have HN := Lib.hid (HTQ.out (by rw [HSR.out, decide_eq_false f1', decide_eq_false f2']; rfl))
              go_wp2_with fail
              go_roundg g2
              case measure => omega
              case rel => exact ⟨1, by omega, by go_num, rfl, HN⟩
            · obtain ⟨r, rfl⟩ : ∃ r, t = r + 1 := ⟨t - 1, by omega⟩
              have hcr := HC.out r (by omega)
              have f3' : (0 : Int) < ((r + 1 : Nat) : Int) := by omega
              have hr0 : ((r + 1 : Nat) : Int) - 1 = (r : Int) := by omega
              have hr1 : (0 : Int) ≤ (r : Int) := by omega
              have hr2 : (r : Int) < (ll : Int) := by omega
              rw [show r + 1 - 1 = r from by omega] at HSR
              generalize l.getD r 0 = yr at *
              rcases Int.lt_or_le yr y with f4 | f4
              · have f4' : ¬ y ≤ yr := by omega
                have HN := Lib.hid (HTQ.out (by rw [HSR.out, decide_eq_false f1', decide_eq_false f2', decide_eq_false f4']; simp))
                go_wp2_with fail
                go_roundg g2
                case measure => omega
                case rel => exact ⟨r + 1 + 1, by omega, by go_num, rfl, HN⟩
              · have HN := Lib.hid (HTB.out (by rw [HSR.out, decide_eq_true f4, decide_eq_true (show 0 < r + 1 by omega)]; simp))
                go_wp2_with fail
                go_ret
                exact ⟨ret_bool HN.out.symm, HBW.out⟩
          · have HN := Lib.hid (HTB.out (by rw [HSR.out, decide_eq_true f2]; simp))
            go_wp2_with fail
            go_ret
            exact ⟨ret_bool HN.out.symm, HBW.out⟩

end Go.Proofs.Ytffdbncjndnnaaa.Wd
