/-
  isPlayer, isSuccessors and Valid of package game.
-/
import Derived.Test.YtffdbncjndnnaaaGaKit
namespace Go.Proofs.Ytffdbncjndnnaaa.Wd
open Go.RowKit
set_option linter.unusedVariables false

theorem player_any (x : Int) (w : World) : Calls Try.prog 27 #[.int .i64 x] w fun e w' => e = .returned (.bool (plB x)) ∧ w = w' := by
  by_cases h0 : x = 0
  · subst h0
    go_enter Try.func27, Try.ntmps27
    go_wp2_with fail
    go_ret
    exact ⟨rfl, rfl⟩
  · by_cases h1 : x = 1
    · subst h1
      go_enter Try.func27, Try.ntmps27
      go_wp2_with fail
      go_ret
      exact ⟨rfl, rfl⟩
    · have h0' : (x == 0) = false := by simpa using h0
      have h1' : (x == 1) = false := by simpa using h1
      have HR := Lib.hid (show plB x = false by unfold plB; rw [decide_eq_false h0, decide_eq_false h1]; rfl)
      go_enter Try.func27, Try.ntmps27
      go_wp2_with fail
      go_ret
      exact ⟨ret_bool HR.out.symm, rfl⟩

theorem successors_any (A : Option Addr) (k c : Nat) (n : Int) (l : List Int) (w : World) (h : Ints w A k l) (hk : k ≤ 17592186044416) :
    Calls Try.prog 37 #[.slice A k c, .int .i64 n] w fun e w' => e = .returned (.bool (succB n l)) ∧ w = w' := by
  have hx := h.1
  have hk0 : (0 : Int) ≤ (k : Int) := by omega
  by_cases h1 : k < 1
  · obtain rfl : k = 0 := by omega
    have HR := Lib.hid (show succB n l = false by unfold succB; rw [decide_eq_false (show ¬ 1 ≤ l.length by omega)]; rfl)
    go_enter Try.func37, Try.ntmps37
    go_wp2_with fail
    go_ret
    exact ⟨ret_bool HR.out.symm, rfl⟩
  by_cases h2 : 64 < k
  · have HR := Lib.hid (show succB n l = false by unfold succB; rw [decide_eq_false (show ¬ l.length ≤ 64 by omega)]; simp)
    have h1' : ¬ (k : Int) < 1 := by omega
    have h2' : (64 : Int) < (k : Int) := by omega
    go_enter Try.func37, Try.ntmps37
    go_wp2_with fail
    go_ret
    exact ⟨ret_bool HR.out.symm, rfl⟩
  have h1' : ¬ (k : Int) < 1 := by omega
  have h2' : ¬ (64 : Int) < (k : Int) := by omega
  have HS := Lib.hid (show succB n l = allB k (stepB n l) by unfold succB; rw [decide_eq_true (show 1 ≤ l.length by omega), decide_eq_true (show l.length ≤ 64 by omega), hx]; rfl)
  generalize succB n l = R at *
  obtain ⟨b, off, rfl, hb, hc⟩ := h.at_ (show 0 < k by omega)
  have HC := Lib.hid hc
  clear h hc
  go_enter Try.func37, Try.ntmps37
  go_wp2_with fail
  go_loopg [5, 18] k (fun g s i wx => ∃ j : Nat, j + g = k ∧ i = .int .i64 j ∧ s = .int .i64 (lastI l j) ∧ wx = w ∧ Hid (∀ i, i < j → stepB n l i = true))
  case atStart => exact ⟨0, by omega, rfl, rfl, rfl, fun i hi => by omega⟩
  case round =>
    obtain ⟨j, hjg, rfl, rfl, rfl, HI⟩ := hrel
    have hj0 : (0 : Int) ≤ (j : Int) := by omega
    cases gk with
    | zero =>
      obtain rfl : k = j := by omega
      have HF := Lib.hid (HS.out.trans (allB_good HI.out))
      go_wp2_with fail
      go_ret
      exact ⟨ret_bool HF.out.symm, rfl⟩
    | succ g =>
      have hjl : j < k := by omega
      have hjl2 : (j : Int) < (k : Int) := by omega
      have hcj := HC.out j hjl
      have HL := Lib.hid (stepB_last (n := n) HI.out)
      have HLS := Lib.hid (lastI_succ l j)
      have HB := Lib.hid (fun (e : stepB n l j = false) => HS.out.trans (allB_bad hjl e))
      have HQ := Lib.hid (fun (e : stepB n l j = true) => show ∀ i, i < j + 1 → stepB n l i = true from fun i hi => by
        by_cases hij : i = j
        · subst hij; exact e
        · exact HI.out i (by omega))
      generalize lastI l j = la at *
      generalize l.getD j 0 = x at *
      rcases Int.lt_or_le la x with h3 | h3
      · rcases Int.lt_or_le x n with h4 | h4
        · have HN := Lib.hid (HQ.out (by rw [HL.out, decide_eq_true h3, decide_eq_true h4]; rfl))
          have h3' : ¬ x ≤ la := by omega
          have h4' : ¬ n ≤ x := by omega
          go_wp2_with fail
          go_roundg g
          case measure => omega
          case rel => exact ⟨j + 1, by omega, by go_num, by rw [HLS.out], rfl, HN⟩
        · have HN := Lib.hid (HB.out (by rw [HL.out, decide_eq_false (show ¬ x < n by omega)]; simp))
          have h3' : ¬ x ≤ la := by omega
          go_wp2_with fail
          go_ret
          exact ⟨ret_bool HN.out.symm, rfl⟩
      · have HN := Lib.hid (HB.out (by rw [HL.out, decide_eq_false (show ¬ la < x by omega)]; simp))
        go_wp2_with fail
        go_ret
        exact ⟨ret_bool HN.out.symm, rfl⟩

/-- The box of a game. -/
theorem box_game (w : World) (a p x : Value) (t : TypeId) : (w.alloc (.cells #[a, p, x] t)).cell? ⟨w.heap.size, 0, none⟩ = some a ∧ (w.alloc (.cells #[a, p, x] t)).cell? ⟨w.heap.size, 1, none⟩ = some p ∧ (w.alloc (.cells #[a, p, x] t)).cell? ⟨w.heap.size, 2, none⟩ = some x := by
  refine ⟨?_, ?_, ?_⟩ <;> rw [box_last] <;> rfl

set_option maxHeartbeats 4000000 in
theorem valid_any (a p x : Option Addr) (n c m d k e : Nat) (G : Gm) (w : World) (h : GameIn w a n p m x k G) (hk : k ≤ 17592186044416) (hl : ∀ v, (G.X.getD v []).length ≤ 17592186044416) :
    Calls Try.prog 14 #[.agg #[.slice a n c, .slice p m d, .slice x k e]] w fun r w' => r = .returned (.bool (gmB G)) ∧ Below w.heap.size w w' := by
  have ho := h.o.1
  have hp := h.p.1
  have hx := h.x.1
  have hk0 : (0 : Int) ≤ (k : Int) := by omega
  by_cases h1 : 20000 < k
  · have HR := Lib.hid (show gmB G = false by unfold gmB; rw [decide_eq_false (show ¬ G.X.length ≤ 20000 by omega)]; rfl)
    have h1' : (20000 : Int) < (k : Int) := by omega
    go_enter Try.func14, Try.ntmps14
    go_wp2_with fail
    go_ret
    exact ⟨ret_bool HR.out.symm, (Below.refl _ _).alloc (Nat.le_refl _) _⟩
  have h1' : ¬ (20000 : Int) < (k : Int) := by omega
  by_cases h2 : ¬ n = k
  · have HR := Lib.hid (show gmB G = false by unfold gmB; rw [decide_eq_false (show ¬ G.O.length = G.X.length by omega)]; simp)
    have h2' : ((n : Int) != (k : Int)) = true := by simp; omega
    go_enter Try.func14, Try.ntmps14
    go_wp2_with fail
    go_ret
    exact ⟨ret_bool HR.out.symm, (Below.refl _ _).alloc (Nat.le_refl _) _⟩
  by_cases h3 : ¬ m = k
  · have HR := Lib.hid (show gmB G = false by unfold gmB; rw [decide_eq_false (show ¬ G.P.length = G.X.length by omega)]; simp)
    have h2' : ((n : Int) != (k : Int)) = false := by simp; omega
    have h3' : ((m : Int) != (k : Int)) = true := by simp; omega
    go_enter Try.func14, Try.ntmps14
    go_wp2_with fail
    go_ret
    exact ⟨ret_bool HR.out.symm, (Below.refl _ _).alloc (Nat.le_refl _) _⟩
  obtain rfl : n = k := by omega
  obtain rfl : m = n := by omega
  have h2' : ((m : Int) != (m : Int)) = false := by simp
  have HS := Lib.hid (show gmB G = allB m (posB G) by unfold gmB; rw [decide_eq_true (show G.X.length ≤ 20000 by omega), decide_eq_true (show G.O.length = G.X.length by omega), decide_eq_true (show G.P.length = G.X.length by omega), hx]; rfl)
  have HXL := Lib.hid hx
  have HLEN := Lib.hid hl
  generalize gmB G = R at *
  have HG := Lib.hid h
  clear h hl
  go_enter Try.func14, Try.ntmps14
  go_wp2_with fail
  obtain ⟨W0, hW0⟩ : ∃ W0, w.alloc (.cells #[.slice a m c, .slice p m d, .slice x m e] 25) = W0 := ⟨_, rfl⟩
  have HBW := Lib.hid (show Below w.heap.size w W0 by rw [← hW0]; exact (Below.refl _ _).alloc (Nat.le_refl _) _)
  obtain ⟨q0, q1, q2⟩ := box_game w (.slice a m c) (.slice p m d) (.slice x m e) 25
  rw [hW0] at q0 q1 q2 ⊢
  clear hW0
  go_loopg [28] m (fun g i wx => ∃ j : Nat, j + g = m ∧ i = .int .i64 j ∧ wx = W0 ∧ Hid (∀ i, i < j → posB G i = true))
  case atStart => exact ⟨0, by omega, rfl, rfl, fun i hi => by omega⟩
  case round =>
    obtain ⟨j, hjg, rfl, rfl, HI⟩ := hrel
    have hj0 : (0 : Int) ≤ (j : Int) := by omega
    cases gk with
    | zero =>
      obtain rfl : m = j := by omega
      have HF := Lib.hid (HS.out.trans (allB_good HI.out))
      go_wp2_with fail
      go_ret
      exact ⟨ret_bool HF.out.symm, HBW.out⟩
    | succ g =>
      have hjl : j < m := by omega
      have hjl2 : (j : Int) < (m : Int) := by omega
      have HGW := Lib.hid (HG.out.below HBW.out)
      obtain ⟨bo, oo, rfl, hbo, hco⟩ := HGW.out.o.2 (by omega)
      obtain ⟨bp, op, rfl, hbp, hcp⟩ := HGW.out.p.2 (by omega)
      obtain ⟨bx, ox, rfl, hbx, hcx⟩ := HGW.out.x.2 (by omega)
      have ko := hco j hjl
      have kp := hcp j hjl
      obtain ⟨bl, cl, kl, il⟩ := hcx j hjl
      have hlen := HLEN.out j
      have HSU := Lib.hid (successors_any bl (G.X.getD j []).length cl (m : Int) (G.X.getD j []) _ il hlen)
      have HPO := Lib.hid (show posB G j = (plB (G.O.getD j 0) && decide (0 ≤ G.P.getD j 0) && decide (G.P.getD j 0 ≤ 60) && succB (m : Int) (G.X.getD j [])) by unfold posB; rw [HXL.out])
      have HPL := Lib.hid (fun W => player_any (G.O.getD j 0) W)
      have HB := Lib.hid (fun (e : posB G j = false) => HS.out.trans (allB_bad hjl e))
      have HQ := Lib.hid (fun (e : posB G j = true) => show ∀ i, i < j + 1 → posB G i = true from fun i hi => by
        by_cases hij : i = j
        · subst hij; exact e
        · exact HI.out i (by omega))
      clear hco hcp hcx il hlen
      generalize posB G j = pv at *
      generalize plB (G.O.getD j 0) = lv at *
      generalize succB (m : Int) (G.X.getD j []) = sv at *
      generalize (G.X.getD j []).length = ll at *
      generalize G.O.getD j 0 = o at *
      generalize G.P.getD j 0 = q at *
      cases lv
      · have HN := Lib.hid (HB.out (by rw [HPO.out]; rfl))
        go_wp2_with fail
        refine (HPL.out _).mono ?_
        rintro e1 w1 ⟨rfl, rfl⟩
        go_wp2_with fail
        go_ret
        exact ⟨ret_bool HN.out.symm, HBW.out⟩
      rcases Int.lt_or_le q 0 with h5 | h5
      · have HN := Lib.hid (HB.out (by rw [HPO.out, decide_eq_false (show ¬ 0 ≤ q by omega)]; rfl))
        go_wp2_with fail
        refine (HPL.out _).mono ?_
        rintro e1 w1 ⟨rfl, rfl⟩
        go_wp2_with fail
        go_ret
        exact ⟨ret_bool HN.out.symm, HBW.out⟩
      have h5' : ¬ q < 0 := by omega
      rcases Int.lt_or_le 60 q with h6 | h6
      · have HN := Lib.hid (HB.out (by rw [HPO.out, decide_eq_false (show ¬ q ≤ 60 by omega)]; simp))
        go_wp2_with fail
        refine (HPL.out _).mono ?_
        rintro e1 w1 ⟨rfl, rfl⟩
        go_wp2_with fail
        go_ret
        exact ⟨ret_bool HN.out.symm, HBW.out⟩
      have h6' : ¬ 60 < q := by omega
      cases sv
      · have HN := Lib.hid (HB.out (by rw [HPO.out]; simp))
        go_wp2_with fail
        refine (HPL.out _).mono ?_
        rintro e1 w1 ⟨rfl, rfl⟩
        go_wp2_with fail
        refine HSU.out.mono ?_
        rintro e2 w2 ⟨rfl, rfl⟩
        go_wp2_with fail
        go_ret
        exact ⟨ret_bool HN.out.symm, HBW.out⟩
      · have HN := Lib.hid (HQ.out (by rw [HPO.out, decide_eq_true h5, decide_eq_true h6]; rfl))
        go_wp2_with fail
        refine (HPL.out _).mono ?_
        rintro e1 w1 ⟨rfl, rfl⟩
        go_wp2_with fail
        refine HSU.out.mono ?_
        rintro e2 w2 ⟨rfl, rfl⟩
        go_wp2_with fail
        go_roundg g
        case measure => omega
        case rel => exact ⟨j + 1, by omega, by go_num, rfl, HN⟩

end Go.Proofs.Ytffdbncjndnnaaa.Wd
