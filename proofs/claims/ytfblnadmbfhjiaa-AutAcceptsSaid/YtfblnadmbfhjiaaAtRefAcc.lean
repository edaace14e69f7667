/-
  Marks, has and Accepted of the reference.
-/
import Derived.Test.YtfblnadmbfhjiaaAtAcc
namespace Go.Proofs.Ytfblnadmbfhjiaa.Wd
open Go.RowKit
set_option linter.unusedVariables false

theorem refHas_any (x : Int) (i : Nat) (w : World) (hi : i ≤ 41) : Calls Try.prog 76 #[.int .i64 x, .int .i64 i] w fun e w' => e = .returned (.bool (hasB x i)) ∧ w = w' := by
  obtain ⟨r, hr, HR⟩ : ∃ r : Int, bits .and .i64 (x / 2 ^ i) 1 = r ∧ Hid (hasB x i = decide (r = 1)) := ⟨_, and1 _, rfl⟩
  have h0 : (0 : Int) ≤ (i : Int) := by omega
  have h1 : (i : Int) ≤ 41 := by omega
  go_enter Try.func76, Try.ntmps76
  go_wp2_with fail
  go_ret
  exact ⟨ret_bool (by rw [HR.out]; first | rfl | simp), rfl⟩

set_option maxHeartbeats 1000000 in
/-- The loop over the pairs, for Rabin. -/
theorem refAccepted_3 (m : Nat) (x : Int) (w : World) (hm : m ≤ 40) (hev : m % 2 = 0) : Calls Try.prog 47 #[.int .i64 3, .int .i64 m, .int .i64 x] w fun e w' => e = .returned (.bool (pairB m x)) ∧ w = w' := by
  have HEV := Lib.hid hev
  clear hev
  go_enter Try.func47, Try.ntmps47
  go_wp2_with fail
  go_loop [7] (fun v => ∃ i : Nat, i ≤ m ∧ Hid (i % 2 = 0 ∧ pairB i x = false) ∧ v = .int .i64 i) (fun v => m + 2 - (intOf v).toNat)
  case atStart => exact ⟨0, by omega, ⟨rfl, pairB_zero x⟩, rfl⟩
  case round =>
    obtain ⟨i, hi, HI, rfl⟩ := hrel
    have h0 : (0 : Int) ≤ (i : Int) := by omega
    by_cases hlt : i < m
    · have hlt2 : i + 1 < m := by have := HI.out.1; have := HEV.out; omega
      have HP := Lib.hid (has_pair x i)
      have HH := Lib.hid (fun w => refHas_any x i w (by omega))
      have HH2 := Lib.hid (fun w => refHas_any x (i + 1) w (by omega))
      have HT := Lib.hid (fun h => pairB_true (x := x) HI.out.1 hlt h)
      have HS := Lib.hid (fun h => pairB_step (x := x) HI.out.1 h)
      generalize hasB x i = b1 at *
      generalize hasB x (i + 1) = b2 at *
      cases b1
      · cases b2
        · have HN := Lib.hid (show ¬ x / 2 ^ i % 4 = 2 from of_decide_eq_false HP.out.symm)
          go_wp2_with fail
          refine (HH.out _).mono ?_
          rintro e w' ⟨rfl, rfl⟩
          go_wp2_with fail
          refine (HH2.out _).mono ?_
          rintro e w' ⟨rfl, rfl⟩
          go_wp2_with fail
          go_round
          case rel => exact ⟨i + 2, by omega, ⟨by have := HI.out.1; omega, by rw [HS.out HN.out]; exact HI.out.2⟩, by go_num⟩
          case measure => simp [intOf]; omega
        · have HN := Lib.hid (show x / 2 ^ i % 4 = 2 from of_decide_eq_true HP.out.symm)
          go_wp2_with fail
          refine (HH.out _).mono ?_
          rintro e w' ⟨rfl, rfl⟩
          go_wp2_with fail
          refine (HH2.out _).mono ?_
          rintro e w' ⟨rfl, rfl⟩
          go_wp2_with fail
          go_ret
          exact ⟨ret_bool (HT.out HN.out).symm, rfl⟩
      · have HN := Lib.hid (show ¬ x / 2 ^ i % 4 = 2 from of_decide_eq_false HP.out.symm)
        go_wp2_with fail
        refine (HH.out _).mono ?_
        rintro e w' ⟨rfl, rfl⟩
        go_wp2_with fail
        go_round
        case rel => exact ⟨i + 2, by omega, ⟨by have := HI.out.1; omega, by rw [HS.out HN.out]; exact HI.out.2⟩, by go_num⟩
        case measure => simp [intOf]; omega
    · obtain rfl : i = m := by omega
      go_wp2_with fail
      go_ret
      exact ⟨ret_bool HI.out.2.symm, rfl⟩

set_option maxHeartbeats 1000000 in
/-- The loop over the pairs, for Streett. -/
theorem refAccepted_4 (m : Nat) (x : Int) (w : World) (hm : m ≤ 40) (hev : m % 2 = 0) : Calls Try.prog 47 #[.int .i64 4, .int .i64 m, .int .i64 x] w fun e w' => e = .returned (.bool (!pairB m x)) ∧ w = w' := by
  have HEV := Lib.hid hev
  clear hev
  go_enter Try.func47, Try.ntmps47
  go_wp2_with fail
  go_loop [8] (fun v => ∃ i : Nat, i ≤ m ∧ Hid (i % 2 = 0 ∧ pairB i x = false) ∧ v = .int .i64 i) (fun v => m + 2 - (intOf v).toNat)
  case atStart => exact ⟨0, by omega, ⟨rfl, pairB_zero x⟩, rfl⟩
  case round =>
    obtain ⟨i, hi, HI, rfl⟩ := hrel
    have h0 : (0 : Int) ≤ (i : Int) := by omega
    by_cases hlt : i < m
    · have hlt2 : i + 1 < m := by have := HI.out.1; have := HEV.out; omega
      have HP := Lib.hid (has_pair x i)
      have HH := Lib.hid (fun w => refHas_any x i w (by omega))
      have HH2 := Lib.hid (fun w => refHas_any x (i + 1) w (by omega))
      have HT := Lib.hid (fun h => pairB_true (x := x) HI.out.1 hlt h)
      have HS := Lib.hid (fun h => pairB_step (x := x) HI.out.1 h)
      generalize hasB x i = b1 at *
      generalize hasB x (i + 1) = b2 at *
      cases b1
      · cases b2
        · have HN := Lib.hid (show ¬ x / 2 ^ i % 4 = 2 from of_decide_eq_false HP.out.symm)
          go_wp2_with fail
          refine (HH.out _).mono ?_
          rintro e w' ⟨rfl, rfl⟩
          go_wp2_with fail
          refine (HH2.out _).mono ?_
          rintro e w' ⟨rfl, rfl⟩
          go_wp2_with fail
          go_round
          case rel => exact ⟨i + 2, by omega, ⟨by have := HI.out.1; omega, by rw [HS.out HN.out]; exact HI.out.2⟩, by go_num⟩
          case measure => simp [intOf]; omega
        · have HN := Lib.hid (show x / 2 ^ i % 4 = 2 from of_decide_eq_true HP.out.symm)
          go_wp2_with fail
          refine (HH.out _).mono ?_
          rintro e w' ⟨rfl, rfl⟩
          go_wp2_with fail
          refine (HH2.out _).mono ?_
          rintro e w' ⟨rfl, rfl⟩
          go_wp2_with fail
          go_ret
          exact ⟨ret_bool (by rw [HT.out HN.out]; rfl), rfl⟩
      · have HN := Lib.hid (show ¬ x / 2 ^ i % 4 = 2 from of_decide_eq_false HP.out.symm)
        go_wp2_with fail
        refine (HH.out _).mono ?_
        rintro e w' ⟨rfl, rfl⟩
        go_wp2_with fail
        go_round
        case rel => exact ⟨i + 2, by omega, ⟨by have := HI.out.1; omega, by rw [HS.out HN.out]; exact HI.out.2⟩, by go_num⟩
        case measure => simp [intOf]; omega
    · obtain rfl : i = m := by omega
      go_wp2_with fail
      go_ret
      exact ⟨ret_bool (by rw [HI.out.2]; rfl), rfl⟩

theorem refAccepted_0 (m x : Int) (w : World) : Calls Try.prog 47 #[.int .i64 0, .int .i64 m, .int .i64 x] w fun e w' => e = .returned (.bool (hasB x 0)) ∧ w = w' := by
  have HH := Lib.hid (fun w => refHas_any x 0 w (by omega))
  go_enter Try.func47, Try.ntmps47
  go_wp2_with fail
  refine (HH.out _).mono ?_
  rintro e w' ⟨rfl, rfl⟩
  go_wp2_with fail
  go_ret
  exact ⟨rfl, rfl⟩
theorem refAccepted_2 (m x : Int) (w : World) : Calls Try.prog 47 #[.int .i64 2, .int .i64 m, .int .i64 x] w fun e w' => e = .returned (.bool (!hasB x 0)) ∧ w = w' := by
  have HH := Lib.hid (fun w => refHas_any x 0 w (by omega))
  go_enter Try.func47, Try.ntmps47
  go_wp2_with fail
  refine (HH.out _).mono ?_
  rintro e w' ⟨rfl, rfl⟩
  go_wp2_with fail
  go_ret
  exact ⟨rfl, rfl⟩
theorem refAccepted_1 (m : Nat) (x : Int) (w : World) (hm : m ≤ 40) : Calls Try.prog 47 #[.int .i64 1, .int .i64 m, .int .i64 x] w fun e w' => e = .returned (.bool (decide (x = (2 : Int) ^ m - 1))) ∧ w = w' := by
  obtain ⟨P, hP, hP1, HP⟩ : ∃ P : Int, IntKind.i64.wrap ((2 : Int) ^ m) = P ∧ IntKind.i64.wrap (P - 1) = P - 1 ∧ Hid ((2 : Int) ^ m = P) := ⟨_, (pow_wrap40 hm).1, (pow_wrap40 hm).2, rfl⟩
  have h0 : (0 : Int) ≤ (m : Int) := by omega
  go_enter Try.func47, Try.ntmps47
  go_wp2_with fail
  go_ret
  exact ⟨ret_bool (by rw [HP.out]; first | rfl | simp), rfl⟩

set_option maxHeartbeats 1000000 in
/-- The loop that looks for the greatest mark. -/
theorem refAccepted_5 (m x : Nat) (w : World) (hm : m ≤ 40) (hx : x < 2 ^ m) : Calls Try.prog 47 #[.int .i64 5, .int .i64 m, .int .i64 x] w fun e w' => e = .returned (.bool (evenB x)) ∧ w = w' := by
  have HX := Lib.hid hx
  clear hx
  go_enter Try.func47, Try.ntmps47
  go_wp2_with fail
  go_loop [9, 63] (fun t v => ∃ (i : Nat) (T : Int), i ≤ m ∧ Hid (T = (topN x i : Int) - 1) ∧ t = .int .i64 T ∧ v = .int .i64 i) (fun _ v => m - (intOf v).toNat)
  case atStart => exact ⟨0, -1, by omega, by show (-1 : Int) = _; rw [topN_zero]; rfl, rfl, rfl⟩
  case round =>
    obtain ⟨i, T, hi, HI, rfl, rfl⟩ := hrel
    have h0 : (0 : Int) ≤ (i : Int) := by omega
    by_cases hlt : i < m
    · have HH := Lib.hid (fun w => refHas_any (x : Int) i w (by omega))
      cases hb : hasB (x : Int) i
      · have HT := Lib.hid (topN_not hb)
        rw [hb] at HH
        clear hb
        go_wp2_with fail
        refine (HH.out _).mono ?_
        rintro e w' ⟨rfl, rfl⟩
        go_wp2_with fail
        go_round
        case rel => exact ⟨i + 1, T, by omega, by show T = _; rw [HT.out]; exact HI.out, rfl, by go_num⟩
        case measure => simp [intOf]; omega
      · have HT := Lib.hid (topN_set (show i < 64 by omega) hb)
        rw [hb] at HH
        clear hb
        go_wp2_with fail
        refine (HH.out _).mono ?_
        rintro e w' ⟨rfl, rfl⟩
        go_wp2_with fail
        go_round
        case rel => exact ⟨i + 1, i, by omega, by show (i : Int) = _; rw [HT.out]; omega, rfl, by go_num⟩
        case measure => simp [intOf]; omega
    · obtain rfl : i = m := by omega
      have HE := Lib.hid (even_top x i HX.out)
      rw [← HI.out] at HE
      have hTl : T ≤ 40 := by have := topN_le x i (by omega); have := HI.out; omega
      by_cases hT : 0 ≤ T
      · obtain ⟨r, hr, HR⟩ : ∃ r : Int, T.tmod 2 = r ∧ Hid (T.tmod 2 = r) := ⟨_, rfl, rfl⟩
        have HD := Lib.hid (show decide ((0 : Int) ≤ T) = true from decide_eq_true hT)
        rw [HD.out, HR.out] at HE
        have hd : decide ((0 : Int) ≤ T) = true := HD.out
        go_wp2_with fail
        go_ret
        exact ⟨ret_bool (by rw [← HE.out]; first | rfl | simp), rfl⟩
      · have HD := Lib.hid (show decide ((0 : Int) ≤ T) = false from decide_eq_false hT)
        rw [HD.out, Bool.false_and] at HE
        have hT' : T < 0 := by omega
        go_wp2_with fail
        go_ret
        exact ⟨ret_bool HE.out, rfl⟩

end Go.Proofs.Ytfblnadmbfhjiaa.Wd
