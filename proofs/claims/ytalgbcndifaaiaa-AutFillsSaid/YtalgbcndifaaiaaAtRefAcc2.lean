/-
  Marks and Accepts of the reference, for all numbers.
-/
import Derived.Test.YtalgbcndifaaiaaAtAccepts2
import Derived.Test.YtalgbcndifaaiaaAtRefAcc
namespace Go.Proofs.Ytalgbcndifaaiaa.Wd
open Go.RowKit
set_option linter.unusedVariables false

theorem marksB_out {k m : Int} (h : m < 0 ∨ 40 < m) : marksB k m = false := by
  cases hb : marksB k m
  · rfl
  · have := marksB_few hb; omega

theorem refMarks_0 (m : Int) (w : World) : Calls Try.prog 24 #[.int .i64 0, .int .i64 m] w fun e w' => e = .returned (.bool (marksB 0 m)) ∧ w = w' := by
  have hc : m < 0 ∨ (0 ≤ m ∧ 40 < m) ∨ (0 ≤ m ∧ m ≤ 40) := by omega
  rcases hc with h | ⟨h, h2⟩ | ⟨h, h2⟩
  · have HF := Lib.hid (marksB_out (k := 0) (m := m) (by omega))
    go_enter Try.func24, Try.ntmps24
    go_wp2_with fail
    go_ret
    exact ⟨ret_bool HF.out.symm, rfl⟩
  · have HF := Lib.hid (marksB_out (k := 0) (m := m) (by omega))
    go_enter Try.func24, Try.ntmps24
    go_wp2_with fail
    go_ret
    exact ⟨ret_bool HF.out.symm, rfl⟩
  · have HF := Lib.hid (show marksB 0 m = decide (m = 1) by unfold marksB; rw [if_pos (by decide)])
    go_enter Try.func24, Try.ntmps24
    go_wp2_with fail
    go_ret
    exact ⟨ret_bool (by rw [HF.out]; first | rfl | simp), rfl⟩

theorem refMarks_1 (m : Int) (w : World) : Calls Try.prog 24 #[.int .i64 1, .int .i64 m] w fun e w' => e = .returned (.bool (marksB 1 m)) ∧ w = w' := by
  have hc : m < 0 ∨ (0 ≤ m ∧ 40 < m) ∨ (0 ≤ m ∧ m ≤ 40) := by omega
  rcases hc with h | ⟨h, h2⟩ | ⟨h, h2⟩
  · have HF := Lib.hid (marksB_out (k := 1) (m := m) (by omega))
    go_enter Try.func24, Try.ntmps24
    go_wp2_with fail
    go_ret
    exact ⟨ret_bool HF.out.symm, rfl⟩
  · have HF := Lib.hid (marksB_out (k := 1) (m := m) (by omega))
    go_enter Try.func24, Try.ntmps24
    go_wp2_with fail
    go_ret
    exact ⟨ret_bool HF.out.symm, rfl⟩
  · have HF := Lib.hid (show marksB 1 m = true by unfold marksB; rw [if_neg (by decide), if_neg (by decide)]; unfold fewMB; exact decide_eq_true ⟨h, h2⟩)
    go_enter Try.func24, Try.ntmps24
    go_wp2_with fail
    go_ret
    exact ⟨ret_bool HF.out.symm, rfl⟩

theorem refMarks_2 (m : Int) (w : World) : Calls Try.prog 24 #[.int .i64 2, .int .i64 m] w fun e w' => e = .returned (.bool (marksB 2 m)) ∧ w = w' := by
  have hc : m < 0 ∨ (0 ≤ m ∧ 40 < m) ∨ (0 ≤ m ∧ m ≤ 40) := by omega
  rcases hc with h | ⟨h, h2⟩ | ⟨h, h2⟩
  · have HF := Lib.hid (marksB_out (k := 2) (m := m) (by omega))
    go_enter Try.func24, Try.ntmps24
    go_wp2_with fail
    go_ret
    exact ⟨ret_bool HF.out.symm, rfl⟩
  · have HF := Lib.hid (marksB_out (k := 2) (m := m) (by omega))
    go_enter Try.func24, Try.ntmps24
    go_wp2_with fail
    go_ret
    exact ⟨ret_bool HF.out.symm, rfl⟩
  · have HF := Lib.hid (show marksB 2 m = decide (m = 1) by unfold marksB; rw [if_pos (by decide)])
    go_enter Try.func24, Try.ntmps24
    go_wp2_with fail
    go_ret
    exact ⟨ret_bool (by rw [HF.out]; first | rfl | simp), rfl⟩

theorem refMarks_3 (m : Int) (w : World) : Calls Try.prog 24 #[.int .i64 3, .int .i64 m] w fun e w' => e = .returned (.bool (marksB 3 m)) ∧ w = w' := by
  have hc : m < 0 ∨ (0 ≤ m ∧ 40 < m) ∨ (0 ≤ m ∧ m ≤ 40) := by omega
  rcases hc with h | ⟨h, h2⟩ | ⟨h, h2⟩
  · have HF := Lib.hid (marksB_out (k := 3) (m := m) (by omega))
    go_enter Try.func24, Try.ntmps24
    go_wp2_with fail
    go_ret
    exact ⟨ret_bool HF.out.symm, rfl⟩
  · have HF := Lib.hid (marksB_out (k := 3) (m := m) (by omega))
    go_enter Try.func24, Try.ntmps24
    go_wp2_with fail
    go_ret
    exact ⟨ret_bool HF.out.symm, rfl⟩
  · obtain ⟨r, hr, HR⟩ : ∃ r : Int, m.tmod 2 = r ∧ Hid (m % 2 = r) := ⟨_, Int.tmod_eq_emod_of_nonneg h, rfl⟩
    have HF := Lib.hid (show marksB 3 m = decide (r = 0) by unfold marksB; rw [if_neg (by decide), if_pos (by decide)]; unfold evenMB; rw [decide_eq_decide, HR.out]; omega)
    go_enter Try.func24, Try.ntmps24
    go_wp2_with fail
    go_ret
    exact ⟨ret_bool (by rw [HF.out]; first | rfl | simp), rfl⟩

theorem refMarks_4 (m : Int) (w : World) : Calls Try.prog 24 #[.int .i64 4, .int .i64 m] w fun e w' => e = .returned (.bool (marksB 4 m)) ∧ w = w' := by
  have hc : m < 0 ∨ (0 ≤ m ∧ 40 < m) ∨ (0 ≤ m ∧ m ≤ 40) := by omega
  rcases hc with h | ⟨h, h2⟩ | ⟨h, h2⟩
  · have HF := Lib.hid (marksB_out (k := 4) (m := m) (by omega))
    go_enter Try.func24, Try.ntmps24
    go_wp2_with fail
    go_ret
    exact ⟨ret_bool HF.out.symm, rfl⟩
  · have HF := Lib.hid (marksB_out (k := 4) (m := m) (by omega))
    go_enter Try.func24, Try.ntmps24
    go_wp2_with fail
    go_ret
    exact ⟨ret_bool HF.out.symm, rfl⟩
  · obtain ⟨r, hr, HR⟩ : ∃ r : Int, m.tmod 2 = r ∧ Hid (m % 2 = r) := ⟨_, Int.tmod_eq_emod_of_nonneg h, rfl⟩
    have HF := Lib.hid (show marksB 4 m = decide (r = 0) by unfold marksB; rw [if_neg (by decide), if_pos (by decide)]; unfold evenMB; rw [decide_eq_decide, HR.out]; omega)
    go_enter Try.func24, Try.ntmps24
    go_wp2_with fail
    go_ret
    exact ⟨ret_bool (by rw [HF.out]; first | rfl | simp), rfl⟩

theorem refMarks_5 (m : Int) (w : World) : Calls Try.prog 24 #[.int .i64 5, .int .i64 m] w fun e w' => e = .returned (.bool (marksB 5 m)) ∧ w = w' := by
  have hc : m < 0 ∨ (0 ≤ m ∧ 40 < m) ∨ (0 ≤ m ∧ m ≤ 40) := by omega
  rcases hc with h | ⟨h, h2⟩ | ⟨h, h2⟩
  · have HF := Lib.hid (marksB_out (k := 5) (m := m) (by omega))
    go_enter Try.func24, Try.ntmps24
    go_wp2_with fail
    go_ret
    exact ⟨ret_bool HF.out.symm, rfl⟩
  · have HF := Lib.hid (marksB_out (k := 5) (m := m) (by omega))
    go_enter Try.func24, Try.ntmps24
    go_wp2_with fail
    go_ret
    exact ⟨ret_bool HF.out.symm, rfl⟩
  · have HF := Lib.hid (show marksB 5 m = true by unfold marksB; rw [if_neg (by decide), if_neg (by decide)]; unfold fewMB; exact decide_eq_true ⟨h, h2⟩)
    go_enter Try.func24, Try.ntmps24
    go_wp2_with fail
    go_ret
    exact ⟨ret_bool HF.out.symm, rfl⟩

end Go.Proofs.Ytalgbcndifaaiaa.Wd
