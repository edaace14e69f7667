/-
  Marks and Accepts of the reference, for all numbers.
-/
import Derived.Test.YtfblnadmbfhjiaaAtAccepts2
import Derived.Test.YtfblnadmbfhjiaaAtRefAcc
namespace Go.Proofs.Ytfblnadmbfhjiaa.Wd
open Go.RowKit
set_option linter.unusedVariables false

theorem marksB_out {k m : Int} (h : m < 0 ∨ 40 < m) : marksB k m = false := by
  cases hb : marksB k m
  · rfl
  · have := marksB_few hb; omega

theorem refMarks_0 (m : Int) (w : World) : Calls Try.prog 35 #[.int .i64 0, .int .i64 m] w fun e w' => e = .returned (.bool (marksB 0 m)) ∧ w = w' := by
  have hc : m < 0 ∨ (0 ≤ m ∧ 40 < m) ∨ (0 ≤ m ∧ m ≤ 40) := by omega
  rcases hc with h | ⟨h, h2⟩ | ⟨h, h2⟩
  · have HF := Lib.hid (marksB_out (k := 0) (m := m) (by omega))
    go_enter Try.func35, Try.ntmps35
    go_wp2_with fail
    go_ret
    exact ⟨ret_bool HF.out.symm, rfl⟩
  · have HF := Lib.hid (marksB_out (k := 0) (m := m) (by omega))
    go_enter Try.func35, Try.ntmps35
    go_wp2_with fail
    go_ret
    exact ⟨ret_bool HF.out.symm, rfl⟩
  · have HF := Lib.hid (show marksB 0 m = decide (m = 1) by unfold marksB; rw [if_pos (by decide)])
    go_enter Try.func35, Try.ntmps35
    go_wp2_with fail
    go_ret
    exact ⟨ret_bool (by rw [HF.out]; first | rfl | simp), rfl⟩

theorem refMarks_1 (m : Int) (w : World) : Calls Try.prog 35 #[.int .i64 1, .int .i64 m] w fun e w' => e = .returned (.bool (marksB 1 m)) ∧ w = w' := by
  have hc : m < 0 ∨ (0 ≤ m ∧ 40 < m) ∨ (0 ≤ m ∧ m ≤ 40) := by omega
  rcases hc with h | ⟨h, h2⟩ | ⟨h, h2⟩
  · have HF := Lib.hid (marksB_out (k := 1) (m := m) (by omega))
    go_enter Try.func35, Try.ntmps35
    go_wp2_with fail
    go_ret
    exact ⟨ret_bool HF.out.symm, rfl⟩
  · have HF := Lib.hid (marksB_out (k := 1) (m := m) (by omega))
    go_enter Try.func35, Try.ntmps35
    go_wp2_with fail
    go_ret
    exact ⟨ret_bool HF.out.symm, rfl⟩
  · have HF := Lib.hid (show marksB 1 m = true by unfold marksB; rw [if_neg (by decide), if_neg (by decide)]; unfold fewMB; exact decide_eq_true ⟨h, h2⟩)
    go_enter Try.func35, Try.ntmps35
    go_wp2_with fail
    go_ret
    exact ⟨ret_bool HF.out.symm, rfl⟩

theorem refMarks_2 (m : Int) (w : World) : Calls Try.prog 35 #[.int .i64 2, .int .i64 m] w fun e w' => e = .returned (.bool (marksB 2 m)) ∧ w = w' := by
  have hc : m < 0 ∨ (0 ≤ m ∧ 40 < m) ∨ (0 ≤ m ∧ m ≤ 40) := by omega
  rcases hc with h | ⟨h, h2⟩ | ⟨h, h2⟩
  · have HF := Lib.hid (marksB_out (k := 2) (m := m) (by omega))
    go_enter Try.func35, Try.ntmps35
    go_wp2_with fail
    go_ret
    exact ⟨ret_bool HF.out.symm, rfl⟩
  · have HF := Lib.hid (marksB_out (k := 2) (m := m) (by omega))
    go_enter Try.func35, Try.ntmps35
    go_wp2_with fail
    go_ret
    exact ⟨ret_bool HF.out.symm, rfl⟩
  · have HF := Lib.hid (show marksB 2 m = decide (m = 1) by unfold marksB; rw [if_pos (by decide)])
    go_enter Try.func35, Try.ntmps35
    go_wp2_with fail
    go_ret
    exact ⟨ret_bool (by rw [HF.out]; first | rfl | simp), rfl⟩

theorem refMarks_3 (m : Int) (w : World) : Calls Try.prog 35 #[.int .i64 3, .int .i64 m] w fun e w' => e = .returned (.bool (marksB 3 m)) ∧ w = w' := by
  have hc : m < 0 ∨ (0 ≤ m ∧ 40 < m) ∨ (0 ≤ m ∧ m ≤ 40) := by omega
  rcases hc with h | ⟨h, h2⟩ | ⟨h, h2⟩
  · have HF := Lib.hid (marksB_out (k := 3) (m := m) (by omega))
    go_enter Try.func35, Try.ntmps35
    go_wp2_with fail
    go_ret
    exact ⟨ret_bool HF.out.symm, rfl⟩
  · have HF := Lib.hid (marksB_out (k := 3) (m := m) (by omega))
    go_enter Try.func35, Try.ntmps35
    go_wp2_with fail
    go_ret
    exact ⟨ret_bool HF.out.symm, rfl⟩
  · obtain ⟨r, hr, HR⟩ : ∃ r : Int, m.tmod 2 = r ∧ Hid (m % 2 = r) := ⟨_, Int.tmod_eq_emod_of_nonneg h, rfl⟩
    have HF := Lib.hid (show marksB 3 m = decide (r = 0) by unfold marksB; rw [if_neg (by decide), if_pos (by decide)]; unfold evenMB; rw [decide_eq_decide, HR.out]; omega)
    go_enter Try.func35, Try.ntmps35
    go_wp2_with fail
    go_ret
    exact ⟨ret_bool (by rw [HF.out]; first | rfl | simp), rfl⟩

theorem refMarks_4 (m : Int) (w : World) : Calls Try.prog 35 #[.int .i64 4, .int .i64 m] w fun e w' => e = .returned (.bool (marksB 4 m)) ∧ w = w' := by
  have hc : m < 0 ∨ (0 ≤ m ∧ 40 < m) ∨ (0 ≤ m ∧ m ≤ 40) := by omega
  rcases hc with h | ⟨h, h2⟩ | ⟨h, h2⟩
  · have HF := Lib.hid (marksB_out (k := 4) (m := m) (by omega))
    go_enter Try.func35, Try.ntmps35
    go_wp2_with fail
    go_ret
    exact ⟨ret_bool HF.out.symm, rfl⟩
  · have HF := Lib.hid (marksB_out (k := 4) (m := m) (by omega))
    go_enter Try.func35, Try.ntmps35
    go_wp2_with fail
    go_ret
    exact ⟨ret_bool HF.out.symm, rfl⟩
  · obtain ⟨r, hr, HR⟩ : ∃ r : Int, m.tmod 2 = r ∧ Hid (m % 2 = r) := ⟨_, Int.tmod_eq_emod_of_nonneg h, rfl⟩
    have HF := Lib.hid (show marksB 4 m = decide (r = 0) by unfold marksB; rw [if_neg (by decide), if_pos (by decide)]; unfold evenMB; rw [decide_eq_decide, HR.out]; omega)
    go_enter Try.func35, Try.ntmps35
    go_wp2_with fail
    go_ret
    exact ⟨ret_bool (by rw [HF.out]; first | rfl | simp), rfl⟩

theorem refMarks_5 (m : Int) (w : World) : Calls Try.prog 35 #[.int .i64 5, .int .i64 m] w fun e w' => e = .returned (.bool (marksB 5 m)) ∧ w = w' := by
  have hc : m < 0 ∨ (0 ≤ m ∧ 40 < m) ∨ (0 ≤ m ∧ m ≤ 40) := by omega
  rcases hc with h | ⟨h, h2⟩ | ⟨h, h2⟩
  · have HF := Lib.hid (marksB_out (k := 5) (m := m) (by omega))
    go_enter Try.func35, Try.ntmps35
    go_wp2_with fail
    go_ret
    exact ⟨ret_bool HF.out.symm, rfl⟩
  · have HF := Lib.hid (marksB_out (k := 5) (m := m) (by omega))
    go_enter Try.func35, Try.ntmps35
    go_wp2_with fail
    go_ret
    exact ⟨ret_bool HF.out.symm, rfl⟩
  · have HF := Lib.hid (show marksB 5 m = true by unfold marksB; rw [if_neg (by decide), if_neg (by decide)]; unfold fewMB; exact decide_eq_true ⟨h, h2⟩)
    go_enter Try.func35, Try.ntmps35
    go_wp2_with fail
    go_ret
    exact ⟨ret_bool HF.out.symm, rfl⟩

theorem refAccepts_none (kind marks x : Int) (w : World) (hk : ¬ (0 ≤ kind ∧ kind ≤ 5)) : Calls Try.prog 23 #[.int .i64 kind, .int .i64 marks, .int .i64 x] w fun e w' => ResA w w' kind marks x e := by
  have HK := Lib.hid hk
  have hc : kind < 0 ∨ (0 ≤ kind ∧ 5 < kind) := by omega
  clear hk
  rcases hc with h | ⟨h, h2⟩
  all_goals
    go_enter Try.func23, Try.ntmps23
    go_wp2_with fail
    go_ret2
    exact ⟨false, 7, rfl, .inl ⟨HK.out, rfl, rfl⟩, Below.refl _ _⟩

set_option maxHeartbeats 2000000 in
theorem refAccepts_0 (marks x : Int) (w : World) : Calls Try.prog 23 #[.int .i64 0, .int .i64 marks, .int .i64 x] w fun e w' => ResA w w' 0 marks x e := by
  have HMk := Lib.hid (fun w => refMarks_0 marks w)
  cases hp : marksB 0 marks
  · have HP := Lib.hid hp
    rw [hp] at HMk
    clear hp
    go_enter Try.func23, Try.ntmps23
    go_wp2_with fail
    refine (HMk.out _).mono ?_
    rintro e w2 ⟨rfl, rfl⟩
    go_wp2_with fail
    go_ret2
    exact ⟨false, 1, rfl, .inr (.inl ⟨by omega, HP.out, rfl, rfl⟩), Below.refl _ _⟩
  · have hm := marksB_few hp
    obtain ⟨m, rfl⟩ := Int.eq_ofNat_of_zero_le hm.1
    have hm40 : m ≤ 40 := by omega
    have HP := Lib.hid hp
    rw [hp] at HMk
    clear hm
    have HA := Lib.hid (fun w => refAccepted_0 m x w)
    clear hp
    obtain ⟨P, hPw, HPP⟩ : ∃ P : Int, IntKind.i64.wrap ((2 : Int) ^ m) = P ∧ Hid ((2 : Int) ^ m = P) := ⟨_, (pow_wrap40 hm40).1, rfl⟩
    have hm0 : (0 : Int) ≤ (m : Int) := by omega
    have hcase : x < 0 ∨ (0 ≤ x ∧ P ≤ x) ∨ (0 ≤ x ∧ x < P) := by omega
    rcases hcase with hx | ⟨hx, hx2⟩ | ⟨hx, hx2⟩
    · have HX := Lib.hid (show ¬ (0 ≤ x ∧ x < 2 ^ ((m : Int)).toNat) by omega)
      go_enter Try.func23, Try.ntmps23
      go_wp2_with fail
      refine (HMk.out _).mono ?_
      rintro e w2 ⟨rfl, rfl⟩
      go_wp2_with fail
      go_ret2
      exact ⟨false, 6, rfl, .inr (.inr (.inl ⟨by omega, HP.out, HX.out, rfl, rfl⟩)), Below.refl _ _⟩
    · have HX := Lib.hid (show ¬ (0 ≤ x ∧ x < 2 ^ ((m : Int)).toNat) by rw [Int.toNat_natCast, HPP.out]; omega)
      go_enter Try.func23, Try.ntmps23
      go_wp2_with fail
      refine (HMk.out _).mono ?_
      rintro e w2 ⟨rfl, rfl⟩
      go_wp2_with fail
      go_ret2
      exact ⟨false, 6, rfl, .inr (.inr (.inl ⟨by omega, HP.out, HX.out, rfl, rfl⟩)), Below.refl _ _⟩
    · have HX := Lib.hid (show 0 ≤ x ∧ x < 2 ^ ((m : Int)).toNat by rw [Int.toNat_natCast, HPP.out]; omega)
      go_enter Try.func23, Try.ntmps23
      go_wp2_with fail
      refine (HMk.out _).mono ?_
      rintro e w2 ⟨rfl, rfl⟩
      go_wp2_with fail
      refine (HA.out _).mono ?_
      rintro e w3 ⟨rfl, rfl⟩
      go_wp2_with fail
      go_ret2
      refine ⟨_, 0, rfl, .inr (.inr (.inr ⟨by omega, HP.out, HX.out, ?_, rfl⟩)), Below.refl _ _⟩
      have h1 : m = 1 := by
        have h := HP.out
        unfold marksB at h
        rw [if_pos (by decide)] at h
        have := of_decide_eq_true h
        omega
      subst h1
      have h3 := HX.out
      rw [show (2 : Int) ^ (((1 : Nat) : Int)).toNat = 2 from rfl] at h3
      have h4 : x = 0 ∨ x = 1 := by omega
      rcases h4 with rfl | rfl <;> rfl

set_option maxHeartbeats 2000000 in
theorem refAccepts_1 (marks x : Int) (w : World) : Calls Try.prog 23 #[.int .i64 1, .int .i64 marks, .int .i64 x] w fun e w' => ResA w w' 1 marks x e := by
  have HMk := Lib.hid (fun w => refMarks_1 marks w)
  cases hp : marksB 1 marks
  · have HP := Lib.hid hp
    rw [hp] at HMk
    clear hp
    go_enter Try.func23, Try.ntmps23
    go_wp2_with fail
    refine (HMk.out _).mono ?_
    rintro e w2 ⟨rfl, rfl⟩
    go_wp2_with fail
    go_ret2
    exact ⟨false, 1, rfl, .inr (.inl ⟨by omega, HP.out, rfl, rfl⟩), Below.refl _ _⟩
  · have hm := marksB_few hp
    obtain ⟨m, rfl⟩ := Int.eq_ofNat_of_zero_le hm.1
    have hm40 : m ≤ 40 := by omega
    have HP := Lib.hid hp
    rw [hp] at HMk
    clear hm
    have HA := Lib.hid (fun w => refAccepted_1 m x w hm40)
    clear hp
    obtain ⟨P, hPw, HPP⟩ : ∃ P : Int, IntKind.i64.wrap ((2 : Int) ^ m) = P ∧ Hid ((2 : Int) ^ m = P) := ⟨_, (pow_wrap40 hm40).1, rfl⟩
    have hm0 : (0 : Int) ≤ (m : Int) := by omega
    have hcase : x < 0 ∨ (0 ≤ x ∧ P ≤ x) ∨ (0 ≤ x ∧ x < P) := by omega
    rcases hcase with hx | ⟨hx, hx2⟩ | ⟨hx, hx2⟩
    · have HX := Lib.hid (show ¬ (0 ≤ x ∧ x < 2 ^ ((m : Int)).toNat) by omega)
      go_enter Try.func23, Try.ntmps23
      go_wp2_with fail
      refine (HMk.out _).mono ?_
      rintro e w2 ⟨rfl, rfl⟩
      go_wp2_with fail
      go_ret2
      exact ⟨false, 6, rfl, .inr (.inr (.inl ⟨by omega, HP.out, HX.out, rfl, rfl⟩)), Below.refl _ _⟩
    · have HX := Lib.hid (show ¬ (0 ≤ x ∧ x < 2 ^ ((m : Int)).toNat) by rw [Int.toNat_natCast, HPP.out]; omega)
      go_enter Try.func23, Try.ntmps23
      go_wp2_with fail
      refine (HMk.out _).mono ?_
      rintro e w2 ⟨rfl, rfl⟩
      go_wp2_with fail
      go_ret2
      exact ⟨false, 6, rfl, .inr (.inr (.inl ⟨by omega, HP.out, HX.out, rfl, rfl⟩)), Below.refl _ _⟩
    · have HX := Lib.hid (show 0 ≤ x ∧ x < 2 ^ ((m : Int)).toNat by rw [Int.toNat_natCast, HPP.out]; omega)
      go_enter Try.func23, Try.ntmps23
      go_wp2_with fail
      refine (HMk.out _).mono ?_
      rintro e w2 ⟨rfl, rfl⟩
      go_wp2_with fail
      refine (HA.out _).mono ?_
      rintro e w3 ⟨rfl, rfl⟩
      go_wp2_with fail
      go_ret2
      refine ⟨_, 0, rfl, .inr (.inr (.inr ⟨by omega, HP.out, HX.out, ?_, rfl⟩)), Below.refl _ _⟩
      simp [accB]

set_option maxHeartbeats 2000000 in
theorem refAccepts_2 (marks x : Int) (w : World) : Calls Try.prog 23 #[.int .i64 2, .int .i64 marks, .int .i64 x] w fun e w' => ResA w w' 2 marks x e := by
  have HMk := Lib.hid (fun w => refMarks_2 marks w)
  cases hp : marksB 2 marks
  · have HP := Lib.hid hp
    rw [hp] at HMk
    clear hp
    go_enter Try.func23, Try.ntmps23
    go_wp2_with fail
    refine (HMk.out _).mono ?_
    rintro e w2 ⟨rfl, rfl⟩
    go_wp2_with fail
    go_ret2
    exact ⟨false, 1, rfl, .inr (.inl ⟨by omega, HP.out, rfl, rfl⟩), Below.refl _ _⟩
  · have hm := marksB_few hp
    obtain ⟨m, rfl⟩ := Int.eq_ofNat_of_zero_le hm.1
    have hm40 : m ≤ 40 := by omega
    have HP := Lib.hid hp
    rw [hp] at HMk
    clear hm
    have HA := Lib.hid (fun w => refAccepted_2 m x w)
    clear hp
    obtain ⟨P, hPw, HPP⟩ : ∃ P : Int, IntKind.i64.wrap ((2 : Int) ^ m) = P ∧ Hid ((2 : Int) ^ m = P) := ⟨_, (pow_wrap40 hm40).1, rfl⟩
    have hm0 : (0 : Int) ≤ (m : Int) := by omega
    have hcase : x < 0 ∨ (0 ≤ x ∧ P ≤ x) ∨ (0 ≤ x ∧ x < P) := by omega
    rcases hcase with hx | ⟨hx, hx2⟩ | ⟨hx, hx2⟩
    · have HX := Lib.hid (show ¬ (0 ≤ x ∧ x < 2 ^ ((m : Int)).toNat) by omega)
      go_enter Try.func23, Try.ntmps23
      go_wp2_with fail
      refine (HMk.out _).mono ?_
      rintro e w2 ⟨rfl, rfl⟩
      go_wp2_with fail
      go_ret2
      exact ⟨false, 6, rfl, .inr (.inr (.inl ⟨by omega, HP.out, HX.out, rfl, rfl⟩)), Below.refl _ _⟩
    · have HX := Lib.hid (show ¬ (0 ≤ x ∧ x < 2 ^ ((m : Int)).toNat) by rw [Int.toNat_natCast, HPP.out]; omega)
      go_enter Try.func23, Try.ntmps23
      go_wp2_with fail
      refine (HMk.out _).mono ?_
      rintro e w2 ⟨rfl, rfl⟩
      go_wp2_with fail
      go_ret2
      exact ⟨false, 6, rfl, .inr (.inr (.inl ⟨by omega, HP.out, HX.out, rfl, rfl⟩)), Below.refl _ _⟩
    · have HX := Lib.hid (show 0 ≤ x ∧ x < 2 ^ ((m : Int)).toNat by rw [Int.toNat_natCast, HPP.out]; omega)
      go_enter Try.func23, Try.ntmps23
      go_wp2_with fail
      refine (HMk.out _).mono ?_
      rintro e w2 ⟨rfl, rfl⟩
      go_wp2_with fail
      refine (HA.out _).mono ?_
      rintro e w3 ⟨rfl, rfl⟩
      go_wp2_with fail
      go_ret2
      refine ⟨_, 0, rfl, .inr (.inr (.inr ⟨by omega, HP.out, HX.out, ?_, rfl⟩)), Below.refl _ _⟩
      have h1 : m = 1 := by
        have h := HP.out
        unfold marksB at h
        rw [if_pos (by decide)] at h
        have := of_decide_eq_true h
        omega
      subst h1
      have h3 := HX.out
      rw [show (2 : Int) ^ (((1 : Nat) : Int)).toNat = 2 from rfl] at h3
      have h4 : x = 0 ∨ x = 1 := by omega
      rcases h4 with rfl | rfl <;> rfl

set_option maxHeartbeats 2000000 in
theorem refAccepts_3 (marks x : Int) (w : World) : Calls Try.prog 23 #[.int .i64 3, .int .i64 marks, .int .i64 x] w fun e w' => ResA w w' 3 marks x e := by
  have HMk := Lib.hid (fun w => refMarks_3 marks w)
  cases hp : marksB 3 marks
  · have HP := Lib.hid hp
    rw [hp] at HMk
    clear hp
    go_enter Try.func23, Try.ntmps23
    go_wp2_with fail
    refine (HMk.out _).mono ?_
    rintro e w2 ⟨rfl, rfl⟩
    go_wp2_with fail
    go_ret2
    exact ⟨false, 1, rfl, .inr (.inl ⟨by omega, HP.out, rfl, rfl⟩), Below.refl _ _⟩
  · have hm := marksB_few hp
    obtain ⟨m, rfl⟩ := Int.eq_ofNat_of_zero_le hm.1
    have hm40 : m ≤ 40 := by omega
    have HP := Lib.hid hp
    rw [hp] at HMk
    clear hm
    have hev : m % 2 = 0 := by
      have h := hp
      unfold marksB at h
      rw [if_neg (by decide), if_pos (by decide)] at h
      have := of_decide_eq_true h
      omega
    have HA := Lib.hid (fun w => refAccepted_3 m x w hm40 hev)
    clear hev
    clear hp
    obtain ⟨P, hPw, HPP⟩ : ∃ P : Int, IntKind.i64.wrap ((2 : Int) ^ m) = P ∧ Hid ((2 : Int) ^ m = P) := ⟨_, (pow_wrap40 hm40).1, rfl⟩
    have hm0 : (0 : Int) ≤ (m : Int) := by omega
    have hcase : x < 0 ∨ (0 ≤ x ∧ P ≤ x) ∨ (0 ≤ x ∧ x < P) := by omega
    rcases hcase with hx | ⟨hx, hx2⟩ | ⟨hx, hx2⟩
    · have HX := Lib.hid (show ¬ (0 ≤ x ∧ x < 2 ^ ((m : Int)).toNat) by omega)
      go_enter Try.func23, Try.ntmps23
      go_wp2_with fail
      refine (HMk.out _).mono ?_
      rintro e w2 ⟨rfl, rfl⟩
      go_wp2_with fail
      go_ret2
      exact ⟨false, 6, rfl, .inr (.inr (.inl ⟨by omega, HP.out, HX.out, rfl, rfl⟩)), Below.refl _ _⟩
    · have HX := Lib.hid (show ¬ (0 ≤ x ∧ x < 2 ^ ((m : Int)).toNat) by rw [Int.toNat_natCast, HPP.out]; omega)
      go_enter Try.func23, Try.ntmps23
      go_wp2_with fail
      refine (HMk.out _).mono ?_
      rintro e w2 ⟨rfl, rfl⟩
      go_wp2_with fail
      go_ret2
      exact ⟨false, 6, rfl, .inr (.inr (.inl ⟨by omega, HP.out, HX.out, rfl, rfl⟩)), Below.refl _ _⟩
    · have HX := Lib.hid (show 0 ≤ x ∧ x < 2 ^ ((m : Int)).toNat by rw [Int.toNat_natCast, HPP.out]; omega)
      go_enter Try.func23, Try.ntmps23
      go_wp2_with fail
      refine (HMk.out _).mono ?_
      rintro e w2 ⟨rfl, rfl⟩
      go_wp2_with fail
      refine (HA.out _).mono ?_
      rintro e w3 ⟨rfl, rfl⟩
      go_wp2_with fail
      go_ret2
      refine ⟨_, 0, rfl, .inr (.inr (.inr ⟨by omega, HP.out, HX.out, ?_, rfl⟩)), Below.refl _ _⟩
      simp [accB]

set_option maxHeartbeats 2000000 in
theorem refAccepts_4 (marks x : Int) (w : World) : Calls Try.prog 23 #[.int .i64 4, .int .i64 marks, .int .i64 x] w fun e w' => ResA w w' 4 marks x e := by
  have HMk := Lib.hid (fun w => refMarks_4 marks w)
  cases hp : marksB 4 marks
  · have HP := Lib.hid hp
    rw [hp] at HMk
    clear hp
    go_enter Try.func23, Try.ntmps23
    go_wp2_with fail
    refine (HMk.out _).mono ?_
    rintro e w2 ⟨rfl, rfl⟩
    go_wp2_with fail
    go_ret2
    exact ⟨false, 1, rfl, .inr (.inl ⟨by omega, HP.out, rfl, rfl⟩), Below.refl _ _⟩
  · have hm := marksB_few hp
    obtain ⟨m, rfl⟩ := Int.eq_ofNat_of_zero_le hm.1
    have hm40 : m ≤ 40 := by omega
    have HP := Lib.hid hp
    rw [hp] at HMk
    clear hm
    have hev : m % 2 = 0 := by
      have h := hp
      unfold marksB at h
      rw [if_neg (by decide), if_pos (by decide)] at h
      have := of_decide_eq_true h
      omega
    have HA := Lib.hid (fun w => refAccepted_4 m x w hm40 hev)
    clear hev
    clear hp
    obtain ⟨P, hPw, HPP⟩ : ∃ P : Int, IntKind.i64.wrap ((2 : Int) ^ m) = P ∧ Hid ((2 : Int) ^ m = P) := ⟨_, (pow_wrap40 hm40).1, rfl⟩
    have hm0 : (0 : Int) ≤ (m : Int) := by omega
    have hcase : x < 0 ∨ (0 ≤ x ∧ P ≤ x) ∨ (0 ≤ x ∧ x < P) := by omega
    rcases hcase with hx | ⟨hx, hx2⟩ | ⟨hx, hx2⟩
    · have HX := Lib.hid (show ¬ (0 ≤ x ∧ x < 2 ^ ((m : Int)).toNat) by omega)
      go_enter Try.func23, Try.ntmps23
      go_wp2_with fail
      refine (HMk.out _).mono ?_
      rintro e w2 ⟨rfl, rfl⟩
      go_wp2_with fail
      go_ret2
      exact ⟨false, 6, rfl, .inr (.inr (.inl ⟨by omega, HP.out, HX.out, rfl, rfl⟩)), Below.refl _ _⟩
    · have HX := Lib.hid (show ¬ (0 ≤ x ∧ x < 2 ^ ((m : Int)).toNat) by rw [Int.toNat_natCast, HPP.out]; omega)
      go_enter Try.func23, Try.ntmps23
      go_wp2_with fail
      refine (HMk.out _).mono ?_
      rintro e w2 ⟨rfl, rfl⟩
      go_wp2_with fail
      go_ret2
      exact ⟨false, 6, rfl, .inr (.inr (.inl ⟨by omega, HP.out, HX.out, rfl, rfl⟩)), Below.refl _ _⟩
    · have HX := Lib.hid (show 0 ≤ x ∧ x < 2 ^ ((m : Int)).toNat by rw [Int.toNat_natCast, HPP.out]; omega)
      go_enter Try.func23, Try.ntmps23
      go_wp2_with fail
      refine (HMk.out _).mono ?_
      rintro e w2 ⟨rfl, rfl⟩
      go_wp2_with fail
      refine (HA.out _).mono ?_
      rintro e w3 ⟨rfl, rfl⟩
      go_wp2_with fail
      go_ret2
      refine ⟨_, 0, rfl, .inr (.inr (.inr ⟨by omega, HP.out, HX.out, ?_, rfl⟩)), Below.refl _ _⟩
      simp [accB]

set_option maxHeartbeats 2000000 in
theorem refAccepts_5 (marks x : Int) (w : World) : Calls Try.prog 23 #[.int .i64 5, .int .i64 marks, .int .i64 x] w fun e w' => ResA w w' 5 marks x e := by
  have HMk := Lib.hid (fun w => refMarks_5 marks w)
  cases hp : marksB 5 marks
  · have HP := Lib.hid hp
    rw [hp] at HMk
    clear hp
    go_enter Try.func23, Try.ntmps23
    go_wp2_with fail
    refine (HMk.out _).mono ?_
    rintro e w2 ⟨rfl, rfl⟩
    go_wp2_with fail
    go_ret2
    exact ⟨false, 1, rfl, .inr (.inl ⟨by omega, HP.out, rfl, rfl⟩), Below.refl _ _⟩
  · have hm := marksB_few hp
    obtain ⟨m, rfl⟩ := Int.eq_ofNat_of_zero_le hm.1
    have hm40 : m ≤ 40 := by omega
    have HP := Lib.hid hp
    rw [hp] at HMk
    clear hm
    clear hp
    obtain ⟨P, hPw, HPP⟩ : ∃ P : Int, IntKind.i64.wrap ((2 : Int) ^ m) = P ∧ Hid ((2 : Int) ^ m = P) := ⟨_, (pow_wrap40 hm40).1, rfl⟩
    have hm0 : (0 : Int) ≤ (m : Int) := by omega
    have hcase : x < 0 ∨ (0 ≤ x ∧ P ≤ x) ∨ (0 ≤ x ∧ x < P) := by omega
    rcases hcase with hx | ⟨hx, hx2⟩ | ⟨hx, hx2⟩
    · have HX := Lib.hid (show ¬ (0 ≤ x ∧ x < 2 ^ ((m : Int)).toNat) by omega)
      go_enter Try.func23, Try.ntmps23
      go_wp2_with fail
      refine (HMk.out _).mono ?_
      rintro e w2 ⟨rfl, rfl⟩
      go_wp2_with fail
      go_ret2
      exact ⟨false, 6, rfl, .inr (.inr (.inl ⟨by omega, HP.out, HX.out, rfl, rfl⟩)), Below.refl _ _⟩
    · have HX := Lib.hid (show ¬ (0 ≤ x ∧ x < 2 ^ ((m : Int)).toNat) by rw [Int.toNat_natCast, HPP.out]; omega)
      go_enter Try.func23, Try.ntmps23
      go_wp2_with fail
      refine (HMk.out _).mono ?_
      rintro e w2 ⟨rfl, rfl⟩
      go_wp2_with fail
      go_ret2
      exact ⟨false, 6, rfl, .inr (.inr (.inl ⟨by omega, HP.out, HX.out, rfl, rfl⟩)), Below.refl _ _⟩
    · have HX := Lib.hid (show 0 ≤ x ∧ x < 2 ^ ((m : Int)).toNat by rw [Int.toNat_natCast, HPP.out]; omega)
      obtain ⟨x, rfl⟩ := Int.eq_ofNat_of_zero_le hx
      have hxm : x < 2 ^ m := by
        have h := hx2
        rw [← HPP.out] at h
        have h2 : ((2 ^ m : Nat) : Int) = (2 : Int) ^ m := by simp
        omega
      have HA := Lib.hid (fun w => refAccepted_5 m x w hm40 hxm)
      clear hxm
      go_enter Try.func23, Try.ntmps23
      go_wp2_with fail
      refine (HMk.out _).mono ?_
      rintro e w2 ⟨rfl, rfl⟩
      go_wp2_with fail
      refine (HA.out _).mono ?_
      rintro e w3 ⟨rfl, rfl⟩
      go_wp2_with fail
      go_ret2
      refine ⟨_, 0, rfl, .inr (.inr (.inr ⟨by omega, HP.out, HX.out, ?_, rfl⟩)), Below.refl _ _⟩
      simp [accB]

theorem refAccepts_any (kind marks x : Int) (w : World) : Calls Try.prog 23 #[.int .i64 kind, .int .i64 marks, .int .i64 x] w fun e w' => ResA w w' kind marks x e := by
  by_cases hk : 0 ≤ kind ∧ kind ≤ 5
  · have h : kind = 0 ∨ kind = 1 ∨ kind = 2 ∨ kind = 3 ∨ kind = 4 ∨ kind = 5 := by omega
    rcases h with rfl | rfl | rfl | rfl | rfl | rfl
    · exact refAccepts_0 marks x w
    · exact refAccepts_1 marks x w
    · exact refAccepts_2 marks x w
    · exact refAccepts_3 marks x w
    · exact refAccepts_4 marks x w
    · exact refAccepts_5 marks x w
  · exact refAccepts_none kind marks x w hk

end Go.Proofs.Ytfblnadmbfhjiaa.Wd
