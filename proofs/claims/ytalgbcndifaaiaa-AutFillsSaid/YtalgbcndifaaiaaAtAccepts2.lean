/-
  Accepts of package aut, for all numbers.
-/
import Derived.Test.YtalgbcndifaaiaaAtAccepts
namespace Go.Proofs.Ytalgbcndifaaiaa.Wd
open Go.RowKit
set_option linter.unusedVariables false

/-- May an automaton of that kind have so many marks? -/
def marksB (kind m : Int) : Bool := if kind = 0 ∨ kind = 2 then decide (m = 1) else if kind = 3 ∨ kind = 4 then evenMB m else fewMB m
/-- Is a run accepted that meets these marks again and again? -/
def accB (kind : Int) (m : Nat) (x : Int) : Bool :=
  if kind = 0 then decide (x = 1) else if kind = 1 then decide (x = 2 ^ m - 1) else if kind = 2 then decide (x = 0) else if kind = 3 then pairB m x else if kind = 4 then !pairB m x else evenB x.toNat
theorem marksB_few {k m : Int} (h : marksB k m = true) : 0 ≤ m ∧ m ≤ 40 := by
  unfold marksB at h
  split at h
  · have := of_decide_eq_true h; omega
  · split at h
    · unfold evenMB at h; have := of_decide_eq_true h; omega
    · unfold fewMB at h; have := of_decide_eq_true h; omega

theorem pow_small {m : Nat} (hm : m ≤ 40) : (2 : Int) ^ m < 4611686018427387904 := by
  have h : ∀ k : Fin 41, (2 : Int) ^ k.val < 4611686018427387904 := by decide +kernel
  exact h ⟨m, by omega⟩

/-- What Accepts comes to. -/
def AccR (kind marks inf : Int) (r : Bool) (code : Int) : Prop :=
  (¬ (0 ≤ kind ∧ kind ≤ 5) ∧ r = false ∧ code = 7) ∨ ((0 ≤ kind ∧ kind ≤ 5) ∧ marksB kind marks = false ∧ r = false ∧ code = 1) ∨
  ((0 ≤ kind ∧ kind ≤ 5) ∧ marksB kind marks = true ∧ ¬ (0 ≤ inf ∧ inf < 2 ^ marks.toNat) ∧ r = false ∧ code = 6) ∨
  ((0 ≤ kind ∧ kind ≤ 5) ∧ marksB kind marks = true ∧ (0 ≤ inf ∧ inf < 2 ^ marks.toNat) ∧ r = accB kind marks.toNat inf ∧ code = 0)
theorem AccR.unique {kind marks inf : Int} {r r' : Bool} {c c' : Int} (h : AccR kind marks inf r c) (h' : AccR kind marks inf r' c') : r = r' ∧ c = c' := by
  rcases h with ⟨a1, rfl, rfl⟩ | ⟨a1, a2, rfl, rfl⟩ | ⟨a1, a2, a3, rfl, rfl⟩ | ⟨a1, a2, a3, rfl, rfl⟩ <;> rcases h' with ⟨b1, rfl, rfl⟩ | ⟨b1, b2, rfl, rfl⟩ | ⟨b1, b2, b3, rfl, rfl⟩ | ⟨b1, b2, b3, rfl, rfl⟩
  all_goals first | exact ⟨rfl, rfl⟩ | exact absurd b1 a1 | exact absurd a1 b1 | exact absurd b3 a3 | exact absurd a3 b3 | (rw [a2] at b2; cases b2)
def ResA (w w' : World) (kind marks inf : Int) (e : Ending) : Prop := ∃ (r : Bool) (code : Int), e = .returned (.tuple #[.bool r, .int .i64 code]) ∧ Hid (AccR kind marks inf r code) ∧ Below w.heap.size w w'

theorem accepts_none (kind marks x : Int) (w : World) (hk : ¬ (0 ≤ kind ∧ kind ≤ 5)) : Calls Try.prog 18 #[.int .i64 kind, .int .i64 marks, .int .i64 x] w fun e w' => ResA w w' kind marks x e := by
  have HK := Lib.hid hk
  have HO := Lib.hid (fun w => of_none kind w (by omega))
  clear hk
  go_enter Try.func18, Try.ntmps18
  go_wp2_with fail
  refine (HO.out _).mono ?_
  rintro e w1 ⟨rfl, hb1⟩
  go_wp2_with fail
  go_ret2
  refine ⟨false, 7, rfl, .inl ⟨HK.out, rfl, rfl⟩, ?_⟩
  first | exact hb1.alloc hb1.size _ | exact (((hb1.alloc hb1.size _).setCell hb1.size _).setCell hb1.size _).setCell hb1.size _

set_option maxHeartbeats 2000000 in
theorem accepts_0 (marks x : Int) (w : World) : Calls Try.prog 18 #[.int .i64 0, .int .i64 marks, .int .i64 x] w fun e w' => ResA w w' 0 marks x e := by
  have HM := Lib.hid (show marksB 0 marks = (decide (marks = 1)) by unfold marksB; simp)
  cases hp : marksB 0 marks
  · have HP := Lib.hid hp
    rw [hp] at HM
    clear hp
    go_enter Try.func18, Try.ntmps18
    go_wp2_with fail
    refine (of_kind0 _).mono ?_
    rintro e w1 ⟨rfl, hb1⟩
    go_wp2_with fail
    refine (isOne_any marks _).mono ?_
    rintro e w2 ⟨rfl, rfl⟩
    rw [← HM.out]
    go_wp2_with fail
    go_ret2
    exact ⟨false, 1, rfl, .inr (.inl ⟨by omega, HP.out, rfl, rfl⟩), hb1.alloc hb1.size _⟩
  · have hm := marksB_few hp
    obtain ⟨m, rfl⟩ := Int.eq_ofNat_of_zero_le hm.1
    have hm40 : m ≤ 40 := by omega
    have HP := Lib.hid hp
    rw [hp] at HM
    clear hp hm
    obtain ⟨P, hPw, HPP⟩ : ∃ P : Int, IntKind.i64.wrap ((2 : Int) ^ m) = P ∧ Hid ((2 : Int) ^ m = P) := ⟨_, (pow_wrap40 hm40).1, rfl⟩
    have hm0 : (0 : Int) ≤ (m : Int) := by omega
    have hcase : x < 0 ∨ (0 ≤ x ∧ P ≤ x) ∨ (0 ≤ x ∧ x < P) := by omega
    rcases hcase with hx | ⟨hx, hx2⟩ | ⟨hx, hx2⟩
    · have HX := Lib.hid (show ¬ (0 ≤ x ∧ x < 2 ^ ((m : Int)).toNat) by omega)
      go_enter Try.func18, Try.ntmps18
      go_wp2_with fail
      refine (of_kind0 _).mono ?_
      rintro e w1 ⟨rfl, hb1⟩
      go_wp2_with fail
      refine (isOne_any (m : Int) _).mono ?_
      rintro e w2 ⟨rfl, rfl⟩
      rw [← HM.out]
      go_wp2_with fail
      go_ret2
      exact ⟨false, 6, rfl, .inr (.inr (.inl ⟨by omega, HP.out, HX.out, rfl, rfl⟩)), hb1.alloc hb1.size _⟩
    · have HX := Lib.hid (show ¬ (0 ≤ x ∧ x < 2 ^ ((m : Int)).toNat) by rw [Int.toNat_natCast, HPP.out]; omega)
      go_enter Try.func18, Try.ntmps18
      go_wp2_with fail
      refine (of_kind0 _).mono ?_
      rintro e w1 ⟨rfl, hb1⟩
      go_wp2_with fail
      refine (isOne_any (m : Int) _).mono ?_
      rintro e w2 ⟨rfl, rfl⟩
      rw [← HM.out]
      go_wp2_with fail
      go_ret2
      exact ⟨false, 6, rfl, .inr (.inr (.inl ⟨by omega, HP.out, HX.out, rfl, rfl⟩)), hb1.alloc hb1.size _⟩
    · have HX := Lib.hid (show 0 ≤ x ∧ x < 2 ^ ((m : Int)).toNat by rw [Int.toNat_natCast, HPP.out]; omega)
      go_enter Try.func18, Try.ntmps18
      go_wp2_with fail
      refine (of_kind0 _).mono ?_
      rintro e w1 ⟨rfl, hb1⟩
      go_wp2_with fail
      refine (isOne_any (m : Int) _).mono ?_
      rintro e w2 ⟨rfl, rfl⟩
      rw [← HM.out]
      go_wp2_with fail
      refine (meetsAll_any m x _ hm40).mono ?_
      rintro e w3 ⟨rfl, rfl⟩
      go_wp2_with fail
      go_ret2
      refine ⟨_, 0, rfl, .inr (.inr (.inr ⟨by omega, HP.out, HX.out, ?_, rfl⟩)), hb1.alloc hb1.size _⟩
      have h1 : m = 1 := by have := of_decide_eq_true HM.out.symm; omega
      subst h1
      simp [accB]

set_option maxHeartbeats 2000000 in
theorem accepts_1 (marks x : Int) (w : World) : Calls Try.prog 18 #[.int .i64 1, .int .i64 marks, .int .i64 x] w fun e w' => ResA w w' 1 marks x e := by
  have HM := Lib.hid (show marksB 1 marks = (fewMB marks) by unfold marksB; simp)
  cases hp : marksB 1 marks
  · have HP := Lib.hid hp
    rw [hp] at HM
    clear hp
    go_enter Try.func18, Try.ntmps18
    go_wp2_with fail
    refine (of_kind1 _).mono ?_
    rintro e w1 ⟨rfl, hb1⟩
    go_wp2_with fail
    refine (isFew_any marks _).mono ?_
    rintro e w2 ⟨rfl, rfl⟩
    rw [← HM.out]
    go_wp2_with fail
    go_ret2
    exact ⟨false, 1, rfl, .inr (.inl ⟨by omega, HP.out, rfl, rfl⟩), hb1.alloc hb1.size _⟩
  · have hm := marksB_few hp
    obtain ⟨m, rfl⟩ := Int.eq_ofNat_of_zero_le hm.1
    have hm40 : m ≤ 40 := by omega
    have HP := Lib.hid hp
    rw [hp] at HM
    clear hp hm
    obtain ⟨P, hPw, HPP⟩ : ∃ P : Int, IntKind.i64.wrap ((2 : Int) ^ m) = P ∧ Hid ((2 : Int) ^ m = P) := ⟨_, (pow_wrap40 hm40).1, rfl⟩
    have hm0 : (0 : Int) ≤ (m : Int) := by omega
    have hcase : x < 0 ∨ (0 ≤ x ∧ P ≤ x) ∨ (0 ≤ x ∧ x < P) := by omega
    rcases hcase with hx | ⟨hx, hx2⟩ | ⟨hx, hx2⟩
    · have HX := Lib.hid (show ¬ (0 ≤ x ∧ x < 2 ^ ((m : Int)).toNat) by omega)
      go_enter Try.func18, Try.ntmps18
      go_wp2_with fail
      refine (of_kind1 _).mono ?_
      rintro e w1 ⟨rfl, hb1⟩
      go_wp2_with fail
      refine (isFew_any (m : Int) _).mono ?_
      rintro e w2 ⟨rfl, rfl⟩
      rw [← HM.out]
      go_wp2_with fail
      go_ret2
      exact ⟨false, 6, rfl, .inr (.inr (.inl ⟨by omega, HP.out, HX.out, rfl, rfl⟩)), hb1.alloc hb1.size _⟩
    · have HX := Lib.hid (show ¬ (0 ≤ x ∧ x < 2 ^ ((m : Int)).toNat) by rw [Int.toNat_natCast, HPP.out]; omega)
      go_enter Try.func18, Try.ntmps18
      go_wp2_with fail
      refine (of_kind1 _).mono ?_
      rintro e w1 ⟨rfl, hb1⟩
      go_wp2_with fail
      refine (isFew_any (m : Int) _).mono ?_
      rintro e w2 ⟨rfl, rfl⟩
      rw [← HM.out]
      go_wp2_with fail
      go_ret2
      exact ⟨false, 6, rfl, .inr (.inr (.inl ⟨by omega, HP.out, HX.out, rfl, rfl⟩)), hb1.alloc hb1.size _⟩
    · have HX := Lib.hid (show 0 ≤ x ∧ x < 2 ^ ((m : Int)).toNat by rw [Int.toNat_natCast, HPP.out]; omega)
      go_enter Try.func18, Try.ntmps18
      go_wp2_with fail
      refine (of_kind1 _).mono ?_
      rintro e w1 ⟨rfl, hb1⟩
      go_wp2_with fail
      refine (isFew_any (m : Int) _).mono ?_
      rintro e w2 ⟨rfl, rfl⟩
      rw [← HM.out]
      go_wp2_with fail
      refine (meetsAll_any m x _ hm40).mono ?_
      rintro e w3 ⟨rfl, rfl⟩
      go_wp2_with fail
      go_ret2
      refine ⟨_, 0, rfl, .inr (.inr (.inr ⟨by omega, HP.out, HX.out, ?_, rfl⟩)), hb1.alloc hb1.size _⟩
      simp [accB]

set_option maxHeartbeats 2000000 in
theorem accepts_2 (marks x : Int) (w : World) : Calls Try.prog 18 #[.int .i64 2, .int .i64 marks, .int .i64 x] w fun e w' => ResA w w' 2 marks x e := by
  have HM := Lib.hid (show marksB 2 marks = (decide (marks = 1)) by unfold marksB; simp)
  cases hp : marksB 2 marks
  · have HP := Lib.hid hp
    rw [hp] at HM
    clear hp
    go_enter Try.func18, Try.ntmps18
    go_wp2_with fail
    refine (of_kind2 _).mono ?_
    rintro e w1 ⟨rfl, hb1⟩
    go_wp2_with fail
    refine (isOne_any marks _).mono ?_
    rintro e w2 ⟨rfl, rfl⟩
    rw [← HM.out]
    go_wp2_with fail
    go_ret2
    exact ⟨false, 1, rfl, .inr (.inl ⟨by omega, HP.out, rfl, rfl⟩), hb1.alloc hb1.size _⟩
  · have hm := marksB_few hp
    obtain ⟨m, rfl⟩ := Int.eq_ofNat_of_zero_le hm.1
    have hm40 : m ≤ 40 := by omega
    have HP := Lib.hid hp
    rw [hp] at HM
    clear hp hm
    obtain ⟨P, hPw, HPP⟩ : ∃ P : Int, IntKind.i64.wrap ((2 : Int) ^ m) = P ∧ Hid ((2 : Int) ^ m = P) := ⟨_, (pow_wrap40 hm40).1, rfl⟩
    have hm0 : (0 : Int) ≤ (m : Int) := by omega
    have hcase : x < 0 ∨ (0 ≤ x ∧ P ≤ x) ∨ (0 ≤ x ∧ x < P) := by omega
    rcases hcase with hx | ⟨hx, hx2⟩ | ⟨hx, hx2⟩
    · have HX := Lib.hid (show ¬ (0 ≤ x ∧ x < 2 ^ ((m : Int)).toNat) by omega)
      go_enter Try.func18, Try.ntmps18
      go_wp2_with fail
      refine (of_kind2 _).mono ?_
      rintro e w1 ⟨rfl, hb1⟩
      go_wp2_with fail
      refine (isOne_any (m : Int) _).mono ?_
      rintro e w2 ⟨rfl, rfl⟩
      rw [← HM.out]
      go_wp2_with fail
      go_ret2
      exact ⟨false, 6, rfl, .inr (.inr (.inl ⟨by omega, HP.out, HX.out, rfl, rfl⟩)), hb1.alloc hb1.size _⟩
    · have HX := Lib.hid (show ¬ (0 ≤ x ∧ x < 2 ^ ((m : Int)).toNat) by rw [Int.toNat_natCast, HPP.out]; omega)
      go_enter Try.func18, Try.ntmps18
      go_wp2_with fail
      refine (of_kind2 _).mono ?_
      rintro e w1 ⟨rfl, hb1⟩
      go_wp2_with fail
      refine (isOne_any (m : Int) _).mono ?_
      rintro e w2 ⟨rfl, rfl⟩
      rw [← HM.out]
      go_wp2_with fail
      go_ret2
      exact ⟨false, 6, rfl, .inr (.inr (.inl ⟨by omega, HP.out, HX.out, rfl, rfl⟩)), hb1.alloc hb1.size _⟩
    · have HX := Lib.hid (show 0 ≤ x ∧ x < 2 ^ ((m : Int)).toNat by rw [Int.toNat_natCast, HPP.out]; omega)
      go_enter Try.func18, Try.ntmps18
      go_wp2_with fail
      refine (of_kind2 _).mono ?_
      rintro e w1 ⟨rfl, hb1⟩
      go_wp2_with fail
      refine (isOne_any (m : Int) _).mono ?_
      rintro e w2 ⟨rfl, rfl⟩
      rw [← HM.out]
      go_wp2_with fail
      refine (meetsNone_any m x _).mono ?_
      rintro e w3 ⟨rfl, rfl⟩
      go_wp2_with fail
      go_ret2
      refine ⟨_, 0, rfl, .inr (.inr (.inr ⟨by omega, HP.out, HX.out, ?_, rfl⟩)), hb1.alloc hb1.size _⟩
      simp [accB]

set_option maxHeartbeats 2000000 in
theorem accepts_3 (marks x : Int) (w : World) : Calls Try.prog 18 #[.int .i64 3, .int .i64 marks, .int .i64 x] w fun e w' => ResA w w' 3 marks x e := by
  have HM := Lib.hid (show marksB 3 marks = (evenMB marks) by unfold marksB; simp)
  cases hp : marksB 3 marks
  · have HP := Lib.hid hp
    rw [hp] at HM
    clear hp
    go_enter Try.func18, Try.ntmps18
    go_wp2_with fail
    refine (of_kind3 _).mono ?_
    rintro e w1 ⟨rfl, hb1⟩
    go_wp2_with fail
    refine (isFewPairs_any marks _).mono ?_
    rintro e w2 ⟨rfl, rfl⟩
    rw [← HM.out]
    go_wp2_with fail
    go_ret2
    exact ⟨false, 1, rfl, .inr (.inl ⟨by omega, HP.out, rfl, rfl⟩), hb1.alloc hb1.size _⟩
  · have hm := marksB_few hp
    obtain ⟨m, rfl⟩ := Int.eq_ofNat_of_zero_le hm.1
    have hm40 : m ≤ 40 := by omega
    have HP := Lib.hid hp
    rw [hp] at HM
    clear hp hm
    obtain ⟨P, hPw, HPP⟩ : ∃ P : Int, IntKind.i64.wrap ((2 : Int) ^ m) = P ∧ Hid ((2 : Int) ^ m = P) := ⟨_, (pow_wrap40 hm40).1, rfl⟩
    have hm0 : (0 : Int) ≤ (m : Int) := by omega
    have hcase : x < 0 ∨ (0 ≤ x ∧ P ≤ x) ∨ (0 ≤ x ∧ x < P) := by omega
    rcases hcase with hx | ⟨hx, hx2⟩ | ⟨hx, hx2⟩
    · have HX := Lib.hid (show ¬ (0 ≤ x ∧ x < 2 ^ ((m : Int)).toNat) by omega)
      go_enter Try.func18, Try.ntmps18
      go_wp2_with fail
      refine (of_kind3 _).mono ?_
      rintro e w1 ⟨rfl, hb1⟩
      go_wp2_with fail
      refine (isFewPairs_any (m : Int) _).mono ?_
      rintro e w2 ⟨rfl, rfl⟩
      rw [← HM.out]
      go_wp2_with fail
      go_ret2
      exact ⟨false, 6, rfl, .inr (.inr (.inl ⟨by omega, HP.out, HX.out, rfl, rfl⟩)), hb1.alloc hb1.size _⟩
    · have HX := Lib.hid (show ¬ (0 ≤ x ∧ x < 2 ^ ((m : Int)).toNat) by rw [Int.toNat_natCast, HPP.out]; omega)
      go_enter Try.func18, Try.ntmps18
      go_wp2_with fail
      refine (of_kind3 _).mono ?_
      rintro e w1 ⟨rfl, hb1⟩
      go_wp2_with fail
      refine (isFewPairs_any (m : Int) _).mono ?_
      rintro e w2 ⟨rfl, rfl⟩
      rw [← HM.out]
      go_wp2_with fail
      go_ret2
      exact ⟨false, 6, rfl, .inr (.inr (.inl ⟨by omega, HP.out, HX.out, rfl, rfl⟩)), hb1.alloc hb1.size _⟩
    · have HX := Lib.hid (show 0 ≤ x ∧ x < 2 ^ ((m : Int)).toNat by rw [Int.toNat_natCast, HPP.out]; omega)
      go_enter Try.func18, Try.ntmps18
      go_wp2_with fail
      refine (of_kind3 _).mono ?_
      rintro e w1 ⟨rfl, hb1⟩
      go_wp2_with fail
      refine (isFewPairs_any (m : Int) _).mono ?_
      rintro e w2 ⟨rfl, rfl⟩
      rw [← HM.out]
      go_wp2_with fail
      refine (meetsPair_any m x _ hm40).mono ?_
      rintro e w3 ⟨rfl, rfl⟩
      go_wp2_with fail
      go_ret2
      refine ⟨_, 0, rfl, .inr (.inr (.inr ⟨by omega, HP.out, HX.out, ?_, rfl⟩)), hb1.alloc hb1.size _⟩
      simp [accB]

set_option maxHeartbeats 2000000 in
theorem accepts_4 (marks x : Int) (w : World) : Calls Try.prog 18 #[.int .i64 4, .int .i64 marks, .int .i64 x] w fun e w' => ResA w w' 4 marks x e := by
  have HM := Lib.hid (show marksB 4 marks = (evenMB marks) by unfold marksB; simp)
  cases hp : marksB 4 marks
  · have HP := Lib.hid hp
    rw [hp] at HM
    clear hp
    go_enter Try.func18, Try.ntmps18
    go_wp2_with fail
    refine (of_kind4 _).mono ?_
    rintro e w1 ⟨rfl, hb1⟩
    go_wp2_with fail
    refine (isFewPairs_any marks _).mono ?_
    rintro e w2 ⟨rfl, rfl⟩
    rw [← HM.out]
    go_wp2_with fail
    go_ret2
    exact ⟨false, 1, rfl, .inr (.inl ⟨by omega, HP.out, rfl, rfl⟩), hb1.alloc hb1.size _⟩
  · have hm := marksB_few hp
    obtain ⟨m, rfl⟩ := Int.eq_ofNat_of_zero_le hm.1
    have hm40 : m ≤ 40 := by omega
    have HP := Lib.hid hp
    rw [hp] at HM
    clear hp hm
    obtain ⟨P, hPw, HPP⟩ : ∃ P : Int, IntKind.i64.wrap ((2 : Int) ^ m) = P ∧ Hid ((2 : Int) ^ m = P) := ⟨_, (pow_wrap40 hm40).1, rfl⟩
    have hm0 : (0 : Int) ≤ (m : Int) := by omega
    have hcase : x < 0 ∨ (0 ≤ x ∧ P ≤ x) ∨ (0 ≤ x ∧ x < P) := by omega
    rcases hcase with hx | ⟨hx, hx2⟩ | ⟨hx, hx2⟩
    · have HX := Lib.hid (show ¬ (0 ≤ x ∧ x < 2 ^ ((m : Int)).toNat) by omega)
      go_enter Try.func18, Try.ntmps18
      go_wp2_with fail
      refine (of_kind4 _).mono ?_
      rintro e w1 ⟨rfl, hb1⟩
      go_wp2_with fail
      refine (isFewPairs_any (m : Int) _).mono ?_
      rintro e w2 ⟨rfl, rfl⟩
      rw [← HM.out]
      go_wp2_with fail
      go_ret2
      exact ⟨false, 6, rfl, .inr (.inr (.inl ⟨by omega, HP.out, HX.out, rfl, rfl⟩)), hb1.alloc hb1.size _⟩
    · have HX := Lib.hid (show ¬ (0 ≤ x ∧ x < 2 ^ ((m : Int)).toNat) by rw [Int.toNat_natCast, HPP.out]; omega)
      go_enter Try.func18, Try.ntmps18
      go_wp2_with fail
      refine (of_kind4 _).mono ?_
      rintro e w1 ⟨rfl, hb1⟩
      go_wp2_with fail
      refine (isFewPairs_any (m : Int) _).mono ?_
      rintro e w2 ⟨rfl, rfl⟩
      rw [← HM.out]
      go_wp2_with fail
      go_ret2
      exact ⟨false, 6, rfl, .inr (.inr (.inl ⟨by omega, HP.out, HX.out, rfl, rfl⟩)), hb1.alloc hb1.size _⟩
    · have HX := Lib.hid (show 0 ≤ x ∧ x < 2 ^ ((m : Int)).toNat by rw [Int.toNat_natCast, HPP.out]; omega)
      go_enter Try.func18, Try.ntmps18
      go_wp2_with fail
      refine (of_kind4 _).mono ?_
      rintro e w1 ⟨rfl, hb1⟩
      go_wp2_with fail
      refine (isFewPairs_any (m : Int) _).mono ?_
      rintro e w2 ⟨rfl, rfl⟩
      rw [← HM.out]
      go_wp2_with fail
      refine (unpaired_any m x _ hm40).mono ?_
      rintro e w3 ⟨rfl, rfl⟩
      go_wp2_with fail
      go_ret2
      refine ⟨_, 0, rfl, .inr (.inr (.inr ⟨by omega, HP.out, HX.out, ?_, rfl⟩)), hb1.alloc hb1.size _⟩
      simp [accB]

set_option maxHeartbeats 2000000 in
theorem accepts_5 (marks x : Int) (w : World) : Calls Try.prog 18 #[.int .i64 5, .int .i64 marks, .int .i64 x] w fun e w' => ResA w w' 5 marks x e := by
  have HM := Lib.hid (show marksB 5 marks = (fewMB marks) by unfold marksB; simp)
  cases hp : marksB 5 marks
  · have HP := Lib.hid hp
    rw [hp] at HM
    clear hp
    go_enter Try.func18, Try.ntmps18
    go_wp2_with fail
    refine (of_kind5 _).mono ?_
    rintro e w1 ⟨rfl, hb1⟩
    go_wp2_with fail
    refine (isFew_any marks _).mono ?_
    rintro e w2 ⟨rfl, rfl⟩
    rw [← HM.out]
    go_wp2_with fail
    go_ret2
    exact ⟨false, 1, rfl, .inr (.inl ⟨by omega, HP.out, rfl, rfl⟩), hb1.alloc hb1.size _⟩
  · have hm := marksB_few hp
    obtain ⟨m, rfl⟩ := Int.eq_ofNat_of_zero_le hm.1
    have hm40 : m ≤ 40 := by omega
    have HP := Lib.hid hp
    rw [hp] at HM
    clear hp hm
    obtain ⟨P, hPw, HPP⟩ : ∃ P : Int, IntKind.i64.wrap ((2 : Int) ^ m) = P ∧ Hid ((2 : Int) ^ m = P) := ⟨_, (pow_wrap40 hm40).1, rfl⟩
    have hm0 : (0 : Int) ≤ (m : Int) := by omega
    have hcase : x < 0 ∨ (0 ≤ x ∧ P ≤ x) ∨ (0 ≤ x ∧ x < P) := by omega
    rcases hcase with hx | ⟨hx, hx2⟩ | ⟨hx, hx2⟩
    · have HX := Lib.hid (show ¬ (0 ≤ x ∧ x < 2 ^ ((m : Int)).toNat) by omega)
      go_enter Try.func18, Try.ntmps18
      go_wp2_with fail
      refine (of_kind5 _).mono ?_
      rintro e w1 ⟨rfl, hb1⟩
      go_wp2_with fail
      refine (isFew_any (m : Int) _).mono ?_
      rintro e w2 ⟨rfl, rfl⟩
      rw [← HM.out]
      go_wp2_with fail
      go_ret2
      exact ⟨false, 6, rfl, .inr (.inr (.inl ⟨by omega, HP.out, HX.out, rfl, rfl⟩)), hb1.alloc hb1.size _⟩
    · have HX := Lib.hid (show ¬ (0 ≤ x ∧ x < 2 ^ ((m : Int)).toNat) by rw [Int.toNat_natCast, HPP.out]; omega)
      go_enter Try.func18, Try.ntmps18
      go_wp2_with fail
      refine (of_kind5 _).mono ?_
      rintro e w1 ⟨rfl, hb1⟩
      go_wp2_with fail
      refine (isFew_any (m : Int) _).mono ?_
      rintro e w2 ⟨rfl, rfl⟩
      rw [← HM.out]
      go_wp2_with fail
      go_ret2
      exact ⟨false, 6, rfl, .inr (.inr (.inl ⟨by omega, HP.out, HX.out, rfl, rfl⟩)), hb1.alloc hb1.size _⟩
    · have HX := Lib.hid (show 0 ≤ x ∧ x < 2 ^ ((m : Int)).toNat by rw [Int.toNat_natCast, HPP.out]; omega)
      have hP62 : P < 4611686018427387904 := by
        have h1 := pow_small hm40
        rw [HPP.out] at h1
        exact h1
      obtain ⟨x, rfl⟩ := Int.eq_ofNat_of_zero_le hx
      have HX62 := Lib.hid (show x < 2 ^ 62 by omega)
      go_enter Try.func18, Try.ntmps18
      go_wp2_with fail
      refine (of_kind5 _).mono ?_
      rintro e w1 ⟨rfl, hb1⟩
      go_wp2_with fail
      refine (isFew_any (m : Int) _).mono ?_
      rintro e w2 ⟨rfl, rfl⟩
      rw [← HM.out]
      go_wp2_with fail
      refine (meetsEven_any m x _ HX62.out).mono ?_
      rintro e w3 ⟨rfl, rfl⟩
      go_wp2_with fail
      go_ret2
      refine ⟨_, 0, rfl, .inr (.inr (.inr ⟨by omega, HP.out, HX.out, ?_, rfl⟩)), hb1.alloc hb1.size _⟩
      simp [accB]

theorem accepts_any (kind marks x : Int) (w : World) : Calls Try.prog 18 #[.int .i64 kind, .int .i64 marks, .int .i64 x] w fun e w' => ResA w w' kind marks x e := by
  by_cases hk : 0 ≤ kind ∧ kind ≤ 5
  · have h : kind = 0 ∨ kind = 1 ∨ kind = 2 ∨ kind = 3 ∨ kind = 4 ∨ kind = 5 := by omega
    rcases h with rfl | rfl | rfl | rfl | rfl | rfl
    · exact accepts_0 marks x w
    · exact accepts_1 marks x w
    · exact accepts_2 marks x w
    · exact accepts_3 marks x w
    · exact accepts_4 marks x w
    · exact accepts_5 marks x w
  · exact accepts_none kind marks x w hk

end Go.Proofs.Ytalgbcndifaaiaa.Wd
