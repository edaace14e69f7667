/-
  The acceptance of package aut: what the six kinds permit and accept.
-/
import Derived.Test.YtalgbcndifaaiaaAtTop
import Derived.Test.YtalgbcndifaaiaaWdLeaf
import Derived.Shelf.Lay
import Derived.Shelf.Small.Bits
import Derived.RegionTactic
namespace Go.Proofs.Ytalgbcndifaaiaa.Wd
open Go.RowKit
set_option linter.unusedVariables false

theorem isOne_any (m : Int) (w : World) : Calls Try.prog 56 #[.int .i64 m] w fun e w' => e = .returned (.bool (decide (m = 1))) ∧ w = w' := by
  go_enter Try.func56, Try.ntmps56
  go_wp2_with fail
  go_ret
  exact ⟨ret_bool (by first | rfl | simp), rfl⟩
def fewMB (m : Int) : Bool := decide (0 ≤ m ∧ m ≤ 40)
def evenMB (m : Int) : Bool := decide ((0 ≤ m ∧ m ≤ 40) ∧ m % 2 = 0)
theorem isFew_any (m : Int) (w : World) : Calls Try.prog 59 #[.int .i64 m] w fun e w' => e = .returned (.bool (fewMB m)) ∧ w = w' := by
  have hc : m < 0 ∨ (0 ≤ m ∧ m ≤ 40) ∨ (0 ≤ m ∧ 40 < m) := by omega
  rcases hc with h | ⟨h, h'⟩ | ⟨h, h'⟩
  · have HF := Lib.hid (show fewMB m = false from decide_eq_false (by omega))
    go_enter Try.func59, Try.ntmps59
    go_wp2_with fail
    go_ret
    exact ⟨ret_bool HF.out.symm, rfl⟩
  · have HF := Lib.hid (show fewMB m = true from decide_eq_true (by omega))
    go_enter Try.func59, Try.ntmps59
    go_wp2_with fail
    go_ret
    exact ⟨ret_bool HF.out.symm, rfl⟩
  · have HF := Lib.hid (show fewMB m = false from decide_eq_false (by omega))
    go_enter Try.func59, Try.ntmps59
    go_wp2_with fail
    go_ret
    exact ⟨ret_bool (by rw [HF.out]; exact decide_eq_false (by omega)), rfl⟩
theorem isFewPairs_any (m : Int) (w : World) : Calls Try.prog 63 #[.int .i64 m] w fun e w' => e = .returned (.bool (evenMB m)) ∧ w = w' := by
  cases hf : fewMB m
  · have HF := Lib.hid (show evenMB m = false from decide_eq_false (by unfold fewMB at hf; rw [decide_eq_false_iff_not] at hf; omega))
    go_enter Try.func63, Try.ntmps63
    go_wp2_with fail
    refine (isFew_any m _).mono ?_
    rintro e w' ⟨rfl, rfl⟩
    rw [hf]
    go_wp2_with fail
    go_ret
    exact ⟨ret_bool HF.out.symm, rfl⟩
  · have hm : 0 ≤ m ∧ m ≤ 40 := by unfold fewMB at hf; exact of_decide_eq_true hf
    obtain ⟨h1, h2⟩ := hm
    obtain ⟨r, hr, HR⟩ : ∃ r : Int, m.tmod 2 = r ∧ Hid (m % 2 = r) := ⟨_, Int.tmod_eq_emod_of_nonneg h1, rfl⟩
    have HF := Lib.hid (show evenMB m = decide (r = 0) from decide_eq_decide.2 (by rw [HR.out]; omega))
    go_enter Try.func63, Try.ntmps63
    go_wp2_with fail
    refine (isFew_any m _).mono ?_
    rintro e w' ⟨rfl, rfl⟩
    rw [hf]
    go_wp2_with fail
    go_ret
    exact ⟨ret_bool (by rw [HF.out]; first | rfl | simp), rfl⟩

theorem pow_wrap40 {m : Nat} (hm : m ≤ 40) : IntKind.i64.wrap ((2 : Int) ^ m) = (2 : Int) ^ m ∧ IntKind.i64.wrap ((2 : Int) ^ m - 1) = (2 : Int) ^ m - 1 := by
  have h : ∀ k : Fin 41, IntKind.i64.wrap ((2 : Int) ^ k.val) = (2 : Int) ^ k.val ∧ IntKind.i64.wrap ((2 : Int) ^ k.val - 1) = (2 : Int) ^ k.val - 1 := by decide +kernel
  exact h ⟨m, by omega⟩

theorem meetsAll_any (m : Nat) (x : Int) (w : World) (hm : m ≤ 40) : Calls Try.prog 57 #[.int .i64 m, .int .i64 x] w fun e w' => e = .returned (.bool (decide (x = (2 : Int) ^ m - 1))) ∧ w = w' := by
  obtain ⟨P, hP, hP1, HP⟩ : ∃ P : Int, IntKind.i64.wrap ((2 : Int) ^ m) = P ∧ IntKind.i64.wrap (P - 1) = P - 1 ∧ Hid ((2 : Int) ^ m = P) := ⟨_, (pow_wrap40 hm).1, (pow_wrap40 hm).2, rfl⟩
  have h0 : (0 : Int) ≤ (m : Int) := by omega
  go_enter Try.func57, Try.ntmps57
  go_wp2_with fail
  go_ret
  exact ⟨ret_bool (by rw [HP.out]; first | rfl | simp), rfl⟩
theorem meetsNone_any (m x : Int) (w : World) : Calls Try.prog 61 #[.int .i64 m, .int .i64 x] w fun e w' => e = .returned (.bool (decide (x = 0))) ∧ w = w' := by
  go_enter Try.func61, Try.ntmps61
  go_wp2_with fail
  go_ret
  exact ⟨ret_bool (by first | rfl | simp), rfl⟩

set_option maxHeartbeats 1000000 in
theorem meetsPair_any (m : Nat) (x : Int) (w : World) (hm : m ≤ 40) : Calls Try.prog 64 #[.int .i64 m, .int .i64 x] w fun e w' => e = .returned (.bool (pairB m x)) ∧ w = w' := by
  go_enter Try.func64, Try.ntmps64
  go_wp2_with fail
  go_loop [5] (fun v => ∃ i : Nat, i ≤ m + 1 ∧ Hid (i % 2 = 0 ∧ pairB i x = false) ∧ v = .int .i64 i) (fun v => m + 2 - (intOf v).toNat)
  case atStart => exact ⟨0, by omega, ⟨rfl, pairB_zero x⟩, rfl⟩
  case round =>
    obtain ⟨i, hi, HI, rfl⟩ := hrel
    have h0 : (0 : Int) ≤ (i : Int) := by omega
    by_cases hlt : i < m
    · obtain ⟨r, hr, HR⟩ : ∃ r : Int, bits .and .i64 (x / 2 ^ i) 3 = r ∧ Hid (x / 2 ^ i % 4 = r) := ⟨_, and3 _, rfl⟩
      by_cases h2 : r = 2
      · subst h2
        have HB := Lib.hid (pairB_true (x := x) HI.out.1 hlt HR.out)
        go_wp2_with fail
        go_ret
        exact ⟨ret_bool HB.out.symm, rfl⟩
      · have HB := Lib.hid (pairB_step (x := x) HI.out.1 (by rw [HR.out]; exact h2))
        go_wp2_with fail
        go_round
        case rel => exact ⟨i + 2, by omega, ⟨by have := HI.out.1; omega, by rw [HB.out]; exact HI.out.2⟩, by go_num⟩
        case measure => simp [intOf]; omega
    · have HE := Lib.hid (show pairB m x = false from by
        rcases Nat.lt_or_ge m i with h | h
        · have := HI.out.2
          rw [Bool.eq_false_iff] at this ⊢
          intro ht
          apply this
          unfold pairB at ht ⊢
          rw [List.any_eq_true] at ht ⊢
          obtain ⟨j, hj, hj2⟩ := ht
          exact ⟨j, List.mem_range.2 (by have := List.mem_range.1 hj; omega), hj2⟩
        · obtain rfl : i = m := by omega
          exact HI.out.2)
      go_wp2_with fail
      go_ret
      exact ⟨ret_bool HE.out.symm, rfl⟩

theorem unpaired_any (m : Nat) (x : Int) (w : World) (hm : m ≤ 40) : Calls Try.prog 65 #[.int .i64 m, .int .i64 x] w fun e w' => e = .returned (.bool (!pairB m x)) ∧ w = w' := by
  go_enter Try.func65, Try.ntmps65
  go_wp2_with fail
  refine (meetsPair_any m x _ hm).mono ?_
  rintro e w' ⟨rfl, rfl⟩
  go_wp2_with fail
  go_ret
  exact ⟨rfl, rfl⟩

end Go.Proofs.Ytalgbcndifaaiaa.Wd
