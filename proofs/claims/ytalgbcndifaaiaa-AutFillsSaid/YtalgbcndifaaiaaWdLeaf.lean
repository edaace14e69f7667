/-
  The small functions of package word: size, allLetters, Valid, period.
-/
import Derived.Test.YtalgbcndifaaiaaProg
import Derived.Test.YtalgbcndifaaiaaWdKit
import Derived.Test.YtalgbcndifaaiaaWdMath
import Derived.WalkKit
import Derived.WalkSpells
import Derived.BigQuiet
import Derived.Deep.QuietTactic
import Derived.Deep.LoopGhost
import Derived.Lib.Hide
namespace Go.Proofs.Ytalgbcndifaaiaa.Wd
open Go.RowKit

/-- All of l are letters below b. -/
def lettersB (b : Int) (l : List Int) : Bool := l.all fun x => decide (0 ≤ x) && decide (x < b)

theorem lettersB_take {b : Int} {l : List Int} {k : Nat} (hk : k < l.length) (h : lettersB b (l.take k) = true) :
    lettersB b (l.take (k + 1)) = (decide (0 ≤ l.getD k 0) && decide (l.getD k 0 < b)) := by
  rw [List.take_succ_eq_append_getElem hk]
  simp only [lettersB] at h ⊢
  rw [List.all_append, h]
  simp [List.getD_eq_getElem?_getD, List.getElem?_eq_getElem hk]
theorem lettersB_bad {b : Int} {l : List Int} {k : Nat} (hk : k < l.length) (h : ¬ (0 ≤ l.getD k 0 ∧ l.getD k 0 < b)) : lettersB b l = false := by
  rw [Bool.eq_false_iff]
  intro hall
  simp only [lettersB, List.all_eq_true] at hall
  have := hall l[k] (List.getElem_mem hk)
  apply h
  simpa [List.getD_eq_getElem?_getD, List.getElem?_eq_getElem hk] using this

theorem wrap_pow {k : Nat} (hk : k ≤ 6) : wrap64 ((2 : Int) ^ k) = (2 : Int) ^ k := by
  have : k = 0 ∨ k = 1 ∨ k = 2 ∨ k = 3 ∨ k = 4 ∨ k = 5 ∨ k = 6 := by omega
  rcases this with rfl | rfl | rfl | rfl | rfl | rfl | rfl <;> exact IntWalk.wrap64_in _ ⟨by decide, by decide⟩

set_option maxHeartbeats 400000 in
theorem allLetters_any (A : Option Addr) (n c : Nat) (k : Nat) (xs : List Int) (w : World) (h : Ints w A n xs) (hn : n ≤ 100000) (hk : k ≤ 6) :
    Calls Try.prog 52 #[.slice A n c, .int .i64 k] w fun e w' => e = .returned (.bool (lettersB ((2 : Int) ^ k) xs)) ∧ w = w' := by
  have hx := h.1
  have hp := wrap_pow hk
  go_enter Try.func52, Try.ntmps52
  go_wp2_with fail
  go_loop [6, 9] (fun _ i => ∃ j : Nat, j ≤ n ∧ i = .int .i64 j ∧ lettersB ((2 : Int) ^ k) (xs.take j) = true) (fun _ i => n - (intOf i).toNat)
  case atStart => exact ⟨0, Nat.zero_le _, rfl, by simp [lettersB]⟩
  case round =>
    obtain ⟨j, hj, rfl, hall⟩ := hrel
    by_cases hlt : j < n
    · obtain ⟨b, off, rfl, hb, hc⟩ := h.at_ hlt
      have hcj := hc j hlt
      have HT := Lib.hid (lettersB_take (b := (2 : Int) ^ k) (by omega) hall)
      have HB := Lib.hid (fun h => lettersB_bad (b := (2 : Int) ^ k) (l := xs) (k := j) (by omega) h)
      have HG := Lib.hid (show xs.getD j 0 = xs[j] from by simp [List.getD_eq_getElem?_getD, List.getElem?_eq_getElem (show j < xs.length by omega)])
      clear h hc hall
      go_wp2
      · go_ret
        exact ⟨ret_bool (HB.out (by rw [HG.out]; omega)).symm, rfl⟩
      · go_round
        case rel => exact ⟨j + 1, by omega, by go_num, by rw [HT.out, HG.out]; simp; omega⟩
        case measure => simp [intOf]; omega
      · go_ret
        exact ⟨ret_bool (HB.out (by rw [HG.out]; omega)).symm, rfl⟩
    · have HA := Lib.hid hall
      clear hall
      go_wp2
      go_ret
      exact ⟨ret_bool (by rw [← HA.out, List.take_of_length_le (by omega)]), rfl⟩

theorem size_any (A B : Option Addr) (n c m d : Nat) (w : World) (hn : n ≤ 100000) (hm : m ≤ 100000) :
    Calls Try.prog 51 #[.agg #[.slice A n c, .slice B m d]] w fun e w' => e = .returned (.int .i64 ((n : Int) + m)) ∧ Below w.heap.size w w' := by
  go_enter Try.func51, Try.ntmps51
  go_wp2
  go_ret
  exact ⟨rfl, (Below.refl _ _).alloc (Nat.le_refl _) _⟩

/-- Is the word of the stem xs and the loop ys valid over k propositions? -/
def validB (k : Int) (xs ys : List Int) : Bool :=
  decide (0 ≤ k) && decide (k ≤ 6) && decide (0 < ys.length) && decide (xs.length + ys.length ≤ 200) && lettersB ((2 : Int) ^ k.toNat) xs && lettersB ((2 : Int) ^ k.toNat) ys

theorem valid_lo {k : Int} {xs ys : List Int} (h : k < 0) : validB k xs ys = false := by simp [validB, show ¬ 0 ≤ k by omega]
theorem valid_hi {k : Int} {xs ys : List Int} (h : 6 < k) : validB k xs ys = false := by simp [validB, show ¬ k ≤ 6 by omega]
theorem valid_none {k : Int} {xs ys : List Int} (h : ys.length = 0) : validB k xs ys = false := by simp [validB, h]
theorem valid_long {k : Int} {xs ys : List Int} (h : 200 < xs.length + ys.length) : validB k xs ys = false := by simp [validB, show ¬ xs.length + ys.length ≤ 200 by omega]
theorem valid_else {j : Nat} {xs ys : List Int} (h : j ≤ 6) (h0 : 0 < ys.length) (hl : xs.length + ys.length ≤ 200) : validB j xs ys = (lettersB ((2 : Int) ^ j) xs && lettersB ((2 : Int) ^ j) ys) := by
  simp [validB, h0, hl, show (j : Int) ≤ 6 by omega]

set_option maxHeartbeats 400000 in
theorem valid_any (A B : Option Addr) (n c m d : Nat) (k : Int) (xs ys : List Int) (w : World) (h : Ints w A n xs) (h' : Ints w B m ys) (hn : n ≤ 100000) (hm : m ≤ 100000) :
    Calls Try.prog 34 #[.agg #[.slice A n c, .slice B m d], .int .i64 k] w fun e w' => e = .returned (.bool (validB k xs ys)) ∧ Below w.heap.size w w' := by
  have hx := h.1
  have hy := h'.1
  by_cases h0 : k < 0
  · have HV := Lib.hid (valid_lo (xs := xs) (ys := ys) h0)
    go_enter Try.func34, Try.ntmps34
    go_wp2
    go_ret
    exact ⟨ret_bool HV.out.symm, (Below.refl _ _).alloc (Nat.le_refl _) _⟩
  by_cases h6 : 6 < k
  · have HV := Lib.hid (valid_hi (xs := xs) (ys := ys) h6)
    go_enter Try.func34, Try.ntmps34
    go_wp2
    go_ret
    exact ⟨ret_bool HV.out.symm, (Below.refl _ _).alloc (Nat.le_refl _) _⟩
  by_cases hm0 : m = 0
  · have HV := Lib.hid (valid_none (k := k) (xs := xs) (ys := ys) (by omega))
    go_enter Try.func34, Try.ntmps34
    go_wp2
    go_ret
    exact ⟨ret_bool HV.out.symm, (Below.refl _ _).alloc (Nat.le_refl _) _⟩
  obtain ⟨j, rfl⟩ := Int.eq_ofNat_of_zero_le (show 0 ≤ k by omega)
  have hj : j ≤ 6 := by omega
  by_cases hz : 200 < n + m
  · have HV := Lib.hid (valid_long (k := j) (xs := xs) (ys := ys) (by omega))
    go_enter Try.func34, Try.ntmps34
    go_wp2_with fail
    refine (size_any A B n c m d _ hn hm).mono ?_
    rintro e w1 ⟨rfl, hb1⟩
    go_wp2
    go_ret
    exact ⟨ret_bool HV.out.symm, ((Below.refl _ _).alloc (Nat.le_refl _) _).trans (hb1.mono (by simp))⟩
  · have HV := Lib.hid (valid_else (xs := xs) (ys := ys) hj (by omega) (by omega))
    go_enter Try.func34, Try.ntmps34
    go_wp2_with fail
    refine (size_any A B n c m d _ hn hm).mono ?_
    rintro e w1 ⟨rfl, hb1⟩
    obtain ⟨hc, hf⟩ := bcell hb1
    have hb0 : ((m : Int) == 0) = false := by simp; omega
    have hb2 : decide (200 < (n : Int) + m) = false := by simp; omega
    go_wp2_with fail
    refine (allLetters_any A n c j xs _ ((h.alloc _).below hb1) hn hj).mono ?_
    rintro e w2 ⟨rfl, rfl⟩
    cases hl : lettersB ((2 : Int) ^ j) xs
    · go_wp2_with fail
      go_ret
      exact ⟨ret_bool (by rw [HV.out, hl]; rfl), ((Below.refl _ _).alloc (Nat.le_refl _) _).trans (hb1.mono (by simp))⟩
    · go_wp2_with fail
      refine (allLetters_any B m d j ys _ ((h'.alloc _).below hb1) hm hj).mono ?_
      rintro e w2 ⟨rfl, rfl⟩
      go_wp2_with fail
      go_ret
      exact ⟨ret_bool (by rw [HV.out, hl]; rfl), ((Below.refl _ _).alloc (Nat.le_refl _) _).trans (hb1.mono (by simp))⟩

end Go.Proofs.Ytalgbcndifaaiaa.Wd
