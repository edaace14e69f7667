/-
  The small functions of package word: size, allLetters, Valid, period.
-/
import Derived.Test.YtffdbncjndnnaaaProg
import Derived.Test.YtffdbncjndnnaaaWdKit
import Derived.Test.YtffdbncjndnnaaaWdMath
import Derived.WalkKit
import Derived.WalkSpells
import Derived.BigQuiet
import Derived.Deep.QuietTactic
import Derived.Deep.LoopGhost
import Derived.Lib.Hide
namespace Go.Proofs.Ytffdbncjndnnaaa.Wd
open Go.RowKit

/-- All of l are letters below b. -/
def lettersB (b : Int) (l : List Int) : Bool := l.all fun x => decide (0 ≤ x) && decide (x < b)

theorem lettersB_take {b : Int} {l : List Int} {k : Nat} (hk : k < l.length) (h : lettersB b (l.take k) = true) :
    lettersB b (l.take (k + 1)) = (decide (0 ≤ l.getD k 0) && decide (l.getD k 0 < b)) := by
  rw [List.take_succ_eq_append_getElem hk]
  simp only [lettersB] at h ⊢
  rw [List.all_append, h]
  simp [List.getD_eq_getElem?_getD, List.getElem?_eq_getElem hk]
theorem lettersB_bad {b : Int} {l : List Int} {k : Nat} (hk : k < l.length) (h : ¬ (0 ≤ l.getD k 0 ∧ l.getD k 0 < b)) : lettersB b l = false := by
  rw [Bool.eq_false_iff]
  intro hall
  simp only [lettersB, List.all_eq_true] at hall
  have := hall l[k] (List.getElem_mem hk)
  apply h
  simpa [List.getD_eq_getElem?_getD, List.getElem?_eq_getElem hk] using this

theorem wrap_pow {k : Nat} (hk : k ≤ 6) : wrap64 ((2 : Int) ^ k) = (2 : Int) ^ k := by
  have : k = 0 ∨ k = 1 ∨ k = 2 ∨ k = 3 ∨ k = 4 ∨ k = 5 ∨ k = 6 := by omega
  rcases this with rfl | rfl | rfl | rfl | rfl | rfl | rfl <;> exact IntWalk.wrap64_in _ ⟨by decide, by decide⟩

/-- Is the word of the stem xs and the loop ys valid over k propositions? -/
def validB (k : Int) (xs ys : List Int) : Bool :=
  decide (0 ≤ k) && decide (k ≤ 6) && decide (0 < ys.length) && decide (xs.length + ys.length ≤ 200) && lettersB ((2 : Int) ^ k.toNat) xs && lettersB ((2 : Int) ^ k.toNat) ys

theorem valid_lo {k : Int} {xs ys : List Int} (h : k < 0) : validB k xs ys = false := by simp [validB, show ¬ 0 ≤ k by omega]
theorem valid_hi {k : Int} {xs ys : List Int} (h : 6 < k) : validB k xs ys = false := by simp [validB, show ¬ k ≤ 6 by omega]
theorem valid_none {k : Int} {xs ys : List Int} (h : ys.length = 0) : validB k xs ys = false := by simp [validB, h]
theorem valid_long {k : Int} {xs ys : List Int} (h : 200 < xs.length + ys.length) : validB k xs ys = false := by simp [validB, show ¬ xs.length + ys.length ≤ 200 by omega]
theorem valid_else {j : Nat} {xs ys : List Int} (h : j ≤ 6) (h0 : 0 < ys.length) (hl : xs.length + ys.length ≤ 200) : validB j xs ys = (lettersB ((2 : Int) ^ j) xs && lettersB ((2 : Int) ^ j) ys) := by
  simp [validB, h0, hl, show (j : Int) ≤ 6 by omega]

end Go.Proofs.Ytffdbncjndnnaaa.Wd
