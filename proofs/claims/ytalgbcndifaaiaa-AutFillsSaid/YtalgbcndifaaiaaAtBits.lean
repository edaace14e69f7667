/-
  Bits of numbers, for the acceptance of runs: no program is looked at here.
-/
import Derived.Laws.BitsLemmas
import Derived.Below
namespace Go.Proofs.Ytalgbcndifaaiaa.Wd
open Go Go.RowKit

theorem and3 (n : Int) : bits .and .i64 n 3 = n % 4 := by
  have h : (BitVec.ofInt 64 3).toNat = 2 ^ 2 - 1 := by decide
  have key : (BitVec.ofInt 64 n &&& BitVec.ofInt 64 3).toNat = (n % ((2 ^ 64 : Nat) : Int)).toNat % 2 ^ 2 := by
    rw [BitVec.toNat_and, BitVec.toNat_ofInt, h, Nat.and_two_pow_sub_one_eq_mod]
  show IntKind.i64.wrap ((BitVec.ofInt 64 n &&& BitVec.ofInt 64 3).toNat : Nat) = n % 4
  rw [key, IntKind.wrap_i64]
  omega
theorem and1 (n : Int) : bits .and .i64 n 1 = n % 2 := by
  have h : (BitVec.ofInt 64 1).toNat = 2 ^ 1 - 1 := by decide
  have key : (BitVec.ofInt 64 n &&& BitVec.ofInt 64 1).toNat = (n % ((2 ^ 64 : Nat) : Int)).toNat % 2 ^ 1 := by
    rw [BitVec.toNat_and, BitVec.toNat_ofInt, h, Nat.and_two_pow_sub_one_eq_mod]
  show IntKind.i64.wrap ((BitVec.ofInt 64 n &&& BitVec.ofInt 64 1).toNat : Nat) = n % 2
  rw [key, IntKind.wrap_i64]
  omega

/-- Is the bit i set? -/
def hasB (x : Int) (i : Nat) : Bool := decide (x / 2 ^ i % 2 = 1)
/-- Is of some pair the second bit set, and the first one not? -/
def pairB (m : Nat) (x : Int) : Bool := (List.range m).any fun i => decide (i % 2 = 0) && decide (x / 2 ^ i % 4 = 2)

theorem pairB_zero (x : Int) : pairB 0 x = false := rfl
theorem pairB_step {i : Nat} {x : Int} (h : i % 2 = 0) (hx : ¬ x / 2 ^ i % 4 = 2) : pairB (i + 2) x = pairB i x := by
  unfold pairB
  rw [List.range_succ, List.range_succ]
  simp only [List.any_append, List.any_cons, List.any_nil, Bool.or_false]
  rw [show decide (x / 2 ^ i % 4 = 2) = false from decide_eq_false hx, show decide ((i + 1) % 2 = 0) = false from decide_eq_false (by omega)]
  simp
theorem pairB_true {i m : Nat} {x : Int} (h : i % 2 = 0) (hm : i < m) (hx : x / 2 ^ i % 4 = 2) : pairB m x = true := by
  unfold pairB
  rw [List.any_eq_true]
  exact ⟨i, List.mem_range.2 hm, by simp [h, hx]⟩

theorem half_pow (x : Int) (i : Nat) : x / 2 ^ (i + 1) = x / 2 ^ i / 2 := by
  rw [Int.ediv_ediv_of_nonneg (by exact Int.le_of_lt (Int.pow_pos (by decide))), Int.pow_succ]
/-- The two bits of a pair. -/
theorem has_pair (x : Int) (i : Nat) : (!hasB x i && hasB x (i + 1)) = decide (x / 2 ^ i % 4 = 2) := by
  unfold hasB
  rw [half_pow]
  generalize x / 2 ^ i = y
  by_cases h1 : y % 2 = 1 <;> by_cases h2 : y / 2 % 2 = 1
  · rw [decide_eq_true h1, decide_eq_false (show ¬ y % 4 = 2 by omega)]; rfl
  · rw [decide_eq_true h1, decide_eq_false (show ¬ y % 4 = 2 by omega)]; rfl
  · rw [decide_eq_false h1, decide_eq_true h2, decide_eq_true (show y % 4 = 2 by omega)]; rfl
  · rw [decide_eq_false h1, decide_eq_false h2, decide_eq_false (show ¬ y % 4 = 2 by omega)]; rfl

end Go.Proofs.Ytalgbcndifaaiaa.Wd
