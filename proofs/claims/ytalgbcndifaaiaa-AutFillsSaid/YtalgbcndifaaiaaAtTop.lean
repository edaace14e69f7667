/-
  The greatest bit of a number: no program is looked at here.
-/
import Derived.Test.YtalgbcndifaaiaaAtBits
import Derived.Lib.ItoaNum
namespace Go.Proofs.Ytalgbcndifaaiaa.Wd
open Go Go.RowKit

theorem bitLen_zero : Lib.bitLen 0 = 0 := rfl
theorem bitLen_between {k y : Nat} (hk : k < 64) (h1 : 2 ^ k ≤ y) (h2 : y < 2 ^ (k + 1)) : Lib.bitLen y = k + 1 := by
  have hy : y ≠ 0 := by
    have := Nat.two_pow_pos k
    omega
  obtain ⟨h3, h4, h5⟩ := Lib.bitLenAux_bounds 64 y (Nat.lt_of_lt_of_le h2 (Nat.pow_le_pow_right (by decide) (by omega))) hy
  show Lib.bitLenAux 64 y = k + 1
  generalize Lib.bitLenAux 64 y = L at *
  have a1 : L - 1 < k + 1 := (Nat.pow_lt_pow_iff_right (by decide : 1 < 2)).1 (Nat.lt_of_le_of_lt h4 h2)
  have a2 : k < L := (Nat.pow_lt_pow_iff_right (by decide : 1 < 2)).1 (Nat.lt_of_le_of_lt h1 h5)
  omega

theorem hasB_nat (x i : Nat) : hasB (x : Int) i = decide (x / 2 ^ i % 2 = 1) := by
  unfold hasB
  rw [decide_eq_decide]
  have h : ((x : Int) / 2 ^ i % 2) = ((x / 2 ^ i % 2 : Nat) : Int) := by simp
  rw [h]
  omega
/-- The greatest bit below k that is set, plus one. -/
def topN (x k : Nat) : Nat := Lib.bitLen (x % 2 ^ k)
theorem topN_zero (x : Nat) : topN x 0 = 0 := by
  unfold topN
  rw [Nat.pow_zero, Nat.mod_one]
  rfl
theorem topN_set {x k : Nat} (hk : k < 64) (h : hasB (x : Int) k = true) : topN x (k + 1) = k + 1 := by
  rw [hasB_nat, decide_eq_true_eq] at h
  have hm : x % 2 ^ (k + 1) = x % 2 ^ k + 2 ^ k * (x / 2 ^ k % 2) := by rw [Nat.pow_succ, Nat.mod_mul]
  rw [h] at hm
  have hlt : x % 2 ^ k < 2 ^ k := Nat.mod_lt _ (Nat.two_pow_pos k)
  unfold topN
  exact bitLen_between hk (by omega) (by rw [Nat.pow_succ] at hm ⊢; omega)
theorem topN_not {x k : Nat} (h : hasB (x : Int) k = false) : topN x (k + 1) = topN x k := by
  rw [hasB_nat, decide_eq_false_iff_not] at h
  have hm : x % 2 ^ (k + 1) = x % 2 ^ k + 2 ^ k * (x / 2 ^ k % 2) := by rw [Nat.pow_succ, Nat.mod_mul]
  rw [show x / 2 ^ k % 2 = 0 by omega] at hm
  unfold topN
  rw [hm]
  simp
theorem topN_all {x k : Nat} (h : x < 2 ^ k) : topN x k = Lib.bitLen x := by
  unfold topN
  rw [Nat.mod_eq_of_lt h]
theorem topN_le (x k : Nat) (hk : k ≤ 64) : topN x k ≤ k := Lib.bitLen_le _ k hk (Nat.mod_lt _ (Nat.two_pow_pos k))
/-- The greatest bit is even. -/
def evenB (x : Nat) : Bool := decide (Lib.bitLen x % 2 = 1)
theorem even_top (x k : Nat) (h : x < 2 ^ k) : (decide ((0 : Int) ≤ (topN x k : Int) - 1) && decide (((topN x k : Int) - 1).tmod 2 = 0)) = evenB x := by
  rw [topN_all h]
  unfold evenB
  generalize Lib.bitLen x = L
  rcases Nat.eq_zero_or_pos L with h0 | h0
  · subst h0; rfl
  · rw [decide_eq_true (show (0 : Int) ≤ (L : Int) - 1 by omega), Bool.true_and, decide_eq_decide, Int.tmod_eq_emod_of_nonneg (by omega)]
    omega

end Go.Proofs.Ytalgbcndifaaiaa.Wd
