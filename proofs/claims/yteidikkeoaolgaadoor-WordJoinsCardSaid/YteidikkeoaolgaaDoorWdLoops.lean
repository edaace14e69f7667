/-
  Loops of package word.
-/
import Derived.Test.YteidikkeoaolgaaDoorWdRest
namespace Go.Proofs.YteidikkeoaolgaaDoor.Wd
open Go.RowKit
set_option linter.unusedVariables false

/-- The list l, k times. -/
def rep (l : List Int) : Nat → List Int
  | 0 => []
  | k + 1 => rep l k ++ l
theorem rep_length (l : List Int) (k : Nat) : (rep l k).length = k * l.length := by
  induction k with
  | zero => simp [rep]
  | succ k ih => simp [rep, ih, Nat.succ_mul]

def okL (s l : List Int) (k : Int) : Bool := validB 6 s l && decide (1 ≤ k) && decide ((s.length : Int) + k * l.length ≤ 200)
def codeL (s l : List Int) (k : Int) : Int := if validB 6 s l = true then (if k < 1 then 6 else if (s.length : Int) + k * l.length ≤ 200 then 0 else 3) else 1
def OutL (s l : List Int) (k : Int) (s' l' : List Int) : Prop := if okL s l k = true then s' = s ∧ l' = rep l k.toNat else s' = [] ∧ l' = []
theorem OutL.unique {s l : List Int} {k : Int} {a b a' b' : List Int} (h : OutL s l k a b) (h' : OutL s l k a' b') : a = a' ∧ b = b' := by
  unfold OutL at h h'
  cases hok : okL s l k
  · simp [hok] at h h'
    exact ⟨h.1.trans h'.1.symm, h.2.trans h'.2.symm⟩
  · simp [hok] at h h'
    exact ⟨h.1.trans h'.1.symm, h.2.trans h'.2.symm⟩

theorem resL_bad {w w' : World} {s l : List Int} {k : Int} {code : Int} (hb : Below w.heap.size w w') (h1 : okL s l k = false) (h2 : codeL s l k = code) :
    Res w w' (OutL s l k) (codeL s l k) (.returned (.tuple #[.agg #[.slice none 0 0, .slice none 0 0], .int .i64 code])) := by
  subst h2
  exact ⟨none, 0, 0, none, 0, 0, [], [], rfl, ⟨Ints.none_, Ints.none_, Nat.le_refl _, Nat.le_refl _⟩, ⟨by simp [OutL, h1], by simp, by simp⟩, hb⟩

theorem okL_v {s l : List Int} {k : Int} (h : validB 6 s l = false) : okL s l k = false ∧ codeL s l k = 1 := by simp [okL, codeL, h]
theorem okL_k {s l : List Int} {k : Int} (h : validB 6 s l = true) (hk : k < 1) : okL s l k = false ∧ codeL s l k = 6 := by
  simp [okL, codeL, h, hk, show ¬ 1 ≤ k by omega]
theorem okL_full {s l : List Int} {k : Int} (h : validB 6 s l = true) (hk : ¬ k < 1) (hf : ¬ (s.length : Int) + k * l.length ≤ 200) : okL s l k = false ∧ codeL s l k = 3 := by
  constructor
  · simp [okL, hf]
  · unfold codeL; rw [if_pos h, if_neg hk, if_neg hf]
theorem okL_good {s l : List Int} {k : Int} (h : validB 6 s l = true) (hk : ¬ k < 1) (hf : (s.length : Int) + k * l.length ≤ 200) : okL s l k = true ∧ codeL s l k = 0 := by
  constructor
  · simp [okL, h, hf]; omega
  · unfold codeL; rw [if_pos h, if_neg hk, if_pos hf]

/-- The quotient that Loops compares with. -/
theorem full_quot {n m j : Nat} (hm0 : 0 < m) (h : n ≤ 200) : (200 - n) / m < j ↔ ¬ (n : Int) + (j : Int) * (m : Int) ≤ 200 := by
  rw [Nat.div_lt_iff_lt_mul hm0]
  have : ((j * m : Nat) : Int) = (j : Int) * (m : Int) := by simp
  rw [← this]
  omega

end Go.Proofs.YteidikkeoaolgaaDoor.Wd
