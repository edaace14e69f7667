/-
  WordForms of lodesmanlaw01: the walk.
-/
import Derived.Test.YteidikkeoaolgaaDoorWdIs
namespace Go.Proofs.YteidikkeoaolgaaDoor.Wd
open Go.RowKit
set_option linter.unusedVariables false

theorem Cells.lt {W : World} {L : List (Addr × Value)} {a : Addr} {v : Value} (h : Cells W ((a, v) :: L)) : a.block < W.heap.size := (h (a, v) (by simp)).1
theorem cells14 {W : World} {a1 a2 a3 a4 a5 a6 a7 a8 a9 a10 a11 a12 a13 a14 : Addr} {v1 v2 v3 v4 v5 v6 v7 v8 v9 v10 v11 v12 v13 v14 : Value}
    (h : Cells W [(a1, v1), (a2, v2), (a3, v3), (a4, v4), (a5, v5), (a6, v6), (a7, v7), (a8, v8), (a9, v9), (a10, v10), (a11, v11), (a12, v12), (a13, v13), (a14, v14)]) :
    W.cell? a1 = some v1 ∧ W.cell? a2 = some v2 ∧ W.cell? a3 = some v3 ∧ W.cell? a4 = some v4 ∧ W.cell? a5 = some v5 ∧ W.cell? a6 = some v6 ∧ W.cell? a7 = some v7 ∧ W.cell? a8 = some v8 ∧ W.cell? a9 = some v9 ∧ W.cell? a10 = some v10 ∧ W.cell? a11 = some v11 ∧ W.cell? a12 = some v12 ∧ W.cell? a13 = some v13 ∧ W.cell? a14 = some v14 :=
  ⟨(h (a1, v1) (by simp)).2, (h (a2, v2) (by simp)).2, (h (a3, v3) (by simp)).2, (h (a4, v4) (by simp)).2, (h (a5, v5) (by simp)).2, (h (a6, v6) (by simp)).2, (h (a7, v7) (by simp)).2, (h (a8, v8) (by simp)).2, (h (a9, v9) (by simp)).2, (h (a10, v10) (by simp)).2, (h (a11, v11) (by simp)).2, (h (a12, v12) (by simp)).2, (h (a13, v13) (by simp)).2, (h (a14, v14) (by simp)).2⟩

/-- A word of a result. -/
def W4 (W : World) (A : Option Addr) (n c : Nat) (B : Option Addr) (m d : Nat) (s l : List Int) : Prop := Ints W A n s ∧ Ints W B m l ∧ n ≤ c ∧ m ≤ d
theorem W4.below {W W' : World} {A B : Option Addr} {n c m d : Nat} {s l : List Int} (h : W4 W A n c B m d s l) (hb : Below W.heap.size W W') : W4 W' A n c B m d s l := ⟨h.1.below hb, h.2.1.below hb, h.2.2⟩

end Go.Proofs.YteidikkeoaolgaaDoor.Wd
