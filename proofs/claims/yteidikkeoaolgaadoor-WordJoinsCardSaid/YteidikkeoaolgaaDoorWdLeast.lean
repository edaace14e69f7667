/-
  WordLeast of lodesmanlaw01: the walk.
-/
import Derived.Test.YteidikkeoaolgaaDoorWdAwake
import Derived.Test.YteidikkeoaolgaaDoorWdFew
import Derived.Test.YteidikkeoaolgaaDoorWdSame2
import Derived.Test.YteidikkeoaolgaaDoorWdSame3
namespace Go.Proofs.YteidikkeoaolgaaDoor.Wd
open Go.RowKit
set_option linter.unusedVariables false

/-- The variadic call of Few with two words. -/
theorem few_two (A B A' B' : Option Addr) (n c m d n' c' m' d' most g : Nat) (w : World) (t : TypeId) (hg : w.heap.size = g) (h1 : n ≤ 17592186044416 ∧ m ≤ 17592186044416) (h2 : n' ≤ 17592186044416 ∧ m' ≤ 17592186044416) (hm : most ≤ 1000) :
    Calls Tryd.prog 9 #[.int .i64 most, .slice (some ⟨g, 0, none⟩) 2 2] (w.alloc (.cells #[.slice A n c, .slice B m d, .slice A' n' c', .slice B' m' d'] t))
      fun e w' => e = .returned (.bool (decide (n + m ≤ most) && decide (n' + m' ≤ most))) ∧ Below w.heap.size w w' := by
  subst hg
  refine (Few_any w.heap.size 2 2 most (fun i => if i = 0 then A else A') (fun i => if i = 0 then B else B') (fun i => if i = 0 then n else n') (fun i => if i = 0 then c else c')
    (fun i => if i = 0 then m else m') (fun i => if i = 0 then d else d') (w.alloc (.cells #[.slice A n c, .slice B m d, .slice A' n' c', .slice B' m' d'] t)) (by simp) (by omega) hm ?_ ?_).mono ?_
  · intro i hi
    have : i = 0 ∨ i = 1 := by omega
    rcases this with rfl | rfl
    · exact h1
    · exact h2
  · intro i hi
    have : i = 0 ∨ i = 1 := by omega
    rcases this with rfl | rfl
    · exact ⟨box_last _ _ _ _, box_last _ _ _ _⟩
    · exact ⟨box_last _ _ _ _, box_last _ _ _ _⟩
  · rintro e w1 ⟨rfl, hb⟩
    exact ⟨ret_bool (by simp [fewB, List.range_succ]), ((Below.refl _ _).alloc (Nat.le_refl _) _).trans (hb.mono (by simp))⟩

def errN (b : Bool) : Int := if b = true then 0 else 1
/-- What Normal answers of any word, as far as its error goes. -/
theorem Normal_error (v : Value) (s l : List Int) (w : World) (h : IsWord w v s l) (h1 : s.length + l.length ≤ 100000) :
    Calls Tryd.prog 47 #[v] w fun e w' => ∃ A' n' c' B' m' d', e = .returned (.tuple #[.agg #[.slice A' n' c', .slice B' m' d'], .int .i64 (errN (validB 6 s l))]) ∧ Below w.heap.size w w' := by
  cases hv : validB 6 s l
  · exact (Normal_bad v s l w h h1 hv).mono fun _ _ ⟨he, hb⟩ => ⟨_, _, _, _, _, _, he, hb⟩
  · exact (Normal_good v s l w h h1 hv).mono fun _ _ ⟨A', n', c', B', m', d', _, _, he, _, _, hb⟩ => ⟨_, _, _, _, _, _, he, hb⟩

end Go.Proofs.YteidikkeoaolgaaDoor.Wd
