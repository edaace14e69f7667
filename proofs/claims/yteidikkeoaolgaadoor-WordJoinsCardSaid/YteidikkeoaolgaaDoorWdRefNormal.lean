/-
  Normal of the reference; both Normals in one form.
-/
import Derived.Test.YteidikkeoaolgaaDoorWdNorm
import Derived.Test.YteidikkeoaolgaaDoorWdRefAt
namespace Go.Proofs.YteidikkeoaolgaaDoor.Wd
open Go.RowKit
set_option linter.unusedVariables false

/-- The word of a result: the normal form of the letters f, or the empty word. -/
def Out (ok : Bool) (f : Nat → Int) (s l : List Int) : Prop := if ok = true then NF f s l else s = [] ∧ l = []
theorem Out.unique {ok : Bool} {f : Nat → Int} {s l s' l' : List Int} (h : Out ok f s l) (h' : Out ok f s' l') : s = s' ∧ l = l' := by
  unfold Out at h h'
  cases ok
  · simp at h h'
    exact ⟨h.1.trans h'.1.symm, h.2.trans h'.2.symm⟩
  · simp at h h'
    exact h.unique h'
theorem out_good {f : Nat → Int} {s l : List Int} (h : NF f s l) : Out true f s l := by simpa [Out] using h
theorem out_bad {f : Nat → Int} : Out false f [] [] := by simp [Out]

/-- What a function that returns a word and an error returns. -/
def Res (w w' : World) (R : List Int → List Int → Prop) (code : Int) (e : Ending) : Prop :=
  ∃ A' n' c' B' m' d' s' l', e = .returned (.tuple #[.agg #[.slice A' n' c', .slice B' m' d'], .int .i64 code]) ∧
    (Ints w' A' n' s' ∧ Ints w' B' m' l' ∧ n' ≤ c' ∧ m' ≤ d') ∧ Hid (R s' l' ∧ s'.length ≤ 100000 ∧ l'.length ≤ 100000) ∧ Below w.heap.size w w'

def codeN (ok : Bool) : Int := if ok = true then 0 else 1

theorem Normal_any (A B : Option Addr) (n c m d : Nat) (s l : List Int) (w : World) (ha : Ints w A n s) (hb : Ints w B m l) (h1 : n + m ≤ 100000) (hnc : n ≤ c) (hmd : m ≤ d) :
    Calls Tryd.prog 47 #[.agg #[.slice A n c, .slice B m d]] w fun e w' => Res w w' (Out (validB 6 s l) (at_ s l)) (codeN (validB 6 s l)) e := by
  have e1 := ha.1
  have e2 := hb.1
  cases hv : validB 6 s l
  · exact (Normal_bad _ s l w ⟨A, n, c, B, m, d, rfl, ha, hb, hnc, hmd⟩ (by omega) hv).mono fun e w' ⟨he, hbw⟩ =>
      ⟨none, 0, 0, none, 0, 0, [], [], he, ⟨Ints.none_, Ints.none_, Nat.le_refl _, Nat.le_refl _⟩, ⟨out_bad, by simp, by simp⟩, hbw⟩
  · exact (Normal_good _ s l w ⟨A, n, c, B, m, d, rfl, ha, hb, hnc, hmd⟩ (by omega) hv).mono fun e w' ⟨A', n', c', B', m', d', s', l', he, hI, hN, hbw⟩ =>
      ⟨A', n', c', B', m', d', s', l', he, hI, ⟨out_good hN.1, by have := hN.2; omega, by have := hN.2; omega⟩, hbw⟩

end Go.Proofs.YteidikkeoaolgaaDoor.Wd
