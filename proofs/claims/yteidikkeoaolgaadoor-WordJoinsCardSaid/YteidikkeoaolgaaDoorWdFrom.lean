/-
  From of package word.
-/
import Derived.Test.YteidikkeoaolgaaDoorWdRefNormal
namespace Go.Proofs.YteidikkeoaolgaaDoor.Wd
open Go.RowKit
set_option linter.unusedVariables false

/-- The letters from position k on. -/
def tail_ (s l : List Int) (k : Int) (i : Nat) : Int := at_ s l (k.toNat + i)
def codeF (ok : Bool) (k : Int) : Int := if ok = true then (if k < 0 then 6 else 0) else 1
def okF (ok : Bool) (k : Int) : Bool := ok && decide (0 ≤ k)

theorem tail_near {s l : List Int} {k : Nat} (hk : k ≤ s.length) : at_ (s.drop k) l = tail_ s l k := by
  funext i
  simp only [tail_, Int.toNat_natCast]
  rcases Nat.lt_or_ge (k + i) s.length with h | h
  · rw [at_lt h, at_lt (by rw [List.length_drop]; omega)]
    simp [List.getD_eq_getElem?_getD, List.getElem?_drop]
  · rw [at_ge h, at_ge (by rw [List.length_drop]; omega), List.length_drop]
    congr 2
    omega
theorem tail_far {s l : List Int} {k : Nat} (hl : 0 < l.length) (hk : s.length ≤ k) : at_ [] (rot l ((k - s.length) % l.length)) = tail_ s l k := by
  funext i
  have hlt := Nat.mod_lt (k - s.length) hl
  simp only [tail_, Int.toNat_natCast]
  rw [at_ge (by simp), at_ge (by omega), rot_length, rot_getD hlt (Nat.mod_lt _ hl)]
  congr 1
  simp only [List.length_nil, Nat.sub_zero]
  rw [Nat.add_mod_mod, Nat.mod_add_mod]
  congr 1
  omega

theorem res_bad {w w' : World} {f : Nat → Int} {code : Int} {ok : Bool} {code' : Int} (hb : Below w.heap.size w w') (h1 : ok = false) (h2 : code = code') :
    Res w w' (Out ok f) code (.returned (.tuple #[.agg #[.slice none 0 0, .slice none 0 0], .int .i64 code'])) := by
  subst h1 h2
  exact ⟨none, 0, 0, none, 0, 0, [], [], rfl, ⟨Ints.none_, Ints.none_, Nat.le_refl _, Nat.le_refl _⟩, ⟨out_bad, by simp, by simp⟩, hb⟩

end Go.Proofs.YteidikkeoaolgaaDoor.Wd
