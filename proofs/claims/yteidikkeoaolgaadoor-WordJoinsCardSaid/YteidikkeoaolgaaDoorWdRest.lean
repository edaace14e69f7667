/-
  Rest and From of the reference.
-/
import Derived.Test.YteidikkeoaolgaaDoorWdFrom
namespace Go.Proofs.YteidikkeoaolgaaDoor.Wd
open Go.RowKit
set_option linter.unusedVariables false

/-- Norm, the result written out. -/
theorem norm_parts (A B : Option Addr) (n c m d : Nat) (s l : List Int) (w : World) (ha : Ints w A n s) (hb : Ints w B m l) (hn : n ≤ 100000) (hm : m ≤ 100000) (hm0 : 0 < m) (hnc : n ≤ c) (hmd : m ≤ d) :
    Calls Tryd.prog 65 #[.agg #[.slice A n c, .slice B m d]] w fun e w' => ∃ A' n' c' B' m' d' s' l', e = .returned (.agg #[.slice A' n' c', .slice B' m' d']) ∧
      (Ints w' A' n' s' ∧ Ints w' B' m' l' ∧ n' ≤ c' ∧ m' ≤ d') ∧ Hid (NF (at_ s l) s' l' ∧ s'.length ≤ n ∧ l'.length ≤ m) ∧ Below w.heap.size w w' :=
  (norm_any A B n c m d s l w ha hb hn hm hm0 hnc hmd).mono fun _ _ ⟨v, s', l', he, ⟨A', n', c', B', m', d', hv, h1, h2, h3, h4⟩, hnf, hs, hl, hb⟩ => by
    subst hv
    exact ⟨A', n', c', B', m', d', s', l', he, ⟨h1, h2, h3, h4⟩, ⟨hnf, hs, hl⟩, hb⟩

/-- What Rest returns. -/
def RestRes (w w' : World) (f : Nat → Int) (e : Ending) : Prop :=
  ∃ A' n' c' B' m' d' s' l', e = .returned (.agg #[.slice A' n' c', .slice B' m' d']) ∧
    (Ints w' A' n' s' ∧ Ints w' B' m' l' ∧ n' ≤ c' ∧ m' ≤ d') ∧ Hid (NF f s' l' ∧ s'.length ≤ 100000 ∧ l'.length ≤ 100000) ∧ Below w.heap.size w w'

end Go.Proofs.YteidikkeoaolgaaDoor.Wd
