/-
  Games as they lie in memory, and the truth of the sentence 'this game is valid', for the walks of package game and of its reference.
-/
import Derived.Test.YtffdbncjndnnaaaProg
import Derived.Test.YtffdbncjndnnaaaWdKit
import Derived.WalkKit
import Derived.WalkSpells
import Derived.BigQuiet
import Derived.Deep.QuietTactic
import Derived.Deep.LoopGhost
import Derived.Lib.Hide
namespace Go.Proofs.Ytffdbncjndnnaaa.Wd
open Go.RowKit
set_option linter.unusedVariables false

/-- f is true below n. -/
def allB (n : Nat) (f : Nat → Bool) : Bool := (List.range n).all f
theorem allB_bad {n j : Nat} {f : Nat → Bool} (hj : j < n) (h : f j = false) : allB n f = false := by
  rw [Bool.eq_false_iff]
  intro ht
  have := List.all_eq_true.1 ht j (List.mem_range.2 hj)
  rw [h] at this
  cases this
theorem allB_good {n : Nat} {f : Nat → Bool} (h : ∀ i, i < n → f i = true) : allB n f = true := by
  unfold allB
  rw [List.all_eq_true]
  intro i hi
  exact h i (List.mem_range.1 hi)
theorem allB_at {n i : Nat} {f : Nat → Bool} (h : allB n f = true) (hi : i < n) : f i = true := List.all_eq_true.1 h i (List.mem_range.2 hi)

/-- A game: owners, priorities, successors. -/
structure Gm where
  O : List Int
  P : List Int
  X : List (List Int)

/-- The slice of address A and length n holds slices of ints, which hold X. -/
def ListsAt (w : World) (A : Option Addr) (n : Nat) (X : List (List Int)) : Prop :=
  X.length = n ∧ (0 < n → ∃ b off, A = some ⟨b, off, none⟩ ∧ b < w.heap.size ∧ ∀ j, j < n → ∃ B c, w.cell? ⟨b, off + j, none⟩ = some (.slice B (X.getD j []).length c) ∧ Ints w B (X.getD j []).length (X.getD j []))
theorem ListsAt.none_ (w : World) : ListsAt w none 0 [] := ⟨rfl, fun h => absurd h (by omega)⟩
theorem ListsAt.below {w w' : World} {A : Option Addr} {n : Nat} {X : List (List Int)} (h : ListsAt w A n X) (hb : Below w.heap.size w w') : ListsAt w' A n X :=
  ⟨h.1, fun hn => by
    obtain ⟨b, off, e, hlt, hc⟩ := h.2 hn
    have := hb.size
    refine ⟨b, off, e, by omega, fun j hj => ?_⟩
    obtain ⟨B, c, h1, h2⟩ := hc j hj
    exact ⟨B, c, (hb.cell hlt).trans h1, h2.below hb⟩⟩

/-- The game G lies in the three slices. -/
structure GameIn (w : World) (a : Option Addr) (n : Nat) (p : Option Addr) (m : Nat) (x : Option Addr) (k : Nat) (G : Gm) : Prop where
  o : Ints w a n G.O
  p : Ints w p m G.P
  x : ListsAt w x k G.X
theorem GameIn.below {w w' : World} {a p x : Option Addr} {n m k : Nat} {G : Gm} (h : GameIn w a n p m x k G) (hb : Below w.heap.size w w') : GameIn w' a n p m x k G := ⟨h.o.below hb, h.p.below hb, h.x.below hb⟩

/-- The value v is the game G. -/
def GameAt (w : World) (v : Value) (G : Gm) : Prop := ∃ a n c p m d x k e, v = .agg #[.slice a n c, .slice p m d, .slice x k e] ∧ GameIn w a n p m x k G
theorem GameAt.below {w w' : World} {v : Value} {G : Gm} (h : GameAt w v G) (hb : Below w.heap.size w w') : GameAt w' v G := by
  obtain ⟨a, n, c, p, m, d, x, k, e, h1, h2⟩ := h
  exact ⟨a, n, c, p, m, d, x, k, e, h1, h2.below hb⟩
def gm0 : Gm := ⟨[], [], []⟩
theorem GameAt.zero (w : World) : GameAt w (.agg #[.slice none 0 0, .slice none 0 0, .slice none 0 0]) gm0 := ⟨none, 0, 0, none, 0, 0, none, 0, 0, rfl, ⟨Ints.none_, Ints.none_, ListsAt.none_ _⟩⟩

/-- Is l at place j a successor of a position, behind those before? -/
def stepB (n : Int) (l : List Int) (j : Nat) : Bool := decide (0 ≤ l.getD j 0) && decide (l.getD j 0 < n) && (decide (j = 0) || decide (l.getD (j - 1) 0 < l.getD j 0))
/-- Is l a list of successors? -/
def succB (n : Int) (l : List Int) : Bool := decide (1 ≤ l.length) && decide (l.length ≤ 64) && allB l.length (stepB n l)
def plB (x : Int) : Bool := decide (x = 0) || decide (x = 1)
/-- Is position v as it should be? -/
def posB (G : Gm) (v : Nat) : Bool := plB (G.O.getD v 0) && decide (0 ≤ G.P.getD v 0) && decide (G.P.getD v 0 ≤ 60) && succB G.X.length (G.X.getD v [])
/-- Is the game valid? -/
def gmB (G : Gm) : Bool := decide (G.X.length ≤ 20000) && decide (G.O.length = G.X.length) && decide (G.P.length = G.X.length) && allB G.X.length (posB G)

theorem gmB_true {G : Gm} (h : gmB G = true) : G.X.length ≤ 20000 ∧ G.O.length = G.X.length ∧ G.P.length = G.X.length ∧ ∀ v, v < G.X.length → posB G v = true := by
  unfold gmB at h
  simp only [Bool.and_eq_true, decide_eq_true_eq] at h
  exact ⟨h.1.1.1, h.1.1.2, h.1.2, fun v hv => allB_at h.2 hv⟩
theorem posB_true {G : Gm} {v : Nat} (h : posB G v = true) : (G.O.getD v 0 = 0 ∨ G.O.getD v 0 = 1) ∧ 0 ≤ G.P.getD v 0 ∧ G.P.getD v 0 ≤ 60 ∧ succB G.X.length (G.X.getD v []) = true := by
  unfold posB plB at h
  simp only [Bool.and_eq_true, Bool.or_eq_true, decide_eq_true_eq] at h
  exact ⟨h.1.1.1, h.1.1.2, h.1.2, h.2⟩
theorem succB_true {n : Int} {l : List Int} (h : succB n l = true) : 1 ≤ l.length ∧ l.length ≤ 64 ∧ ∀ j, j < l.length → 0 ≤ l.getD j 0 ∧ l.getD j 0 < n := by
  unfold succB at h
  simp only [Bool.and_eq_true, decide_eq_true_eq] at h
  refine ⟨h.1.1, h.1.2, fun j hj => ?_⟩
  have := allB_at h.2 hj
  unfold stepB at this
  simp only [Bool.and_eq_true, decide_eq_true_eq] at this
  exact this.1
theorem stepB_zero {n : Int} {l : List Int} : stepB n l 0 = (decide (0 ≤ l.getD 0 0) && decide (l.getD 0 0 < n)) := by
  unfold stepB; simp
theorem stepB_succ {n : Int} {l : List Int} {j : Nat} (h : stepB n l j = true) : stepB n l (j + 1) = (decide (l.getD j 0 < l.getD (j + 1) 0) && decide (l.getD (j + 1) 0 < n)) := by
  unfold stepB at h ⊢
  simp only [Bool.and_eq_true, decide_eq_true_eq] at h
  have h0 := h.1.1
  rw [show j + 1 - 1 = j from by omega, decide_eq_false (show ¬ j + 1 = 0 by omega), Bool.false_or]
  by_cases h1 : l.getD j 0 < l.getD (j + 1) 0
  · rw [decide_eq_true h1, decide_eq_true (show 0 ≤ l.getD (j + 1) 0 by omega)]; simp
  · rw [decide_eq_false h1]; simp
/-- The successor before place j, or -1. -/
def lastI (l : List Int) (j : Nat) : Int := if j = 0 then -1 else l.getD (j - 1) 0
theorem stepB_last {n : Int} {l : List Int} {j : Nat} (h : ∀ i, i < j → stepB n l i = true) : stepB n l j = (decide (lastI l j < l.getD j 0) && decide (l.getD j 0 < n)) := by
  cases j with
  | zero =>
    rw [stepB_zero]
    unfold lastI
    rw [if_pos rfl]
    by_cases h1 : 0 ≤ l.getD 0 0
    · rw [decide_eq_true h1, decide_eq_true (show (-1 : Int) < l.getD 0 0 by omega)]
    · rw [decide_eq_false h1, decide_eq_false (show ¬ (-1 : Int) < l.getD 0 0 by omega)]
  | succ j =>
    rw [stepB_succ (h j (by omega))]
    unfold lastI
    rw [if_neg (by omega), show j + 1 - 1 = j from by omega]
theorem lastI_succ (l : List Int) (j : Nat) : lastI l (j + 1) = l.getD j 0 := by
  unfold lastI
  rw [if_neg (by omega), show j + 1 - 1 = j from by omega]

end Go.Proofs.Ytffdbncjndnnaaa.Wd
