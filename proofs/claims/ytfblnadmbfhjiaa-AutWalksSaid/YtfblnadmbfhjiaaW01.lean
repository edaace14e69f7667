/-
  Bits of numbers, for the acceptance of runs: no program is looked at here.
  The greatest bit of a number: no program is looked at here.
  Slices of ints as they lie in memory, and small words for worlds, for the walks of the packages word and lodesmanref01.
  Plain facts on ultimately periodic words: the least eventual period of a loop, and that a normal form is determined by the letters alone. No program in it.
  The small functions of package word: size, allLetters, Valid, period.
  The acceptance of package aut: what the six kinds permit and accept.
  Automata as data: edges, and what makes an automaton valid. No program is looked at here.
  validStart and validEdges of package aut, for all lists.
  Accepts of package aut.
  The automaton of the chapter's first example: what its cells hold, and that it is valid.
  The example automaton is deterministic.
  Regions in a drawn order, with stores at their end: a condition S on the world that must hold only as long as none of the stores has come up. A load that every one of these stores waits for (by way of the operations that stand between) may be taken first, though the stores write the cell that it reads.
  append of a slice of ints, nil or not, onto a row of the call's own: as a step of a list of operations, and as a step of a region that draws its order.
  The edges of the example automaton, state by state.
  The walker of the example automaton: newWalker and step.
  The walker of the example automaton: read and union.
  The walker of the example automaton: walk, over any word of the letters 0 and 1.
  The edges from a state with a letter: Step of aut, Out of the reference.
  fitting of package aut: the letters of an edge as a set of bits.
  lettersOf of package aut: for each state the letters of its edges.
  outgoing of package aut: for each state the indices of its edges, for all automata.
  The run of a deterministic automaton as data, letter by letter; what it meets again and again. No program is looked at here.
  Reached of the reference: the reachable states; bools of the law.
  The closure meet of reachable: a state that was not seen is seen, and waits.
  The walk of reachable as data: what was seen, the list of what waits, how far it was followed. The closure meet in one contract.
  A loop over an iterator that ends, and that keeps state of its own in cells: the body writes what lay before the loop alone, the iterator what it laid itself.
-/
import Derived.Laws.BitsLemmas
import Derived.Below
import Derived.Lib.ItoaNum
import Derived.Laws.OwnMore
import Derived.Deep.Draws
import Derived.Deep.AppendLies
import Derived.Test.YtfblnadmbfhjiaaProg
import Derived.WalkKit
import Derived.WalkSpells
import Derived.BigQuiet
import Derived.Deep.QuietTactic
import Derived.Deep.LoopGhost
import Derived.Lib.Hide
import Derived.Shelf.Lay
import Derived.Shelf.Small.Bits
import Derived.RegionTactic
import Derived.Laws.EntriesVeiled
import Derived.LoopN
import Derived.Outline
import Derived.OrdersHeld
import Derived.Deep.RegionHeld3
import Derived.Maps.AppendAt
import Derived.OwnWalk
import Derived.Maps.OwnSet
import Derived.Laws.Bits64b
import Derived.Deep.OwnRows
import Derived.RangeFuncNested
import Derived.RangeFuncBound
import Derived.RangeFuncBox
import Derived.RangeFuncCalls
import Derived.RangeFuncLeaves
namespace Go.Proofs.Ytfblnadmbfhjiaa.Wd
open Go Go.RowKit

theorem and3 (n : Int) : bits .and .i64 n 3 = n % 4 := by
  have h : (BitVec.ofInt 64 3).toNat = 2 ^ 2 - 1 := by decide
  have key : (BitVec.ofInt 64 n &&& BitVec.ofInt 64 3).toNat = (n % ((2 ^ 64 : Nat) : Int)).toNat % 2 ^ 2 := by
    rw [BitVec.toNat_and, BitVec.toNat_ofInt, h, Nat.and_two_pow_sub_one_eq_mod]
  show IntKind.i64.wrap ((BitVec.ofInt 64 n &&& BitVec.ofInt 64 3).toNat : Nat) = n % 4
  rw [key, IntKind.wrap_i64]
  omega
theorem and1 (n : Int) : bits .and .i64 n 1 = n % 2 := by
  have h : (BitVec.ofInt 64 1).toNat = 2 ^ 1 - 1 := by decide
  have key : (BitVec.ofInt 64 n &&& BitVec.ofInt 64 1).toNat = (n % ((2 ^ 64 : Nat) : Int)).toNat % 2 ^ 1 := by
    rw [BitVec.toNat_and, BitVec.toNat_ofInt, h, Nat.and_two_pow_sub_one_eq_mod]
  show IntKind.i64.wrap ((BitVec.ofInt 64 n &&& BitVec.ofInt 64 1).toNat : Nat) = n % 2
  rw [key, IntKind.wrap_i64]
  omega

/-- Is the bit i set? -/
def hasB (x : Int) (i : Nat) : Bool := decide (x / 2 ^ i % 2 = 1)
/-- Is of some pair the second bit set, and the first one not? -/
def pairB (m : Nat) (x : Int) : Bool := (List.range m).any fun i => decide (i % 2 = 0) && decide (x / 2 ^ i % 4 = 2)

theorem pairB_zero (x : Int) : pairB 0 x = false := rfl
theorem pairB_step {i : Nat} {x : Int} (h : i % 2 = 0) (hx : ¬ x / 2 ^ i % 4 = 2) : pairB (i + 2) x = pairB i x := by
  unfold pairB
  rw [List.range_succ, List.range_succ]
  simp only [List.any_append, List.any_cons, List.any_nil, Bool.or_false]
  rw [show decide (x / 2 ^ i % 4 = 2) = false from decide_eq_false hx, show decide ((i + 1) % 2 = 0) = false from decide_eq_false (by omega)]
  simp
theorem pairB_true {i m : Nat} {x : Int} (h : i % 2 = 0) (hm : i < m) (hx : x / 2 ^ i % 4 = 2) : pairB m x = true := by
  unfold pairB
  rw [List.any_eq_true]
  exact ⟨i, List.mem_range.2 hm, by simp [h, hx]⟩

theorem half_pow (x : Int) (i : Nat) : x / 2 ^ (i + 1) = x / 2 ^ i / 2 := by
  rw [Int.ediv_ediv_of_nonneg (by exact Int.le_of_lt (Int.pow_pos (by decide))), Int.pow_succ]
/-- The two bits of a pair. -/
theorem has_pair (x : Int) (i : Nat) : (!hasB x i && hasB x (i + 1)) = decide (x / 2 ^ i % 4 = 2) := by
  unfold hasB
  rw [half_pow]
  generalize x / 2 ^ i = y
  by_cases h1 : y % 2 = 1 <;> by_cases h2 : y / 2 % 2 = 1
  · rw [decide_eq_true h1, decide_eq_false (show ¬ y % 4 = 2 by omega)]; rfl
  · rw [decide_eq_true h1, decide_eq_false (show ¬ y % 4 = 2 by omega)]; rfl
  · rw [decide_eq_false h1, decide_eq_true h2, decide_eq_true (show y % 4 = 2 by omega)]; rfl
  · rw [decide_eq_false h1, decide_eq_false h2, decide_eq_false (show ¬ y % 4 = 2 by omega)]; rfl

end Go.Proofs.Ytfblnadmbfhjiaa.Wd

namespace Go.Proofs.Ytfblnadmbfhjiaa.Wd
open Go Go.RowKit

theorem bitLen_zero : Lib.bitLen 0 = 0 := rfl
theorem bitLen_between {k y : Nat} (hk : k < 64) (h1 : 2 ^ k ≤ y) (h2 : y < 2 ^ (k + 1)) : Lib.bitLen y = k + 1 := by
  have hy : y ≠ 0 := by
    have := Nat.two_pow_pos k
    omega
  obtain ⟨h3, h4, h5⟩ := Lib.bitLenAux_bounds 64 y (Nat.lt_of_lt_of_le h2 (Nat.pow_le_pow_right (by decide) (by omega))) hy
  show Lib.bitLenAux 64 y = k + 1
  generalize Lib.bitLenAux 64 y = L at *
  have a1 : L - 1 < k + 1 := (Nat.pow_lt_pow_iff_right (by decide : 1 < 2)).1 (Nat.lt_of_le_of_lt h4 h2)
  have a2 : k < L := (Nat.pow_lt_pow_iff_right (by decide : 1 < 2)).1 (Nat.lt_of_le_of_lt h1 h5)
  omega

theorem hasB_nat (x i : Nat) : hasB (x : Int) i = decide (x / 2 ^ i % 2 = 1) := by
  unfold hasB
  rw [decide_eq_decide]
  have h : ((x : Int) / 2 ^ i % 2) = ((x / 2 ^ i % 2 : Nat) : Int) := by simp
  rw [h]
  omega
/-- The greatest bit below k that is set, plus one. -/
def topN (x k : Nat) : Nat := Lib.bitLen (x % 2 ^ k)
theorem topN_zero (x : Nat) : topN x 0 = 0 := by
  unfold topN
  rw [Nat.pow_zero, Nat.mod_one]
  rfl
theorem topN_set {x k : Nat} (hk : k < 64) (h : hasB (x : Int) k = true) : topN x (k + 1) = k + 1 := by
  rw [hasB_nat, decide_eq_true_eq] at h
  have hm : x % 2 ^ (k + 1) = x % 2 ^ k + 2 ^ k * (x / 2 ^ k % 2) := by rw [Nat.pow_succ, Nat.mod_mul]
  rw [h] at hm
  have hlt : x % 2 ^ k < 2 ^ k := Nat.mod_lt _ (Nat.two_pow_pos k)
  unfold topN
  exact bitLen_between hk (by omega) (by rw [Nat.pow_succ] at hm ⊢; omega)
theorem topN_not {x k : Nat} (h : hasB (x : Int) k = false) : topN x (k + 1) = topN x k := by
  rw [hasB_nat, decide_eq_false_iff_not] at h
  have hm : x % 2 ^ (k + 1) = x % 2 ^ k + 2 ^ k * (x / 2 ^ k % 2) := by rw [Nat.pow_succ, Nat.mod_mul]
  rw [show x / 2 ^ k % 2 = 0 by omega] at hm
  unfold topN
  rw [hm]
  simp
theorem topN_all {x k : Nat} (h : x < 2 ^ k) : topN x k = Lib.bitLen x := by
  unfold topN
  rw [Nat.mod_eq_of_lt h]
theorem topN_le (x k : Nat) (hk : k ≤ 64) : topN x k ≤ k := Lib.bitLen_le _ k hk (Nat.mod_lt _ (Nat.two_pow_pos k))
/-- The greatest bit is even. -/
def evenB (x : Nat) : Bool := decide (Lib.bitLen x % 2 = 1)
theorem even_top (x k : Nat) (h : x < 2 ^ k) : (decide ((0 : Int) ≤ (topN x k : Int) - 1) && decide (((topN x k : Int) - 1).tmod 2 = 0)) = evenB x := by
  rw [topN_all h]
  unfold evenB
  generalize Lib.bitLen x = L
  rcases Nat.eq_zero_or_pos L with h0 | h0
  · subst h0; rfl
  · rw [decide_eq_true (show (0 : Int) ≤ (L : Int) - 1 by omega), Bool.true_and, decide_eq_decide, Int.tmod_eq_emod_of_nonneg (by omega)]
    omega

end Go.Proofs.Ytfblnadmbfhjiaa.Wd

namespace Go.Proofs.Ytfblnadmbfhjiaa.Wd
open Go.RowKit

/-- The slice of address A and length n holds the ints xs, in blocks that exist. -/
def Ints (w : World) (A : Option Addr) (n : Nat) (xs : List Int) : Prop :=
  xs.length = n ∧ (0 < n → ∃ b off, A = some ⟨b, off, none⟩ ∧ b < w.heap.size ∧ ∀ j, j < n → w.cell? ⟨b, off + j, none⟩ = some (.int .i64 (xs.getD j 0)))

section
variable {w w' : World} {n : Nat} {A : Option Addr} {xs : List Int}
theorem Ints.at_ {k : Nat} (h : Ints w A n xs) (hk : k < n) : ∃ b off, A = some ⟨b, off, none⟩ ∧ b < w.heap.size ∧ ∀ j, j < n → w.cell? ⟨b, off + j, none⟩ = some (.int .i64 (xs.getD j 0)) := h.2 (by omega)
theorem Ints.none_ : Ints w A 0 [] := ⟨rfl, fun h => absurd h (by omega)⟩
theorem Ints.keep (h : Ints w A n xs) (hs : w.heap.size ≤ w'.heap.size) (hk : ∀ p : Addr, p.block < w.heap.size → w'.cell? p = w.cell? p) : Ints w' A n xs :=
  ⟨h.1, fun hn => by
    obtain ⟨b, off, e, hb, hc⟩ := h.2 hn
    exact ⟨b, off, e, by omega, fun j hj => (hk _ hb).trans (hc j hj)⟩⟩
theorem Ints.below (h : Ints w A n xs) (hb : Below w.heap.size w w') : Ints w' A n xs := h.keep hb.size fun _ hp => hb.cell hp
theorem Ints.alloc (h : Ints w A n xs) (o : Obj) : Ints (w.alloc o) A n xs := h.below ((Below.refl _ _).alloc (Nat.le_refl _) o)
theorem Ints.drew (h : Ints w A n xs) : Ints w.drew A n xs := h
theorem Ints.drewN (h : Ints w A n xs) (k : Nat) : Ints (w.drewN k) A n xs := h
theorem Ints.cut (h : Ints w A n xs) {k cap : Nat} (hk : k ≤ n) (hc : n ≤ cap) :
    Ints w (if cap = k then A else A.map (·.add k)) (n - k) (xs.drop k) := by
  refine ⟨by rw [List.length_drop, h.1], fun hn => ?_⟩
  obtain ⟨b, off, rfl, hb, hcell⟩ := h.2 (by omega)
  rw [if_neg (by omega)]
  refine ⟨b, off + k, by simp [Addr.add], hb, fun j hj => ?_⟩
  have := hcell (k + j) (by omega)
  rw [show off + k + j = off + (k + j) from by omega, this]
  simp [List.getD_eq_getElem?_getD, List.getElem?_drop]
theorem Ints.take (h : Ints w A n xs) {k : Nat} (hk : k ≤ n) : Ints w A k (xs.take k) := by
  refine ⟨by rw [List.length_take, h.1]; omega, fun hn => ?_⟩
  obtain ⟨b, off, rfl, hb, hcell⟩ := h.2 (by omega)
  refine ⟨b, off, rfl, hb, fun j hj => ?_⟩
  rw [hcell j (by omega)]
  simp [List.getD_eq_getElem?_getD, hj]
theorem Ints.of_own {base : Nat} {e : TypeId} {c : Nat} (h : w.ownsRow base e 1 (.slice A n c) n (xs.map (Value.int .i64))) : Ints w A n xs := by
  have hl : xs.length = n := by have := h.1; simpa using this
  refine ⟨hl, fun hn => ?_⟩
  obtain ⟨g, cap, hv, _, hlt⟩ := h.form hn
  have hA : A = some ⟨g, 0, none⟩ := by injection hv
  subst hA
  refine ⟨g, 0, rfl, hlt, fun j hj => ?_⟩
  have hc := h.cells (g := g) rfl j (.int .i64 (xs.getD j 0)) (by simp [List.getD_eq_getElem?_getD, List.getElem?_eq_getElem (show j < xs.length by omega)])
  rw [Addr.add_lit] at hc
  exact hc
end

/-- A slice of the call's own, or nil, is a slice value of some capacity. -/
theorem own_slice {w : World} {base n : Nat} {e : TypeId} {v : Value} {xs : List Value} (h : w.ownsRow base e 1 v n xs) : ∃ A c, v = .slice A n c ∧ n ≤ c := by
  rcases h.2 with ⟨rfl, hx⟩ | ⟨g, cap, cur, hv, _, _, hc, _⟩
  · have := h.1
    subst hx
    simp at this
    subst this
    exact ⟨none, 0, rfl, Nat.le_refl _⟩
  · exact ⟨_, cap, hv, by simpa using hc⟩

/-- A store into a cell that holds no int leaves a slice of ints. -/
theorem Ints.set {w : World} {A : Option Addr} {n : Nat} {xs : List Int} (h : Ints w A n xs) {p : Addr} {v : Value} (hv : w.cell? p = some v) (hne : ∀ z, v ≠ .int .i64 z) (u : Value) : Ints (w.setCell p u) A n xs :=
  ⟨h.1, fun hn => by
    obtain ⟨b, off, e, hb, hc⟩ := h.2 hn
    refine ⟨b, off, e, by simpa [World.setCell] using hb, fun j hj => (World.cell?_setCell_other w p _ u ?_).trans (hc j hj)⟩
    rintro rfl
    have := hv.symm.trans (hc j hj)
    injection this with this
    exact hne _ this⟩
theorem ret_int {k : IntKind} {a b : Int} (h : a = b) : Ending.returned (.int k a) = .returned (.int k b) := by rw [h]
theorem ret_bool {a b : Bool} (h : a = b) : Ending.returned (.bool a) = .returned (.bool b) := by rw [h]
theorem below_drewN {B : Nat} {a w : World} (h : Below B a w) (n : Nat) : Below B a (w.drewN n) := ⟨h.os, h.tape, h.output, h.size, h.block⟩
theorem bcell {W w1 : World} (hb : Below W.heap.size W w1) : (∀ b o, b < W.heap.size → w1.cell? ⟨b, o, none⟩ = W.cell? ⟨b, o, none⟩) ∧ (∀ b o, b < W.heap.size → w1.frozen? ⟨b, o, none⟩ = W.frozen? ⟨b, o, none⟩) :=
  ⟨fun b o h => hb.cell (p := ⟨b, o, none⟩) h, fun b o h => hb.frozen (p := ⟨b, o, none⟩) h⟩

/-- Two variables laid one behind the other: what their cells hold. -/
theorem box_first (w : World) (cs : Array Value) (t : TypeId) (o : Obj) (i : Nat) : ((w.alloc (.cells cs t)).alloc o).cell? ⟨w.heap.size, i, none⟩ = cs[i]? := by
  have h : ((w.alloc (.cells cs t)).alloc o).heap[w.heap.size]? = some (.cells cs t) := by
    rw [Below.heap_alloc _ _ _ (by simp)]
    show (w.heap.push _)[w.heap.size]? = _
    simp
  simp [World.cell?, h]
theorem box_last (w : World) (cs : Array Value) (t : TypeId) (i : Nat) : (w.alloc (.cells cs t)).cell? ⟨w.heap.size, i, none⟩ = cs[i]? := by
  have h : (w.alloc (.cells cs t)).heap[w.heap.size]? = some (.cells cs t) := by
    show (w.heap.push _)[w.heap.size]? = _
    simp
  unfold World.cell?
  simp only [h]
  simp
theorem box_first_free (w : World) (cs : Array Value) (t : TypeId) (o : Obj) (i : Nat) : ((w.alloc (.cells cs t)).alloc o).frozen? ⟨w.heap.size, i, none⟩ = false := by
  have h : ((w.alloc (.cells cs t)).alloc o).heap[w.heap.size]? = some (.cells cs t) := by
    rw [Below.heap_alloc _ _ _ (by simp)]
    show (w.heap.push _)[w.heap.size]? = _
    simp
  simp [World.frozen?, h]
theorem box_last_free (w : World) (cs : Array Value) (t : TypeId) (i : Nat) : (w.alloc (.cells cs t)).frozen? ⟨w.heap.size, i, none⟩ = false := by
  have h : (w.alloc (.cells cs t)).heap[w.heap.size]? = some (.cells cs t) := by
    show (w.heap.push _)[w.heap.size]? = _
    simp
  unfold World.frozen?
  simp only [h]
  simp

/-- Two variables of two cells each, laid one behind the other, read in a later world. -/
theorem boxes {w w1 : World} {a b c d : Value} {t t' : TypeId} (hb : Below ((w.alloc (.cells #[a, b] t)).alloc (.cells #[c, d] t')).heap.size ((w.alloc (.cells #[a, b] t)).alloc (.cells #[c, d] t')) w1) :
    (w1.cell? ⟨w.heap.size, 0, none⟩ = some a ∧ w1.cell? ⟨w.heap.size, 1, none⟩ = some b ∧ w1.cell? ⟨w.heap.size + 1, 0, none⟩ = some c ∧ w1.cell? ⟨w.heap.size + 1, 1, none⟩ = some d) ∧
    (w1.frozen? ⟨w.heap.size, 0, none⟩ = false ∧ w1.frozen? ⟨w.heap.size, 1, none⟩ = false ∧ w1.frozen? ⟨w.heap.size + 1, 0, none⟩ = false ∧ w1.frozen? ⟨w.heap.size + 1, 1, none⟩ = false) ∧ w.heap.size + 1 < w1.heap.size := by
  have hs : (w.alloc (.cells #[a, b] t)).heap.size = w.heap.size + 1 := by simp
  have hlast : ∀ i, ((w.alloc (.cells #[a, b] t)).alloc (.cells #[c, d] t')).cell? ⟨w.heap.size + 1, i, none⟩ = #[c, d][i]? := fun i => by rw [← hs]; exact box_last _ _ _ _
  have hlast' : ∀ i, ((w.alloc (.cells #[a, b] t)).alloc (.cells #[c, d] t')).frozen? ⟨w.heap.size + 1, i, none⟩ = false := fun i => by rw [← hs]; exact box_last_free _ _ _ _
  refine ⟨⟨?_, ?_, ?_, ?_⟩, ⟨?_, ?_, ?_, ?_⟩, ?_⟩
  · rw [hb.cell (by simp; omega), box_first]; rfl
  · rw [hb.cell (by simp; omega), box_first]; rfl
  · rw [hb.cell (by simp), hlast]; rfl
  · rw [hb.cell (by simp), hlast]; rfl
  · rw [hb.frozen (by simp; omega), box_first_free]
  · rw [hb.frozen (by simp; omega), box_first_free]
  · rw [hb.frozen (by simp), hlast']
  · rw [hb.frozen (by simp), hlast']
  · have := hb.size; simp at this; omega

end Go.Proofs.Ytfblnadmbfhjiaa.Wd

namespace Go.Proofs.Ytfblnadmbfhjiaa.Wd

/-- The letter at position k of the word of the stem s and the loop l. -/
def at_ (s l : List Int) (k : Nat) : Int := if k < s.length then s.getD k 0 else l.getD ((k - s.length) % l.length) 0

/-- From m on, f repeats after p. -/
def Ev (f : Nat → Int) (m p : Nat) : Prop := 0 < p ∧ ∀ n, m ≤ n → f (n + p) = f n

/-- The list l is its first p elements, repeated. -/
def Per (l : List Int) (p : Nat) : Prop := l.length % p = 0 ∧ ∀ i, p ≤ i → i < l.length → l.getD i 0 = l.getD (i - p) 0

/-- The least such p. -/
def Least (l : List Int) (p : Nat) : Prop := 1 ≤ p ∧ p ≤ l.length ∧ Per l p ∧ ∀ q, 1 ≤ q → q < p → ¬ Per l q

/-- s and l are the normal form of the letters f. -/
def NF (f : Nat → Int) (s l : List Int) : Prop :=
  (∀ k, at_ s l k = f k) ∧ 0 < l.length ∧ (∀ m p, Ev f m p → l.length ≤ p) ∧ ∀ m, Ev f m l.length → s.length ≤ m

theorem at_lt {s l : List Int} {k : Nat} (h : k < s.length) : at_ s l k = s.getD k 0 := by unfold at_; rw [if_pos h]
theorem at_ge {s l : List Int} {k : Nat} (h : s.length ≤ k) : at_ s l k = l.getD ((k - s.length) % l.length) 0 := by unfold at_; rw [if_neg (by omega)]
theorem at_add {s l : List Int} (i : Nat) : at_ s l (s.length + i) = l.getD (i % l.length) 0 := by
  rw [at_ge (by omega)]; congr 2; omega

theorem Ev.mul {f : Nat → Int} {m p : Nat} (h : Ev f m p) (n : Nat) (hn : m ≤ n) : ∀ k, f (n + p * k) = f n := by
  intro k
  induction k with
  | zero => simp
  | succ k ih =>
    rw [Nat.mul_succ, ← Nat.add_assoc, h.2 _ (by omega), ih]
theorem Ev.mono {f : Nat → Int} {m m' p : Nat} (h : Ev f m p) (hm : m ≤ m') : Ev f m' p := ⟨h.1, fun n hn => h.2 n (by omega)⟩
theorem Ev.sub {f : Nat → Int} {m p q : Nat} (hp : Ev f m p) (hq : Ev f m q) (h : q < p) : Ev f m (p - q) :=
  ⟨by omega, fun n hn => by
    rw [← hq.2 (n + (p - q)) (by omega), show n + (p - q) + q = n + p from by omega, hp.2 n hn]⟩
theorem Ev.gcd {f : Nat → Int} {m : Nat} : ∀ N p q, p + q ≤ N → Ev f m p → Ev f m q → Ev f m (Nat.gcd p q) := by
  intro N
  induction N with
  | zero => intro p q h hp _; have := hp.1; omega
  | succ N ih =>
    intro p q h hp hq
    have h1 := hp.1
    have h2 := hq.1
    rcases Nat.lt_trichotomy p q with hl | he | hg
    · have := ih p (q - p) (by omega) hp (hq.sub hp hl)
      rwa [Nat.gcd_sub_self_right (by omega)] at this
    · subst he; rw [Nat.gcd_self]; exact hp
    · have := ih (p - q) q (by omega) (hp.sub hq hg) hq
      rwa [Nat.gcd_sub_self_left (by omega)] at this

theorem ev_at (s l : List Int) (hl : 0 < l.length) : Ev (at_ s l) s.length l.length :=
  ⟨hl, fun n hn => by
    rw [at_ge (by omega), at_ge hn, show n + l.length - s.length = (n - s.length) + l.length from by omega, Nat.add_mod_right]⟩

theorem mod_step (l : List Int) (p : Nat) (hp : 0 < p) (h : Per l p) : ∀ i, i < l.length → l.getD i 0 = l.getD (i % p) 0 := by
  intro i
  induction i using Nat.strongRecOn with
  | ind i ih =>
    intro hi
    rcases Nat.lt_or_ge i p with hl | hg
    · rw [Nat.mod_eq_of_lt hl]
    · rw [h.2 i hg hi, ih (i - p) (by omega) (by omega), Nat.mod_eq_sub_mod hg]

/-- The least period of the loop is the least eventual period of the word. -/
theorem least_ev {s l : List Int} {P : Nat} (hP : Least l P) : ∀ m p, Ev (at_ s l) m p → P ≤ p := by
  intro m p h
  have hl : 0 < l.length := by have := hP.1; have := hP.2.1; omega
  have hq : Ev (at_ s l) (max m s.length) l.length := (ev_at s l hl).mono (by omega)
  have hg := Ev.gcd _ p l.length (Nat.le_refl _) (h.mono (m' := max m s.length) (by omega)) hq
  have hgp := Nat.gcd_le_left (m := p) l.length h.1
  have hgd : Nat.gcd p l.length ∣ l.length := Nat.gcd_dvd_right _ _
  generalize Nat.gcd p l.length = g at hg hgp hgd
  have hper : Per l g := by
    refine ⟨Nat.mod_eq_zero_of_dvd hgd, fun i hgi hil => ?_⟩
    have key : ∀ j, j < l.length → at_ s l (s.length + j + l.length * (max m s.length)) = l.getD j 0 := by
      intro j hj
      rw [(ev_at s l hl).mul (s.length + j) (by omega), at_add, Nat.mod_eq_of_lt hj]
    have hbig : max m s.length ≤ l.length * (max m s.length) := Nat.le_mul_of_pos_left _ hl
    rw [← key i hil, ← key (i - g) (by omega), ← hg.2 (s.length + (i - g) + l.length * (max m s.length)) (by omega)]
    congr 1
    omega
  rcases Nat.lt_or_ge g P with hlt | hge
  · exact absurd hper (hP.2.2.2 g hg.1 hlt)
  · omega

/-- Cutting the loop to its period keeps the letters. -/
theorem at_take {s l : List Int} {P : Nat} (hP : Least l P) (k : Nat) : at_ s (l.take P) k = at_ s l k := by
  have h1 := hP.1
  have h2 := hP.2.1
  unfold at_
  by_cases hk : k < s.length
  · rw [if_pos hk, if_pos hk]
  · rw [if_neg hk, if_neg hk]
    have hlen : (l.take P).length = P := by rw [List.length_take]; omega
    have hd : P ∣ l.length := Nat.dvd_of_mod_eq_zero hP.2.2.1.1
    have hlt : (k - s.length) % l.length < l.length := Nat.mod_lt _ (by omega)
    rw [mod_step l P (by omega) hP.2.2.1 _ hlt, Nat.mod_mod_of_dvd _ hd, hlen]
    have hlt' : (k - s.length) % P < P := Nat.mod_lt _ (by omega)
    simp only [List.getD_eq_getElem?_getD, List.getElem?_take]
    rw [if_pos hlt']

/-- A step back: the last letter of the stem goes to the front of the loop. -/
theorem at_step (s l : List Int) (x : Int) (k : Nat) : at_ s (x :: l) k = at_ (s ++ [x]) (l ++ [x]) k := by
  rcases Nat.lt_trichotomy k s.length with hk | hk | hk
  · rw [at_lt hk, at_lt (by simp; omega)]
    simp only [List.getD_eq_getElem?_getD, List.getElem?_append_left hk]
  · subst hk
    rw [at_ge (by omega), at_lt (by simp)]
    simp
  · rw [at_ge (by omega), at_ge (by simp; omega)]
    simp only [List.length_append, List.length_cons, List.length_nil, Nat.zero_add]
    obtain ⟨d, hd⟩ : ∃ d, k = s.length + 1 + d := ⟨k - s.length - 1, by omega⟩
    subst hd
    rw [show s.length + 1 + d - s.length = d + 1 from by omega, show s.length + 1 + d - (s.length + 1) = d from by omega]
    have hm : d % (l.length + 1) < l.length + 1 := Nat.mod_lt _ (by omega)
    rcases Nat.lt_or_ge (d % (l.length + 1)) l.length with h | h
    · rw [Nat.add_mod d 1]
      rcases Nat.eq_zero_or_pos l.length with h0 | h0
      · omega
      · rw [Nat.mod_eq_of_lt (show 1 < l.length + 1 by omega), Nat.mod_eq_of_lt (show d % (l.length + 1) + 1 < l.length + 1 by omega)]
        simp only [List.getD_eq_getElem?_getD, List.getElem?_cons_succ, List.getElem?_append_left h]
    · have he : d % (l.length + 1) = l.length := by omega
      have he' : (d + 1) % (l.length + 1) = 0 := by
        rw [Nat.add_mod, he]
        rcases Nat.eq_zero_or_pos l.length with h0 | h0
        · rw [h0]
        · rw [Nat.mod_eq_of_lt (show 1 < l.length + 1 by omega), Nat.mod_self]
      rw [he, he']
      simp

/-- When is a stem and a loop of the least length the normal form: the stem is empty, or its last letter is not the loop's. -/
theorem nf_of {f : Nat → Int} {s l : List Int} (hf : ∀ k, at_ s l k = f k) (hl : 0 < l.length) (hp : ∀ m p, Ev f m p → l.length ≤ p)
    (hs : s = [] ∨ s.getD (s.length - 1) 0 ≠ l.getD (l.length - 1) 0) : NF f s l := by
  refine ⟨hf, hl, hp, fun m hm => ?_⟩
  rcases Nat.lt_or_ge m s.length with h | h
  · exfalso
    rcases hs with rfl | hs
    · simp at h
    · apply hs
      have := hm.2 (s.length - 1) (by omega)
      rw [← hf, ← hf, show s.length - 1 + l.length = s.length + (l.length - 1) from by omega, at_add, at_lt (by omega), Nat.mod_eq_of_lt (by omega)] at this
      exact this.symm
  · exact h

theorem NF.unique {f : Nat → Int} {s l s' l' : List Int} (h : NF f s l) (h' : NF f s' l') : s = s' ∧ l = l' := by
  have e1 := ev_at s l h.2.1
  have e2 := ev_at s' l' h'.2.1
  have f1 : at_ s l = f := funext h.1
  have f2 : at_ s' l' = f := funext h'.1
  rw [f1] at e1
  rw [f2] at e2
  have hl : l.length = l'.length := Nat.le_antisymm (h.2.2.1 _ _ e2) (h'.2.2.1 _ _ e1)
  have hs : s.length = s'.length := Nat.le_antisymm (h.2.2.2 _ (by rw [hl]; exact e2)) (h'.2.2.2 _ (by rw [← hl]; exact e1))
  have hl0 := h.2.1
  constructor
  · apply List.ext_getElem hs
    intro i h1 h2
    have a := h.1 i
    have b := h'.1 i
    rw [at_lt h1] at a
    rw [at_lt h2] at b
    have := a.trans b.symm
    simpa [List.getD_eq_getElem?_getD, List.getElem?_eq_getElem h1, List.getElem?_eq_getElem h2] using this
  · apply List.ext_getElem hl
    intro i h1 h2
    have a := h.1 (s.length + i)
    have b := h'.1 (s.length + i)
    rw [at_add, Nat.mod_eq_of_lt h1, hs] at a
    rw [hs, at_add, Nat.mod_eq_of_lt h2] at b
    have := a.trans b.symm
    simpa [List.getD_eq_getElem?_getD, List.getElem?_eq_getElem h1, List.getElem?_eq_getElem h2] using this

/-- Two words with the same letters up to where both repeat together have the same letters. -/
theorem alike {s l s' l' : List Int} (hl : 0 < l.length) (hl' : 0 < l'.length)
    (h : ∀ k, k < max s.length s'.length + l.length * l'.length → at_ s l k = at_ s' l' k) : at_ s l = at_ s' l' := by
  funext k
  induction k using Nat.strongRecOn with
  | ind k ih =>
    rcases Nat.lt_or_ge k (max s.length s'.length + l.length * l'.length) with hk | hk
    · exact h k hk
    · have hp : 0 < l.length * l'.length := Nat.mul_pos hl hl'
      obtain ⟨d, rfl⟩ : ∃ d, k = d + l.length * l'.length := ⟨k - l.length * l'.length, by omega⟩
      rw [(ev_at s l hl).mul d (by omega)]
      have := (ev_at s' l' hl').mul d (by omega) l.length
      rw [Nat.mul_comm l.length l'.length, this]
      exact ih d (by omega)

end Go.Proofs.Ytfblnadmbfhjiaa.Wd

namespace Go.Proofs.Ytfblnadmbfhjiaa.Wd
open Go.RowKit

/-- All of l are letters below b. -/
def lettersB (b : Int) (l : List Int) : Bool := l.all fun x => decide (0 ≤ x) && decide (x < b)

theorem lettersB_take {b : Int} {l : List Int} {k : Nat} (hk : k < l.length) (h : lettersB b (l.take k) = true) :
    lettersB b (l.take (k + 1)) = (decide (0 ≤ l.getD k 0) && decide (l.getD k 0 < b)) := by
  rw [List.take_succ_eq_append_getElem hk]
  simp only [lettersB] at h ⊢
  rw [List.all_append, h]
  simp [List.getD_eq_getElem?_getD, List.getElem?_eq_getElem hk]
theorem lettersB_bad {b : Int} {l : List Int} {k : Nat} (hk : k < l.length) (h : ¬ (0 ≤ l.getD k 0 ∧ l.getD k 0 < b)) : lettersB b l = false := by
  rw [Bool.eq_false_iff]
  intro hall
  simp only [lettersB, List.all_eq_true] at hall
  have := hall l[k] (List.getElem_mem hk)
  apply h
  simpa [List.getD_eq_getElem?_getD, List.getElem?_eq_getElem hk] using this

theorem wrap_pow {k : Nat} (hk : k ≤ 6) : wrap64 ((2 : Int) ^ k) = (2 : Int) ^ k := by
  have : k = 0 ∨ k = 1 ∨ k = 2 ∨ k = 3 ∨ k = 4 ∨ k = 5 ∨ k = 6 := by omega
  rcases this with rfl | rfl | rfl | rfl | rfl | rfl | rfl <;> exact IntWalk.wrap64_in _ ⟨by decide, by decide⟩

set_option maxHeartbeats 400000 in
theorem allLetters_any (A : Option Addr) (n c : Nat) (k : Nat) (xs : List Int) (w : World) (h : Ints w A n xs) (hn : n ≤ 100000) (hk : k ≤ 6) :
    Calls Try.prog 78 #[.slice A n c, .int .i64 k] w fun e w' => e = .returned (.bool (lettersB ((2 : Int) ^ k) xs)) ∧ w = w' := by
  have hx := h.1
  have hp := wrap_pow hk
  go_enter Try.func78, Try.ntmps78
  go_wp2_with fail
  go_loop [6, 9] (fun _ i => ∃ j : Nat, j ≤ n ∧ i = .int .i64 j ∧ lettersB ((2 : Int) ^ k) (xs.take j) = true) (fun _ i => n - (intOf i).toNat)
  case atStart => exact ⟨0, Nat.zero_le _, rfl, by simp [lettersB]⟩
  case round =>
    obtain ⟨j, hj, rfl, hall⟩ := hrel
    by_cases hlt : j < n
    · obtain ⟨b, off, rfl, hb, hc⟩ := h.at_ hlt
      have hcj := hc j hlt
      have HT := Lib.hid (lettersB_take (b := (2 : Int) ^ k) (by omega) hall)
      have HB := Lib.hid (fun h => lettersB_bad (b := (2 : Int) ^ k) (l := xs) (k := j) (by omega) h)
      have HG := Lib.hid (show xs.getD j 0 = xs[j] from by simp [List.getD_eq_getElem?_getD, List.getElem?_eq_getElem (show j < xs.length by omega)])
      clear h hc hall
      go_wp2
      · go_ret
        exact ⟨ret_bool (HB.out (by rw [HG.out]; omega)).symm, rfl⟩
      · go_round
        case rel => exact ⟨j + 1, by omega, by go_num, by rw [HT.out, HG.out]; simp; omega⟩
        case measure => simp [intOf]; omega
      · go_ret
        exact ⟨ret_bool (HB.out (by rw [HG.out]; omega)).symm, rfl⟩
    · have HA := Lib.hid hall
      clear hall
      go_wp2
      go_ret
      exact ⟨ret_bool (by rw [← HA.out, List.take_of_length_le (by omega)]), rfl⟩

theorem size_any (A B : Option Addr) (n c m d : Nat) (w : World) (hn : n ≤ 100000) (hm : m ≤ 100000) :
    Calls Try.prog 77 #[.agg #[.slice A n c, .slice B m d]] w fun e w' => e = .returned (.int .i64 ((n : Int) + m)) ∧ Below w.heap.size w w' := by
  go_enter Try.func77, Try.ntmps77
  go_wp2
  go_ret
  exact ⟨rfl, (Below.refl _ _).alloc (Nat.le_refl _) _⟩

/-- Is the word of the stem xs and the loop ys valid over k propositions? -/
def validB (k : Int) (xs ys : List Int) : Bool :=
  decide (0 ≤ k) && decide (k ≤ 6) && decide (0 < ys.length) && decide (xs.length + ys.length ≤ 200) && lettersB ((2 : Int) ^ k.toNat) xs && lettersB ((2 : Int) ^ k.toNat) ys

theorem valid_lo {k : Int} {xs ys : List Int} (h : k < 0) : validB k xs ys = false := by simp [validB, show ¬ 0 ≤ k by omega]
theorem valid_hi {k : Int} {xs ys : List Int} (h : 6 < k) : validB k xs ys = false := by simp [validB, show ¬ k ≤ 6 by omega]
theorem valid_none {k : Int} {xs ys : List Int} (h : ys.length = 0) : validB k xs ys = false := by simp [validB, h]
theorem valid_long {k : Int} {xs ys : List Int} (h : 200 < xs.length + ys.length) : validB k xs ys = false := by simp [validB, show ¬ xs.length + ys.length ≤ 200 by omega]
theorem valid_else {j : Nat} {xs ys : List Int} (h : j ≤ 6) (h0 : 0 < ys.length) (hl : xs.length + ys.length ≤ 200) : validB j xs ys = (lettersB ((2 : Int) ^ j) xs && lettersB ((2 : Int) ^ j) ys) := by
  simp [validB, h0, hl, show (j : Int) ≤ 6 by omega]

set_option maxHeartbeats 400000 in
theorem valid_any (A B : Option Addr) (n c m d : Nat) (k : Int) (xs ys : List Int) (w : World) (h : Ints w A n xs) (h' : Ints w B m ys) (hn : n ≤ 100000) (hm : m ≤ 100000) :
    Calls Try.prog 48 #[.agg #[.slice A n c, .slice B m d], .int .i64 k] w fun e w' => e = .returned (.bool (validB k xs ys)) ∧ Below w.heap.size w w' := by
  have hx := h.1
  have hy := h'.1
  by_cases h0 : k < 0
  · have HV := Lib.hid (valid_lo (xs := xs) (ys := ys) h0)
    go_enter Try.func48, Try.ntmps48
    go_wp2
    go_ret
    exact ⟨ret_bool HV.out.symm, (Below.refl _ _).alloc (Nat.le_refl _) _⟩
  by_cases h6 : 6 < k
  · have HV := Lib.hid (valid_hi (xs := xs) (ys := ys) h6)
    go_enter Try.func48, Try.ntmps48
    go_wp2
    go_ret
    exact ⟨ret_bool HV.out.symm, (Below.refl _ _).alloc (Nat.le_refl _) _⟩
  by_cases hm0 : m = 0
  · have HV := Lib.hid (valid_none (k := k) (xs := xs) (ys := ys) (by omega))
    go_enter Try.func48, Try.ntmps48
    go_wp2
    go_ret
    exact ⟨ret_bool HV.out.symm, (Below.refl _ _).alloc (Nat.le_refl _) _⟩
  obtain ⟨j, rfl⟩ := Int.eq_ofNat_of_zero_le (show 0 ≤ k by omega)
  have hj : j ≤ 6 := by omega
  by_cases hz : 200 < n + m
  · have HV := Lib.hid (valid_long (k := j) (xs := xs) (ys := ys) (by omega))
    go_enter Try.func48, Try.ntmps48
    go_wp2_with fail
    refine (size_any A B n c m d _ hn hm).mono ?_
    rintro e w1 ⟨rfl, hb1⟩
    go_wp2
    go_ret
    exact ⟨ret_bool HV.out.symm, ((Below.refl _ _).alloc (Nat.le_refl _) _).trans (hb1.mono (by simp))⟩
  · have HV := Lib.hid (valid_else (xs := xs) (ys := ys) hj (by omega) (by omega))
    go_enter Try.func48, Try.ntmps48
    go_wp2_with fail
    refine (size_any A B n c m d _ hn hm).mono ?_
    rintro e w1 ⟨rfl, hb1⟩
    obtain ⟨hc, hf⟩ := bcell hb1
    have hb0 : ((m : Int) == 0) = false := by simp; omega
    have hb2 : decide (200 < (n : Int) + m) = false := by simp; omega
    go_wp2_with fail
    refine (allLetters_any A n c j xs _ ((h.alloc _).below hb1) hn hj).mono ?_
    rintro e w2 ⟨rfl, rfl⟩
    cases hl : lettersB ((2 : Int) ^ j) xs
    · go_wp2_with fail
      go_ret
      exact ⟨ret_bool (by rw [HV.out, hl]; rfl), ((Below.refl _ _).alloc (Nat.le_refl _) _).trans (hb1.mono (by simp))⟩
    · go_wp2_with fail
      refine (allLetters_any B m d j ys _ ((h'.alloc _).below hb1) hm hj).mono ?_
      rintro e w2 ⟨rfl, rfl⟩
      go_wp2_with fail
      go_ret
      exact ⟨ret_bool (by rw [HV.out, hl]; rfl), ((Below.refl _ _).alloc (Nat.le_refl _) _).trans (hb1.mono (by simp))⟩

end Go.Proofs.Ytfblnadmbfhjiaa.Wd

namespace Go.Proofs.Ytfblnadmbfhjiaa.Wd
open Go.RowKit
set_option linter.unusedVariables false

theorem isOne_any (m : Int) (w : World) : Calls Try.prog 64 #[.int .i64 m] w fun e w' => e = .returned (.bool (decide (m = 1))) ∧ w = w' := by
  go_enter Try.func64, Try.ntmps64
  go_wp2_with fail
  go_ret
  exact ⟨ret_bool (by first | rfl | simp), rfl⟩
def fewMB (m : Int) : Bool := decide (0 ≤ m ∧ m ≤ 40)
def evenMB (m : Int) : Bool := decide ((0 ≤ m ∧ m ≤ 40) ∧ m % 2 = 0)
theorem isFew_any (m : Int) (w : World) : Calls Try.prog 67 #[.int .i64 m] w fun e w' => e = .returned (.bool (fewMB m)) ∧ w = w' := by
  have hc : m < 0 ∨ (0 ≤ m ∧ m ≤ 40) ∨ (0 ≤ m ∧ 40 < m) := by omega
  rcases hc with h | ⟨h, h'⟩ | ⟨h, h'⟩
  · have HF := Lib.hid (show fewMB m = false from decide_eq_false (by omega))
    go_enter Try.func67, Try.ntmps67
    go_wp2_with fail
    go_ret
    exact ⟨ret_bool HF.out.symm, rfl⟩
  · have HF := Lib.hid (show fewMB m = true from decide_eq_true (by omega))
    go_enter Try.func67, Try.ntmps67
    go_wp2_with fail
    go_ret
    exact ⟨ret_bool HF.out.symm, rfl⟩
  · have HF := Lib.hid (show fewMB m = false from decide_eq_false (by omega))
    go_enter Try.func67, Try.ntmps67
    go_wp2_with fail
    go_ret
    exact ⟨ret_bool (by rw [HF.out]; exact decide_eq_false (by omega)), rfl⟩
theorem isFewPairs_any (m : Int) (w : World) : Calls Try.prog 71 #[.int .i64 m] w fun e w' => e = .returned (.bool (evenMB m)) ∧ w = w' := by
  cases hf : fewMB m
  · have HF := Lib.hid (show evenMB m = false from decide_eq_false (by unfold fewMB at hf; rw [decide_eq_false_iff_not] at hf; omega))
    go_enter Try.func71, Try.ntmps71
    go_wp2_with fail
    refine (isFew_any m _).mono ?_
    rintro e w' ⟨rfl, rfl⟩
    rw [hf]
    go_wp2_with fail
    go_ret
    exact ⟨ret_bool HF.out.symm, rfl⟩
  · have hm : 0 ≤ m ∧ m ≤ 40 := by unfold fewMB at hf; exact of_decide_eq_true hf
    obtain ⟨h1, h2⟩ := hm
    obtain ⟨r, hr, HR⟩ : ∃ r : Int, m.tmod 2 = r ∧ Hid (m % 2 = r) := ⟨_, Int.tmod_eq_emod_of_nonneg h1, rfl⟩
    have HF := Lib.hid (show evenMB m = decide (r = 0) from decide_eq_decide.2 (by rw [HR.out]; omega))
    go_enter Try.func71, Try.ntmps71
    go_wp2_with fail
    refine (isFew_any m _).mono ?_
    rintro e w' ⟨rfl, rfl⟩
    rw [hf]
    go_wp2_with fail
    go_ret
    exact ⟨ret_bool (by rw [HF.out]; first | rfl | simp), rfl⟩

theorem pow_wrap40 {m : Nat} (hm : m ≤ 40) : IntKind.i64.wrap ((2 : Int) ^ m) = (2 : Int) ^ m ∧ IntKind.i64.wrap ((2 : Int) ^ m - 1) = (2 : Int) ^ m - 1 := by
  have h : ∀ k : Fin 41, IntKind.i64.wrap ((2 : Int) ^ k.val) = (2 : Int) ^ k.val ∧ IntKind.i64.wrap ((2 : Int) ^ k.val - 1) = (2 : Int) ^ k.val - 1 := by decide +kernel
  exact h ⟨m, by omega⟩

theorem meetsAll_any (m : Nat) (x : Int) (w : World) (hm : m ≤ 40) : Calls Try.prog 65 #[.int .i64 m, .int .i64 x] w fun e w' => e = .returned (.bool (decide (x = (2 : Int) ^ m - 1))) ∧ w = w' := by
  obtain ⟨P, hP, hP1, HP⟩ : ∃ P : Int, IntKind.i64.wrap ((2 : Int) ^ m) = P ∧ IntKind.i64.wrap (P - 1) = P - 1 ∧ Hid ((2 : Int) ^ m = P) := ⟨_, (pow_wrap40 hm).1, (pow_wrap40 hm).2, rfl⟩
  have h0 : (0 : Int) ≤ (m : Int) := by omega
  go_enter Try.func65, Try.ntmps65
  go_wp2_with fail
  go_ret
  exact ⟨ret_bool (by rw [HP.out]; first | rfl | simp), rfl⟩
theorem meetsNone_any (m x : Int) (w : World) : Calls Try.prog 69 #[.int .i64 m, .int .i64 x] w fun e w' => e = .returned (.bool (decide (x = 0))) ∧ w = w' := by
  go_enter Try.func69, Try.ntmps69
  go_wp2_with fail
  go_ret
  exact ⟨ret_bool (by first | rfl | simp), rfl⟩

set_option maxHeartbeats 1000000 in
theorem meetsPair_any (m : Nat) (x : Int) (w : World) (hm : m ≤ 40) : Calls Try.prog 72 #[.int .i64 m, .int .i64 x] w fun e w' => e = .returned (.bool (pairB m x)) ∧ w = w' := by
  go_enter Try.func72, Try.ntmps72
  go_wp2_with fail
  go_loop [5] (fun v => ∃ i : Nat, i ≤ m + 1 ∧ Hid (i % 2 = 0 ∧ pairB i x = false) ∧ v = .int .i64 i) (fun v => m + 2 - (intOf v).toNat)
  case atStart => exact ⟨0, by omega, ⟨rfl, pairB_zero x⟩, rfl⟩
  case round =>
    obtain ⟨i, hi, HI, rfl⟩ := hrel
    have h0 : (0 : Int) ≤ (i : Int) := by omega
    by_cases hlt : i < m
    · obtain ⟨r, hr, HR⟩ : ∃ r : Int, bits .and .i64 (x / 2 ^ i) 3 = r ∧ Hid (x / 2 ^ i % 4 = r) := ⟨_, and3 _, rfl⟩
      by_cases h2 : r = 2
      · subst h2
        have HB := Lib.hid (pairB_true (x := x) HI.out.1 hlt HR.out)
        go_wp2_with fail
        go_ret
        exact ⟨ret_bool HB.out.symm, rfl⟩
      · have HB := Lib.hid (pairB_step (x := x) HI.out.1 (by rw [HR.out]; exact h2))
        go_wp2_with fail
        go_round
        case rel => exact ⟨i + 2, by omega, ⟨by have := HI.out.1; omega, by rw [HB.out]; exact HI.out.2⟩, by go_num⟩
        case measure => simp [intOf]; omega
    · have HE := Lib.hid (show pairB m x = false from by
        rcases Nat.lt_or_ge m i with h | h
        · have := HI.out.2
          rw [Bool.eq_false_iff] at this ⊢
          intro ht
          apply this
          unfold pairB at ht ⊢
          rw [List.any_eq_true] at ht ⊢
          obtain ⟨j, hj, hj2⟩ := ht
          exact ⟨j, List.mem_range.2 (by have := List.mem_range.1 hj; omega), hj2⟩
        · obtain rfl : i = m := by omega
          exact HI.out.2)
      go_wp2_with fail
      go_ret
      exact ⟨ret_bool HE.out.symm, rfl⟩

theorem unpaired_any (m : Nat) (x : Int) (w : World) (hm : m ≤ 40) : Calls Try.prog 73 #[.int .i64 m, .int .i64 x] w fun e w' => e = .returned (.bool (!pairB m x)) ∧ w = w' := by
  go_enter Try.func73, Try.ntmps73
  go_wp2_with fail
  refine (meetsPair_any m x _ hm).mono ?_
  rintro e w' ⟨rfl, rfl⟩
  go_wp2_with fail
  go_ret
  exact ⟨rfl, rfl⟩

end Go.Proofs.Ytfblnadmbfhjiaa.Wd

namespace Go.Proofs.Ytfblnadmbfhjiaa.Wd
open Go.RowKit
set_option linter.unusedVariables false

structure Ed where
  f : Int
  t : Int
  c : Int
  b : Int
  m : Int
def ed0 : Ed := ⟨0, 0, 0, 0, 0⟩
/-- Is that an edge of an automaton with these numbers of states, propositions, marks? -/
def edB (P : Nat) (S : Int) (M : Nat) (e : Ed) : Bool :=
  decide ((0 ≤ e.f ∧ e.f < S) ∧ (0 ≤ e.t ∧ e.t < S) ∧ (0 ≤ e.c ∧ e.c < 2 ^ P) ∧ bits .andNot .i64 e.b e.c = 0 ∧ 0 ≤ e.m ∧ e.m < 2 ^ M)
def edgesB (P : Nat) (S : Int) (M : Nat) (es : List Ed) : Bool := es.all (edB P S M)
theorem edgesB_step {P M : Nat} {S : Int} {es : List Ed} {k : Nat} (hk : k < es.length) (h : edgesB P S M (es.take k) = true) (he : edB P S M (es.getD k ed0) = true) : edgesB P S M (es.take (k + 1)) = true := by
  rw [List.take_succ_eq_append_getElem hk]
  unfold edgesB at *
  rw [List.all_append, h]
  rw [List.getD_eq_getElem?_getD, List.getElem?_eq_getElem hk] at he
  simpa using he
theorem edgesB_bad {P M : Nat} {S : Int} {es : List Ed} {k : Nat} (hk : k < es.length) (he : edB P S M (es.getD k ed0) = false) : edgesB P S M es = false := by
  unfold edgesB
  rw [Bool.eq_false_iff]
  intro h
  have := List.all_eq_true.1 h es[k] (List.getElem_mem hk)
  rw [List.getD_eq_getElem?_getD, List.getElem?_eq_getElem hk] at he
  simp only [Option.getD_some] at he
  rw [he] at this
  cases this

/-- What stands ahead of the element j. -/
def prv (st : List Int) (j : Nat) : Int := if j = 0 then -1 else st.getD (j - 1) 0
/-- Do the first k elements grow, and are they states? -/
def startP (S : Int) (st : List Int) (k : Nat) : Bool := (List.range k).all fun j => decide (prv st j < st.getD j 0 ∧ st.getD j 0 < S)
def startB (S : Int) (st : List Int) : Bool := startP S st st.length
theorem startP_zero (S : Int) (st : List Int) : startP S st 0 = true := rfl
theorem startP_step {S : Int} {st : List Int} {k : Nat} (h : startP S st k = true) (hk : prv st k < st.getD k 0 ∧ st.getD k 0 < S) : startP S st (k + 1) = true := by
  unfold startP at *
  rw [List.range_succ, List.all_append, h]
  simpa using hk
theorem startB_bad {S : Int} {st : List Int} {k : Nat} (hk : k < st.length) (h : ¬ (prv st k < st.getD k 0 ∧ st.getD k 0 < S)) : startB S st = false := by
  unfold startB startP
  rw [Bool.eq_false_iff]
  intro ht
  have := List.all_eq_true.1 ht k (List.mem_range.2 hk)
  exact h (of_decide_eq_true this)
theorem prv_succ (st : List Int) (k : Nat) : prv st (k + 1) = st.getD k 0 := by simp [prv]
theorem prv_low {S : Int} {st : List Int} {k : Nat} (h : startP S st k = true) : -1 ≤ prv st k := by
  induction k with
  | zero => simp [prv]
  | succ k ih =>
    rw [prv_succ]
    have h1 := List.all_eq_true.1 h k (List.mem_range.2 (by omega))
    have h2 := (of_decide_eq_true h1).1
    have h3 := ih (by
      unfold startP at h ⊢
      rw [List.range_succ, List.all_append] at h
      rw [Bool.and_eq_true] at h
      exact h.1)
    omega

/-- Edges in memory. -/
def EdgesAt (w : World) (E : Option Addr) (n : Nat) (es : List Ed) : Prop :=
  es.length = n ∧ (0 < n → ∃ b off, E = some ⟨b, off, none⟩ ∧ b < w.heap.size ∧ ∀ j, j < n → w.cell? ⟨b, off + j * 5, none⟩ = some (.int .i64 (es.getD j ed0).f) ∧ w.cell? ⟨b, off + j * 5 + 1, none⟩ = some (.int .i64 (es.getD j ed0).t) ∧
    w.cell? ⟨b, off + j * 5 + 2, none⟩ = some (.int .i64 (es.getD j ed0).c) ∧ w.cell? ⟨b, off + j * 5 + 3, none⟩ = some (.int .i64 (es.getD j ed0).b) ∧ w.cell? ⟨b, off + j * 5 + 4, none⟩ = some (.int .i64 (es.getD j ed0).m))
theorem EdgesAt.below {w w' : World} {E : Option Addr} {n : Nat} {es : List Ed} (h : EdgesAt w E n es) (hb : Below w.heap.size w w') : EdgesAt w' E n es := ⟨h.1, fun hn => by
  obtain ⟨b, off, e, hlt, hc⟩ := h.2 hn
  refine ⟨b, off, e, Nat.lt_of_lt_of_le hlt hb.size, fun j hj => ?_⟩
  obtain ⟨c0, c1, c2, c3, c4⟩ := hc j hj
  exact ⟨(hb.cell (p := ⟨b, off + j * 5, none⟩) hlt).trans c0, (hb.cell (p := ⟨b, off + j * 5 + 1, none⟩) hlt).trans c1, (hb.cell (p := ⟨b, off + j * 5 + 2, none⟩) hlt).trans c2, (hb.cell (p := ⟨b, off + j * 5 + 3, none⟩) hlt).trans c3, (hb.cell (p := ⟨b, off + j * 5 + 4, none⟩) hlt).trans c4⟩⟩

theorem pow_wrap6 {p : Nat} (hp : p ≤ 6) : IntKind.i64.wrap ((2 : Int) ^ p) = (2 : Int) ^ p := (pow_wrap40 (by omega)).1

end Go.Proofs.Ytfblnadmbfhjiaa.Wd

namespace Go.Proofs.Ytfblnadmbfhjiaa.Wd
open Go.RowKit
set_option linter.unusedVariables false

set_option maxRecDepth 100000 in
set_option maxHeartbeats 2000000 in
theorem validStart_any (P S K M : Int) (A E : Option Addr) (n c ne ce : Nat) (st : List Int) (w : World) (ha : Ints w A n st) (hn : n ≤ 17592186044416) :
    Calls Try.prog 45 #[.agg #[.int .i64 P, .int .i64 S, .slice A n c, .int .i64 K, .int .i64 M, .slice E ne ce]] w fun e w' => e = .returned (.bool (startB S st)) ∧ Below w.heap.size w w' := by
  have HA := Lib.hid ha
  have HL := Lib.hid ha.1
  clear ha
  go_enter Try.func45, Try.ntmps45
  go_wp2_with fail
  obtain ⟨W0, hW0⟩ : ∃ W0, w.alloc (.cells #[.int .i64 P, .int .i64 S, .slice A n c, .int .i64 K, .int .i64 M, .slice E ne ce] 25) = W0 := ⟨_, rfl⟩
  have q1 : W0.cell? ⟨w.heap.size, 1, none⟩ = some (.int .i64 S) := by rw [← hW0, box_last]; rfl
  have hz : w.heap.size < W0.heap.size := by rw [← hW0]; simp
  have HB0 := Lib.hid (show Below w.heap.size w W0 by rw [← hW0]; exact (Below.refl _ _).alloc (Nat.le_refl _) _)
  rw [hW0]
  clear hW0
  go_loopg [3, 9] n (fun g l i wx => ∃ t : Nat, t + g = n ∧ i = .int .i64 t ∧ l = .int .i64 (prv st t) ∧ Hid (startP S st t = true) ∧ Hid (Below W0.heap.size W0 wx))
  case atStart => exact ⟨0, by omega, rfl, rfl, startP_zero S st, Below.refl _ _⟩
  case round =>
    obtain ⟨t, htg, rfl, rfl, HP, HBx⟩ := hrel
    have hti : (0 : Int) ≤ (t : Int) := by omega
    have HBw := Lib.hid (HB0.out.trans (HBx.out.mono HB0.out.size))
    have r1 := (HBx.out.cell (p := ⟨w.heap.size, 1, none⟩) hz).trans q1
    cases gk with
    | zero =>
      obtain rfl : n = t := by omega
      have HE := Lib.hid (show startB S st = true by unfold startB; rw [HL.out]; exact HP.out)
      go_wp2_with fail
      go_ret
      exact ⟨ret_bool HE.out.symm, HBw.out⟩
    | succ q =>
      have ht1 : t < n := by omega
      have hti2 : (t : Int) < (n : Int) := by omega
      obtain ⟨b, off, rfl, hlt, hcell⟩ := (HA.out.below HBw.out).at_ ht1
      have hct := hcell t ht1
      have HBD := Lib.hid (startB_bad (S := S) (st := st) (k := t) (by rw [HL.out]; exact ht1))
      have HST := Lib.hid (startP_step HP.out)
      have HPS := Lib.hid (prv_succ st t)
      generalize st.getD t 0 = x at *
      generalize prv st t = l at *
      clear hcell
      have hcase : x ≤ l ∨ (l < x ∧ S ≤ x) ∨ (l < x ∧ x < S) := by omega
      rcases hcase with h1 | ⟨h1, h2⟩ | ⟨h1, h2⟩
      · have HF := Lib.hid (HBD.out (by omega))
        go_wp2_with fail
        go_ret
        exact ⟨ret_bool HF.out.symm, HBw.out⟩
      · have HF := Lib.hid (HBD.out (by omega))
        go_wp2_with fail
        go_ret
        exact ⟨ret_bool HF.out.symm, HBw.out⟩
      · have HN := Lib.hid (HST.out ⟨h1, h2⟩)
        go_wp2_with fail
        go_roundg q
        case measure => omega
        case rel => exact ⟨t + 1, by omega, by go_num, by rw [HPS.out], HN, HBx⟩

set_option maxRecDepth 100000 in
set_option maxHeartbeats 2000000 in
theorem validEdges_many (P S K M : Int) (A E : Option Addr) (n c ne ce : Nat) (w : World) (hne : ne ≤ 17592186044416) (h : 40000 < ne) :
    Calls Try.prog 46 #[.agg #[.int .i64 P, .int .i64 S, .slice A n c, .int .i64 K, .int .i64 M, .slice E ne ce]] w fun e w' => e = .returned (.bool false) ∧ Below w.heap.size w w' := by
  have h1 : (40000 : Int) < (ne : Int) := by omega
  have h2 : decide ((40000 : Int) < (ne : Int)) = true := decide_eq_true h1
  go_enter Try.func46, Try.ntmps46
  go_wp2_with fail
  go_ret
  exact ⟨rfl, (Below.refl _ _).alloc (Nat.le_refl _) _⟩

end Go.Proofs.Ytfblnadmbfhjiaa.Wd

namespace Go.Proofs.Ytfblnadmbfhjiaa.Wd
open Go.RowKit Go.Shelf
set_option linter.unusedVariables false

shelf_lay Lays.n125 Nm 125 at Try as Try.lays125
theorem len_any (x : Nat) (w : World) (hx : x < 2 ^ 62) : Calls Try.prog 90 #[.int .u64 x] w fun e w' => e = .returned (.int .i64 (Lib.bitLen x)) ∧ w = w' :=
  (Any.bits_Len Try.lays125 (x : Int) w (by omega) (by omega)).mono fun _ _ ⟨he, hw⟩ => ⟨by simpa using he, hw.symm⟩

theorem meetsEven_any (m : Int) (x : Nat) (w : World) (hx : x < 2 ^ 62) : Calls Try.prog 75 #[.int .i64 m, .int .i64 x] w fun e w' => e = .returned (.bool (evenB x)) ∧ w = w' := by
  have HL := Lib.hid (fun w => len_any x w hx)
  have hx2 : (x : Int) < 4611686018427387904 := by omega
  have hx1 : (0 : Int) ≤ (x : Int) := by omega
  clear hx
  obtain ⟨L, hL⟩ : ∃ L, Lib.bitLen x = L := ⟨_, rfl⟩
  rw [hL] at HL
  have HE := Lib.hid (show evenB x = decide (L % 2 = 1) by unfold evenB; rw [hL])
  clear hL
  go_enter Try.func75, Try.ntmps75
  go_wp2_with fail
  refine (HL.out _).mono ?_
  rintro e w' ⟨rfl, rfl⟩
  go_wp2_with fail
  go_ret
  exact ⟨ret_bool (by rw [HE.out]; show decide ((L : Int) % 2 = 1) = _; rw [decide_eq_decide]; omega), rfl⟩

set_option maxHeartbeats 1000000 in
theorem of_kind0 (w : World) : Calls Try.prog 44 #[.int .i64 0] w fun e w' => e = .returned (.tuple #[.agg #[(.func (.func 64) #[] #[]), (.func (.func 65) #[] #[]), (.func (.func 66) #[] #[])], .bool true]) ∧ Below w.heap.size w w' := by
  go_enter Try.func44, Try.ntmps44
  go_wp2_with fail
  exact bodyPost_ret (v := .tuple #[.agg #[(.func (.func 64) #[] #[]), (.func (.func 65) #[] #[]), (.func (.func 66) #[] #[])], .bool true]) (by simp [results, Try.results44, go_sem]) rfl ⟨rfl, by first | exact (Below.refl _ _).alloc (Nat.le_refl _) _ | exact ((((Below.refl _ _).alloc (Nat.le_refl _) _).setCell (by simp) _).setCell (by simp) _).setCell (by simp) _⟩

set_option maxHeartbeats 1000000 in
theorem of_kind1 (w : World) : Calls Try.prog 44 #[.int .i64 1] w fun e w' => e = .returned (.tuple #[.agg #[(.func (.func 67) #[] #[]), (.func (.func 65) #[] #[]), (.func (.func 68) #[] #[])], .bool true]) ∧ Below w.heap.size w w' := by
  go_enter Try.func44, Try.ntmps44
  go_wp2_with fail
  exact bodyPost_ret (v := .tuple #[.agg #[(.func (.func 67) #[] #[]), (.func (.func 65) #[] #[]), (.func (.func 68) #[] #[])], .bool true]) (by simp [results, Try.results44, go_sem]) rfl ⟨rfl, by first | exact (Below.refl _ _).alloc (Nat.le_refl _) _ | exact ((((Below.refl _ _).alloc (Nat.le_refl _) _).setCell (by simp) _).setCell (by simp) _).setCell (by simp) _⟩

set_option maxHeartbeats 1000000 in
theorem of_kind2 (w : World) : Calls Try.prog 44 #[.int .i64 2] w fun e w' => e = .returned (.tuple #[.agg #[(.func (.func 64) #[] #[]), (.func (.func 69) #[] #[]), (.func (.func 70) #[] #[])], .bool true]) ∧ Below w.heap.size w w' := by
  go_enter Try.func44, Try.ntmps44
  go_wp2_with fail
  exact bodyPost_ret (v := .tuple #[.agg #[(.func (.func 64) #[] #[]), (.func (.func 69) #[] #[]), (.func (.func 70) #[] #[])], .bool true]) (by simp [results, Try.results44, go_sem]) rfl ⟨rfl, by first | exact (Below.refl _ _).alloc (Nat.le_refl _) _ | exact ((((Below.refl _ _).alloc (Nat.le_refl _) _).setCell (by simp) _).setCell (by simp) _).setCell (by simp) _⟩

set_option maxHeartbeats 1000000 in
theorem of_kind3 (w : World) : Calls Try.prog 44 #[.int .i64 3] w fun e w' => e = .returned (.tuple #[.agg #[(.func (.func 71) #[] #[]), (.func (.func 72) #[] #[]), (.func (.func 66) #[] #[])], .bool true]) ∧ Below w.heap.size w w' := by
  go_enter Try.func44, Try.ntmps44
  go_wp2_with fail
  exact bodyPost_ret (v := .tuple #[.agg #[(.func (.func 71) #[] #[]), (.func (.func 72) #[] #[]), (.func (.func 66) #[] #[])], .bool true]) (by simp [results, Try.results44, go_sem]) rfl ⟨rfl, by first | exact (Below.refl _ _).alloc (Nat.le_refl _) _ | exact ((((Below.refl _ _).alloc (Nat.le_refl _) _).setCell (by simp) _).setCell (by simp) _).setCell (by simp) _⟩

set_option maxHeartbeats 1000000 in
theorem of_kind4 (w : World) : Calls Try.prog 44 #[.int .i64 4] w fun e w' => e = .returned (.tuple #[.agg #[(.func (.func 71) #[] #[]), (.func (.func 73) #[] #[]), (.func (.func 74) #[] #[])], .bool true]) ∧ Below w.heap.size w w' := by
  go_enter Try.func44, Try.ntmps44
  go_wp2_with fail
  exact bodyPost_ret (v := .tuple #[.agg #[(.func (.func 71) #[] #[]), (.func (.func 73) #[] #[]), (.func (.func 74) #[] #[])], .bool true]) (by simp [results, Try.results44, go_sem]) rfl ⟨rfl, by first | exact (Below.refl _ _).alloc (Nat.le_refl _) _ | exact ((((Below.refl _ _).alloc (Nat.le_refl _) _).setCell (by simp) _).setCell (by simp) _).setCell (by simp) _⟩

set_option maxHeartbeats 1000000 in
theorem of_kind5 (w : World) : Calls Try.prog 44 #[.int .i64 5] w fun e w' => e = .returned (.tuple #[.agg #[(.func (.func 67) #[] #[]), (.func (.func 75) #[] #[]), (.func (.func 66) #[] #[])], .bool true]) ∧ Below w.heap.size w w' := by
  go_enter Try.func44, Try.ntmps44
  go_wp2_with fail
  exact bodyPost_ret (v := .tuple #[.agg #[(.func (.func 67) #[] #[]), (.func (.func 75) #[] #[]), (.func (.func 66) #[] #[])], .bool true]) (by simp [results, Try.results44, go_sem]) rfl ⟨rfl, by first | exact (Below.refl _ _).alloc (Nat.le_refl _) _ | exact ((((Below.refl _ _).alloc (Nat.le_refl _) _).setCell (by simp) _).setCell (by simp) _).setCell (by simp) _⟩

set_option maxHeartbeats 1000000 in
theorem of_none (k : Int) (w : World) (hk : k < 0 ∨ 5 < k) : Calls Try.prog 44 #[.int .i64 k] w fun e w' => e = .returned (.tuple #[.agg #[.nilFunc, .nilFunc, .nilFunc], .bool false]) ∧ Below w.heap.size w w' := by
  have h0 : (k == 0) = false := by simp; omega
  have h1 : (k == 1) = false := by simp; omega
  have h2 : (k == 2) = false := by simp; omega
  have h3 : (k == 3) = false := by simp; omega
  have h4 : (k == 4) = false := by simp; omega
  have h5 : (k == 5) = false := by simp; omega
  clear hk
  go_enter Try.func44, Try.ntmps44
  go_wp2_with fail
  exact bodyPost_ret (v := .tuple #[.agg #[.nilFunc, .nilFunc, .nilFunc], .bool false]) (by simp [results, Try.results44, go_sem]) rfl ⟨rfl, by first | exact (Below.refl _ _).alloc (Nat.le_refl _) _ | exact ((((Below.refl _ _).alloc (Nat.le_refl _) _).setCell (by simp) _).setCell (by simp) _).setCell (by simp) _⟩

end Go.Proofs.Ytfblnadmbfhjiaa.Wd

namespace Go.Proofs.Ytfblnadmbfhjiaa.Wd
open Go.RowKit
set_option linter.unusedVariables false

/-- The cells of L hold what L says. -/
def CellsAt (w : World) (L : List (Addr × Value)) : Prop := ∀ p ∈ L, p.1.block < w.heap.size ∧ w.cell? p.1 = some p.2
theorem CellsAt.below {w w' : World} {L : List (Addr × Value)} (h : CellsAt w L) (hb : Below w.heap.size w w') : CellsAt w' L := fun p hp =>
  ⟨Nat.lt_of_lt_of_le (h p hp).1 hb.size, (hb.cell (h p hp).1).trans (h p hp).2⟩

/-- The automaton as a value, and its cells. -/
def agV (s e : Nat) : Value := .agg #[.int .i64 1, .int .i64 1, .slice (some ⟨s, 0, none⟩) 1 1, .int .i64 0, .int .i64 1, .slice (some ⟨e, 0, none⟩) 2 2]
def agL (s e : Nat) : List (Addr × Value) :=
  [(⟨s, 0, none⟩, .int .i64 0), (⟨e, 0, none⟩, .int .i64 0), (⟨e, 1, none⟩, .int .i64 0), (⟨e, 2, none⟩, .int .i64 1), (⟨e, 3, none⟩, .int .i64 1), (⟨e, 4, none⟩, .int .i64 1),
   (⟨e, 5, none⟩, .int .i64 0), (⟨e, 6, none⟩, .int .i64 0), (⟨e, 7, none⟩, .int .i64 1), (⟨e, 8, none⟩, .int .i64 0), (⟨e, 9, none⟩, .int .i64 0)]
theorem agL_out {w : World} {s e : Nat} (h : CellsAt w (agL s e)) : (s < w.heap.size ∧ e < w.heap.size) ∧ w.cell? ⟨s, 0, none⟩ = some (.int .i64 0) ∧
    (w.cell? ⟨e, 0, none⟩ = some (.int .i64 0) ∧ w.cell? ⟨e, 1, none⟩ = some (.int .i64 0) ∧ w.cell? ⟨e, 2, none⟩ = some (.int .i64 1) ∧ w.cell? ⟨e, 3, none⟩ = some (.int .i64 1) ∧ w.cell? ⟨e, 4, none⟩ = some (.int .i64 1)) ∧
    (w.cell? ⟨e, 5, none⟩ = some (.int .i64 0) ∧ w.cell? ⟨e, 6, none⟩ = some (.int .i64 0) ∧ w.cell? ⟨e, 7, none⟩ = some (.int .i64 1) ∧ w.cell? ⟨e, 8, none⟩ = some (.int .i64 0) ∧ w.cell? ⟨e, 9, none⟩ = some (.int .i64 0)) :=
  ⟨⟨(h (⟨s, 0, none⟩, .int .i64 0) (by simp [agL])).1, (h (⟨e, 0, none⟩, .int .i64 0) (by simp [agL])).1⟩, (h (⟨s, 0, none⟩, .int .i64 0) (by simp [agL])).2,
   ⟨(h (⟨e, 0, none⟩, .int .i64 0) (by simp [agL])).2, (h (⟨e, 1, none⟩, .int .i64 0) (by simp [agL])).2, (h (⟨e, 2, none⟩, .int .i64 1) (by simp [agL])).2, (h (⟨e, 3, none⟩, .int .i64 1) (by simp [agL])).2, (h (⟨e, 4, none⟩, .int .i64 1) (by simp [agL])).2⟩,
   ⟨(h (⟨e, 5, none⟩, .int .i64 0) (by simp [agL])).2, (h (⟨e, 6, none⟩, .int .i64 0) (by simp [agL])).2, (h (⟨e, 7, none⟩, .int .i64 1) (by simp [agL])).2, (h (⟨e, 8, none⟩, .int .i64 0) (by simp [agL])).2, (h (⟨e, 9, none⟩, .int .i64 0) (by simp [agL])).2⟩⟩

/-- What a round of a walk over the edges needs. -/
theorem agL_at {w w' : World} {s e : Nat} (h : CellsAt w (agL s e)) (hb : Below w.heap.size w w') : (s < w'.heap.size ∧ e < w'.heap.size) ∧ w'.cell? ⟨s, 0, none⟩ = some (.int .i64 0) ∧
    (w'.cell? ⟨e, 0, none⟩ = some (.int .i64 0) ∧ w'.cell? ⟨e, 1, none⟩ = some (.int .i64 0) ∧ w'.cell? ⟨e, 2, none⟩ = some (.int .i64 1) ∧ w'.cell? ⟨e, 3, none⟩ = some (.int .i64 1) ∧ w'.cell? ⟨e, 4, none⟩ = some (.int .i64 1)) ∧
    (w'.cell? ⟨e, 5, none⟩ = some (.int .i64 0) ∧ w'.cell? ⟨e, 6, none⟩ = some (.int .i64 0) ∧ w'.cell? ⟨e, 7, none⟩ = some (.int .i64 1) ∧ w'.cell? ⟨e, 8, none⟩ = some (.int .i64 0) ∧ w'.cell? ⟨e, 9, none⟩ = some (.int .i64 0)) :=
  agL_out (h.below hb)

/-- The variable that holds the automaton. -/
def bxL (b s e : Nat) : List (Addr × Value) :=
  [(⟨b, 0, none⟩, .int .i64 1), (⟨b, 1, none⟩, .int .i64 1), (⟨b, 2, none⟩, .slice (some ⟨s, 0, none⟩) 1 1), (⟨b, 3, none⟩, .int .i64 0), (⟨b, 4, none⟩, .int .i64 1), (⟨b, 5, none⟩, .slice (some ⟨e, 0, none⟩) 2 2)]
theorem bxL_new (w : World) (s e : Nat) (t : TypeId) : CellsAt (w.alloc (.cells #[.int .i64 1, .int .i64 1, .slice (some ⟨s, 0, none⟩) 1 1, .int .i64 0, .int .i64 1, .slice (some ⟨e, 0, none⟩) 2 2] t)) (bxL w.heap.size s e) := by
  intro p hp
  simp only [bxL, List.mem_cons, List.not_mem_nil, or_false] at hp
  rcases hp with rfl | rfl | rfl | rfl | rfl | rfl
  all_goals exact ⟨by simp, by rw [box_last]; rfl⟩
theorem bxL_out {w : World} {b s e : Nat} (h : CellsAt w (bxL b s e)) : b < w.heap.size ∧ w.cell? ⟨b, 0, none⟩ = some (.int .i64 1) ∧ w.cell? ⟨b, 1, none⟩ = some (.int .i64 1) ∧ w.cell? ⟨b, 2, none⟩ = some (.slice (some ⟨s, 0, none⟩) 1 1) ∧
    w.cell? ⟨b, 3, none⟩ = some (.int .i64 0) ∧ w.cell? ⟨b, 4, none⟩ = some (.int .i64 1) ∧ w.cell? ⟨b, 5, none⟩ = some (.slice (some ⟨e, 0, none⟩) 2 2) :=
  ⟨(h (⟨b, 0, none⟩, .int .i64 1) (by simp [bxL])).1, (h (⟨b, 0, none⟩, .int .i64 1) (by simp [bxL])).2, (h (⟨b, 1, none⟩, .int .i64 1) (by simp [bxL])).2, (h (⟨b, 2, none⟩, .slice (some ⟨s, 0, none⟩) 1 1) (by simp [bxL])).2,
   (h (⟨b, 3, none⟩, .int .i64 0) (by simp [bxL])).2, (h (⟨b, 4, none⟩, .int .i64 1) (by simp [bxL])).2, (h (⟨b, 5, none⟩, .slice (some ⟨e, 0, none⟩) 2 2) (by simp [bxL])).2⟩

set_option maxRecDepth 100000 in
set_option maxHeartbeats 1000000 in
theorem validStart_ag (s e : Nat) (w : World) (h : CellsAt w (agL s e)) : Calls Try.prog 45 #[agV s e] w fun r w' => r = .returned (.bool true) ∧ Below w.heap.size w w' := by
  obtain ⟨⟨h1, h2⟩, c0, _, _⟩ := agL_out h
  clear h
  unfold agV
  go_enter Try.func45, Try.ntmps45
  go_wp2_with fail
  refine wp_loop_rounds 2 ?_
  rw [rounds_succ]
  go_wp2_with fail
  rw [rounds_succ]
  go_wp2_with fail
  go_ret
  exact ⟨rfl, (Below.refl _ _).alloc (Nat.le_refl _) _⟩

set_option maxRecDepth 100000 in
set_option maxHeartbeats 4000000 in
theorem validEdges_ag (s e : Nat) (w : World) (h : CellsAt w (agL s e)) : Calls Try.prog 46 #[agV s e] w fun r w' => r = .returned (.bool true) ∧ Below w.heap.size w w' := by
  obtain ⟨⟨h1, h2⟩, _, ⟨a0, a1, a2, a3, a4⟩, b0, b1, b2, b3, b4⟩ := agL_out h
  clear h
  unfold agV
  go_enter Try.func46, Try.ntmps46
  go_wp2_with fail
  refine wp_loop_rounds 3 ?_
  rw [rounds_succ]
  go_wp2_with fail
  go_quiet (fail)
  go_wp2_with fail
  go_quiet (fail)
  go_wp2_with fail
  rw [rounds_succ]
  go_wp2_with fail
  go_quiet (fail)
  go_wp2_with fail
  go_quiet (fail)
  go_wp2_with fail
  rw [rounds_succ]
  go_wp2_with fail
  go_ret
  refine ⟨rfl, ?_⟩
  (repeat first | apply below_drewN | refine Below.alloc ?_ (by first | exact Nat.le_refl _ | (simp <;> omega)) _)
  exact Below.refl _ _

set_option maxRecDepth 100000 in
set_option maxHeartbeats 4000000 in
theorem valid_ag (s e : Nat) (w : World) (h : CellsAt w (agL s e)) : Calls Try.prog 18 #[agV s e] w fun r w' => r = .returned (.bool true) ∧ Below w.heap.size w w' := by
  have HS := Lib.hid (fun W (hW : Below w.heap.size w W) => validStart_ag s e W (h.below hW))
  have HE := Lib.hid (fun W (hW : Below w.heap.size w W) => validEdges_ag s e W (h.below hW))
  have HX := Lib.hid (bxL_new w s e 25)
  clear h
  unfold agV at *
  go_enter Try.func18, Try.ntmps18
  go_wp2_with fail
  refine (of_kind0 _).mono ?_
  rintro r w1 ⟨rfl, hb1⟩
  have HX1 := Lib.hid (HX.out.below hb1)
  obtain ⟨hz, p0, p1, p2, p3, p4, p5⟩ := bxL_out HX1.out
  have HB1 := Lib.hid (show Below w.heap.size w w1 from ((Below.refl _ _).alloc (Nat.le_refl _) _).trans (hb1.mono (by simp)))
  clear hb1
  go_wp2_with fail
  refine (isOne_any 1 _).mono ?_
  rintro r w2 ⟨rfl, rfl⟩
  go_wp2_with fail
  refine (HS.out _ (HB1.out.alloc HB1.out.size _)).mono ?_
  rintro r w3 ⟨rfl, hb3⟩
  have HX3 := Lib.hid ((HX1.out.below ((Below.refl _ _).alloc (Nat.le_refl _) _)).below hb3)
  have HB3 := Lib.hid ((HB1.out.alloc HB1.out.size _).trans (hb3.mono (HB1.out.alloc HB1.out.size _).size))
  clear hz p0 p1 p2 p3 p4 p5 hb3
  obtain ⟨hz, p0, p1, p2, p3, p4, p5⟩ := bxL_out HX3.out
  go_wp2_with fail
  refine (HE.out _ HB3.out).mono ?_
  rintro r w4 ⟨rfl, hb4⟩
  go_wp2_with fail
  go_ret
  exact ⟨rfl, HB3.out.trans (hb4.mono HB3.out.size)⟩

theorem has_any (f t c b m l : Int) (w : World) : Calls Try.prog 42 #[.agg #[.int .i64 f, .int .i64 t, .int .i64 c, .int .i64 b, .int .i64 m], .int .i64 l] w fun r w' => r = .returned (.bool (decide (bits .and .i64 l c = b))) ∧ Below w.heap.size w w' := by
  go_enter Try.func42, Try.ntmps42
  go_wp2_with fail
  go_ret
  exact ⟨ret_bool (by first | rfl | simp), (Below.refl _ _).alloc (Nat.le_refl _) _⟩

theorem box_at {w w1 : World} {cs : Array Value} {t : TypeId} (hb : Below (w.alloc (.cells cs t)).heap.size (w.alloc (.cells cs t)) w1) : w.heap.size < w1.heap.size ∧ ∀ i, w1.cell? ⟨w.heap.size, i, none⟩ = cs[i]? :=
  ⟨by have := hb.size; simp at this; omega, fun i => (hb.cell (p := ⟨w.heap.size, i, none⟩) (by simp)).trans (box_last _ _ _ _)⟩

set_option maxRecDepth 100000 in
set_option maxHeartbeats 4000000 in
theorem fitting_ag1 (w : World) : Calls Try.prog 59 #[.agg #[.int .i64 0, .int .i64 0, .int .i64 1, .int .i64 1, .int .i64 1], .int .i64 1] w fun r w' => r = .returned (.int .u64 2) ∧ Below w.heap.size w w' := by
  have a0 : decide (bits .and .i64 0 1 = (1 : Int)) = false := by decide
  have a1 : decide (bits .and .i64 1 1 = (1 : Int)) = true := by decide
  have A0 := Lib.hid a0
  have A1 := Lib.hid a1
  clear a0 a1
  have a2 : bits .or .u64 0 2 = 2 := by decide
  have a3 : bits .or .u64 0 1 = 1 := by decide
  go_enter Try.func59, Try.ntmps59
  go_wp2_with fail
  refine wp_loop_rounds 3 ?_
  rw [rounds_succ]
  go_wp2_with fail
  refine (has_any 0 0 1 1 1 0 _).mono ?_
  rintro r w1 ⟨rfl, hb1⟩
  rw [A0.out]
  obtain ⟨hz, hq⟩ := box_at hb1
  have q0 : w1.cell? ⟨w.heap.size, 0, none⟩ = some (.int .i64 0) := hq 0
  have q1 : w1.cell? ⟨w.heap.size, 1, none⟩ = some (.int .i64 0) := hq 1
  have q2 : w1.cell? ⟨w.heap.size, 2, none⟩ = some (.int .i64 1) := hq 2
  have q3 : w1.cell? ⟨w.heap.size, 3, none⟩ = some (.int .i64 1) := hq 3
  have q4 : w1.cell? ⟨w.heap.size, 4, none⟩ = some (.int .i64 1) := hq 4
  have HB1 := Lib.hid (show Below w.heap.size w w1 from ((Below.refl _ _).alloc (Nat.le_refl _) _).trans (hb1.mono (by simp)))
  clear hq hb1
  go_wp2_with fail
  rw [rounds_succ]
  go_wp2_with fail
  refine (has_any 0 0 1 1 1 1 _).mono ?_
  rintro r w2 ⟨rfl, hb2⟩
  rw [A1.out]
  have HB2 := Lib.hid (HB1.out.trans (hb2.mono HB1.out.size))
  clear hb2 q0 q1 q2 q3 q4 hz
  go_wp2_with fail
  rw [rounds_succ]
  go_wp2_with fail
  go_ret
  exact ⟨rfl, HB2.out⟩

set_option maxRecDepth 100000 in
set_option maxHeartbeats 4000000 in
theorem fitting_ag2 (w : World) : Calls Try.prog 59 #[.agg #[.int .i64 0, .int .i64 0, .int .i64 1, .int .i64 0, .int .i64 0], .int .i64 1] w fun r w' => r = .returned (.int .u64 1) ∧ Below w.heap.size w w' := by
  have a0 : decide (bits .and .i64 0 1 = (0 : Int)) = true := by decide
  have a1 : decide (bits .and .i64 1 1 = (0 : Int)) = false := by decide
  have A0 := Lib.hid a0
  have A1 := Lib.hid a1
  clear a0 a1
  have a2 : bits .or .u64 0 2 = 2 := by decide
  have a3 : bits .or .u64 0 1 = 1 := by decide
  go_enter Try.func59, Try.ntmps59
  go_wp2_with fail
  refine wp_loop_rounds 3 ?_
  rw [rounds_succ]
  go_wp2_with fail
  refine (has_any 0 0 1 0 0 0 _).mono ?_
  rintro r w1 ⟨rfl, hb1⟩
  rw [A0.out]
  obtain ⟨hz, hq⟩ := box_at hb1
  have q0 : w1.cell? ⟨w.heap.size, 0, none⟩ = some (.int .i64 0) := hq 0
  have q1 : w1.cell? ⟨w.heap.size, 1, none⟩ = some (.int .i64 0) := hq 1
  have q2 : w1.cell? ⟨w.heap.size, 2, none⟩ = some (.int .i64 1) := hq 2
  have q3 : w1.cell? ⟨w.heap.size, 3, none⟩ = some (.int .i64 0) := hq 3
  have q4 : w1.cell? ⟨w.heap.size, 4, none⟩ = some (.int .i64 0) := hq 4
  have HB1 := Lib.hid (show Below w.heap.size w w1 from ((Below.refl _ _).alloc (Nat.le_refl _) _).trans (hb1.mono (by simp)))
  clear hq hb1
  go_wp2_with fail
  rw [rounds_succ]
  go_wp2_with fail
  refine (has_any 0 0 1 0 0 1 _).mono ?_
  rintro r w2 ⟨rfl, hb2⟩
  rw [A1.out]
  have HB2 := Lib.hid (HB1.out.trans (hb2.mono HB1.out.size))
  clear hb2 q0 q1 q2 q3 q4 hz
  go_wp2_with fail
  rw [rounds_succ]
  go_wp2_with fail
  go_ret
  exact ⟨rfl, HB2.out⟩

end Go.Proofs.Ytfblnadmbfhjiaa.Wd

namespace Go.Proofs.Ytfblnadmbfhjiaa.Wd
open Go.RowKit
set_option linter.unusedVariables false

section
variable {w w' : World} {L : List (Addr × Value)}
theorem CellsAt.nil (w : World) : CellsAt w [] := fun p hp => by cases hp
theorem CellsAt.head {a : Addr} {v : Value} (h : CellsAt w ((a, v) :: L)) : w.cell? a = some v := (h (a, v) (by simp)).2
theorem CellsAt.lt {a : Addr} {v : Value} (h : CellsAt w ((a, v) :: L)) : a.block < w.heap.size := (h (a, v) (by simp)).1
theorem CellsAt.tail {p : Addr × Value} (h : CellsAt w (p :: L)) : CellsAt w L := fun q hq => h q (by simp [hq])
theorem CellsAt.append {L' : List (Addr × Value)} (h : CellsAt w L) (h' : CellsAt w L') : CellsAt w (L ++ L') := fun p hp => (List.mem_append.1 hp).elim (h p) (h' p)
theorem CellsAt.left {L' : List (Addr × Value)} (h : CellsAt w (L ++ L')) : CellsAt w L := fun p hp => h p (List.mem_append.2 (.inl hp))
theorem CellsAt.right {L' : List (Addr × Value)} (h : CellsAt w (L ++ L')) : CellsAt w L' := fun p hp => h p (List.mem_append.2 (.inr hp))
theorem CellsAt.alloc (h : CellsAt w L) (o : Obj) : CellsAt (w.alloc o) L := h.below ((Below.refl _ _).alloc (Nat.le_refl _) o)
theorem CellsAt.drewN (h : CellsAt w L) (n : Nat) : CellsAt (w.drewN n) L := h
theorem CellsAt.one (h : CellsAt w L) (x : Value) (t : TypeId) : CellsAt (w.alloc (.cells #[x] t)) ((⟨w.heap.size, 0, none⟩, x) :: L) := by
  intro p hp
  rcases List.mem_cons.1 hp with rfl | hp
  · exact ⟨by simp, by rw [box_last]; rfl⟩
  · exact h.alloc _ p hp
theorem CellsAt.five (h : CellsAt w L) (x0 x1 x2 x3 x4 : Value) (t : TypeId) : CellsAt (w.alloc (.cells #[x0, x1, x2, x3, x4] t))
    ((⟨w.heap.size, 0, none⟩, x0) :: (⟨w.heap.size, 1, none⟩, x1) :: (⟨w.heap.size, 2, none⟩, x2) :: (⟨w.heap.size, 3, none⟩, x3) :: (⟨w.heap.size, 4, none⟩, x4) :: L) := by
  intro p hp
  rcases List.mem_cons.1 hp with rfl | hp
  · exact ⟨by simp, by rw [box_last]; rfl⟩
  rcases List.mem_cons.1 hp with rfl | hp
  · exact ⟨by simp, by rw [box_last]; rfl⟩
  rcases List.mem_cons.1 hp with rfl | hp
  · exact ⟨by simp, by rw [box_last]; rfl⟩
  rcases List.mem_cons.1 hp with rfl | hp
  · exact ⟨by simp, by rw [box_last]; rfl⟩
  rcases List.mem_cons.1 hp with rfl | hp
  · exact ⟨by simp, by rw [box_last]; rfl⟩
  · exact h.alloc _ p hp
/-- A store into another cell. -/
theorem CellsAt.other (h : CellsAt w L) (a : Addr) (v : Value) (hne : ∀ p ∈ L, a ≠ p.1) : CellsAt (w.setCell a v) L := fun p hp =>
  ⟨by simpa using (h p hp).1, (World.cell?_setCell_other w a p.1 v (hne p hp)).trans (h p hp).2⟩
/-- A store of what was there. -/
theorem CellsAt.again (h : CellsAt w L) {a : Addr} {v : Value} (ha : w.cell? a = some v) : CellsAt (w.setCell a v) L := fun p hp =>
  ⟨by simpa using (h p hp).1, by
    by_cases he : a = p.1
    · subst he
      rw [World.cell?_setCell_same w p.1 v ha, ← ha]
      exact (h p hp).2
    · exact (World.cell?_setCell_other w a p.1 v he).trans (h p hp).2⟩
end

set_option maxRecDepth 100000 in
set_option maxHeartbeats 4000000 in
theorem lettersOf_ag (s e : Nat) (w : World) (h : CellsAt w (agL s e)) : Calls Try.prog 38 #[agV s e] w fun r w' => (∃ b, r = .returned (.tuple #[.slice (some b) 1 1, .bool false])) ∧ Below w.heap.size w w' := by
  have hmk : ∀ w : World, (Instr.makeSlice 62 (.int .i64 1) (.int .i64 1)).run Try.prog w = .ok (.slice (some ⟨w.heap.size, 0, none⟩) 1 1) (w.alloc (.cells #[.int .u64 0] 92)) := fun _ => by kernel_rfl
  have HX := Lib.hid (bxL_new w s e 25)
  have HL := Lib.hid h
  obtain ⟨⟨h1, h2⟩, _, ⟨a0, a1, a2, a3, a4⟩, b0, b1, b2, b3, b4⟩ := agL_out h
  clear h
  unfold agV
  go_enter Try.func38, Try.ntmps38
  go_wp2_with fail
  refine wp_loop_rounds 3 ?_
  rw [rounds_succ]
  go_wp2_with fail
  have HC0 := Lib.hid ((((CellsAt.append HX.out (HL.out.alloc _)).one (.int .u64 0) 92)).five (.int .i64 0) (.int .i64 0) (.int .i64 1) (.int .i64 1) (.int .i64 1) 54)
  refine (fitting_ag1 _).mono ?_
  rintro r w1 ⟨rfl, hb1⟩
  have HC1 := Lib.hid (HC0.out.below hb1)
  have q5 : w1.cell? ⟨w.heap.size + 1, 0, none⟩ = some (.int .u64 0) := by simpa using HC1.out.tail.tail.tail.tail.tail.head
  have f5 : w1.frozen? ⟨w.heap.size + 1, 0, none⟩ = false := by
    rw [hb1.frozen (p := ⟨w.heap.size + 1, 0, none⟩) (by simp)]
    have := box_first_free (w.alloc (.cells #[.int .i64 1, .int .i64 1, .slice (some ⟨s, 0, none⟩) 1 1, .int .i64 0, .int .i64 1, .slice (some ⟨e, 0, none⟩) 2 2] 25)) #[.int .u64 0] 92 (.cells #[.int .i64 0, .int .i64 0, .int .i64 1, .int .i64 1, .int .i64 1] 54) 0
    simpa using this
  have q0 : w1.cell? ⟨w.heap.size + 1 + 1, 0, none⟩ = some (.int .i64 0) := by simpa using HC1.out.head
  have hz1 : w.heap.size + 1 + 1 < w1.heap.size := by have := hb1.size; simp at this; omega
  have hz0 : w.heap.size + 1 < w1.heap.size := by omega
  have hz : w.heap.size < w1.heap.size := by omega
  obtain ⟨_, p0, p1, p2, p3, p4, p5⟩ := bxL_out HC1.out.tail.tail.tail.tail.tail.tail.left
  clear a0 a1 a2 a3 a4 b0 b1 b2 b3 b4
  obtain ⟨⟨h3, h4⟩, _, ⟨a0, a1, a2, a3, a4⟩, b0, b1, b2, b3, b4⟩ := agL_out HC1.out.tail.tail.tail.tail.tail.tail.right
  have HB1 := Lib.hid (show Below w.heap.size w w1 from ((((Below.refl _ _).alloc (Nat.le_refl _) _).alloc (by simp) _).alloc (by simp; omega) _).trans (hb1.mono (by simp; omega)))
  have o1 : bits .and .u64 0 2 = 0 := by decide
  have o2 : bits .or .u64 0 2 = 2 := by decide
  have o3 : bits .and .u64 2 1 = 0 := by decide
  have o4 : bits .or .u64 2 1 = 3 := by decide
  have n1 : ¬ w.heap.size + 1 = e := by omega
  have n2 : ¬ e = w.heap.size + 1 := by omega
  clear hb1
  go_wp2_with fail
  rw [rounds_succ]
  go_wp2_with fail
  refine (fitting_ag2 _).mono ?_
  rintro r w2 ⟨rfl, hb2⟩
  have hw : Below (w1.setCell ⟨w.heap.size + 1, 0, none⟩ (.int .u64 2)).heap.size (w1.setCell ⟨w.heap.size + 1, 0, none⟩ (.int .u64 2)) w2 := ((Below.refl _ _).alloc (Nat.le_refl _) _).trans (hb2.mono (by simp))
  have q5' : w2.cell? ⟨w.heap.size + 1, 0, none⟩ = some (.int .u64 2) := (hw.cell (by simpa using hz0)).trans (World.cell?_setCell_same w1 _ _ q5)
  have f5' : w2.frozen? ⟨w.heap.size + 1, 0, none⟩ = false := (hw.frozen (by simpa using hz0)).trans (by rw [World.frozen?_setCell]; exact f5)
  have q0' : w2.cell? ⟨w1.heap.size, 0, none⟩ = some (.int .i64 0) := by
    have := (box_at hb2).2 0
    simpa using this
  have hz3 : w1.heap.size < w2.heap.size := by have := (box_at hb2).1; simpa using this
  have hz4 : w.heap.size + 1 < w2.heap.size := by omega
  have HB2 := Lib.hid (show Below w.heap.size w w2 from (HB1.out.setCell (p := ⟨w.heap.size + 1, 0, none⟩) (by simp) (.int .u64 2)).trans (hw.mono (by simp; omega)))
  clear hw hb2 a0 a1 a2 a3 a4 b0 b1 b2 b3 b4 p0 p1 p2 p3 p4 p5 q0 q5 f5 hz1 hz0 hz h1 h2 h3 h4
  go_wp2_with fail
  rw [rounds_succ]
  go_wp2_with fail
  go_ret2
  exact ⟨⟨_, rfl⟩, HB2.out.setCell (p := ⟨w.heap.size + 1, 0, none⟩) (by simp) _⟩

set_option maxRecDepth 100000 in
theorem det_ag (s e : Nat) (w : World) (h : CellsAt w (agL s e)) : Calls Try.prog 10 #[agV s e] w fun r w' => r = .returned (.tuple #[.bool true, .int .i64 0]) ∧ Below w.heap.size w w' := by
  have HX := Lib.hid (bxL_new w s e 25)
  have HV := Lib.hid (fun W (hW : Below w.heap.size w W) => valid_ag s e W (h.below hW))
  have HL := Lib.hid (fun W (hW : Below w.heap.size w W) => lettersOf_ag s e W (h.below hW))
  clear h
  unfold agV at *
  go_enter Try.func10, Try.ntmps10
  go_wp2_with fail
  refine (HV.out _ ((Below.refl _ _).alloc (Nat.le_refl _) _)).mono ?_
  rintro r w1 ⟨rfl, hb1⟩
  have HX1 := Lib.hid (HX.out.below hb1)
  have HB1 := Lib.hid (show Below w.heap.size w w1 from ((Below.refl _ _).alloc (Nat.le_refl _) _).trans (hb1.mono (by simp)))
  obtain ⟨hz, p0, p1, p2, p3, p4, p5⟩ := bxL_out HX1.out
  clear hb1
  go_wp2_with fail
  refine (HL.out _ HB1.out).mono ?_
  rintro r w2 ⟨⟨b, rfl⟩, hb2⟩
  have HX2 := Lib.hid (HX1.out.below hb2)
  have HB2 := Lib.hid (HB1.out.trans (hb2.mono HB1.out.size))
  clear hz p0 p1 p2 p3 p4 p5 hb2
  obtain ⟨hz, p0, p1, p2, p3, p4, p5⟩ := bxL_out HX2.out
  go_wp2_with fail
  go_ret2
  exact ⟨rfl, HB2.out⟩

end Go.Proofs.Ytfblnadmbfhjiaa.Wd

namespace Go.Proofs.Ytfblnadmbfhjiaa.Wd
open Go

section
variable {P : Program} {ops : Array Oper} {Q : Exit → Act → World → Prop} {md : Region.Mode} {S : World → Prop} {st : List Nat}

/-- None of the operations `st` has come up. -/
def allOpen (st : List Nat) (listed : Array Bool) : Bool := st.all fun s => !(listed.getD s true)

theorem allOpen_iff {st : List Nat} {listed : Array Bool} : allOpen st listed = true ↔ ∀ s ∈ st, listed.getD s true = false := by
  simp only [allOpen, List.all_eq_true, Bool.not_eq_true']

/-- Any order from here on; S holds behind each operation as long as `st` is open. -/
def wpAnyU (P : Program) (md : Region.Mode) (ops : Array Oper) (Q : Exit → Act → World → Prop) (S : World → Prop) (st : List Nat) : Nat → Array Bool → Act → World → Prop
  | 0, listed, a, w => Region.ready md ops listed = [] ∧ Q .normal a w
  | fuel + 1, listed, a, w =>
    (Region.ready md ops listed = [] → Q .normal a w) ∧
    ∀ i ∈ Region.ready md ops listed, wpOp P ops Q i
      (fun a' w' => (allOpen st (listed.setIfInBounds i true) = true → S w') ∧ wpAnyU P md ops Q S st fuel (listed.setIfInBounds i true) a' w') a w

theorem wpAny_of_until : ∀ (fuel : Nat) (listed : Array Bool) (a : Act) (w : World), wpAnyU P md ops Q S st fuel listed a w → wpAny P md ops Q fuel listed a w
  | 0, _, _, _, h => h
  | fuel + 1, _, _, _, h => ⟨h.1, fun i hi => wpOp_mono (fun a' w' h' => wpAny_of_until fuel _ a' w' h'.2) (h.2 i hi)⟩

/-- Each of `U` is open and waits for `i` or for another one of `U`. -/
def Waits (md : Region.Mode) (ops : Array Oper) (listed : Array Bool) (i : Nat) (U : List Nat) : Prop :=
  ∀ k ∈ U, listed.getD k true = false ∧ ∃ o, ops[k]? = some o ∧ ∃ e ∈ o.after, Region.binds md e = true ∧ (e.on = i ∨ e.on ∈ U)

theorem open_not {listed : Array Bool} {k : Nat} (h0 : listed.getD k true = false) (h1 : listed.getD k false = true) : False := by
  rcases Nat.lt_or_ge k listed.size with h' | h'
  · simp [h'] at h0 h1; rw [h0] at h1; cases h1
  · simp [Array.getElem?_eq_none h'] at h1

/-- Who may come up is none of those that wait. -/
theorem Waits.out {listed : Array Bool} {i j : Nat} {U : List Nat} (hw : Waits md ops listed i U) (hi : listed.getD i true = false)
    (hj : j ∈ Region.ready md ops listed) : j ∉ U := fun hU => by
  obtain ⟨_, o, ho, e, he, hb, hon⟩ := hw j hU
  obtain ⟨_, oj, hoj, hall⟩ := mem_ready.1 hj
  rw [ho] at hoj
  cases hoj
  have h1 := hall e he hb
  rcases hon with hon | hon
  · rw [hon] at h1; exact open_not hi h1
  · exact open_not (hw _ hon).1 h1

theorem Waits.step {listed : Array Bool} {i j : Nat} {U : List Nat} (hw : Waits md ops listed i U) (hj : j ∉ U) :
    Waits md ops (listed.setIfInBounds j true) i U := fun k hk => by
  obtain ⟨h0, h1⟩ := hw k hk
  have hne : j ≠ k := fun h => hj (h ▸ hk)
  exact ⟨by rw [getD_set_ne true hne]; exact h0, h1⟩

theorem wpAnyU_first {i : Nat} {oi : Oper} {v : Value} {U : List Nat} (hi : ops[i]? = some oi) (hsel : ∀ (j : Nat) (o : Oper) cs b, ops[j]? = some o → o.op ≠ .select cs b)
    (hQ : ∀ c a w, Q (.panic c) (a.put oi.dst v) w → Q (.panic c) a w) (hst : ∀ s ∈ st, s ∈ U) :
    ∀ (fuel : Nat) (listed : Array Bool) (a : Act) (w : World),
      (∀ j oj, ops[j]? = some oj → j ≠ i → listed.getD j true = false → (∀ e ∈ oj.after, Region.binds md e = true → e.on ≠ i) → oi.apart ops oj = true) →
      i ∈ Region.ready md ops listed → Waits md ops listed i U → YieldsIf P ops S oi v a → S w →
      wpAnyU P md ops Q S st fuel (listed.setIfInBounds i true) (a.put oi.dst v) w → wpAnyU P md ops Q S st (fuel + 1) listed a w := by
  intro fuel
  induction fuel with
  | zero =>
    intro listed a w _ hr _ hy hS H
    refine ⟨fun h => (by rw [h] at hr; cases hr), fun j hj => ?_⟩
    by_cases hji : j = i
    · subst hji; exact hy.wpOp hi hS ⟨fun _ => hS, H⟩
    · have := ready_mono hj hji
      rw [H.1] at this
      cases this
  | succ fuel ih =>
    intro listed a w hfree hr hwt hy hS H
    refine ⟨fun h => (by rw [h] at hr; cases hr), fun j hj => ?_⟩
    by_cases hji : j = i
    · subst hji; exact hy.wpOp hi hS ⟨fun _ => hS, H⟩
    · have h1 := H.2 j (ready_mono hj hji)
      have hi0 := (mem_ready.1 hr).1
      obtain ⟨hjun, oj, hoj, hall⟩ := mem_ready.1 hj
      have hjU := hwt.out hi0 hj
      have hiU := hwt.out hi0 hr
      have hwt' := hwt.step hjU
      have hopen : allOpen st ((listed.setIfInBounds i true).setIfInBounds j true) = true :=
        allOpen_iff.2 fun s hs => ((hwt.step hiU).step hjU s (hst s hs)).1
      have hnot : ∀ e ∈ oj.after, Region.binds md e = true → e.on ≠ i := fun e he hb heq =>
        open_not hi0 (heq ▸ hall e he hb)
      have h2 := wpOp_putIf hoj (hfree j oj hoj hji hjun hnot) (fun cs b => hsel i oi cs b hi) (fun cs b => hsel j oj cs b hoj) hQ hy h1
      have hfree' : ∀ k ok, ops[k]? = some ok → k ≠ i → (listed.setIfInBounds j true).getD k true = false →
          (∀ e ∈ ok.after, Region.binds md e = true → e.on ≠ i) → oi.apart ops ok = true := fun k ok hk hki hun hno => by
        refine hfree k ok hk hki ?_ hno
        by_cases hjk : j = k
        · subst hjk; exact hjun
        · rw [getD_set_ne true hjk] at hun; exact hun
      refine wpOp_mono (fun a' w' h3 => ⟨fun _ => h3.2.1 hopen, ih (listed.setIfInBounds j true) a' w' hfree' (ready_mono hr (Ne.symm hji)) hwt' h3.1 (h3.2.1 hopen) ?_⟩) h2
      rw [Array.setIfInBounds_comm _ _ hji]
      exact h3.2.2

/-- The same, to be computed. -/
def waits (md : Region.Mode) (ops : Array Oper) (listed : Array Bool) (i : Nat) (U : List Nat) : Bool :=
  U.all fun k => !(listed.getD k true) && (match ops[k]? with
    | some o => o.after.any fun e => Region.binds md e && (e.on == i || U.contains e.on)
    | none => false)

theorem waits_spec {listed : Array Bool} {i : Nat} {U : List Nat} (h : waits md ops listed i U = true) : Waits md ops listed i U := fun k hk => by
  have h1 := List.all_eq_true.1 h k hk
  rw [Bool.and_eq_true, Bool.not_eq_true'] at h1
  obtain ⟨h0, h1⟩ := h1
  refine ⟨h0, ?_⟩
  cases ho : ops[k]? with
  | none => rw [ho] at h1; cases h1
  | some o =>
    rw [ho] at h1
    have h1 : (o.after.any fun e => Region.binds md e && (e.on == i || U.contains e.on)) = true := h1
    obtain ⟨e, he, h2⟩ := Array.any_eq_true'.1 h1
    rw [Bool.and_eq_true, Bool.or_eq_true] at h2
    exact ⟨o, rfl, e, he, h2.1, h2.2.imp (fun h => by simpa using h) (fun h => by simpa using h)⟩

/-- Take number i first: it yields v in every world that meets S, and all the stores wait for it. -/
theorem wpAnyU_take {i : Nat} {oi : Oper} {v : Value} {fuel : Nat} {listed : Array Bool} {a : Act} {w : World} (U : List Nat) (hi : ops[i]? = some oi)
    (hs : Region.noSelect ops = true) (hf : Region.free md ops listed i = true) (hr : (Region.ready md ops listed).contains i = true)
    (hu : waits md ops listed i U = true) (hst : (st.all fun s => U.contains s) = true)
    (hQ : ∀ c a w, Q (.panic c) (a.put oi.dst v) w → Q (.panic c) a w) (hy : YieldsIf P ops S oi v a) (hS : S w)
    (h : wpAnyU P md ops Q S st fuel (listed.setIfInBounds i true) (a.put oi.dst v) w) : wpAnyU P md ops Q S st (fuel + 1) listed a w :=
  wpAnyU_first hi (Region.noSelect_spec hs) hQ (fun s h' => by simpa using List.all_eq_true.1 hst s h') fuel listed a w (Region.free_spec hi hf) (by simpa using hr) (waits_spec hu) hy hS h

/-- Those that wait for i, by way of one another (the operations in their text order: one pass). -/
def waiters (md : Region.Mode) (ops : Array Oper) (listed : Array Bool) (i : Nat) : List Nat :=
  (List.range ops.size).foldl (fun acc k => if !(listed.getD k true) && (match ops[k]? with
    | some o => o.after.any fun e => Region.binds md e && (e.on == i || acc.contains e.on)
    | none => false) then k :: acc else acc) []

/-- A load: all the stores wait for it, and it yields v in every world that meets S. -/
theorem wpAnyU_load {i : Nat} {oi : Oper} {v : Value} {fuel : Nat} {listed : Array Bool} {a : Act} {w : World} (hi : ops[i]? = some oi)
    (hs : Region.noSelect ops = true) (hf : Region.free md ops listed i = true) (hr : (Region.ready md ops listed).contains i = true)
    (hu : (waits md ops listed i (waiters md ops listed i) && st.all fun s => (waiters md ops listed i).contains s) = true)
    (hQ : ∀ c a w, Q (.panic c) (a.put oi.dst v) w → Q (.panic c) a w) (hy : YieldsIf P ops S oi v a) (hS : S w)
    (h : wpAnyU P md ops Q S st fuel (listed.setIfInBounds i true) (a.put oi.dst v) w) : wpAnyU P md ops Q S st (fuel + 1) listed a w := by
  rw [Bool.and_eq_true] at hu
  exact wpAnyU_take (waiters md ops listed i) hi hs hf hr hu.1 hu.2 hQ hy hS h

theorem allOpen_pure {listed : Array Bool} {i : Nat} (hn : i ∉ st) (h : allOpen st listed = true) : allOpen st (listed.setIfInBounds i true) = true :=
  allOpen_iff.2 fun s hs => by
    rw [getD_set_ne true (show i ≠ s from fun h' => hn (h' ▸ hs))]
    exact allOpen_iff.1 h s hs

theorem wpAnyU_pure_first {i : Nat} {oi : Oper} {v : Value} (hi : ops[i]? = some oi) (hsel : ∀ (j : Nat) (o : Oper) cs b, ops[j]? = some o → o.op ≠ .select cs b)
    (hQ : ∀ c a w, Q (.panic c) (a.put oi.dst v) w → Q (.panic c) a w) (hn : i ∉ st) :
    ∀ (fuel : Nat) (listed : Array Bool) (a : Act) (w : World),
      (∀ j oj, ops[j]? = some oj → j ≠ i → listed.getD j true = false → (∀ e ∈ oj.after, Region.binds md e = true → e.on ≠ i) → oi.apart ops oj = true) →
      i ∈ Region.ready md ops listed → YieldsIf P ops (fun _ => True) oi v a → (allOpen st listed = true → S w) →
      wpAnyU P md ops Q S st fuel (listed.setIfInBounds i true) (a.put oi.dst v) w → wpAnyU P md ops Q S st (fuel + 1) listed a w := by
  have hback : ∀ listed : Array Bool, i ∈ Region.ready md ops listed → allOpen st (listed.setIfInBounds i true) = true → allOpen st listed = true :=
    fun listed _ h => allOpen_iff.2 fun s hs => by
      have h1 := allOpen_iff.1 h s hs
      rw [getD_set_ne true (show i ≠ s from fun h' => hn (h' ▸ hs))] at h1
      exact h1
  intro fuel
  induction fuel with
  | zero =>
    intro listed a w _ hr hy hS H
    refine ⟨fun h => (by rw [h] at hr; cases hr), fun j hj => ?_⟩
    by_cases hji : j = i
    · subst hji; exact hy.wpOp hi trivial ⟨fun h => hS (hback _ hr h), H⟩
    · have := ready_mono hj hji
      rw [H.1] at this
      cases this
  | succ fuel ih =>
    intro listed a w hfree hr hy hS H
    refine ⟨fun h => (by rw [h] at hr; cases hr), fun j hj => ?_⟩
    by_cases hji : j = i
    · subst hji; exact hy.wpOp hi trivial ⟨fun h => hS (hback _ hr h), H⟩
    · have h1 := H.2 j (ready_mono hj hji)
      have hi0 := (mem_ready.1 hr).1
      obtain ⟨hjun, oj, hoj, hall⟩ := mem_ready.1 hj
      have hnot : ∀ e ∈ oj.after, Region.binds md e = true → e.on ≠ i := fun e he hb heq =>
        open_not hi0 (heq ▸ hall e he hb)
      have h2 := wpOp_putIf hoj (hfree j oj hoj hji hjun hnot) (fun cs b => hsel i oi cs b hi) (fun cs b => hsel j oj cs b hoj) hQ hy h1
      have hfree' : ∀ k ok, ops[k]? = some ok → k ≠ i → (listed.setIfInBounds j true).getD k true = false →
          (∀ e ∈ ok.after, Region.binds md e = true → e.on ≠ i) → oi.apart ops ok = true := fun k ok hk hki hun hno => by
        refine hfree k ok hk hki ?_ hno
        by_cases hjk : j = k
        · subst hjk; exact hjun
        · rw [getD_set_ne true hjk] at hun; exact hun
      have hS' : ∀ {w' : World}, (allOpen st ((listed.setIfInBounds i true).setIfInBounds j true) = true → S w') → allOpen st (listed.setIfInBounds j true) = true → S w' := fun h1 h2 =>
        h1 (by rw [Array.setIfInBounds_comm _ _ (Ne.symm hji)]; exact allOpen_pure hn h2)
      refine wpOp_mono (fun a' w' h3 => ⟨hS' h3.2.1, ih (listed.setIfInBounds j true) a' w' hfree' (ready_mono hr (Ne.symm hji)) h3.1 (hS' h3.2.1) ?_⟩) h2
      rw [Array.setIfInBounds_comm _ _ hji]
      exact h3.2.2

/-- What yields in whatever world may be taken first at any time. -/
theorem wpAnyU_pure {i : Nat} {oi : Oper} {v : Value} {fuel : Nat} {listed : Array Bool} {a : Act} {w : World} (hi : ops[i]? = some oi)
    (hs : Region.noSelect ops = true) (hf : Region.free md ops listed i = true) (hr : (Region.ready md ops listed).contains i = true)
    (hn : (!(st.contains i)) = true)
    (hQ : ∀ c a w, Q (.panic c) (a.put oi.dst v) w → Q (.panic c) a w) (hy : YieldsIf P ops (fun _ => True) oi v a) (hS : allOpen st listed = true → S w)
    (h : wpAnyU P md ops Q S st fuel (listed.setIfInBounds i true) (a.put oi.dst v) w) : wpAnyU P md ops Q S st (fuel + 1) listed a w :=
  wpAnyU_pure_first hi (Region.noSelect_spec hs) hQ (by simpa using hn) fuel listed a w (Region.free_spec hi hf) (by simpa using hr) hy hS h

/-- Whichever comes up: one goal each, what follows kept behind a letter. -/
def AllU (P : Program) (md : Region.Mode) (ops : Array Oper) (Q : Exit → Act → World → Prop) (S : World → Prop) (st : List Nat) (fuel : Nat) (listed : Array Bool) (a : Act) (w : World) (rs : List Nat) : Prop :=
  ∀ i ∈ rs, wpOp P ops Q i (fun a' w' => (allOpen st (listed.setIfInBounds i true) = true → S w') ∧ wpAnyU P md ops Q S st fuel (listed.setIfInBounds i true) a' w') a w

theorem AllU.nil {fuel : Nat} {listed : Array Bool} {a : Act} {w : World} : AllU P md ops Q S st fuel listed a w [] := fun _ h => by cases h

theorem AllU.cons {fuel : Nat} {listed : Array Bool} {a : Act} {w : World} {i : Nat} {o : Oper} {rs : List Nat} (ho : ops[i]? = some o)
    (h : ∀ K : Act → World → Prop, Shut (∀ a w, (allOpen st (listed.setIfInBounds i true) = true → S w) → wpAnyU P md ops Q S st fuel (listed.setIfInBounds i true) a w → K a w) →
      if Region.wanted o (yielded ops a.tmps) = true then Oper.wp P o a w K Q else K (a.put o.dst undef) w)
    (hs : AllU P md ops Q S st fuel listed a w rs) : AllU P md ops Q S st fuel listed a w (i :: rs) := fun j hj => by
  rcases List.mem_cons.1 hj with rfl | hj
  · exact wpOp_step ho (fun K hK => h K (fun a w hS hW => hK a w ⟨hS, hW⟩))
  · exact hs j hj

theorem wpAnyU_ready {rs : List Nat} {fuel : Nat} {listed : Array Bool} {a : Act} {w : World} (hr : Region.ready md ops listed = rs) (hne : rs ≠ [])
    (h : AllU P md ops Q S st fuel listed a w rs) : wpAnyU P md ops Q S st (fuel + 1) listed a w := ⟨fun h0 => absurd (hr ▸ h0) hne, hr ▸ h⟩

/-- Whichever comes up. -/
theorem wpAnyU_all {rs : List Nat} {fuel : Nat} {listed : Array Bool} {a : Act} {w : World} (hr : Region.ready md ops listed = rs) (hne : rs ≠ [])
    (h : ∀ i ∈ rs, wpOp P ops Q i (fun a' w' => (allOpen st (listed.setIfInBounds i true) = true → S w') ∧ wpAnyU P md ops Q S st fuel (listed.setIfInBounds i true) a' w') a w) :
    wpAnyU P md ops Q S st (fuel + 1) listed a w :=
  ⟨fun h0 => absurd (hr ▸ h0) hne, hr ▸ h⟩

/-- All have come up. -/
theorem wpAnyU_done {listed : Array Bool} {a : Act} {w : World} (hr : Region.ready md ops listed = []) (h : Q .normal a w) :
    ∀ fuel, wpAnyU P md ops Q S st fuel listed a w
  | 0 => ⟨hr, h⟩
  | _ + 1 => ⟨fun _ => h, by rw [hr]; simp⟩

/-- The beginning, behind the draw. -/
theorem wp_region_until {id : Nat} {a : Act} {w : World} (hm : P.follows .mixedOrders = true)
    (h : wpAnyU P .any ops Q S st ops.size (Array.replicate ops.size false) a { w with drawn := w.drawn + 1 }) : (Code.region id ops true).wp P Q a w :=
  wp_region_any hm (wpAny_of_until _ _ _ _ h)

/-- S is shown of the world behind the draw, and handed on. -/
theorem wp_region_until_drew {id : Nat} {a : Act} {w : World} (hm : P.follows .mixedOrders = true) (hS : S w.drew)
    (h : S w.drew → wpAnyU P .any ops Q S st ops.size (Array.replicate ops.size false) a w.drew) : (Code.region id ops true).wp P Q a w :=
  wp_region_until hm (h hS)

end
end Go.Proofs.Ytfblnadmbfhjiaa.Wd

namespace Go.Proofs.Ytfblnadmbfhjiaa.Wd
open Go.RowKit

/-- The cells of a slice of ints, for an append law. -/
theorem Ints.news {w : World} {b off n : Nat} {xs : List Int} (hl : xs.length = n) (hc : ∀ j, j < n → w.cell? ⟨b, off + j, none⟩ = some (.int .i64 (xs.getD j 0))) :
    ∀ j u, (xs.map (Value.int .i64))[j]? = some u → w.cell? ((⟨b, off, none⟩ : Addr).add j) = some u := by
  intro j u hj
  have hjn : j < xs.length := by
    have := (List.getElem?_eq_some_iff.1 hj).1
    simpa using this
  rw [Addr.add_lit, hc j (by omega)]
  rw [← hj]
  simp [List.getD_eq_getElem?_getD, List.getElem?_eq_getElem hjn]
theorem ones (xs : List Int) : ∀ u ∈ xs.map (Value.int .i64), u.oneCell' = true := by
  intro u hu
  obtain ⟨x, _, rfl⟩ := List.mem_map.1 hu
  rfl

section
variable {P : Program} (w : World)

/-- append onto nil or onto a row of the call's own has the row at base or above; below base nothing turns. -/
theorem below_own {w w' : World} {base e size n : Nat} {v : Value} {xs : List Value} (hown : w.ownsRow base e size v n xs) (hg : w.grownBy w' v.ownBlock) (hbase : base ≤ w.heap.size) : Below base w w' :=
  (Below.refl _ _).grown hg hbase (fun q hq => by
    rcases hown.2 with ⟨rfl, _⟩ | ⟨g, cap, cur, rfl, hb, _⟩
    · simp [Value.ownBlock] at hq
    · simp [Value.ownBlock] at hq
      omega)

theorem run_append_ints (base t ty e : Nat) (i : TypeInfo) (z : Value) (ht : P.underlying t = some (.slice e)) (hi : P.info? e = some i) (hz : i.zero = some z)
    (hsize : i.size = 1) (hby : i.bytes = 8) (hzs : z.cells.size = 1)
    (v : Value) (n : Nat) (xs : List Value) (hown : w.ownsRow base e 1 v n xs)
    (A : Option Addr) (m c : Nat) (ys : List Int) (hr : Ints w A m ys) (hn : n + m ≤ 1000000) (hbase : base ≤ w.heap.size) :
    ∃ v' w', (Builtin.append_ #[t, t] ty #[v, .slice A m c]).run P w = .ok v' w' ∧ w'.ownsRow base e 1 v' (n + m) (xs ++ ys.map (Value.int .i64)) ∧ w.grownBy w' v.ownBlock ∧
      (v'.ownBlock = v.ownBlock ∨ v'.ownBlock = some w.heap.size) := by
  have hlen := hr.1
  rcases A with _ | ad
  · have hm : m = 0 := by
      rcases Nat.eq_zero_or_pos m with h0 | h0
      · exact h0
      · obtain ⟨b, off, h, _⟩ := hr.2 h0
        cases h
    subst hm
    have hy : ys = [] := List.eq_nil_of_length_eq_zero hlen
    subst hy
    refine ⟨v, w, ?_, by simpa using hown, World.grownBy.refl w _, .inl rfl⟩
    rcases hown.2 with ⟨rfl, rfl⟩ | ⟨g, cap, cur, rfl, _, _, hnc, _⟩
    · simp [Builtin.append_, run_underlying ht, sizeOf, typeInfo, hi, Builtin.lenOf, Builtin.firstCells]
    · simp [Builtin.append_, run_underlying ht, sizeOf, typeInfo, hi, Builtin.lenOf, Builtin.firstCells, hnc, storeCells]
  · have hcells : ∀ j u, (ys.map (Value.int .i64))[j]? = some u → w.cell? (ad.add j) = some u := by
      intro j u hu
      rcases Nat.eq_zero_or_pos m with h0 | h0
      · subst h0
        have hy : ys = [] := List.eq_nil_of_length_eq_zero hlen
        subst hy
        simp at hu
      · obtain ⟨b, off, h, _, hc⟩ := hr.2 h0
        injection h with h
        subst h
        exact Ints.news hlen hc j u hu
    obtain ⟨v', w', hrun, h2, h3, _, h5⟩ := run_append_own_at (P := P) w base t ty e i z 1 8 ht hi hz hsize hby hzs (by omega) v n xs hown ad m c (ys.map (Value.int .i64)) (by simp [hlen]) hcells (ones ys) (by unfold maxLen; omega) (by omega) hbase
    exact ⟨v', w', hrun, h2, h3, h5⟩

theorem wp_append_ints {o : Oper} {a : Act} {K : Act → World → Prop} {Q : Exit → Act → World → Prop} (s x : Operand) (t : TypeId)
    (ho : o.op = .call { callee := .builtin .append, args := #[s, x], argTypes := #[t, t] })
    (base : Nat) (e : TypeId) (i : TypeInfo) (z : Value) (ht : P.underlying t = some (.slice e)) (hi : P.info? e = some i) (hz : i.zero = some z)
    (hsize : i.size = 1) (hby : i.bytes = 8) (hzs : z.cells.size = 1)
    (v : Value) (n : Nat) (xs : List Value) (hs : a.eval s = v) (hown : w.ownsRow base e 1 v n xs)
    (A : Option Addr) (m c : Nat) (ys : List Int) (hx : a.eval x = .slice A m c) (hr : Ints w A m ys) (hn : n + m ≤ 1000000) (hbase : base ≤ w.heap.size)
    (h : ∀ v' w', w'.ownsRow base e 1 v' (n + m) (xs ++ ys.map (Value.int .i64)) → w.grownBy w' v.ownBlock → (v'.ownBlock = v.ownBlock ∨ v'.ownBlock = some w.heap.size) → K (a.put o.dst v') w') : o.wp P a w K Q := by
  obtain ⟨v', w', hrun, h2, h3, h4⟩ := run_append_ints (P := P) w base t o.type e i z ht hi hz hsize hby hzs v n xs hown A m c ys hr hn hbase
  unfold Oper.wp execOp
  simp only [ho, resolve, invoke, builtin, Sem.run_bind, Sem.run_pure, Result.andThen_ok, List.map_toArray, List.map_cons, List.map_nil, hs, hx, hrun]
  exact h v' w' h2 h3 h4

theorem wpList_append_ints {ops : Array Oper} {rest : List Oper} {o : Oper} {a : Act} {Q : Exit → Act → World → Prop} (hgd : o.guard = none) (s x : Operand) (t : TypeId)
    (ho : o.op = .call { callee := .builtin .append, args := #[s, x], argTypes := #[t, t] })
    (base : Nat) (e : TypeId) (i : TypeInfo) (z : Value) (ht : P.underlying t = some (.slice e)) (hi : P.info? e = some i) (hz : i.zero = some z)
    (hsize : i.size = 1) (hby : i.bytes = 8) (hzs : z.cells.size = 1)
    (v : Value) (n : Nat) (xs : List Value) (hs : a.eval s = v) (hown : w.ownsRow base e 1 v n xs)
    (A : Option Addr) (m c : Nat) (ys : List Int) (hx : a.eval x = .slice A m c) (hr : Ints w A m ys) (hn : n + m ≤ 1000000) (hbase : base ≤ w.heap.size)
    (h : ∀ v' w', w'.ownsRow base e 1 v' (n + m) (xs ++ ys.map (Value.int .i64)) → w.grownBy w' v.ownBlock → (v'.ownBlock = v.ownBlock ∨ v'.ownBlock = some w.heap.size) → wpList P ops Q rest (a.put o.dst v') w') : wpList P ops Q (o :: rest) a w :=
  wpList_plain hgd fun _ hK => wp_append_ints w s x t ho base e i z ht hi hz hsize hby hzs v n xs hs hown A m c ys hx hr hn hbase fun v' w' h2 h3 h4 => hK _ _ (h v' w' h2 h3 h4)

theorem step_append_ints {ops : Array Oper} {o : Oper} {a : Act} {K : Act → World → Prop} {Q : Exit → Act → World → Prop} {E : Prop} (hgd : o.guard = none) (s x : Operand) (t : TypeId)
    (ho : o.op = .call { callee := .builtin .append, args := #[s, x], argTypes := #[t, t] })
    (base : Nat) (e : TypeId) (i : TypeInfo) (z : Value) (ht : P.underlying t = some (.slice e)) (hi : P.info? e = some i) (hz : i.zero = some z)
    (hsize : i.size = 1) (hby : i.bytes = 8) (hzs : z.cells.size = 1)
    (v : Value) (n : Nat) (xs : List Value) (hs : a.eval s = v) (hown : w.ownsRow base e 1 v n xs)
    (A : Option Addr) (m c : Nat) (ys : List Int) (hx : a.eval x = .slice A m c) (hr : Ints w A m ys) (hn : n + m ≤ 1000000) (hbase : base ≤ w.heap.size)
    (h : ∀ v' w', w'.ownsRow base e 1 v' (n + m) (xs ++ ys.map (Value.int .i64)) → w.grownBy w' v.ownBlock → (v'.ownBlock = v.ownBlock ∨ v'.ownBlock = some w.heap.size) → K (a.put o.dst v') w') :
    if Region.wanted o (yielded ops a.tmps) = true then Oper.wp P o a w K Q else E := by
  have hw : Region.wanted o (yielded ops a.tmps) = true := by simp [Region.wanted, hgd]
  rw [if_pos hw]
  exact wp_append_ints w s x t ho base e i z ht hi hz hsize hby hzs v n xs hs hown A m c ys hx hr hn hbase h
end
end Go.Proofs.Ytfblnadmbfhjiaa.Wd

namespace Go.Proofs.Ytfblnadmbfhjiaa.Wd
open Go.RowKit
set_option linter.unusedVariables false
set_option linter.unusedSimpArgs false

theorem agL_edge {w : World} {s e : Nat} (h : CellsAt w (agL s e)) {t : Nat} (ht : t < 2) : ∃ y2 y3 y4 : Int, w.cell? ⟨e, t * 5, none⟩ = some (.int .i64 0) ∧ w.cell? ⟨e, t * 5 + 1, none⟩ = some (.int .i64 0) ∧ w.cell? ⟨e, t * 5 + 2, none⟩ = some (.int .i64 y2) ∧ w.cell? ⟨e, t * 5 + 3, none⟩ = some (.int .i64 y3) ∧ w.cell? ⟨e, t * 5 + 4, none⟩ = some (.int .i64 y4) := by
  obtain ⟨_, _, ⟨a0, a1, a2, a3, a4⟩, b0, b1, b2, b3, b4⟩ := agL_out h
  have h2 : t = 0 ∨ t = 1 := by omega
  rcases h2 with rfl | rfl
  · exact ⟨1, 1, 1, a0, a1, a2, a3, a4⟩
  · exact ⟨1, 0, 0, b0, b1, b2, b3, b4⟩

theorem int_row : (Try.prog.info? 3).map (fun i => (i.zero, i.size, i.bytes)) = some (some (.int .i64 0), 1, 8) := by kernel_rfl

theorem own_keep {w w' : World} {base e size n : Nat} {v : Value} {xs : List Value} (h : w.ownsRow base e size v n xs) (hb : Below w.heap.size w w') : w'.ownsRow base e size v n xs :=
  h.kept (row := none) ⟨hb.os, hb.tape, hb.output, hb.size, fun j hj _ => hb.block j hj⟩ (by cases hv : v.ownBlock <;> simp)
theorem own_apart0 {w : World} {B e n g : Nat} {v : Value} {xs : List Value} (h : w.ownsRow B e 1 v n xs) (hg : w.heap.size ≤ g) : some g ≠ v.ownBlock := by
  intro he
  rcases h.2 with ⟨rfl, _⟩ | ⟨b, cap, cur, rfl, h1, hgg, _⟩
  · cases he
  · cases he
    exact Nat.lt_irrefl _ (Nat.lt_of_lt_of_le (Array.getElem?_eq_some_iff.1 hgg).1 hg)
theorem one_new (w : World) (g : Nat) (hg : w.heap.size = g) (x : Int) (t : TypeId) : Ints (w.alloc (.cells #[.int .i64 x] t)).drew (some ⟨g, 0, none⟩) 1 [x] := by
  subst hg
  exact ⟨rfl, fun _ => ⟨w.heap.size, 0, rfl, by simp, fun j hj => by
    obtain rfl : j = 0 := by omega
    show World.cell? (w.alloc _) _ = _
    rw [box_last]
    rfl⟩⟩

def upL (k : Nat) : List Int := (List.range k).map fun (j : Nat) => (j : Int)
theorem upL_snoc (k : Nat) : upL (k + 1) = upL k ++ [(k : Int)] := by simp [upL, List.range_succ]

set_option maxRecDepth 100000 in
set_option maxHeartbeats 4000000 in
theorem outgoing_ag (s e : Nat) (w : World) (h : CellsAt w (agL s e)) : Calls Try.prog 62 #[agV s e] w fun r w' =>
    ∃ o g c, r = .returned (.slice (some ⟨o, 0, none⟩) 1 1) ∧ w.heap.size ≤ o ∧ CellsAt w' [(⟨o, 0, none⟩, .slice (some ⟨g, 0, none⟩) 2 c), (⟨g, 0, none⟩, .int .i64 0), (⟨g, 1, none⟩, .int .i64 1)] ∧ Below w.heap.size w w' := by
  obtain ⟨i0, hi, hi0, hi1, hi2⟩ := info_parts int_row
  have hmk : ∀ w : World, (Instr.makeSlice 95 (.int .i64 1) (.int .i64 1)).run Try.prog w = .ok (.slice (some ⟨w.heap.size, 0, none⟩) 1 1) (w.alloc (.cells #[.slice none 0 0] 22)) := fun _ => by kernel_rfl
  have HL := Lib.hid h
  clear h
  unfold agV
  go_enter Try.func62, Try.ntmps62
  go_wp2_with fail
  have hX0 : ∀ X : World, X.heap.size = w.heap.size + 1 → True := fun _ _ => trivial
  go_loopg [12] 2 (fun g i wx => ∃ (t : Nat) (v : Value), t + g = 2 ∧ i = .int .i64 t ∧ Hid (wx.ownsRow (w.heap.size + 2) 3 1 v t ((upL t).map (Value.int .i64))) ∧ Hid (wx.cell? ⟨w.heap.size + 1, 0, none⟩ = some v ∧ wx.frozen? ⟨w.heap.size + 1, 0, none⟩ = false ∧ w.heap.size + 2 ≤ wx.heap.size) ∧ Below w.heap.size w wx)
  case atStart =>
    refine ⟨0, .slice none 0 0, by omega, rfl, World.ownsRow_nil _ _ _ _, ⟨?_, ?_, ?_⟩, ((Below.refl _ _).alloc (Nat.le_refl _) _).alloc (by simp) _⟩
    · simp
    · simp
    · simp
  case round =>
    obtain ⟨t, v, htg, rfl, HO, HV, hbx⟩ := hrel
    cases gk with
    | zero =>
      obtain rfl : t = 2 := by omega
      obtain ⟨A, c, rfl, hcc⟩ := own_slice HO.out
      obtain ⟨g, cap, hv1, hv2, hlt⟩ := HO.out.form (by omega)
      have hA : A = some ⟨g, 0, none⟩ := by injection hv1
      subst hA
      have hq0 := HO.out.cells (g := g) rfl 0 (.int .i64 0) (by simp [upL])
      have hq1 := HO.out.cells (g := g) rfl 1 (.int .i64 1) (by simp [upL])
      rw [Addr.add_lit] at hq0 hq1
      have HCS := Lib.hid (show CellsAt wr [(⟨w.heap.size + 1, 0, none⟩, .slice (some ⟨g, 0, none⟩) 2 c), (⟨g, 0, none⟩, .int .i64 0), (⟨g, 1, none⟩, .int .i64 1)] by
        intro p hp
        simp only [List.mem_cons, List.not_mem_nil, or_false] at hp
        rcases hp with rfl | rfl | rfl
        · exact ⟨by have := HV.out.2.2; show w.heap.size + 1 < _; omega, HV.out.1⟩
        · exact ⟨hlt, by simpa using hq0⟩
        · exact ⟨hlt, by simpa using hq1⟩)
      clear hv1 hq0 hq1 hX0
      go_wp2_with fail
      go_ret
      exact ⟨w.heap.size + 1, rfl, by omega, ⟨g, c, HCS.out⟩, hbx⟩
    | succ g =>
      have hti : (0 : Int) ≤ (t : Int) := by omega
      have hti2 : (t : Int) < 2 := by omega
      have ht2 : t < 2 := by omega
      obtain ⟨y2, y3, y4, e0, e1, e2, e3, e4⟩ := agL_edge (HL.out.below hbx) ht2
      have hv := HV.out.1
      have hfz := HV.out.2.1
      have hzz := HV.out.2.2
      have hz0 : w.heap.size + 1 < wr.heap.size := by omega
      clear hX0
      go_wp2_with fail
      have HBA := Lib.hid (show Below wr.heap.size wr ((wr.alloc (.cells #[.int .i64 0, .int .i64 0, .int .i64 y2, .int .i64 y3, .int .i64 y4] 54)).alloc (.cells #[.int .i64 (t : Int)] 3)).drew from (((Below.refl _ _).alloc (Nat.le_refl _) _).alloc (by simp) _).drew)
      refine wp_region_until_drew (st := [12]) (S := fun V => V.cell? ⟨wr.heap.size, 0, none⟩ = some (.int .i64 0) ∧ V.cell? ⟨w.heap.size + 1, 0, none⟩ = some v) (by kernel_rfl) ⟨by show World.cell? (wr.alloc _) _ = _; rw [box_last]; rfl, by show World.cell? (wr.alloc _) _ = _; rw [Below.cell ((Below.refl wr.heap.size wr).alloc (Nat.le_refl _) _) hz0]; exact hv⟩ (fun hHeld => ?_)
      refine wpAnyU_pure (i := 0) (v := ?vo0) rfl (by kernel_rfl) (by kernel_rfl) (by kernel_rfl) (by kernel_rfl) (fun _ _ _ h => h) (Or.inl ⟨by rfl, fun V _ => ?hyo0⟩) (fun _ => hHeld) ?resto0
      case hyo0 => go_simp; try with_reducible rfl
      try simp only [Act.put, List.getElem_toArray, List.getElem_cons_zero, List.getElem_cons_succ, List.setIfInBounds_toArray, List.set_cons_zero, List.set_cons_succ]
      refine wpAnyU_pure (i := 1) (v := ?vo1) rfl (by kernel_rfl) (by kernel_rfl) (by kernel_rfl) (by kernel_rfl) (fun _ _ _ h => h) (Or.inl ⟨by rfl, fun V _ => ?hyo1⟩) (fun _ => hHeld) ?resto1
      case hyo1 => go_simp; try with_reducible rfl
      try simp only [Act.put, List.getElem_toArray, List.getElem_cons_zero, List.getElem_cons_succ, List.setIfInBounds_toArray, List.set_cons_zero, List.set_cons_succ]
      refine wpAnyU_load (i := 2) (v := ?vo2) rfl (by kernel_rfl) (by kernel_rfl) (by kernel_rfl) (by kernel_rfl) (fun _ _ _ h => h) (Or.inl ⟨by rfl, fun V hSw => ?hyo2⟩) hHeld ?resto2
      case hyo2 => (obtain ⟨hs1, hs2⟩ := hSw); go_simp; try with_reducible rfl
      try simp only [Act.put, List.getElem_toArray, List.getElem_cons_zero, List.getElem_cons_succ, List.setIfInBounds_toArray, List.set_cons_zero, List.set_cons_succ]
      refine wpAnyU_pure (i := 3) (v := ?vo3) rfl (by kernel_rfl) (by kernel_rfl) (by kernel_rfl) (by kernel_rfl) (fun _ _ _ h => h) (Or.inl ⟨by rfl, fun V _ => ?hyo3⟩) (fun _ => hHeld) ?resto3
      case hyo3 => go_simp; try with_reducible rfl
      try simp only [Act.put, List.getElem_toArray, List.getElem_cons_zero, List.getElem_cons_succ, List.setIfInBounds_toArray, List.set_cons_zero, List.set_cons_succ]
      refine wpAnyU_pure (i := 4) (v := ?vo4) rfl (by kernel_rfl) (by kernel_rfl) (by kernel_rfl) (by kernel_rfl) (fun _ _ _ h => h) (Or.inl ⟨by rfl, fun V _ => ?hyo4⟩) (fun _ => hHeld) ?resto4
      case hyo4 => go_simp; try with_reducible rfl
      try simp only [Act.put, List.getElem_toArray, List.getElem_cons_zero, List.getElem_cons_succ, List.setIfInBounds_toArray, List.set_cons_zero, List.set_cons_succ]
      refine wpAnyU_load (i := 5) (v := ?vo5) rfl (by kernel_rfl) (by kernel_rfl) (by kernel_rfl) (by kernel_rfl) (fun _ _ _ h => h) (Or.inl ⟨by rfl, fun V hSw => ?hyo5⟩) hHeld ?resto5
      case hyo5 => (obtain ⟨hs1, hs2⟩ := hSw); go_simp; try with_reducible rfl
      try simp only [Act.put, List.getElem_toArray, List.getElem_cons_zero, List.getElem_cons_succ, List.setIfInBounds_toArray, List.set_cons_zero, List.set_cons_succ]
      refine wpAnyU_pure (i := 6) (v := ?vo6) rfl (by kernel_rfl) (by kernel_rfl) (by kernel_rfl) (by kernel_rfl) (fun _ _ _ h => h) (Or.inl ⟨by rfl, fun V _ => ?hyo6⟩) (fun _ => hHeld) ?resto6
      case hyo6 => go_simp; try with_reducible rfl
      try simp only [Act.put, List.getElem_toArray, List.getElem_cons_zero, List.getElem_cons_succ, List.setIfInBounds_toArray, List.set_cons_zero, List.set_cons_succ]
      refine wpAnyU_load (i := 7) (v := ?vo7) rfl (by kernel_rfl) (by kernel_rfl) (by kernel_rfl) (by kernel_rfl) (fun _ _ _ h => h) (Or.inl ⟨by rfl, fun V hSw => ?hyo7⟩) hHeld ?resto7
      case hyo7 => (obtain ⟨hs1, hs2⟩ := hSw); go_simp; try with_reducible rfl
      try simp only [Act.put, List.getElem_toArray, List.getElem_cons_zero, List.getElem_cons_succ, List.setIfInBounds_toArray, List.set_cons_zero, List.set_cons_succ]
      refine wpAnyU_pure (i := 8) (v := ?vo8) rfl (by kernel_rfl) (by kernel_rfl) (by kernel_rfl) (by kernel_rfl) (fun _ _ _ h => h) (Or.inl ⟨by rfl, fun V _ => ?hyo8⟩) (fun _ => hHeld) ?resto8
      case hyo8 => go_simp; try with_reducible rfl
      try simp only [Act.put, List.getElem_toArray, List.getElem_cons_zero, List.getElem_cons_succ, List.setIfInBounds_toArray, List.set_cons_zero, List.set_cons_succ]
      refine wpAnyU_ready (rs := [9]) (by kernel_rfl) (by simp) (AllU.cons (i := 9) rfl (fun K hK => ?_) AllU.nil)
      simp only [List.getElem_toArray, List.getElem_cons_zero, List.getElem_cons_succ]
      go_simp
      refine hK.out _ _ (fun _ => ⟨?se, (HBA.out.cell (p := ⟨w.heap.size + 1, 0, none⟩) hz0).trans hv⟩) ?re
      case se => exact (box_first wr #[.int .i64 0, .int .i64 0, .int .i64 y2, .int .i64 y3, .int .i64 y4] 54 (.cells #[.int .i64 (t : Int)] 3) 0)
      clear hK K
      try simp only [Act.put, List.getElem_toArray, List.getElem_cons_zero, List.getElem_cons_succ, List.setIfInBounds_toArray, List.set_cons_zero, List.set_cons_succ]
      refine wpAnyU_ready (rs := [10]) (by kernel_rfl) (by simp) (AllU.cons (i := 10) rfl (fun K hK => ?_) AllU.nil)
      have hown0 := own_keep HO.out HBA.out
      have hbase : w.heap.size + 2 ≤ ((wr.alloc (.cells #[.int .i64 0, .int .i64 0, .int .i64 y2, .int .i64 y3, .int .i64 y4] 54)).alloc (.cells #[.int .i64 (t : Int)] 3)).drew.heap.size := Nat.le_trans hzz HBA.out.size
      refine step_append_ints _ (by rfl) _ _ _ (by rfl) (w.heap.size + 2) 3 i0 _ Try.underlying22 hi hi0 hi1 hi2 rfl v t ((upL t).map (Value.int .i64)) (by rfl) (by exact hown0) (some ⟨wr.heap.size + 1, 0, none⟩) 1 1 [(t : Int)] (by rfl) (by exact one_new (wr.alloc (.cells #[.int .i64 0, .int .i64 0, .int .i64 y2, .int .i64 y3, .int .i64 y4] 54)) (wr.heap.size + 1) (by simp) t _) (by omega) (by exact hbase) ?_
      intro v' w2 hown hgrow hat
      obtain ⟨A', c', hve, hcc⟩ := own_slice hown
      rw [hve] at hown hat ⊢
      have hb2 := below_own hown0 hgrow hbase
      have HB2 := Lib.hid hb2
      have HOW := Lib.hid hown
      have hc2 : w2.cell? ⟨w.heap.size + 1, 0, none⟩ = some v := (hb2.cell (p := ⟨w.heap.size + 1, 0, none⟩) (by simp)).trans ((HBA.out.cell (p := ⟨w.heap.size + 1, 0, none⟩) hz0).trans hv)
      have hf2 : w2.frozen? ⟨w.heap.size + 1, 0, none⟩ = false := (hb2.frozen (p := ⟨w.heap.size + 1, 0, none⟩) (by simp)).trans ((HBA.out.frozen (p := ⟨w.heap.size + 1, 0, none⟩) hz0).trans hfz)
      have he2 : w2.cell? ⟨wr.heap.size, 0, none⟩ = some (.int .i64 0) := (hgrow.cell_far ⟨wr.heap.size, 0, none⟩ (by simp; omega) (own_apart0 HO.out (Nat.le_refl _))).trans (box_first wr #[.int .i64 0, .int .i64 0, .int .i64 y2, .int .i64 y3, .int .i64 y4] 54 (.cells #[.int .i64 (t : Int)] 3) 0)
      clear hve hown0 hown hgrow hat hb2 hHeld
      have hHeld := And.intro he2 hc2
      refine hK.out _ _ (fun _ => hHeld) ?_
      clear hK K
      try simp only [Act.put, List.getElem_toArray, List.getElem_cons_zero, List.getElem_cons_succ, List.setIfInBounds_toArray, List.set_cons_zero, List.set_cons_succ]
      refine wpAnyU_pure (i := 11) (v := ?vq11) rfl (by kernel_rfl) (by kernel_rfl) (by kernel_rfl) (by kernel_rfl) (fun _ _ _ h => h) (Or.inl ⟨by rfl, fun V _ => ?hyq11⟩) (fun _ => hHeld) ?restq11
      case hyq11 => go_simp; try with_reducible rfl
      try simp only [Act.put, List.getElem_toArray, List.getElem_cons_zero, List.getElem_cons_succ, List.setIfInBounds_toArray, List.set_cons_zero, List.set_cons_succ]
      refine wpAnyU_ready (rs := [12]) (by kernel_rfl) (by simp) (AllU.cons (i := 12) rfl (fun K hK => ?_) AllU.nil)
      simp only [List.getElem_toArray, List.getElem_cons_zero, List.getElem_cons_succ]
      go_simp
      refine hK.out _ _ (fun h => by have h2 : false = true := h; cases h2) ?_
      clear hK K
      try simp only [Act.put, List.getElem_toArray, List.getElem_cons_zero, List.getElem_cons_succ, List.setIfInBounds_toArray, List.set_cons_zero, List.set_cons_succ]
      refine wpAnyU_done (by kernel_rfl) ?_ _
      clear hHeld
      go_wp2_with fail
      go_roundg g
      case measure => omega
      case rel =>
        refine ⟨t + 1, .slice A' (t + 1) c', by omega, by go_num, ?_, ⟨?_, ?_, ?_⟩, ?_⟩
        · show World.ownsRow _ _ _ _ _ _ _
          rw [upL_snoc, List.map_append]
          exact ownsRow_setCell_below HOW.out (by show w.heap.size + 1 < w.heap.size + 2; omega) _
        · exact World.cell?_setCell_same w2 _ _ hc2
        · rw [World.frozen?_setCell]; exact hf2
        · have := Nat.le_trans hbase HB2.out.size; simpa using this
        · exact ((hbx.trans (HBA.out.mono hbx.size)).trans (HB2.out.mono (by omega))).setCell (p := ⟨w.heap.size + 1, 0, none⟩) (by simp) _

end Go.Proofs.Ytfblnadmbfhjiaa.Wd

namespace Go.Proofs.Ytfblnadmbfhjiaa.Wd
open Go.RowKit
set_option linter.unusedVariables false

/-- The walker at block r, with all that it looks at. -/
def wkL (r s e o g c : Nat) : List (Addr × Value) :=
  [(⟨r, 0, none⟩, .slice (some ⟨e, 0, none⟩) 2 2), (⟨r, 1, none⟩, .slice (some ⟨o, 0, none⟩) 1 1), (⟨r, 2, none⟩, .int .i64 0), (⟨r, 3, none⟩, .bool false)] ++
  ([(⟨o, 0, none⟩, .slice (some ⟨g, 0, none⟩) 2 c), (⟨g, 0, none⟩, .int .i64 0), (⟨g, 1, none⟩, .int .i64 1)] ++ agL s e)

set_option maxRecDepth 100000 in
set_option maxHeartbeats 4000000 in
theorem newWalker_ag (s e : Nat) (w : World) (h : CellsAt w (agL s e)) : Calls Try.prog 49 #[agV s e] w fun x w' =>
    ∃ r o g c, x = .returned (.pointer (some ⟨r, 0, none⟩)) ∧ w.heap.size ≤ r ∧ CellsAt w' (wkL r s e o g c) ∧ w'.frozen? ⟨r, 2, none⟩ = false ∧ Below w.heap.size w w' := by
  have HX := Lib.hid (bxL_new w s e 25)
  have HL := Lib.hid h
  have HO := Lib.hid (fun W (hW : Below w.heap.size w W) => outgoing_ag s e W (h.below hW))
  have HBX := Lib.hid (show Below w.heap.size w (w.alloc (.cells #[.int .i64 1, .int .i64 1, .slice (some ⟨s, 0, none⟩) 1 1, .int .i64 0, .int .i64 1, .slice (some ⟨e, 0, none⟩) 2 2] 25)) from (Below.refl _ _).alloc (Nat.le_refl _) _)
  obtain ⟨⟨h1, h2⟩, c0, _, _⟩ := agL_out h
  have c0' : (w.alloc (.cells #[.int .i64 1, .int .i64 1, .slice (some ⟨s, 0, none⟩) 1 1, .int .i64 0, .int .i64 1, .slice (some ⟨e, 0, none⟩) 2 2] 25)).cell? ⟨s, 0, none⟩ = some (.int .i64 0) := (HBX.out.cell (p := ⟨s, 0, none⟩) h1).trans c0
  have HS := Lib.hid (show ∀ V, Below (w.alloc (.cells #[.int .i64 1, .int .i64 1, .slice (some ⟨s, 0, none⟩) 1 1, .int .i64 0, .int .i64 1, .slice (some ⟨e, 0, none⟩) 2 2] 25)).heap.size (w.alloc (.cells #[.int .i64 1, .int .i64 1, .slice (some ⟨s, 0, none⟩) 1 1, .int .i64 0, .int .i64 1, .slice (some ⟨e, 0, none⟩) 2 2] 25)) V →
      (V.cell? ⟨w.heap.size, 0, none⟩ = some (.int .i64 1) ∧ V.cell? ⟨w.heap.size, 1, none⟩ = some (.int .i64 1) ∧ V.cell? ⟨w.heap.size, 2, none⟩ = some (.slice (some ⟨s, 0, none⟩) 1 1) ∧ V.cell? ⟨w.heap.size, 3, none⟩ = some (.int .i64 0) ∧ V.cell? ⟨w.heap.size, 4, none⟩ = some (.int .i64 1) ∧ V.cell? ⟨w.heap.size, 5, none⟩ = some (.slice (some ⟨e, 0, none⟩) 2 2)) ∧ V.cell? ⟨s, 0, none⟩ = some (.int .i64 0) from
    fun V hV => ⟨(bxL_out (HX.out.below hV)).2, (hV.cell (p := ⟨s, 0, none⟩) (by simp; omega)).trans c0'⟩)
  clear h c0 c0'
  unfold agV at *
  go_enter Try.func49, Try.ntmps49
  go_wp2_with fail
  generalize w.alloc (.cells #[.int .i64 1, .int .i64 1, .slice (some ⟨s, 0, none⟩) 1 1, .int .i64 0, .int .i64 1, .slice (some ⟨e, 0, none⟩) 2 2] 25) = Z at *
  go_region_held3 (fun V => (V.cell? ⟨w.heap.size, 0, none⟩ = some (.int .i64 1) ∧ V.cell? ⟨w.heap.size, 1, none⟩ = some (.int .i64 1) ∧ V.cell? ⟨w.heap.size, 2, none⟩ = some (.slice (some ⟨s, 0, none⟩) 1 1) ∧ V.cell? ⟨w.heap.size, 3, none⟩ = some (.int .i64 0) ∧ V.cell? ⟨w.heap.size, 4, none⟩ = some (.int .i64 1) ∧ V.cell? ⟨w.heap.size, 5, none⟩ = some (.slice (some ⟨e, 0, none⟩) 2 2)) ∧ V.cell? ⟨s, 0, none⟩ = some (.int .i64 0))
    (first
      | exact HS.out _ k1
      | exact HS.out _ ((Below.refl Z.heap.size Z).drew)
      | exact HS.out _ (k1.alloc k1.size _))
    (first
      | (go_at_call 62; refine (HO.out _ HBX.out.drew).mono ?_; rintro x z1 ⟨o, g, c, rfl, ho, HC, b1⟩; have k1 : Below Z.heap.size Z z1 := ((Below.refl _ _).drew).trans b1)
      | fail)
  go_wp2_with fail
  go_ret
  have hw1 : Below w.heap.size w z1 := HBX.out.trans (k1.mono HBX.out.size)
  refine ⟨z1.heap.size, o, g, c, rfl, hw1.size, ?_, box_last_free _ _ _ _, hw1.alloc hw1.size _⟩
  refine CellsAt.append ?_ (CellsAt.append (HC.alloc _) (((HL.out.below hw1)).alloc _))
  intro p hp
  simp only [List.mem_cons, List.not_mem_nil, or_false] at hp
  rcases hp with rfl | rfl | rfl | rfl
  all_goals exact ⟨by simp, by rw [box_last]; rfl⟩

theorem wkL_out {w : World} {r s e o g c : Nat} (h : CellsAt w (wkL r s e o g c)) : r < w.heap.size ∧ (w.cell? ⟨r, 0, none⟩ = some (.slice (some ⟨e, 0, none⟩) 2 2) ∧ w.cell? ⟨r, 1, none⟩ = some (.slice (some ⟨o, 0, none⟩) 1 1) ∧ w.cell? ⟨r, 2, none⟩ = some (.int .i64 0) ∧ w.cell? ⟨r, 3, none⟩ = some (.bool false)) ∧
    (w.cell? ⟨o, 0, none⟩ = some (.slice (some ⟨g, 0, none⟩) 2 c) ∧ w.cell? ⟨g, 0, none⟩ = some (.int .i64 0) ∧ w.cell? ⟨g, 1, none⟩ = some (.int .i64 1)) ∧ (o < w.heap.size ∧ g < w.heap.size) ∧ CellsAt w (agL s e) :=
  ⟨h.left.lt, ⟨h.left.head, h.left.tail.head, h.left.tail.tail.head, h.left.tail.tail.tail.head⟩, ⟨h.right.left.head, h.right.left.tail.head, h.right.left.tail.tail.head⟩, ⟨h.right.left.lt, h.right.left.tail.lt⟩, h.right.right⟩

/-- The walker stands. -/
def Wk (w : World) (r s e o g c : Nat) : Prop := CellsAt w (wkL r s e o g c) ∧ w.frozen? ⟨r, 2, none⟩ = false
theorem Wk.below {w w' : World} {r s e o g c : Nat} (h : Wk w r s e o g c) (hb : Below w.heap.size w w') : Wk w' r s e o g c :=
  ⟨h.1.below hb, (hb.frozen (p := ⟨r, 2, none⟩) (wkL_out h.1).1).trans h.2⟩
theorem Wk.again {w : World} {r s e o g c : Nat} (h : Wk w r s e o g c) : Wk (w.setCell ⟨r, 2, none⟩ (.int .i64 0)) r s e o g c :=
  ⟨h.1.again (wkL_out h.1).2.1.2.2.1, by rw [World.frozen?_setCell]; exact h.2⟩

theorem grown_of {w w' : World} {row : Option Nat} (hb : Below w.heap.size w w') : w.grownBy w' row := ⟨hb.os, hb.tape, hb.output, hb.size, fun i hi _ => hb.block i hi⟩
theorem grown_set {w w' : World} {r : Nat} (h : w.grownBy w' (some r)) (o : Nat) (v : Value) : w.grownBy (w'.setCell ⟨r, o, none⟩ v) (some r) :=
  ⟨h.os, h.tape, h.output, by simpa using h.size, fun i hi hne => (Below.heap_setCell _ _ _ i (fun e => hne (by rw [e]))).trans (h.block i hi hne)⟩
theorem grown_below {w w' : World} {r B : Nat} (h : w.grownBy w' (some r)) (hB : B ≤ r) (hBw : B ≤ w.heap.size) : Below B w w' := (Below.refl _ _).grown h hBw (fun k hk => by cases hk; exact hB)

def StepR (w w' : World) (r s e o g c : Nat) (v : Int) (x : Ending) : Prop := x = .returned (.int .i64 v) ∧ Wk w' r s e o g c ∧ w.grownBy w' (some r)

set_option maxRecDepth 100000 in
set_option maxHeartbeats 4000000 in
theorem step_one (r s e o g c : Nat) (w : World) (h : Wk w r s e o g c) : Calls Try.prog 91 #[.pointer (some ⟨r, 0, none⟩), .int .i64 1] w fun x w' => StepR w w' r s e o g c 1 x := by
  have HW := Lib.hid h
  obtain ⟨hr, ⟨r0, r1, r2, r3⟩, ⟨o0, g0, g1⟩, ⟨ho, hg⟩, ha⟩ := wkL_out h.1
  have l1 := Lib.hid (show decide (bits .and .i64 1 1 = (1 : Int)) = true by decide)
  have l2 := Lib.hid (show decide (bits .and .i64 1 1 = (0 : Int)) = false by decide)
  clear h ha
  go_enter Try.func91, Try.ntmps91
  go_wp2_with fail
  go_quiet (fail)
  have HW2 := Lib.hid (show Wk (w.drewN nq) r s e o g c from HW.out)
  have HBl := Lib.hid (show w.grownBy (w.drewN nq) (some r) from grown_of (below_drewN (Below.refl _ _) _))
  clear hr r0 r1 r2 r3 o0 g0 g1 ho hg HW
  generalize w.drewN nq = W at *
  obtain ⟨hr, ⟨r0, r1, r2, r3⟩, ⟨o0, g0, g1⟩, ⟨ho, hg⟩, ha⟩ := wkL_out HW2.out.1
  obtain ⟨⟨h1, h2⟩, _, ⟨a0, a1, a2, a3, a4⟩, b0, b1, b2, b3, b4⟩ := agL_out ha
  have hf := HW2.out.2
  clear ha
  go_wp2_with fail
  refine wp_loop_rounds 3 ?_
  rw [rounds_succ]
  go_wp2_with fail
  refine (has_any 0 0 1 1 1 1 _).mono ?_
  rintro x w1 ⟨rfl, hb1⟩
  rw [l1.out]
  obtain ⟨hz, hq⟩ := box_at hb1
  have q0 : w1.cell? ⟨W.heap.size, 0, none⟩ = some (.int .i64 0) := hq 0
  have q1 : w1.cell? ⟨W.heap.size, 1, none⟩ = some (.int .i64 0) := hq 1
  have q4 : w1.cell? ⟨W.heap.size, 4, none⟩ = some (.int .i64 1) := hq 4
  have hw1 : Below W.heap.size W w1 := ((Below.refl _ _).alloc (Nat.le_refl _) _).trans (hb1.mono (by simp))
  have HW3 := Lib.hid (HW2.out.below hw1)
  have HB3 := Lib.hid (HBl.out.trans (grown_of hw1))
  clear hr r0 r1 r2 r3 o0 g0 g1 ho hg h1 h2 a0 a1 a2 a3 a4 b0 b1 b2 b3 b4 hf hq hb1 hw1 HW2
  obtain ⟨hr, ⟨r0, r1, r2, r3⟩, ⟨o0, g0, g1⟩, ⟨ho, hg⟩, ha⟩ := wkL_out HW3.out.1
  obtain ⟨⟨h1, h2⟩, _, ⟨a0, a1, a2, a3, a4⟩, b0, b1, b2, b3, b4⟩ := agL_out ha
  have hf := HW3.out.2
  clear ha
  go_wp2_with fail
  go_ret
  exact ⟨rfl, HW3.out.again, grown_set HB3.out _ _⟩

set_option maxRecDepth 100000 in
set_option maxHeartbeats 4000000 in
theorem step_zero (r s e o g c : Nat) (w : World) (h : Wk w r s e o g c) : Calls Try.prog 91 #[.pointer (some ⟨r, 0, none⟩), .int .i64 0] w fun x w' => StepR w w' r s e o g c 0 x := by
  have HW := Lib.hid h
  obtain ⟨hr, ⟨r0, r1, r2, r3⟩, ⟨o0, g0, g1⟩, ⟨ho, hg⟩, ha⟩ := wkL_out h.1
  have l1 := Lib.hid (show decide (bits .and .i64 0 1 = (1 : Int)) = false by decide)
  have l2 := Lib.hid (show decide (bits .and .i64 0 1 = (0 : Int)) = true by decide)
  clear h ha
  go_enter Try.func91, Try.ntmps91
  go_wp2_with fail
  go_quiet (fail)
  have HW2 := Lib.hid (show Wk (w.drewN nq) r s e o g c from HW.out)
  have HBl := Lib.hid (show w.grownBy (w.drewN nq) (some r) from grown_of (below_drewN (Below.refl _ _) _))
  clear hr r0 r1 r2 r3 o0 g0 g1 ho hg HW
  generalize w.drewN nq = W at *
  obtain ⟨hr, ⟨r0, r1, r2, r3⟩, ⟨o0, g0, g1⟩, ⟨ho, hg⟩, ha⟩ := wkL_out HW2.out.1
  obtain ⟨⟨h1, h2⟩, _, ⟨a0, a1, a2, a3, a4⟩, b0, b1, b2, b3, b4⟩ := agL_out ha
  have hf := HW2.out.2
  clear ha
  go_wp2_with fail
  refine wp_loop_rounds 3 ?_
  rw [rounds_succ]
  go_wp2_with fail
  refine (has_any 0 0 1 1 1 0 _).mono ?_
  rintro x w1 ⟨rfl, hb1⟩
  rw [l1.out]
  obtain ⟨hz, hq⟩ := box_at hb1
  have q0 : w1.cell? ⟨W.heap.size, 0, none⟩ = some (.int .i64 0) := hq 0
  have q1 : w1.cell? ⟨W.heap.size, 1, none⟩ = some (.int .i64 0) := hq 1
  have q4 : w1.cell? ⟨W.heap.size, 4, none⟩ = some (.int .i64 1) := hq 4
  have hw1 : Below W.heap.size W w1 := ((Below.refl _ _).alloc (Nat.le_refl _) _).trans (hb1.mono (by simp))
  have HW3 := Lib.hid (HW2.out.below hw1)
  have HB3 := Lib.hid (HBl.out.trans (grown_of hw1))
  clear hr r0 r1 r2 r3 o0 g0 g1 ho hg h1 h2 a0 a1 a2 a3 a4 b0 b1 b2 b3 b4 hf hq hb1 hw1 HW2
  obtain ⟨hr, ⟨r0, r1, r2, r3⟩, ⟨o0, g0, g1⟩, ⟨ho, hg⟩, ha⟩ := wkL_out HW3.out.1
  obtain ⟨⟨h1, h2⟩, _, ⟨a0, a1, a2, a3, a4⟩, b0, b1, b2, b3, b4⟩ := agL_out ha
  have hf := HW3.out.2
  clear ha
  go_wp2_with fail
  rw [rounds_succ]
  go_wp2_with fail
  refine (has_any 0 0 1 0 0 0 _).mono ?_
  rintro x w2 ⟨rfl, hb2⟩
  rw [l2.out]
  obtain ⟨hz', hq'⟩ := box_at hb2
  have p1 : w2.cell? ⟨w1.heap.size, 1, none⟩ = some (.int .i64 0) := hq' 1
  have p4 : w2.cell? ⟨w1.heap.size, 4, none⟩ = some (.int .i64 0) := hq' 4
  have hw2 : Below w1.heap.size w1 w2 := ((Below.refl _ _).alloc (Nat.le_refl _) _).trans (hb2.mono (by simp))
  have HW4 := Lib.hid (HW3.out.below hw2)
  have HB4 := Lib.hid (HB3.out.trans (grown_of hw2))
  clear hr r0 r1 r2 r3 o0 g0 g1 ho hg h1 h2 a0 a1 a2 a3 a4 b0 b1 b2 b3 b4 hf hq' hb2 hw2 q0 q1 q4 hz
  obtain ⟨hr, ⟨r0, r1, r2, r3⟩, ⟨o0, g0, g1⟩, ⟨ho, hg⟩, ha⟩ := wkL_out HW4.out.1
  have hf := HW4.out.2
  clear ha
  go_wp2_with fail
  go_ret
  exact ⟨rfl, HW4.out.again, grown_set HB4.out _ _⟩

end Go.Proofs.Ytfblnadmbfhjiaa.Wd

namespace Go.Proofs.Ytfblnadmbfhjiaa.Wd
open Go.RowKit
set_option linter.unusedVariables false

/-- Ints outside block r. -/
def IntsN (r : Nat) (w : World) (A : Option Addr) (n : Nat) (xs : List Int) : Prop :=
  xs.length = n ∧ (0 < n → ∃ b off, A = some ⟨b, off, none⟩ ∧ (b < w.heap.size ∧ b ≠ r) ∧ ∀ j, j < n → w.cell? ⟨b, off + j, none⟩ = some (.int .i64 (xs.getD j 0)))
theorem IntsN.grown {r n : Nat} {w w' : World} {A : Option Addr} {xs : List Int} (h : IntsN r w A n xs) (hb : w.grownBy w' (some r)) : IntsN r w' A n xs := ⟨h.1, fun hn => by
  obtain ⟨b, off, e, hlt, hc⟩ := h.2 hn
  exact ⟨b, off, e, ⟨Nat.lt_of_lt_of_le hlt.1 hb.size, hlt.2⟩, fun j hj => (hb.cell_far ⟨b, off + j, none⟩ hlt.1 (fun e => hlt.2 (by cases e; rfl))).trans (hc j hj)⟩⟩
theorem IntsN.below {r n : Nat} {w w' : World} {A : Option Addr} {xs : List Int} (h : IntsN r w A n xs) (hb : Below w.heap.size w w') : IntsN r w' A n xs := h.grown (grown_of hb)

/-- Is there a letter 1? -/
def oneL (xs : List Int) : Int := if 1 ∈ xs then 1 else 0
theorem oneL_cases (xs : List Int) : oneL xs = 0 ∨ oneL xs = 1 := by unfold oneL; split; exact .inr rfl; exact .inl rfl
theorem or_table : ∀ a : Fin 2, ∀ b : Fin 2, bits .or .i64 ((a.val : Nat) : Int) ((b.val : Nat) : Int) = ((max a.val b.val : Nat) : Int) := by decide +kernel
theorem oneL_snoc {xs : List Int} {l : Int} (hl : l = 0 ∨ l = 1) : bits .or .i64 (oneL xs) l = oneL (xs ++ [l]) := by
  unfold oneL
  by_cases h : (1 : Int) ∈ xs
  · rw [if_pos h, if_pos (by simp [h])]
    rcases hl with rfl | rfl
    · exact or_table 1 0
    · exact or_table 1 1
  · rw [if_neg h]
    rcases hl with rfl | rfl
    · rw [if_neg (by simp [h])]
      exact or_table 0 0
    · rw [if_pos (by simp)]
      exact or_table 0 1

set_option maxRecDepth 100000 in
set_option maxHeartbeats 4000000 in
theorem read_ag (r s e o g c : Nat) (A : Option Addr) (n d : Nat) (xs : List Int) (w : World) (h : Wk w r s e o g c) (hx : IntsN r w A n xs) (hl : ∀ x ∈ xs, x = 0 ∨ x = 1) (hn : n ≤ 100000) :
    Calls Try.prog 79 #[.pointer (some ⟨r, 0, none⟩), .slice A n d] w fun x w' => StepR w w' r s e o g c (oneL xs) x := by
  have HW := Lib.hid h
  have HX := Lib.hid hx
  have HL := Lib.hid hl
  have hxl := Lib.hid hx.1
  clear h hx hl
  go_enter Try.func79, Try.ntmps79
  go_wp2_with fail
  go_loopg [5, 10] n (fun q m i wx => ∃ t : Nat, t + q = n ∧ i = .int .i64 t ∧ m = .int .i64 (oneL (xs.take t)) ∧ Hid (Wk wx r s e o g c) ∧ Hid (w.grownBy wx (some r)))
  case atStart => exact ⟨0, by omega, rfl, rfl, HW, World.grownBy.refl w _⟩
  case round =>
    obtain ⟨t, htq, rfl, rfl, HWr, HBr⟩ := hrel
    have hti : (0 : Int) ≤ (t : Int) := by omega
    cases gk with
    | zero =>
      obtain rfl : n = t := by omega
      have HT := Lib.hid (List.take_of_length_le (l := xs) (i := n) (by have := hxl.out; omega))
      go_wp2_with fail
      go_ret
      exact ⟨ret_int (by rw [HT.out]), HWr.out, HBr.out⟩
    | succ q =>
      have ht1 : t < n := by omega
      have hti2 : (t : Int) < (n : Int) := by omega
      obtain ⟨bA, oA, hAe, ⟨hlt, _⟩, hcell⟩ := (HX.out.grown HBr.out).2 (by omega)
      subst hAe
      have hct := hcell t ht1
      have hmem : xs.getD t 0 = 0 ∨ xs.getD t 0 = 1 := by
        have ht2 : t < xs.length := by have := hxl.out; omega
        rw [List.getD_eq_getElem?_getD, List.getElem?_eq_getElem ht2]
        exact HL.out _ (List.getElem_mem ht2)
      have hsn : xs.take (t + 1) = xs.take t ++ [xs.getD t 0] := by
        have ht2 : t < xs.length := by have := hxl.out; omega
        rw [List.take_succ_eq_append_getElem ht2, List.getD_eq_getElem?_getD, List.getElem?_eq_getElem ht2]
        rfl
      generalize xs.getD t 0 = l at *
      have hor := oneL_snoc (xs := xs.take t) hmem
      rw [← hsn] at hor
      have HST := Lib.hid (show Calls Try.prog 91 #[.pointer (some ⟨r, 0, none⟩), .int .i64 l] wr fun x w' => StepR wr w' r s e o g c l x from by
        rcases hmem with rfl | rfl
        · exact step_zero r s e o g c wr HWr.out
        · exact step_one r s e o g c wr HWr.out)
      obtain ⟨M, hM⟩ : ∃ M, oneL (xs.take t) = M := ⟨_, rfl⟩
      rw [hM] at hor
      rw [hM]
      clear hM hsn hmem hcell
      go_wp2_with fail
      refine HST.out.mono ?_
      rintro x w1 ⟨rfl, hw1, hb1⟩
      have HW1 := Lib.hid hw1
      have HB1 := Lib.hid (HBr.out.trans hb1)
      clear hw1 hb1
      go_wp2_with fail
      go_roundg q
      case measure => omega
      case rel => exact ⟨t + 1, by omega, by go_num, by first | rfl | rw [hor], HW1, HB1⟩

theorem union_one (a : Addr) (d : Nat) (x : Int) (w : World) (hc : w.cell? a = some (.int .i64 x)) (hs : a.spot = none) (hx : x = 0 ∨ x = 1) :
    Calls Try.prog 80 #[.slice (some a) 1 d] w fun e w' => e = .returned (.int .i64 x) ∧ w = w' := by
  obtain ⟨b, o, sp⟩ := a
  simp only at hs
  subst hs
  have hor : bits .or .i64 0 x = x := by rcases hx with rfl | rfl <;> decide
  go_enter Try.func80, Try.ntmps80
  go_wp2_with fail
  refine wp_loop_rounds 2 ?_
  rw [rounds_succ]
  go_wp2_with fail
  rw [rounds_succ]
  go_wp2_with fail
  go_ret
  exact ⟨rfl, rfl⟩

end Go.Proofs.Ytfblnadmbfhjiaa.Wd

namespace Go.Proofs.Ytfblnadmbfhjiaa.Wd
open Go.RowKit Go.Maps
set_option linter.unusedVariables false

theorem map_below {w1 w2 : World} {o : Obj} (hg : (w1.alloc o).grownBy w2 (some w1.heap.size)) : Below w1.heap.size w1 w2 :=
  ((Below.refl _ _).alloc (Nat.le_refl _) o).grown hg (by simp) (fun k hk => by cases hk; exact Nat.le_refl _)

theorem ints_one (w : World) (x : Int) (t : TypeId) : Ints (w.alloc (.cells #[.int .i64 x] t)) (some ⟨w.heap.size, 0, none⟩) 1 [x] := one_new w w.heap.size rfl x t

theorem lawInt : Keyed Try.prog 3 := int_keyed Try.underlying3
theorem zeroInt (w : World) : (zeroValue 3).run Try.prog w = .ok (.int .i64 0) w := by kernel_rfl
theorem keyInt0 : keyOf Try.prog 3 (.int .i64 0) = some (.int .i64 0) := keyOf_int_mk Try.underlying3 (by decide)

theorem at_zero : ((DataW.map (H := Nat) []).put (.int .i64 0) (.lit (.int .i64 0))).atKey (.int .i64 0) (.lit (.int .i64 0)) = .lit (.int .i64 0) := by rfl

set_option maxRecDepth 100000 in
set_option maxHeartbeats 4000000 in
theorem walk_ag (r s e o g c : Nat) (A B : Option Addr) (n cA m dB : Nat) (st lp : List Int) (w : World) (h : Wk w r s e o g c) (hs : IntsN r w A n st) (hl : IntsN r w B m lp) (hs1 : ∀ x ∈ st, x = 0 ∨ x = 1) (hl1 : ∀ x ∈ lp, x = 0 ∨ x = 1) (hn : n ≤ 100000) (hm : m ≤ 100000) :
    Calls Try.prog 50 #[.pointer (some ⟨r, 0, none⟩), .agg #[.slice A n cA, .slice B m dB]] w fun x w' => x = .returned (.tuple #[.int .i64 (oneL lp), .bool false]) ∧ w.grownBy w' (some r) := by
  obtain ⟨i0, hi, hi0, hi1, hi2⟩ := info_parts int_row
  have hmm := @run_makeMap Try.prog
  have hr : r < w.heap.size := (wkL_out h.1).1
  have HR1 := Lib.hid (fun W (hW : Below w.heap.size w W) => read_ag r s e o g c A n cA st W (h.below hW) (hs.below hW) hs1 hn)
  have HR2 := Lib.hid (fun W (hk : Wk W r s e o g c) (hW : w.grownBy W (some r)) => read_ag r s e o g c B m dB lp W hk (hl.grown hW) hl1 hm)
  clear hs hl hs1 hl1 h
  go_enter Try.func50, Try.ntmps50
  go_wp2_with fail
  refine (HR1.out _ ((Below.refl _ _).alloc (Nat.le_refl _) _)).mono ?_
  rintro x w1 ⟨rfl, hw1, hg1⟩
  have p0 : w1.cell? ⟨w.heap.size, 0, none⟩ = some (.slice A n cA) := (hg1.cell_far ⟨w.heap.size, 0, none⟩ (by simp) (by simp; omega)).trans (by rw [box_last]; rfl)
  have p1 : w1.cell? ⟨w.heap.size, 1, none⟩ = some (.slice B m dB) := (hg1.cell_far ⟨w.heap.size, 1, none⟩ (by simp) (by simp; omega)).trans (by rw [box_last]; rfl)
  have hz1 : w.heap.size < w1.heap.size := by have := hg1.size; simp at this; omega
  have HG1 := Lib.hid (show w.grownBy w1 (some r) from (grown_of ((Below.refl _ _).alloc (Nat.le_refl _) _)).trans hg1)
  have HW1 := Lib.hid hw1
  obtain ⟨hr1, ⟨r0, r1, r2, r3⟩, _⟩ := wkL_out hw1.1
  clear hw1 hg1
  have hown0 := World.ownsMap_made (H := Nat) w1 Try.prog 3 (plainElem Try.prog 3)
  have hh0 : Maps.has (DataW.map (H := Nat) []) (.int .i64 0) = false := rfl
  go_wp2_with fail
  refine wp_loop_rounds 2 ?_
  rw [rounds_succ]
  go_wp2_with (first
    | (at_lookup; refine wpList_lookup_own_ok_int _ rfl _ _ 41 rfl 3 3 .i64 lawInt Try.underlying41 Try.underlying3 (zeroInt _) w1.heap.size 0 _ rfl hown0 _ _ rfl keyInt0 ?_; intro cc hat hwc)
    | (at_mapUpdate; refine wpList_mapUpdate_own _ rfl _ _ _ 41 rfl 3 3 lawInt Try.underlying41 _ w1.heap.size 0 _ rfl hown0 (by unfold maxLen; omega) _ _ _ rfl rfl keyInt0 _ [] (plainElem_int Try.underlying3 (by decide)) ?_; intro w2 hown1 hgrow1
       have hb2 := map_below hgrow1
       have q1 : w2.cell? ⟨w.heap.size, 1, none⟩ = some (.slice B m dB) := (hb2.cell (p := ⟨w.heap.size, 1, none⟩) hz1).trans p1
       have hz2 : w.heap.size < w2.heap.size := Nat.lt_of_lt_of_le hz1 hb2.size
       have HW2 := Lib.hid (HW1.out.below hb2)
       have HG2 := Lib.hid (HG1.out.trans (grown_of hb2))
       have HM2 := Lib.hid hown1
       have hr1' : r < w1.heap.size := hr1
       clear hown1 hgrow1 hb2 hown0 p0 p1 hz1 r0 r1 r2 r3 hh0 hat hwc))
  refine (HR2.out _ HW2.out HG2.out).mono ?_
  rintro x w3 ⟨rfl, hw3, hg3⟩
  have HW3 := Lib.hid hw3
  have HG3 := Lib.hid (HG2.out.trans hg3)
  have HM3 := Lib.hid (HM2.out.kept hg3 (by simp; omega))
  have hz3 : w1.heap.size < w3.heap.size := HM3.out.lt
  obtain ⟨M, hM⟩ : ∃ M, oneL lp = M := ⟨_, rfl⟩
  have hMc : M = 0 ∨ M = 1 := by rw [← hM]; exact oneL_cases lp
  have HM0 := Lib.hid hM
  rw [hM]
  clear hw3 hg3 q1 hz2 hM
  go_wp2_with (at_builtin; refine wpList_append_ints _ (by rfl) _ _ 22 (by rfl) w3.heap.size 3 i0 _ Try.underlying22 hi hi0 hi1 hi2 rfl (.slice none 0 0) 0 [] (by rfl) (World.ownsRow_nil _ _ _ _) (some ⟨w3.heap.size, 0, none⟩) 1 1 [M] (by rfl) (ints_one w3 M _) (by omega) (by simp) ?_
               intro v' w4 hown hgrow hat)
  have hb4 : Below w3.heap.size w3 w4 := ((Below.refl _ _).alloc (Nat.le_refl _) _).trans (below_own (World.ownsRow_nil _ _ 3 1) hgrow (by simp))
  obtain ⟨gb, cap, rfl, hv2, hlt⟩ := hown.form (by omega)
  have q4 := hown.cells (g := gb) rfl 0 (.int .i64 M) (by simp)
  rw [Addr.add_lit] at q4
  have HW4 := Lib.hid (HW3.out.below hb4)
  have HG4 := Lib.hid (HG3.out.trans (grown_of hb4))
  have HM4 := Lib.hid (HM3.out.kept (row := none) (grown_of hb4) (by simp))
  obtain ⟨hr4, ⟨r0, r1, r2, r3⟩, _⟩ := wkL_out HW4.out.1
  clear hown hgrow hat hb4 HW3 HG3 HM3 HW2 HG2 HM2
  rw [rounds_succ]
  have hown4 := HM4.out
  have hh4 : Maps.has ((DataW.map (H := Nat) []).put (.int .i64 0) (.lit (.int .i64 0))) (.int .i64 0) = true := rfl
  go_wp2_with (at_lookup; refine wpList_lookup_own_ok_int _ rfl _ _ 41 rfl 3 3 .i64 lawInt Try.underlying41 Try.underlying3 (zeroInt _) w1.heap.size 1 _ rfl hown4 _ _ rfl keyInt0 ?_; intro cd hat hwc
               rw [at_zero] at hat
               cases hat
               clear hwc hown4)
  refine (union_one ⟨gb, 0, none⟩ _ M _ q4 rfl hMc).mono ?_
  rintro x w5 ⟨rfl, rfl⟩
  go_wp2_with fail
  go_ret2
  exact ⟨by rw [HM0.out]; rfl, HG4.out⟩

end Go.Proofs.Ytfblnadmbfhjiaa.Wd

namespace Go.Proofs.Ytfblnadmbfhjiaa.Wd
open Go.RowKit
set_option linter.unusedVariables false

/-- Does an edge have that letter? -/
def letB (l : Int) (e : Ed) : Bool := decide (bits .and .i64 l e.c = e.b)
/-- Of the first k edges those from s with the letter l. -/
def outL (es : List Ed) (s l : Int) (k : Nat) : List Int := ((List.range k).filter fun j => decide ((es.getD j ed0).f = s) && letB l (es.getD j ed0)).map fun (j : Nat) => (j : Int)
theorem outL_zero (es : List Ed) (s l : Int) : outL es s l 0 = [] := rfl
theorem outL_yes {es : List Ed} {s l : Int} {k : Nat} (h : (es.getD k ed0).f = s) (h2 : letB l (es.getD k ed0) = true) : outL es s l (k + 1) = outL es s l k ++ [(k : Int)] := by
  unfold outL
  rw [List.range_succ, List.filter_append, List.map_append]
  simp only [List.filter_cons, List.filter_nil, h, h2, decide_true, Bool.and_self, if_true, List.map_cons, List.map_nil]
theorem outL_far {es : List Ed} {s l : Int} {k : Nat} (h : ¬ (es.getD k ed0).f = s) : outL es s l (k + 1) = outL es s l k := by
  unfold outL
  rw [List.range_succ, List.filter_append, List.map_append]
  simp only [List.filter_cons, List.filter_nil, decide_eq_false h, Bool.false_and, Bool.false_eq_true, if_false, List.map_nil, List.append_nil]
theorem outL_no {es : List Ed} {s l : Int} {k : Nat} (h : letB l (es.getD k ed0) = false) : outL es s l (k + 1) = outL es s l k := by
  unfold outL
  rw [List.range_succ, List.filter_append, List.map_append]
  simp only [List.filter_cons, List.filter_nil, h, Bool.and_false, Bool.false_eq_true, if_false, List.map_nil, List.append_nil]
theorem outL_len (es : List Ed) (s l : Int) (k : Nat) : (outL es s l k).length ≤ k := by
  unfold outL
  rw [List.length_map]
  exact Nat.le_trans (List.length_filter_le _ _) (by simp)

theorem own_below' {B : Nat} {e : TypeId} {k : Nat} {v : Value} {n : Nat} {xs : List Value} {w w' : World} (h : w.ownsRow B e k v n xs) (hb : Below w.heap.size w w') : w'.ownsRow B e k v n xs :=
  h.kept (row := none) ⟨hb.os, hb.tape, hb.output, hb.size, fun j hj _ => hb.block j hj⟩ (by cases hv : v.ownBlock <;> simp)
theorem own_le' {W : World} {base base' size n : Nat} {e : TypeId} {v : Value} {xs : List Value} (h : W.ownsRow base e size v n xs) (hb : base' ≤ base) : W.ownsRow base' e size v n xs :=
  ⟨h.1, h.2.imp id fun ⟨g, cap, cur, hv, hB, r⟩ => ⟨g, cap, cur, hv, Nat.le_trans hb hB, r⟩⟩

theorem refReads_any (f t c b m l : Int) (w : World) : Calls Try.prog 55 #[.agg #[.int .i64 f, .int .i64 t, .int .i64 c, .int .i64 b, .int .i64 m], .int .i64 l] w fun r w' => r = .returned (.bool (letB l ⟨f, t, c, b, m⟩)) ∧ Below w.heap.size w w' := by
  go_enter Try.func55, Try.ntmps55
  go_wp2_with fail
  go_ret
  exact ⟨ret_bool (by first | rfl | simp [letB]), (Below.refl _ _).alloc (Nat.le_refl _) _⟩
theorem has_letB (f t c b m l : Int) (w : World) : Calls Try.prog 42 #[.agg #[.int .i64 f, .int .i64 t, .int .i64 c, .int .i64 b, .int .i64 m], .int .i64 l] w fun r w' => r = .returned (.bool (letB l ⟨f, t, c, b, m⟩)) ∧ Below w.heap.size w w' := has_any f t c b m l w

set_option maxRecDepth 100000 in
set_option maxHeartbeats 4000000 in
theorem refOut_any (P S K M s l : Int) (A E : Option Addr) (n c ne ce : Nat) (es : List Ed) (w : World) (hE : EdgesAt w E ne es) (hne : ne ≤ 40000) :
    Calls Try.prog 32 #[.agg #[.int .i64 P, .int .i64 S, .slice A n c, .int .i64 K, .int .i64 M, .slice E ne ce], .int .i64 s, .int .i64 l] w fun e w' => ∃ v, e = .returned v ∧ w'.ownsRow w.heap.size 3 1 v (outL es s l ne).length ((outL es s l ne).map (Value.int .i64)) ∧ Below w.heap.size w w' := by
  obtain ⟨i0, hi, hi0, hi1, hi2⟩ := info_parts int_row
  have HA := Lib.hid hE
  clear hE
  go_enter Try.func32, Try.ntmps32
  go_wp2_with fail
  obtain ⟨W0, hW0⟩ : ∃ W0, w.alloc (.cells #[.int .i64 P, .int .i64 S, .slice A n c, .int .i64 K, .int .i64 M, .slice E ne ce] 25) = W0 := ⟨_, rfl⟩
  have hz : w.heap.size < W0.heap.size := by rw [← hW0]; simp
  have HB0 := Lib.hid (show Below w.heap.size w W0 by rw [← hW0]; exact (Below.refl _ _).alloc (Nat.le_refl _) _)
  rw [hW0]
  clear hW0
  go_loopg [7, 13] ne (fun g v i wx => ∃ t : Nat, t + g = ne ∧ i = .int .i64 t ∧ Hid (wx.ownsRow W0.heap.size 3 1 v (outL es s l t).length ((outL es s l t).map (Value.int .i64))) ∧ Hid (Below W0.heap.size W0 wx))
  case atStart => exact ⟨0, by omega, rfl, World.ownsRow_nil _ _ _ _, Below.refl _ _⟩
  case round =>
    obtain ⟨t, htg, rfl, HO, HBx⟩ := hrel
    have hti : (0 : Int) ≤ (t : Int) := by omega
    have HBw := Lib.hid (HB0.out.trans (HBx.out.mono HB0.out.size))
    have hzr := Nat.lt_of_lt_of_le hz HBx.out.size
    cases gk with
    | zero =>
      obtain rfl : ne = t := by omega
      go_wp2_with fail
      go_ret
      exact ⟨_, rfl, own_le' HO.out (Nat.le_of_lt hz), HBw.out⟩
    | succ q =>
      have ht1 : t < ne := by omega
      have hti2 : (t : Int) < (ne : Int) := by omega
      obtain ⟨b, off, rfl, hlt, hcell⟩ := (HA.out.below HBw.out).2 (by omega)
      obtain ⟨c0, c1, c2, c3, c4⟩ := hcell t ht1
      have HY := Lib.hid (fun a b => outL_yes (es := es) (s := s) (l := l) (k := t) a b)
      have HF := Lib.hid (fun a => outL_far (es := es) (s := s) (l := l) (k := t) a)
      have HN := Lib.hid (fun a => outL_no (es := es) (s := s) (l := l) (k := t) a)
      have HLN := Lib.hid (outL_len es s l t)
      generalize es.getD t ed0 = x at *
      obtain ⟨ef, et, ec, eb, em⟩ := x
      simp only at c0 c1 c2 c3 c4
      clear hcell
      by_cases hs : ef = s
      · have HRD := Lib.hid (fun w => refReads_any ef et ec eb em l w)
        obtain ⟨rb, hrb, HRB⟩ : ∃ rb, letB l ⟨ef, et, ec, eb, em⟩ = rb ∧ Hid (letB l ⟨ef, et, ec, eb, em⟩ = rb) := ⟨_, rfl, rfl⟩
        rw [hrb] at HRD
        clear hrb
        have HS := Lib.hid hs
        subst hs
        go_wp2_with fail
        refine (HRD.out _).mono ?_
        rintro r w3 ⟨rfl, hb3⟩
        have HB3 := Lib.hid (((HBx.out.alloc HBx.out.size _).trans (hb3.mono (HBx.out.alloc HBx.out.size _).size)))
        have HO3 := Lib.hid (own_below' (HO.out.alloc _) hb3)
        clear hb3
        cases rb
        · have HN2 := Lib.hid (HN.out HRB.out)
          go_wp2_with fail
          go_roundg q
          case measure => omega
          case rel => exact ⟨t + 1, by omega, by go_num, (by rw [HN2.out]; exact HO3.out), HB3.out⟩
        · have HY2 := Lib.hid (HY.out (by trivial) HRB.out)
          go_wp2_with (at_builtin; refine wpList_append_ints _ (by rfl) _ _ 22 (by rfl) W0.heap.size 3 i0 _ Try.underlying22 hi hi0 hi1 hi2 rfl u7 (outL es ef l t).length ((outL es ef l t).map (Value.int .i64)) (by rfl) (by exact HO3.out.alloc _) (some ⟨w3.heap.size, 0, none⟩) 1 1 [(t : Int)] (by rfl) (ints_one w3 t _) (by have := HLN.out; omega) (by exact (HB3.out.alloc HB3.out.size _).size) ?_)
          intro v' w4 hown hgrow _
          have HB4 := Lib.hid ((HB3.out.alloc HB3.out.size (.cells #[.int .i64 t] 3)).trans (below_own (HO3.out.alloc _) hgrow (HB3.out.alloc HB3.out.size _).size))
          have HO4 := Lib.hid hown
          clear hown hgrow
          go_wp2_with fail
          go_roundg q
          case measure => omega
          case rel => exact ⟨t + 1, by omega, by go_num, (by rw [HY2.out]; have := HO4.out; rw [List.length_append, List.map_append]; exact this), HB4.out⟩
      · have HF2 := Lib.hid (HF.out hs)
        have hs2 : (ef == s) = false := by simpa using hs
        go_wp2_with fail
        go_roundg q
        case measure => omega
        case rel => exact ⟨t + 1, by omega, by go_num, (by rw [HF2.out]; exact HO.out.alloc _), HBx.out.alloc HBx.out.size _⟩

end Go.Proofs.Ytfblnadmbfhjiaa.Wd

namespace Go.Proofs.Ytfblnadmbfhjiaa.Wd
open Go.RowKit
set_option linter.unusedVariables false

/-- The numbers below k that f has, as a set of bits. -/
def setN (f : Nat → Bool) : Nat → Nat
  | 0 => 0
  | k + 1 => if f k = true then setN f k ||| 2 ^ k else setN f k
theorem setN_yes {f : Nat → Bool} {k : Nat} (h : f k = true) : setN f (k + 1) = setN f k ||| 2 ^ k := by rw [setN, if_pos h]
theorem setN_no {f : Nat → Bool} {k : Nat} (h : f k = false) : setN f (k + 1) = setN f k := by rw [setN, if_neg (by rw [h]; decide)]
theorem setN_lt (f : Nat → Bool) (k : Nat) : setN f k < 2 ^ k := by
  induction k with
  | zero => simp [setN]
  | succ k ih =>
    have h2 : 2 ^ k < 2 ^ (k + 1) := Nat.pow_lt_pow_right (by decide) (by omega)
    have h1 : setN f k < 2 ^ (k + 1) := Nat.lt_trans ih h2
    cases h : f k
    · rw [setN_no h]; exact h1
    · rw [setN_yes h]; exact Nat.or_lt_two_pow h1 h2
theorem setN_bit (f : Nat → Bool) (k j : Nat) : (setN f k).testBit j = (decide (j < k) && f j) := by
  induction k with
  | zero => simp [setN]
  | succ k ih =>
    cases h : f k
    · rw [setN_no h, ih]
      by_cases hj : j = k
      · subst hj; simp [h]
      · rw [show decide (j < k + 1) = decide (j < k) by rw [decide_eq_decide]; omega]
    · rw [setN_yes h, Nat.testBit_or, ih, Nat.testBit_two_pow]
      by_cases hj : j = k
      · subst hj; simp [h]
      · rw [show decide (j < k + 1) = decide (j < k) by rw [decide_eq_decide]; omega, decide_eq_false (show ¬ k = j by omega), Bool.or_false]

theorem shl_u64 {j : Nat} (hj : j < 64) : IntKind.u64.wrap ((2 : Int) ^ j) = ((2 ^ j : Nat) : Int) := by
  have h : ∀ k : Fin 64, IntKind.u64.wrap ((2 : Int) ^ k.val) = ((2 ^ k.val : Nat) : Int) := by decide +kernel
  exact h ⟨j, hj⟩
theorem pow_six {p : Nat} (hp : p ≤ 6) : IntKind.i64.wrap ((2 : Int) ^ p) = ((2 ^ p : Nat) : Int) ∧ 2 ^ p ≤ 64 := by
  have h : ∀ k : Fin 7, IntKind.i64.wrap ((2 : Int) ^ k.val) = ((2 ^ k.val : Nat) : Int) ∧ 2 ^ k.val ≤ 64 := by decide +kernel
  exact h ⟨p, by omega⟩

/-- The set of an edge's letters. -/
def fitN (p : Nat) (e : Ed) : Nat := setN (fun j => letB (j : Int) e) (2 ^ p)

set_option maxRecDepth 100000 in
set_option maxHeartbeats 4000000 in
theorem fitting_any (p : Nat) (ef et ec eb em : Int) (w : World) (hp : p ≤ 6) :
    Calls Try.prog 59 #[.agg #[.int .i64 ef, .int .i64 et, .int .i64 ec, .int .i64 eb, .int .i64 em], .int .i64 p] w fun r w' => r = .returned (.int .u64 (fitN p ⟨ef, et, ec, eb, em⟩)) ∧ Below w.heap.size w w' := by
  obtain ⟨N, hN, HN⟩ : ∃ N : Nat, IntKind.i64.wrap ((2 : Int) ^ p) = (N : Int) ∧ Hid (2 ^ p = N) := ⟨2 ^ p, (pow_six hp).1, rfl⟩
  have hN64 : N ≤ 64 := by rw [← HN.out]; exact (pow_six hp).2
  have hp0 : (0 : Int) ≤ (p : Int) := by omega
  have hp6 : (p : Int) ≤ 6 := by omega
  have HH := Lib.hid (fun (j : Nat) w => has_letB ef et ec eb em (j : Int) w)
  have HFN := Lib.hid (show fitN p ⟨ef, et, ec, eb, em⟩ = setN (fun j => letB (j : Int) ⟨ef, et, ec, eb, em⟩) N by unfold fitN; rw [HN.out])
  go_enter Try.func59, Try.ntmps59
  go_wp2_with fail
  obtain ⟨W0, hW0⟩ : ∃ W0, w.alloc (.cells #[.int .i64 ef, .int .i64 et, .int .i64 ec, .int .i64 eb, .int .i64 em] 54) = W0 := ⟨_, rfl⟩
  have q0 : W0.cell? ⟨w.heap.size, 0, none⟩ = some (.int .i64 ef) := by rw [← hW0, box_last]; rfl
  have q1 : W0.cell? ⟨w.heap.size, 1, none⟩ = some (.int .i64 et) := by rw [← hW0, box_last]; rfl
  have q2 : W0.cell? ⟨w.heap.size, 2, none⟩ = some (.int .i64 ec) := by rw [← hW0, box_last]; rfl
  have q3 : W0.cell? ⟨w.heap.size, 3, none⟩ = some (.int .i64 eb) := by rw [← hW0, box_last]; rfl
  have q4 : W0.cell? ⟨w.heap.size, 4, none⟩ = some (.int .i64 em) := by rw [← hW0, box_last]; rfl
  have hz : w.heap.size < W0.heap.size := by rw [← hW0]; simp
  have HB0 := Lib.hid (show Below w.heap.size w W0 by rw [← hW0]; exact (Below.refl _ _).alloc (Nat.le_refl _) _)
  rw [hW0]
  clear hW0
  go_loopg [5, 9] N (fun g v i wx => ∃ t : Nat, t + g = N ∧ i = .int .i64 t ∧ v = .int .u64 (setN (fun j => letB (j : Int) ⟨ef, et, ec, eb, em⟩) t) ∧ Hid (Below W0.heap.size W0 wx))
  case atStart => exact ⟨0, by omega, rfl, rfl, Below.refl _ _⟩
  case round =>
    obtain ⟨t, htg, rfl, rfl, HBx⟩ := hrel
    have hti : (0 : Int) ≤ (t : Int) := by omega
    have HBw := Lib.hid (HB0.out.trans (HBx.out.mono HB0.out.size))
    have r0 := (HBx.out.cell (p := ⟨w.heap.size, 0, none⟩) hz).trans q0
    have r1 := (HBx.out.cell (p := ⟨w.heap.size, 1, none⟩) hz).trans q1
    have r2 := (HBx.out.cell (p := ⟨w.heap.size, 2, none⟩) hz).trans q2
    have r3 := (HBx.out.cell (p := ⟨w.heap.size, 3, none⟩) hz).trans q3
    have r4 := (HBx.out.cell (p := ⟨w.heap.size, 4, none⟩) hz).trans q4
    have hzr := Nat.lt_of_lt_of_le hz HBx.out.size
    cases gk with
    | zero =>
      obtain rfl : N = t := by omega
      go_wp2_with fail
      go_ret
      exact ⟨by rw [HFN.out]; rfl, HBw.out⟩
    | succ q =>
      have ht1 : t < N := by omega
      have hti2 : (t : Int) < (N : Int) := by omega
      have ht64 : t < 64 := by omega
      have HY := Lib.hid (fun h => setN_yes (f := fun j => letB (j : Int) ⟨ef, et, ec, eb, em⟩) (k := t) h)
      have HNO := Lib.hid (fun h => setN_no (f := fun j => letB (j : Int) ⟨ef, et, ec, eb, em⟩) (k := t) h)
      have HLT := Lib.hid (setN_lt (fun j => letB (j : Int) ⟨ef, et, ec, eb, em⟩) t)
      generalize setN (fun j => letB (j : Int) ⟨ef, et, ec, eb, em⟩) t = x at *
      have hx64 : x < 18446744073709551616 := Nat.lt_of_lt_of_le HLT.out (Nat.le_trans (Nat.pow_le_pow_right (by decide) (show t ≤ 64 by omega)) (by decide))
      have ht64' : 2 ^ t < 18446744073709551616 := Nat.lt_of_lt_of_le (Nat.pow_lt_pow_right (by decide) ht64) (by decide)
      obtain ⟨Y, hY, hor⟩ : ∃ Y : Int, IntKind.u64.wrap ((2 : Int) ^ t) = Y ∧ bits .or .u64 (x : Int) Y = ((x ||| 2 ^ t : Nat) : Int) := ⟨_, shl_u64 ht64, bits_or_u64_nat x (2 ^ t) hx64 ht64'⟩
      clear hx64 ht64'
      obtain ⟨Z, hZ, HZ⟩ : ∃ Z : Nat, x ||| 2 ^ t = Z ∧ Hid (x ||| 2 ^ t = Z) := ⟨_, rfl, rfl⟩
      rw [hZ] at hor
      clear hZ
      have HT := Lib.hid (fun w => HH.out t w)
      obtain ⟨rb, hrb, HRB⟩ : ∃ rb, letB (t : Int) ⟨ef, et, ec, eb, em⟩ = rb ∧ Hid (letB (t : Int) ⟨ef, et, ec, eb, em⟩ = rb) := ⟨_, rfl, rfl⟩
      rw [hrb] at HT
      clear hrb
      have ht63 : (t : Int) < 64 := by omega
      go_wp2_with fail
      refine (HT.out _).mono ?_
      rintro r w3 ⟨rfl, hb3⟩
      have HB3 := Lib.hid (HBx.out.trans (hb3.mono HBx.out.size))
      clear hb3
      cases rb
      · have HN2 := Lib.hid (HNO.out HRB.out)
        go_wp2_with fail
        go_roundg q
        case measure => omega
        case rel => exact ⟨t + 1, by omega, by go_num, (by rw [HN2.out]), HB3.out⟩
      · have HN2 := Lib.hid (HY.out HRB.out)
        go_wp2_with fail
        go_roundg q
        case measure => omega
        case rel => exact ⟨t + 1, by omega, by go_num, (by rw [HN2.out, HZ.out]), HB3.out⟩

end Go.Proofs.Ytfblnadmbfhjiaa.Wd

namespace Go.Proofs.Ytfblnadmbfhjiaa.Wd
open Go.RowKit
set_option linter.unusedVariables false

theorem set_info : (Try.prog.info? 92).map (fun i => (i.zero, i.size, i.bytes)) = some (some (.int .u64 0), 1, 8) := by kernel_rfl

/-- The letters of the first k edges that leave s. -/
def setsN (p : Nat) (es : List Ed) : Nat → Nat → Nat
  | 0, _ => 0
  | k + 1, s => if (es.getD k ed0).f = (s : Int) then setsN p es k s ||| fitN p (es.getD k ed0) else setsN p es k s
/-- Have two of the first k edges a letter in common? -/
def clashB (p : Nat) (es : List Ed) : Nat → Bool
  | 0 => false
  | k + 1 => clashB p es k || decide (setsN p es k (es.getD k ed0).f.toNat &&& fitN p (es.getD k ed0) ≠ 0)
theorem fitN_lt {p : Nat} (hp : p ≤ 6) (e : Ed) : fitN p e < 18446744073709551616 :=
  Nat.lt_of_lt_of_le (setN_lt _ _) (Nat.le_trans (Nat.pow_le_pow_right (by decide) (pow_six hp).2) (by decide))
theorem setsN_lt {p : Nat} (hp : p ≤ 6) (es : List Ed) (k s : Nat) : setsN p es k s < 18446744073709551616 := by
  induction k with
  | zero => simp [setsN]
  | succ k ih =>
    unfold setsN
    split
    · exact Nat.or_lt_two_pow (n := 64) ih (fitN_lt hp _)
    · exact ih
theorem setsN_same {p : Nat} {es : List Ed} {k s : Nat} (h : (es.getD k ed0).f = (s : Int)) : setsN p es (k + 1) s = setsN p es k s ||| fitN p (es.getD k ed0) := by rw [setsN, if_pos h]
theorem setsN_other {p : Nat} {es : List Ed} {k s : Nat} (h : ¬ (es.getD k ed0).f = (s : Int)) : setsN p es (k + 1) s = setsN p es k s := by rw [setsN, if_neg h]
theorem clashB_step {p : Nat} {es : List Ed} {k f : Nat} (h : (es.getD k ed0).f = (f : Int)) : clashB p es (k + 1) = (clashB p es k || decide (setsN p es k f &&& fitN p (es.getD k ed0) ≠ 0)) := by
  rw [clashB, h, Int.toNat_natCast]

theorem boxA {w w1 : World} {cs : Array Value} {t : TypeId} (hb : Below (w.alloc (.cells cs t)).heap.size (w.alloc (.cells cs t)) w1) : Below w.heap.size w w1 := ((Below.refl _ _).alloc (Nat.le_refl _) _).trans (hb.mono (by simp))

set_option maxRecDepth 100000 in
set_option maxHeartbeats 8000000 in
theorem lettersOf_any (p S : Nat) (K M : Int) (A E : Option Addr) (n c ne ce : Nat) (es : List Ed) (w : World) (hE : EdgesAt w E ne es) (hp : p ≤ 6) (hS : S ≤ 3000) (hne : ne ≤ 40000)
    (hfr : ∀ j, j < ne → ∃ f : Nat, (es.getD j ed0).f = (f : Int) ∧ f < S) :
    Calls Try.prog 38 #[.agg #[.int .i64 p, .int .i64 S, .slice A n c, .int .i64 K, .int .i64 M, .slice E ne ce]] w fun r w' =>
      ∃ b, r = .returned (.tuple #[.slice (some ⟨b, 0, none⟩) S S, .bool (clashB p es ne)]) ∧ w'.rowIs b 92 S (fun s => .int .u64 (setsN p es ne s)) ∧ w.heap.size ≤ b ∧ Below w.heap.size w w' := by
  have hmk := run_make_row' (P := Try.prog) 62 92 (.int .u64 0) 8 Try.underlying62 set_info rfl .i64 .i64 S (by omega) (by omega)
  have HA := Lib.hid hE
  have HFR := Lib.hid hfr
  clear hE hfr
  go_enter Try.func38, Try.ntmps38
  go_wp2_with fail
  obtain ⟨W0, hW0⟩ : ∃ W0, w.alloc (.cells #[.int .i64 p, .int .i64 S, .slice A n c, .int .i64 K, .int .i64 M, .slice E ne ce] 25) = W0 := ⟨_, rfl⟩
  have q0 : W0.cell? ⟨w.heap.size, 0, none⟩ = some (.int .i64 p) := by rw [← hW0, box_last]; rfl
  have hz : W0.heap.size = w.heap.size + 1 := by rw [← hW0]; simp
  have HB0 := Lib.hid (show Below w.heap.size w W0 by rw [← hW0]; exact (Below.refl _ _).alloc (Nat.le_refl _) _)
  rw [hW0]
  clear hW0
  obtain ⟨W1, hW1⟩ : ∃ W1, W0.alloc (.cells (madeCells #[.int .u64 0] S) 92) = W1 := ⟨_, rfl⟩
  have HR0 := Lib.hid (show W1.rowIs (w.heap.size + 1) 92 S (fun _ => .int .u64 0) by rw [← hW1, ← hz]; exact World.rowIs_made W0 _ S _)
  have HB1 := Lib.hid (show Below (w.heap.size + 1) W0 W1 by rw [← hW1, ← hz]; exact (Below.refl _ _).alloc (Nat.le_refl _) _)
  have hz1 : W1.heap.size = w.heap.size + 2 := by rw [← hW1]; simp [hz]
  rw [hW1]
  clear hW1
  go_loopg [3, 13] ne (fun g cl i wx => ∃ t : Nat, t + g = ne ∧ i = .int .i64 t ∧ cl = .bool (clashB p es t) ∧ Hid (wx.rowIs (w.heap.size + 1) 92 S (fun s => .int .u64 (setsN p es t s))) ∧ Hid (Below (w.heap.size + 1) W0 wx))
  case atStart => exact ⟨0, by omega, rfl, rfl, HR0.out, HB1.out⟩
  case round =>
    obtain ⟨t, htg, rfl, rfl, HR, HBx⟩ := hrel
    have hti : (0 : Int) ≤ (t : Int) := by omega
    have HBw := Lib.hid (HB0.out.trans (HBx.out.mono (by omega)))
    have r0 := (HBx.out.cell (p := ⟨w.heap.size, 0, none⟩) (by simp)).trans q0
    have hzr : w.heap.size + 1 < wr.heap.size := HR.out.lt
    have hzr0 : w.heap.size < wr.heap.size := by omega
    cases gk with
    | zero =>
      obtain rfl : ne = t := by omega
      go_wp2_with fail
      go_ret2
      exact ⟨_, rfl, HR.out, by omega, HBw.out⟩
    | succ q =>
      have ht1 : t < ne := by omega
      have hti2 : (t : Int) < (ne : Int) := by omega
      obtain ⟨b, off, rfl, hlt, hcell⟩ := (HA.out.below HBw.out).2 (by omega)
      obtain ⟨c0, c1, c2, c3, c4⟩ := hcell t ht1
      obtain ⟨f, hf, hfS⟩ := HFR.out t ht1
      have HCL := Lib.hid (clashB_step (p := p) hf)
      have HSS := Lib.hid (setsN_same (p := p) hf)
      have HSO := Lib.hid (fun s (hs : ¬ s = f) => setsN_other (p := p) (es := es) (k := t) (s := s) (by rw [hf]; omega))
      have hx64 := setsN_lt hp es t f
      generalize es.getD t ed0 = x at *
      obtain ⟨ef, et, ec, eb, em⟩ := x
      simp only at c0 c1 c2 c3 c4 hf
      subst hf
      clear hcell
      have hf0 : (0 : Int) ≤ (f : Int) := by omega
      have hf1 : (f : Int) < (S : Int) := by omega
      have HFT := Lib.hid (fun w => fitting_any p f et ec eb em w hp)
      have hy64 := fitN_lt hp ⟨f, et, ec, eb, em⟩
      generalize fitN p ⟨f, et, ec, eb, em⟩ = y at *
      have hcx : wr.cell? ⟨w.heap.size + 1, f, none⟩ = some (.int .u64 (setsN p es t f)) := HR.out.cell hfS
      generalize hsx : setsN p es t f = x at *
      have hor := bits_or_u64_nat x y hx64 hy64
      have hand := bits_and_u64_nat x y hx64 hy64
      clear hx64 hy64
      go_wp2_with fail
      refine (HFT.out _).mono ?_
      rintro r w3 ⟨rfl, hb3⟩
      have hbx3 := box_at hb3
      have d0 : w3.cell? ⟨wr.heap.size, 0, none⟩ = some (.int .i64 f) := hbx3.2 0
      have hd0 := hbx3.1
      have HBB := Lib.hid (show Below wr.heap.size wr w3 from boxA hb3)
      have hcx3 : w3.cell? ⟨w.heap.size + 1, f, none⟩ = some (.int .u64 x) := (HBB.out.cell hzr).trans hcx
      have hfz3 : w3.frozen? ⟨w.heap.size + 1, f, none⟩ = false := (HBB.out.frozen hzr).trans (HR.out.frozen f)
      have HR3 := Lib.hid (HR.out.of_block (HBB.out.block _ hzr))
      have HB3 := Lib.hid (HBx.out.trans (HBB.out.mono (by omega)))
      have hz3 : w.heap.size + 1 < w3.heap.size := Nat.lt_of_lt_of_le hzr HBB.out.size
      clear hb3 hbx3 hcx
      obtain ⟨Z, hZ, HZ⟩ : ∃ Z : Nat, x ||| y = Z ∧ Hid (x ||| y = Z) := ⟨_, rfl, rfl⟩
      rw [hZ] at hor HSS
      clear hZ
      have HRN := Lib.hid ((HR3.out.set f (.int .u64 (Z : Int))).congr (g := fun s => .int .u64 (setsN p es (t + 1) s)) (by
        intro j hj
        by_cases h : j = f
        · subst h; simp only [if_true]; rw [HSS.out]
        · simp only [if_neg h]; rw [HSO.out j h]))
      have HBN := Lib.hid (HB3.out.setCell (p := ⟨w.heap.size + 1, f, none⟩) (by simp) (.int .u64 (Z : Int)))
      cases hcl : clashB p es t
      · rw [hcl, Bool.false_or] at HCL
        by_cases ha : x &&& y = 0
        · rw [ha] at hand
          rw [decide_eq_false (by simp [ha])] at HCL
          go_wp2_with fail
          go_roundg q
          case measure => omega
          case rel => exact ⟨t + 1, by omega, by go_num, (by rw [HCL.out]), HRN.out, HBN.out⟩
        · rw [decide_eq_true (show x &&& y ≠ 0 from ha)] at HCL
          obtain ⟨a, ha2, hane⟩ : ∃ a : Nat, x &&& y = a ∧ a ≠ 0 := ⟨_, rfl, ha⟩
          rw [ha2] at hand
          have hb1 : ((a : Int) == 0) = false := by simpa using hane
          have hb2 : ((a : Int) != 0) = true := by simpa using hane
          have hb3 : decide ((a : Int) = 0) = false := by simpa using hane
          clear ha ha2
          go_wp2_with fail
          go_roundg q
          case measure => omega
          case rel => exact ⟨t + 1, by omega, by go_num, (by rw [HCL.out]), HRN.out, HBN.out⟩
      · rw [hcl, Bool.true_or] at HCL
        go_wp2_with fail
        go_roundg q
        case measure => omega
        case rel => exact ⟨t + 1, by omega, by go_num, (by rw [HCL.out]), HRN.out, HBN.out⟩

end Go.Proofs.Ytfblnadmbfhjiaa.Wd

namespace Go.Proofs.Ytfblnadmbfhjiaa.Wd
open Go.RowKit
set_option linter.unusedVariables false
set_option linter.unusedSimpArgs false

/-- The two lie in different blocks (or the first has none). -/
def Apt (v v' : Value) : Prop := v.ownBlock = none ∨ v.ownBlock ≠ v'.ownBlock
theorem Apt.symm {v v' : Value} (h : Apt v v') : Apt v' v := by
  rcases h with h | h
  · by_cases h' : v'.ownBlock = none
    · exact .inl h'
    · exact .inr (by rw [h]; exact h')
  · exact .inr (Ne.symm h)
theorem apt_old {w : World} {B e k n : Nat} {v : Value} {xs : List Value} (h : w.ownsRow B e k v n xs) {b : Nat} (hb : v.ownBlock = some b) : B ≤ b ∧ b < w.heap.size := by
  rcases h.2 with ⟨rfl, _⟩ | ⟨g, cap, cur, rfl, h1, hgg, _⟩
  · cases hb
  · cases hb
    exact ⟨h1, (Array.getElem?_eq_some_iff.1 hgg).1⟩
theorem apt_grow {w w2 : World} {B e k n' : Nat} {v v' v2 : Value} {xs' : List Value} (h' : w.ownsRow B e k v' n' xs') (hne : Apt v' v) (hg : w.grownBy w2 v.ownBlock) (h2 : v2.ownBlock = v.ownBlock ∨ v2.ownBlock = some w.heap.size) :
    w2.ownsRow B e k v' n' xs' ∧ Apt v' v2 := by
  refine ⟨h'.kept hg hne, ?_⟩
  rcases h2 with h2 | h2
  · show v'.ownBlock = none ∨ v'.ownBlock ≠ v2.ownBlock
    rw [h2]
    exact hne
  · by_cases h0 : v'.ownBlock = none
    · exact .inl h0
    · refine .inr fun h3 => ?_
      have := (apt_old h' (h3.trans h2)).2
      omega

/-- S rows of ints, own to the walk, each in a block of its own. -/
structure Rows (B S : Nat) (w : World) (V : Nat → Value) (L : Nat → List Int) : Prop where
  own : ∀ s, s < S → w.ownsRow B 3 1 (V s) (L s).length ((L s).map (Value.int .i64))
  apt : ∀ s s', s < S → s' < S → s ≠ s' → Apt (V s) (V s')
theorem Rows.start (B S : Nat) (w : World) : Rows B S w (fun _ => .slice none 0 0) (fun _ => []) := ⟨fun s _ => World.ownsRow_nil _ _ _ _, fun _ _ _ _ _ => .inl rfl⟩
theorem Rows.below {B S : Nat} {w w' : World} {V : Nat → Value} {L : Nat → List Int} (h : Rows B S w V L) (hb : Below w.heap.size w w') : Rows B S w' V L := ⟨fun s hs => own_keep (h.own s hs) hb, h.apt⟩
theorem Rows.put {B S : Nat} {w : World} {V : Nat → Value} {L : Nat → List Int} (h : Rows B S w V L) {a : Addr} (ha : a.block < B) (v : Value) : Rows B S (w.setCell a v) V L := ⟨fun s hs => ownsRow_setCell_below (h.own s hs) ha v, h.apt⟩
theorem Rows.lists {B S : Nat} {w : World} {V : Nat → Value} {L L' : Nat → List Int} (h : Rows B S w V L) (e : ∀ s, s < S → L s = L' s) : Rows B S w V L' := ⟨fun s hs => by rw [← e s hs]; exact h.own s hs, h.apt⟩
def putV (V : Nat → Value) (f : Nat) (v : Value) (j : Nat) : Value := if j = f then v else V j
def putL (L : Nat → List Int) (f : Nat) (l : List Int) (j : Nat) : List Int := if j = f then l else L j
theorem Rows.grow {B S f : Nat} {w w2 : World} {V : Nat → Value} {L : Nat → List Int} {v v' : Value} {l : List Int} {x : Int} (h : Rows B S w V L) (hf : f < S) (hl : V f = v ∧ L f = l)
    (hown : w2.ownsRow B 3 1 v' (l.length + 1) (l.map (Value.int .i64) ++ [x].map (Value.int .i64))) (hg : w.grownBy w2 v.ownBlock) (hat : v'.ownBlock = v.ownBlock ∨ v'.ownBlock = some w.heap.size) :
    Rows B S w2 (putV V f v') (putL L f (l ++ [x])) := by
  obtain ⟨rfl, rfl⟩ := hl
  refine ⟨fun s hs => ?_, fun s s' hs hs' hne => ?_⟩
  · unfold putV putL
    by_cases e : s = f
    · rw [if_pos e, if_pos e, List.length_append, List.map_append]; exact hown
    · rw [if_neg e, if_neg e]; exact (apt_grow (h.own s hs) (h.apt s f hs hf e) hg hat).1
  · unfold putV
    by_cases e : s = f
    · rw [if_pos e, if_neg (fun e' => hne (e.trans e'.symm))]
      exact (apt_grow (h.own s' hs') (h.apt s' f hs' hf (fun e' => hne (e.trans e'.symm))) hg hat).2.symm
    · rw [if_neg e]
      by_cases e' : s' = f
      · rw [if_pos e']; exact (apt_grow (h.own s hs) (h.apt s f hs hf e) hg hat).2
      · rw [if_neg e']; exact h.apt s s' hs hs' hne

/-- Of the first k edges those from s. -/
def fromL (es : List Ed) (s k : Nat) : List Int := ((List.range k).filter fun j => decide ((es.getD j ed0).f = (s : Int))).map fun (j : Nat) => (j : Int)
theorem fromL_yes {es : List Ed} {s k : Nat} (h : (es.getD k ed0).f = (s : Int)) : fromL es s (k + 1) = fromL es s k ++ [(k : Int)] := by
  unfold fromL
  rw [List.range_succ, List.filter_append, List.map_append]
  simp only [List.filter_cons, List.filter_nil, h, decide_true, if_true, List.map_cons, List.map_nil]
theorem fromL_no {es : List Ed} {s k : Nat} (h : ¬ (es.getD k ed0).f = (s : Int)) : fromL es s (k + 1) = fromL es s k := by
  unfold fromL
  rw [List.range_succ, List.filter_append, List.map_append]
  simp only [List.filter_cons, List.filter_nil, decide_eq_false h, Bool.false_eq_true, if_false, List.map_nil, List.append_nil]
theorem fromL_len (es : List Ed) (s k : Nat) : (fromL es s k).length ≤ k := by
  unfold fromL
  rw [List.length_map]
  exact Nat.le_trans (List.length_filter_le _ _) (by simp)

theorem row_info : (Try.prog.info? 22).map (fun i => (i.zero, i.size, i.bytes)) = some (some (.slice none 0 0), 1, 24) := by kernel_rfl

set_option maxRecDepth 100000 in
set_option maxHeartbeats 8000000 in
theorem outgoing_any (P : Int) (S : Nat) (K M : Int) (A E : Option Addr) (n c ne ce : Nat) (es : List Ed) (w : World) (hE : EdgesAt w E ne es) (hS : S ≤ 3000) (hne : ne ≤ 40000)
    (hfr : ∀ j, j < ne → ∃ f : Nat, (es.getD j ed0).f = (f : Int) ∧ f < S) :
    Calls Try.prog 62 #[.agg #[.int .i64 P, .int .i64 S, .slice A n c, .int .i64 K, .int .i64 M, .slice E ne ce]] w fun r w' =>
      ∃ V, r = .returned (.slice (some ⟨w.heap.size + 1, 0, none⟩) S S) ∧ w'.rowIs (w.heap.size + 1) 22 S V ∧ Rows (w.heap.size + 2) S w' V (fun s => fromL es s ne) ∧ Below w.heap.size w w' := by
  obtain ⟨i0, hi, hi0, hi1, hi2⟩ := info_parts int_row
  have hmk := run_make_row' (P := Try.prog) 95 22 (.slice none 0 0) 24 Try.underlying95 row_info rfl .i64 .i64 S (by omega) (by omega)
  have HA := Lib.hid hE
  have HFR := Lib.hid hfr
  clear hE hfr
  go_enter Try.func62, Try.ntmps62
  go_wp2_with fail
  obtain ⟨W0, hW0⟩ : ∃ W0, w.alloc (.cells #[.int .i64 P, .int .i64 S, .slice A n c, .int .i64 K, .int .i64 M, .slice E ne ce] 25) = W0 := ⟨_, rfl⟩
  have hz : W0.heap.size = w.heap.size + 1 := by rw [← hW0]; simp
  have HB0 := Lib.hid (show Below w.heap.size w W0 by rw [← hW0]; exact (Below.refl _ _).alloc (Nat.le_refl _) _)
  rw [hW0]
  clear hW0
  obtain ⟨W1, hW1⟩ : ∃ W1, W0.alloc (.cells (madeCells #[.slice none 0 0] S) 22) = W1 := ⟨_, rfl⟩
  have HR0 := Lib.hid (show W1.rowIs (w.heap.size + 1) 22 S (fun _ => .slice none 0 0) by rw [← hW1, ← hz]; exact World.rowIs_made W0 _ S _)
  have HB1 := Lib.hid (show Below (w.heap.size + 1) W0 W1 by rw [← hW1, ← hz]; exact (Below.refl _ _).alloc (Nat.le_refl _) _)
  have hz1 : W1.heap.size = w.heap.size + 2 := by rw [← hW1]; simp [hz]
  rw [hW1]
  clear hW1
  go_loopg [12] ne (fun g i wx => ∃ t : Nat, t + g = ne ∧ i = .int .i64 t ∧ Hid (∃ V, wx.rowIs (w.heap.size + 1) 22 S V ∧ Rows (w.heap.size + 2) S wx V (fun s => fromL es s t)) ∧ Hid (Below (w.heap.size + 1) W0 wx) ∧ Hid (w.heap.size + 2 ≤ wx.heap.size))
  case atStart => exact ⟨0, by omega, rfl, ⟨_, HR0.out, Rows.start _ _ _⟩, HB1.out, (by show _ ≤ _; omega)⟩
  case round =>
    obtain ⟨t, htg, rfl, HR, HBx, HZ⟩ := hrel
    have hti : (0 : Int) ≤ (t : Int) := by omega
    have HBw := Lib.hid (HB0.out.trans (HBx.out.mono (by omega)))
    obtain ⟨V, hrow, hrs⟩ := HR.out
    have HROW := Lib.hid hrow
    have HRS := Lib.hid hrs
    have hzz := HZ.out
    clear hrow hrs HR
    cases gk with
    | zero =>
      obtain rfl : ne = t := by omega
      go_wp2_with fail
      go_ret
      first | exact ⟨rfl, V, HROW.out, HRS.out, HBw.out⟩ | exact ⟨V, rfl, HROW.out, HRS.out, HBw.out⟩
    | succ q =>
      have ht1 : t < ne := by omega
      have hti2 : (t : Int) < (ne : Int) := by omega
      obtain ⟨b, off, rfl, hlt, hcell⟩ := (HA.out.below HBw.out).2 (by omega)
      obtain ⟨c0, c1, c2, c3, c4⟩ := hcell t ht1
      obtain ⟨f, hf, hfS⟩ := HFR.out t ht1
      have HYES := Lib.hid (fromL_yes hf)
      have HNO := Lib.hid (fun s (hs : ¬ s = f) => fromL_no (es := es) (s := s) (k := t) (by rw [hf]; omega))
      have HLN := Lib.hid (fromL_len es f t)
      generalize es.getD t ed0 = x at *
      obtain ⟨ef, et, ec, eb, em⟩ := x
      simp only at c0 c1 c2 c3 c4 hf
      subst hf
      clear hcell
      have hf0 : (0 : Int) ≤ (f : Int) := by omega
      have hf1 : (f : Int) < (S : Int) := by omega
      obtain ⟨v, hvf, HVF⟩ : ∃ v, V f = v ∧ Hid (V f = v) := ⟨_, rfl, rfl⟩
      have hv : wr.cell? ⟨w.heap.size + 1, f, none⟩ = some v := by rw [← hvf]; exact HROW.out.cell hfS
      have hfz := HROW.out.frozen f
      have HO := Lib.hid (show wr.ownsRow (w.heap.size + 2) 3 1 v (fromL es f t).length ((fromL es f t).map (Value.int .i64)) by rw [← hvf]; exact HRS.out.own f hfS)

      have hz0 : w.heap.size + 1 < wr.heap.size := by omega
      clear hvf
      go_wp2_with fail
      have HBA := Lib.hid (show Below wr.heap.size wr ((wr.alloc (.cells #[.int .i64 f, .int .i64 et, .int .i64 ec, .int .i64 eb, .int .i64 em] 54)).alloc (.cells #[.int .i64 (t : Int)] 3)).drew from (((Below.refl _ _).alloc (Nat.le_refl _) _).alloc (by simp) _).drew)
      refine wp_region_until_drew (st := [12]) (S := fun V => V.cell? ⟨wr.heap.size, 0, none⟩ = some (.int .i64 f) ∧ V.cell? ⟨w.heap.size + 1, f, none⟩ = some v) (by kernel_rfl) ⟨by show World.cell? (wr.alloc _) _ = _; rw [box_last]; rfl, by show World.cell? (wr.alloc _) _ = _; rw [Below.cell ((Below.refl wr.heap.size wr).alloc (Nat.le_refl _) _) hz0]; exact hv⟩ (fun hHeld => ?_)
      refine wpAnyU_pure (i := 0) (v := ?vo0) rfl (by kernel_rfl) (by kernel_rfl) (by kernel_rfl) (by kernel_rfl) (fun _ _ _ h => h) (Or.inl ⟨by rfl, fun V _ => ?hyo0⟩) (fun _ => hHeld) ?resto0
      case hyo0 => go_simp; try with_reducible rfl
      try simp only [Act.put, List.getElem_toArray, List.getElem_cons_zero, List.getElem_cons_succ, List.setIfInBounds_toArray, List.set_cons_zero, List.set_cons_succ]
      refine wpAnyU_pure (i := 1) (v := ?vo1) rfl (by kernel_rfl) (by kernel_rfl) (by kernel_rfl) (by kernel_rfl) (fun _ _ _ h => h) (Or.inl ⟨by rfl, fun V _ => ?hyo1⟩) (fun _ => hHeld) ?resto1
      case hyo1 => go_simp; try with_reducible rfl
      try simp only [Act.put, List.getElem_toArray, List.getElem_cons_zero, List.getElem_cons_succ, List.setIfInBounds_toArray, List.set_cons_zero, List.set_cons_succ]
      refine wpAnyU_load (i := 2) (v := ?vo2) rfl (by kernel_rfl) (by kernel_rfl) (by kernel_rfl) (by kernel_rfl) (fun _ _ _ h => h) (Or.inl ⟨by rfl, fun V hSw => ?hyo2⟩) hHeld ?resto2
      case hyo2 => (obtain ⟨hs1, hs2⟩ := hSw); go_simp; try with_reducible rfl
      try simp only [Act.put, List.getElem_toArray, List.getElem_cons_zero, List.getElem_cons_succ, List.setIfInBounds_toArray, List.set_cons_zero, List.set_cons_succ]
      refine wpAnyU_pure (i := 3) (v := ?vo3) rfl (by kernel_rfl) (by kernel_rfl) (by kernel_rfl) (by kernel_rfl) (fun _ _ _ h => h) (Or.inl ⟨by rfl, fun V _ => ?hyo3⟩) (fun _ => hHeld) ?resto3
      case hyo3 => go_simp; try with_reducible rfl
      try simp only [Act.put, List.getElem_toArray, List.getElem_cons_zero, List.getElem_cons_succ, List.setIfInBounds_toArray, List.set_cons_zero, List.set_cons_succ]
      refine wpAnyU_pure (i := 4) (v := ?vo4) rfl (by kernel_rfl) (by kernel_rfl) (by kernel_rfl) (by kernel_rfl) (fun _ _ _ h => h) (Or.inl ⟨by rfl, fun V _ => ?hyo4⟩) (fun _ => hHeld) ?resto4
      case hyo4 => go_simp; try with_reducible rfl
      try simp only [Act.put, List.getElem_toArray, List.getElem_cons_zero, List.getElem_cons_succ, List.setIfInBounds_toArray, List.set_cons_zero, List.set_cons_succ]
      refine wpAnyU_load (i := 5) (v := ?vo5) rfl (by kernel_rfl) (by kernel_rfl) (by kernel_rfl) (by kernel_rfl) (fun _ _ _ h => h) (Or.inl ⟨by rfl, fun V hSw => ?hyo5⟩) hHeld ?resto5
      case hyo5 => (obtain ⟨hs1, hs2⟩ := hSw); go_simp; try with_reducible rfl
      try simp only [Act.put, List.getElem_toArray, List.getElem_cons_zero, List.getElem_cons_succ, List.setIfInBounds_toArray, List.set_cons_zero, List.set_cons_succ]
      refine wpAnyU_pure (i := 6) (v := ?vo6) rfl (by kernel_rfl) (by kernel_rfl) (by kernel_rfl) (by kernel_rfl) (fun _ _ _ h => h) (Or.inl ⟨by rfl, fun V _ => ?hyo6⟩) (fun _ => hHeld) ?resto6
      case hyo6 => go_simp; try with_reducible rfl
      try simp only [Act.put, List.getElem_toArray, List.getElem_cons_zero, List.getElem_cons_succ, List.setIfInBounds_toArray, List.set_cons_zero, List.set_cons_succ]
      refine wpAnyU_load (i := 7) (v := ?vo7) rfl (by kernel_rfl) (by kernel_rfl) (by kernel_rfl) (by kernel_rfl) (fun _ _ _ h => h) (Or.inl ⟨by rfl, fun V hSw => ?hyo7⟩) hHeld ?resto7
      case hyo7 => (obtain ⟨hs1, hs2⟩ := hSw); go_simp; try with_reducible rfl
      try simp only [Act.put, List.getElem_toArray, List.getElem_cons_zero, List.getElem_cons_succ, List.setIfInBounds_toArray, List.set_cons_zero, List.set_cons_succ]
      refine wpAnyU_pure (i := 8) (v := ?vo8) rfl (by kernel_rfl) (by kernel_rfl) (by kernel_rfl) (by kernel_rfl) (fun _ _ _ h => h) (Or.inl ⟨by rfl, fun V _ => ?hyo8⟩) (fun _ => hHeld) ?resto8
      case hyo8 => go_simp; try with_reducible rfl
      try simp only [Act.put, List.getElem_toArray, List.getElem_cons_zero, List.getElem_cons_succ, List.setIfInBounds_toArray, List.set_cons_zero, List.set_cons_succ]
      refine wpAnyU_ready (rs := [9]) (by kernel_rfl) (by simp) (AllU.cons (i := 9) rfl (fun K hK => ?_) AllU.nil)
      simp only [List.getElem_toArray, List.getElem_cons_zero, List.getElem_cons_succ]
      go_simp
      refine hK.out _ _ (fun _ => ⟨?se, (HBA.out.cell (p := ⟨w.heap.size + 1, f, none⟩) hz0).trans hv⟩) ?re
      case se => exact (box_first wr #[.int .i64 f, .int .i64 et, .int .i64 ec, .int .i64 eb, .int .i64 em] 54 (.cells #[.int .i64 (t : Int)] 3) 0)
      clear hK K
      try simp only [Act.put, List.getElem_toArray, List.getElem_cons_zero, List.getElem_cons_succ, List.setIfInBounds_toArray, List.set_cons_zero, List.set_cons_succ]
      refine wpAnyU_ready (rs := [10]) (by kernel_rfl) (by simp) (AllU.cons (i := 10) rfl (fun K hK => ?_) AllU.nil)
      have hown0 := own_keep HO.out HBA.out
      have hbase : w.heap.size + 2 ≤ ((wr.alloc (.cells #[.int .i64 f, .int .i64 et, .int .i64 ec, .int .i64 eb, .int .i64 em] 54)).alloc (.cells #[.int .i64 (t : Int)] 3)).drew.heap.size := Nat.le_trans hzz HBA.out.size
      refine step_append_ints _ (by rfl) _ _ _ (by rfl) (w.heap.size + 2) 3 i0 _ Try.underlying22 hi hi0 hi1 hi2 rfl v (fromL es f t).length ((fromL es f t).map (Value.int .i64)) (by rfl) (by exact hown0) (some ⟨wr.heap.size + 1, 0, none⟩) 1 1 [(t : Int)] (by rfl) (by exact one_new (wr.alloc (.cells #[.int .i64 f, .int .i64 et, .int .i64 ec, .int .i64 eb, .int .i64 em] 54)) (wr.heap.size + 1) (by simp) t _) (by have := HLN.out; omega) (by exact hbase) ?_
      intro v' w2 hown hgrow hat
      obtain ⟨A', c', hve, hcc⟩ := own_slice hown
      have HRW := Lib.hid ((HRS.out.below HBA.out).grow hfS (l := fromL es f t) ⟨HVF.out, rfl⟩ hown hgrow hat)
      rw [hve] at HRW
      rw [hve] at hown hat ⊢
      have hb2 := below_own hown0 hgrow hbase
      have HB2 := Lib.hid hb2
      have HOW := Lib.hid hown
      have hc2 : w2.cell? ⟨w.heap.size + 1, f, none⟩ = some v := (hb2.cell (p := ⟨w.heap.size + 1, f, none⟩) (by simp)).trans ((HBA.out.cell (p := ⟨w.heap.size + 1, f, none⟩) hz0).trans hv)
      have hf2 : w2.frozen? ⟨w.heap.size + 1, f, none⟩ = false := (hb2.frozen (p := ⟨w.heap.size + 1, f, none⟩) (by simp)).trans ((HBA.out.frozen (p := ⟨w.heap.size + 1, f, none⟩) hz0).trans hfz)
      have he2 : w2.cell? ⟨wr.heap.size, 0, none⟩ = some (.int .i64 f) := (hgrow.cell_far ⟨wr.heap.size, 0, none⟩ (by simp; omega) (own_apart0 HO.out (Nat.le_refl _))).trans (box_first wr #[.int .i64 f, .int .i64 et, .int .i64 ec, .int .i64 eb, .int .i64 em] 54 (.cells #[.int .i64 (t : Int)] 3) 0)
      clear hve hown0 hown hgrow hat hb2 hHeld
      have hHeld := And.intro he2 hc2
      refine hK.out _ _ (fun _ => hHeld) ?_
      clear hK K
      try simp only [Act.put, List.getElem_toArray, List.getElem_cons_zero, List.getElem_cons_succ, List.setIfInBounds_toArray, List.set_cons_zero, List.set_cons_succ]
      refine wpAnyU_pure (i := 11) (v := ?vq11) rfl (by kernel_rfl) (by kernel_rfl) (by kernel_rfl) (by kernel_rfl) (fun _ _ _ h => h) (Or.inl ⟨by rfl, fun V _ => ?hyq11⟩) (fun _ => hHeld) ?restq11
      case hyq11 => go_simp; try with_reducible rfl
      try simp only [Act.put, List.getElem_toArray, List.getElem_cons_zero, List.getElem_cons_succ, List.setIfInBounds_toArray, List.set_cons_zero, List.set_cons_succ]
      refine wpAnyU_ready (rs := [12]) (by kernel_rfl) (by simp) (AllU.cons (i := 12) rfl (fun K hK => ?_) AllU.nil)
      simp only [List.getElem_toArray, List.getElem_cons_zero, List.getElem_cons_succ]
      go_simp
      refine hK.out _ _ (fun h => by have h2 : false = true := h; cases h2) ?_
      clear hK K
      try simp only [Act.put, List.getElem_toArray, List.getElem_cons_zero, List.getElem_cons_succ, List.setIfInBounds_toArray, List.set_cons_zero, List.set_cons_succ]
      refine wpAnyU_done (by kernel_rfl) ?_ _
      clear hHeld
      go_wp2_with fail
      go_roundg q
      case measure => omega
      case rel =>
        refine ⟨t + 1, by omega, by go_num, ⟨_, (((HROW.out.of_block (HBA.out.block _ hz0)).of_block (HB2.out.block _ (by omega))).set f (.slice A' ((fromL es f t).length + 1) c')), ?_⟩, ?_, ?_⟩
        · have h1 := (HRW.out.put (a := ⟨w.heap.size + 1, f, none⟩) (by show w.heap.size + 1 < w.heap.size + 2; omega) (.slice A' ((fromL es f t).length + 1) c')).lists (L' := fun s => fromL es s (t + 1)) (fun s hs => by
            show putL _ f _ s = fromL es s (t + 1)
            unfold putL
            by_cases e : s = f
            · subst e; rw [if_pos rfl, HYES.out]
            · rw [if_neg e, HNO.out s e])
          exact h1
        · exact ((HBx.out.trans (HBA.out.mono (by omega))).trans (HB2.out.mono (by omega))).setCell (p := ⟨w.heap.size + 1, f, none⟩) (by simp) _
        · have := Nat.le_trans hbase HB2.out.size
          show _ ≤ _
          simpa using this

end Go.Proofs.Ytfblnadmbfhjiaa.Wd

namespace Go.Proofs.Ytfblnadmbfhjiaa.Wd
open Go.RowKit
set_option linter.unusedVariables false

/-- The first edge from s with the letter l. -/
def nextS (es : List Ed) (s : Nat) (l : Int) : Option Nat := (List.range es.length).find? fun j => decide ((es.getD j ed0).f = (s : Int)) && letB l (es.getD j ed0)
theorem nextS_out (es : List Ed) (s : Nat) (l : Int) : (outL es s l es.length).head? = (nextS es s l).map (fun (j : Nat) => (j : Int)) := by
  unfold outL nextS
  rw [List.head?_map, List.head?_filter]
theorem nextS_some {es : List Ed} {s j : Nat} {l : Int} (h : nextS es s l = some j) : j < es.length ∧ (es.getD j ed0).f = (s : Int) ∧ letB l (es.getD j ed0) = true := by
  have h1 := List.find?_some h
  have h2 := List.mem_of_find?_eq_some h
  rw [Bool.and_eq_true] at h1
  exact ⟨List.mem_range.1 h2, of_decide_eq_true h1.1, h1.2⟩
theorem nextS_from (es : List Ed) (s : Nat) (l : Int) : nextS es s l = ((List.range es.length).filter fun j => decide ((es.getD j ed0).f = (s : Int))).find? fun j => letB l (es.getD j ed0) := by
  unfold nextS
  rw [List.find?_filter]
  congr 1
  funext j
  cases decide ((es.getD j ed0).f = (s : Int)) <;> cases letB l (es.getD j ed0) <;> simp
theorem fromL_as (es : List Ed) (s n : Nat) : fromL es s n = ((List.range n).filter fun j => decide ((es.getD j ed0).f = (s : Int))).map fun (j : Nat) => (j : Int) := rfl
theorem nextS_at {es : List Ed} {s u i : Nat} {l : Int} (hu : u < (fromL es s es.length).length) (hi : (fromL es s es.length).getD u 0 = (i : Int)) (hn : ∀ v k : Nat, v < u → (fromL es s es.length).getD v 0 = (k : Int) → letB l (es.getD k ed0) = false) (hl : letB l (es.getD i ed0) = true) : nextS es s l = some i := by
  rw [nextS_from]
  rw [fromL_as] at hu hi hn
  generalize ((List.range es.length).filter fun j => decide ((es.getD j ed0).f = (s : Int))) = L at *
  rw [List.length_map] at hu
  have e : ∀ v (hv : v < L.length), (L.map fun (j : Nat) => (j : Int)).getD v 0 = (L[v] : Int) := fun v hv => by
    rw [List.getD_eq_getElem?_getD, List.getElem?_map, List.getElem?_eq_getElem hv]; rfl
  rw [List.find?_eq_some_iff_getElem]
  refine ⟨hl, u, hu, ?_, fun j hj => ?_⟩
  · have := e u hu; omega
  · rw [hn j L[j] hj (e j (by omega))]; rfl
theorem nextS_none {es : List Ed} {s : Nat} {l : Int} (hn : ∀ v k : Nat, v < (fromL es s es.length).length → (fromL es s es.length).getD v 0 = (k : Int) → letB l (es.getD k ed0) = false) : nextS es s l = none := by
  rw [nextS_from]
  rw [fromL_as] at hn
  generalize ((List.range es.length).filter fun j => decide ((es.getD j ed0).f = (s : Int))) = L at *
  rw [List.find?_eq_none]
  intro x hx
  obtain ⟨v, hv, rfl⟩ := List.getElem_of_mem hx
  rw [hn v L[v] (by rw [List.length_map]; exact hv) (by rw [List.getD_eq_getElem?_getD, List.getElem?_map, List.getElem?_eq_getElem hv]; rfl)]
  decide

/-- The state behind t letters, if the run is not over. -/
def runU (es : List Ed) (f : Nat → Int) (s0 : Nat) : Nat → Option Nat
  | 0 => some s0
  | t + 1 => (runU es f s0 t).bind fun s => (nextS es s (f t)).map fun j => (es.getD j ed0).t.toNat
/-- The marks of the step number t. -/
def markU (es : List Ed) (f : Nat → Int) (s0 t : Nat) : Nat :=
  match (runU es f s0 t).bind fun s => nextS es s (f t) with
  | some j => (es.getD j ed0).m.toNat
  | none => 0
/-- All marks of c steps from the step number a on. -/
def orU (es : List Ed) (f : Nat → Int) (s0 a : Nat) : Nat → Nat
  | 0 => 0
  | c + 1 => orU es f s0 a c ||| markU es f s0 (a + c)
section
variable {es : List Ed} {f : Nat → Int} {s0 : Nat}
theorem runU_dead {t : Nat} (h : runU es f s0 t = none) : ∀ c, runU es f s0 (t + c) = none
  | 0 => h
  | c + 1 => by
    show (runU es f s0 (t + c)).bind _ = none
    rw [runU_dead h c]; rfl
theorem runU_live {t t' : Nat} {s : Nat} (h : runU es f s0 t' = some s) (ht : t ≤ t') : ∃ s', runU es f s0 t = some s' := by
  cases e : runU es f s0 t with
  | some s' => exact ⟨s', rfl⟩
  | none =>
    have := runU_dead e (t' - t)
    rw [show t + (t' - t) = t' by omega, h] at this
    cases this
theorem runU_next {t s j : Nat} (h : runU es f s0 t = some s) (hj : nextS es s (f t) = some j) : runU es f s0 (t + 1) = some (es.getD j ed0).t.toNat ∧ markU es f s0 t = (es.getD j ed0).m.toNat := by
  refine ⟨?_, ?_⟩
  · show (runU es f s0 t).bind _ = _
    rw [h]; show (nextS es s (f t)).map _ = _; rw [hj]; rfl
  · unfold markU; rw [h]; show (match nextS es s (f t) with | some j => _ | none => 0) = _; rw [hj]
theorem runU_stop {t s : Nat} (h : runU es f s0 t = some s) (hj : nextS es s (f t) = none) : runU es f s0 (t + 1) = none ∧ markU es f s0 t = 0 := by
  refine ⟨?_, ?_⟩
  · show (runU es f s0 t).bind _ = _
    rw [h]; show (nextS es s (f t)).map _ = _; rw [hj]; rfl
  · unfold markU; rw [h]; show (match nextS es s (f t) with | some j => _ | none => 0) = _; rw [hj]
theorem markU_dead {t : Nat} (h : runU es f s0 t = none) : markU es f s0 t = 0 := by unfold markU; rw [h]; rfl
theorem orU_bit (a c b : Nat) : (orU es f s0 a c).testBit b = true ↔ ∃ t, a ≤ t ∧ t < a + c ∧ (markU es f s0 t).testBit b = true := by
  induction c with
  | zero => simp [orU]; intro t h1 h2; omega
  | succ c ih =>
    rw [orU, Nat.testBit_or, Bool.or_eq_true, ih]
    constructor
    · rintro (⟨t, h1, h2, h3⟩ | h)
      · exact ⟨t, h1, by omega, h3⟩
      · exact ⟨a + c, by omega, by omega, h⟩
    · rintro ⟨t, h1, h2, h3⟩
      by_cases e : t = a + c
      · subst e; exact .inr h3
      · exact .inl ⟨t, h1, by omega, h3⟩
/-- States and marks are small. -/
theorem runU_lt {P M S : Nat} (he : ∀ j, j < es.length → ∃ a b : Nat, (es.getD j ed0).f = (a : Int) ∧ (es.getD j ed0).t = (b : Int) ∧ a < S ∧ b < S) (h0 : s0 < S) : ∀ {t s : Nat}, runU es f s0 t = some s → s < S
  | 0, s, h => by cases h; exact h0
  | t + 1, s, h => by
    have h' : (runU es f s0 t).bind (fun s => (nextS es s (f t)).map fun j => (es.getD j ed0).t.toNat) = some s := h
    rw [Option.bind_eq_some_iff] at h'
    obtain ⟨s', h1, h2⟩ := h'
    rw [Option.map_eq_some_iff] at h2
    obtain ⟨j, h3, h4⟩ := h2
    obtain ⟨a, b, _, hb, _, hb2⟩ := he j (nextS_some h3).1
    rw [hb] at h4
    omega
/-- Where the run is at the beginning of the turn number k of the loop. -/
def turnU (es : List Ed) (f : Nat → Int) (s0 n m k : Nat) : Option Nat := runU es f s0 (n + k * m)

section
variable {n m : Nat} (hf : ∀ t, n ≤ t → f (t + m) = f t)
include hf
theorem f_turns (t k : Nat) (ht : n ≤ t) : f (t + k * m) = f t := by
  induction k with
  | zero => simp
  | succ k ih => rw [Nat.succ_mul, ← Nat.add_assoc, hf _ (by omega), ih]
/-- From one state at the beginning of a turn on all goes alike. -/
theorem runU_again {i k : Nat} (h : turnU es f s0 n m i = turnU es f s0 n m k) : ∀ c, runU es f s0 (n + i * m + c) = runU es f s0 (n + k * m + c)
  | 0 => h
  | c + 1 => by
    show (runU es f s0 (n + i * m + c)).bind _ = (runU es f s0 (n + k * m + c)).bind _
    rw [runU_again h c]
    have e : f (n + i * m + c) = f (n + k * m + c) := by
      rw [show n + i * m + c = n + c + i * m by omega, show n + k * m + c = n + c + k * m by omega, f_turns hf _ _ (by omega), f_turns hf _ _ (by omega)]
    show (runU es f s0 (n + k * m + c)).bind (fun s => (nextS es s (f (n + i * m + c))).map fun j => (es.getD j ed0).t.toNat) = (runU es f s0 (n + k * m + c)).bind (fun s => (nextS es s (f (n + k * m + c))).map fun j => (es.getD j ed0).t.toNat)
    rw [e]
theorem markU_again {i k : Nat} (h : turnU es f s0 n m i = turnU es f s0 n m k) (c : Nat) : markU es f s0 (n + i * m + c) = markU es f s0 (n + k * m + c) := by
  unfold markU
  rw [runU_again hf h c, show n + i * m + c = n + c + i * m by omega, show n + k * m + c = n + c + k * m by omega, f_turns hf _ _ (by omega), f_turns hf _ _ (by omega)]
/-- A turn that repeats an earlier one repeats it with a period. -/
theorem turnU_period {i k : Nat} (hik : i < k) (h : turnU es f s0 n m i = turnU es f s0 n m k) : ∀ j, i ≤ j → turnU es f s0 n m (j + (k - i)) = turnU es f s0 n m j := by
  intro j hj
  unfold turnU
  have := runU_again hf h ((j - i) * m)
  rw [show n + i * m + (j - i) * m = n + j * m by rw [Nat.add_assoc, ← Nat.add_mul, show i + (j - i) = j by omega], show n + k * m + (j - i) * m = n + (j + (k - i)) * m by rw [Nat.add_assoc, ← Nat.add_mul, show k + (j - i) = j + (k - i) by omega]] at this
  exact this.symm
theorem turnU_mod {i k : Nat} (hik : i < k) (h : turnU es f s0 n m i = turnU es f s0 n m k) : ∀ c j, i ≤ j → turnU es f s0 n m (j + c * (k - i)) = turnU es f s0 n m j
  | 0, j, _ => by simp
  | c + 1, j, hj => by
    rw [Nat.succ_mul, ← Nat.add_assoc, turnU_period hf hik h _ (by omega), turnU_mod hik h c j hj]
/-- So the run does not end. -/
theorem turnU_live {i k : Nat} (hm : 0 < m) (hik : i < k) (h : turnU es f s0 n m i = turnU es f s0 n m k) (hl : turnU es f s0 n m i ≠ none) (t : Nat) : runU es f s0 t ≠ none := by
  intro hd
  have h1 := turnU_mod hf hik h t i (Nat.le_refl _)
  have h2 : t ≤ n + (i + t * (k - i)) * m := by
    have a1 : t ≤ t * (k - i) := Nat.le_mul_of_pos_right t (by omega)
    have a2 : i + t * (k - i) ≤ (i + t * (k - i)) * m := Nat.le_mul_of_pos_right _ hm
    omega
  have h3 := runU_dead hd (n + (i + t * (k - i)) * m - t)
  rw [show t + (n + (i + t * (k - i)) * m - t) = n + (i + t * (k - i)) * m by omega] at h3
  exact hl (h1.symm.trans h3)
omit hf in
theorem reach_class {p : Nat} (hp : 0 < p) (A : Nat) : ∀ (g x : Nat), A - x ≤ g → x ≤ A → ∃ c, A ≤ x + c * p ∧ x + c * p < A + p
  | 0, x, hg, hx => ⟨0, by omega, by omega⟩
  | g + 1, x, hg, hx => by
    by_cases h0 : x = A
    · exact ⟨0, by omega, by omega⟩
    by_cases h : A ≤ x + p
    · exact ⟨1, by omega, by omega⟩
    · obtain ⟨c, h1, h2⟩ := reach_class hp A g (x + p) (by omega) (by omega)
      exact ⟨c + 1, by rw [Nat.succ_mul]; omega, by rw [Nat.succ_mul]; omega⟩
omit hf in
theorem in_turn {m d S : Nat} (hm : 0 < m) (h : d < S * m) : ∃ q r, q < S ∧ r < m ∧ d = q * m + r :=
  ⟨d / m, d % m, Nat.div_lt_of_lt_mul (by rw [Nat.mul_comm]; exact h), Nat.mod_lt _ hm, by have := Nat.div_add_mod d m; rw [Nat.mul_comm] at this; omega⟩
omit hf in
theorem in_cycle {p i x : Nat} (hp : 0 < p) (h : i ≤ x) : ∃ c y, y < p ∧ x = i + y + c * p :=
  ⟨(x - i) / p, (x - i) % p, Nat.mod_lt _ hp, by have := Nat.div_add_mod (x - i) p; rw [Nat.mul_comm] at this; omega⟩
omit hf in
theorem turn_lt {m j r S : Nat} (hj : j < S) (hr : r < m) : j * m + r < S * m := by
  have h1 : (j + 1) * m ≤ S * m := Nat.mul_le_mul_right m hj
  rw [Nat.succ_mul] at h1
  omega
/-- The marks of the turns i to k - 1 are those of any S turns from one on that is not earlier. -/
theorem marks_turns {i k S : Nat} (hm : 0 < m) (hik : i < k) (hkS : k ≤ S) (h : turnU es f s0 n m i = turnU es f s0 n m k) : orU es f s0 (n + i * m) ((k - i) * m) = orU es f s0 (n + S * m) (S * m) := by
  apply Nat.eq_of_testBit_eq
  intro b
  rw [Bool.eq_iff_iff, orU_bit, orU_bit]
  constructor
  · rintro ⟨t, h1, h2, h3⟩
    obtain ⟨d, rfl⟩ : ∃ d, t = n + i * m + d := ⟨t - (n + i * m), by omega⟩
    obtain ⟨q, r, hq, hr, rfl⟩ := in_turn (d := d) (S := k - i) hm (by omega)
    obtain ⟨c, hc1, hc2⟩ := reach_class (p := k - i) (by omega) S S (i + q) (by omega) (by omega)
    have ht := turnU_mod hf hik h c (i + q) (by omega)
    have hk := markU_again hf ht r
    obtain ⟨j, hj⟩ : ∃ j, i + q + c * (k - i) = S + j := ⟨i + q + c * (k - i) - S, by omega⟩
    have hlt := turn_lt (show j < S by omega) hr
    rw [hj, Nat.add_mul, Nat.add_mul] at hk
    refine ⟨n + (S * m + j * m) + r, by omega, by omega, ?_⟩
    rw [hk, show n + (i * m + q * m) + r = n + i * m + (q * m + r) by omega]
    exact h3
  · rintro ⟨t, h1, h2, h3⟩
    obtain ⟨d, rfl⟩ : ∃ d, t = n + S * m + d := ⟨t - (n + S * m), by omega⟩
    obtain ⟨q, r, hq, hr, rfl⟩ := in_turn (d := d) (S := S) hm (by omega)
    obtain ⟨c, y, hy, hx⟩ := in_cycle (p := k - i) (i := i) (x := S + q) (by omega) (by omega)
    have ht := turnU_mod hf hik h c (i + y) (by omega)
    rw [← hx] at ht
    have hk := markU_again hf ht r
    have hlt := turn_lt hy hr
    rw [Nat.add_mul, Nat.add_mul] at hk
    refine ⟨n + (i * m + y * m) + r, by omega, by omega, ?_⟩
    rw [← hk, show n + (S * m + q * m) + r = n + S * m + (q * m + r) by omega]
    exact h3
end
/-- What the walk of the program comes to. -/
def WalkA (es : List Ed) (f : Nat → Int) (s0 n m S : Nat) (r : Nat) (dead : Bool) : Prop :=
  (∃ k, k ≤ S ∧ turnU es f s0 n m k = none ∧ r = 0 ∧ dead = true) ∨
  (∃ i k, i < k ∧ k ≤ S ∧ turnU es f s0 n m i = turnU es f s0 n m k ∧ turnU es f s0 n m i ≠ none ∧ r = orU es f s0 (n + i * m) ((k - i) * m) ∧ dead = false)
/-- What the walk of the reference comes to. -/
def WalkB (es : List Ed) (f : Nat → Int) (s0 n m S : Nat) (r : Nat) (dead : Bool) : Prop :=
  (∃ t, t ≤ n + S * m + S * m ∧ runU es f s0 t = none ∧ r = 0 ∧ dead = true) ∨
  (runU es f s0 (n + S * m + S * m) ≠ none ∧ r = orU es f s0 (n + S * m) (S * m) ∧ dead = false)
theorem walk_same {n m S r r' : Nat} {dead dead' : Bool} (hm : 0 < m) (hf : ∀ t, n ≤ t → f (t + m) = f t) (h : WalkA es f s0 n m S r dead) (h' : WalkB es f s0 n m S r' dead') : r = r' ∧ dead = dead' := by
  rcases h with ⟨k, hk, h1, rfl, rfl⟩ | ⟨i, k, hik, hk, h1, h2, rfl, rfl⟩
  · rcases h' with ⟨t, _, _, rfl, rfl⟩ | ⟨h3, rfl, rfl⟩
    · exact ⟨rfl, rfl⟩
    · have h4 : k * m ≤ S * m := Nat.mul_le_mul_right m hk
      have h5 := runU_dead h1 (n + S * m + S * m - (n + k * m))
      rw [show n + k * m + (n + S * m + S * m - (n + k * m)) = n + S * m + S * m by omega] at h5
      exact absurd h5 h3
  · rcases h' with ⟨t, _, h3, rfl, rfl⟩ | ⟨h3, rfl, rfl⟩
    · exact absurd h3 (turnU_live hf hm hik h1 h2 t)
    · exact ⟨marks_turns hf hm hik hk h1, rfl⟩
end
end Go.Proofs.Ytfblnadmbfhjiaa.Wd

namespace Go.Proofs.Ytfblnadmbfhjiaa.Wd
open Go.RowKit
set_option linter.unusedVariables false

theorem bool_info : (Try.prog.info? 4).map (fun i => (i.zero, i.size, i.bytes)) = some (some (.bool false), 1, 1) := by kernel_rfl

/-- The reachable states. -/
inductive Rch (st : List Int) (es : List Ed) : Nat → Prop
  | start (k s : Nat) : k < st.length → st.getD k 0 = (s : Int) → Rch st es s
  | edge (k a b : Nat) : k < es.length → (es.getD k ed0).f = (a : Int) → (es.getD k ed0).t = (b : Int) → Rch st es a → Rch st es b

def updB (F : Nat → Bool) (j i : Nat) : Bool := if i = j then true else F i
theorem updB_same (F : Nat → Bool) (j : Nat) : updB F j j = true := by unfold updB; rw [if_pos rfl]
theorem updB_mono {F : Nat → Bool} {j i : Nat} (h : F i = true) : updB F j i = true := by unfold updB; split <;> first | rfl | exact h
theorem updB_true {F : Nat → Bool} {j i : Nat} (h : updB F j i = true) : i = j ∨ F i = true := by
  unfold updB at h
  split at h
  · rename_i e; exact .inl e
  · exact .inr h
/-- How many of the first n are not there. -/
def cntF (F : Nat → Bool) : Nat → Nat
  | 0 => 0
  | n + 1 => (if F n = true then 0 else 1) + cntF F n
theorem cntF_far {F : Nat → Bool} {j : Nat} : ∀ n, n ≤ j → cntF (updB F j) n = cntF F n
  | 0, _ => rfl
  | n + 1, h => by
    unfold cntF
    rw [cntF_far n (by omega), show updB F j n = F n by unfold updB; rw [if_neg (by omega)]]
theorem cntF_set {F : Nat → Bool} {j : Nat} (h : F j = false) : ∀ n, j < n → cntF (updB F j) n + 1 = cntF F n
  | 0, hj => by omega
  | n + 1, hj => by
    unfold cntF
    by_cases e : j = n
    · subst e
      rw [cntF_far j (Nat.le_refl _), updB_same, h, if_pos rfl, if_neg (by decide)]
      omega
    · rw [show updB F j n = F n by unfold updB; rw [if_neg (fun x => e x.symm)], ← cntF_set h n (by omega)]
      omega
theorem cntF_le (F : Nat → Bool) (n : Nat) : cntF F n ≤ n := by
  induction n with
  | zero => exact Nat.le_refl _
  | succ n ih => unfold cntF; split <;> omega

def SoundF (st : List Int) (es : List Ed) (F : Nat → Bool) : Prop := ∀ i, F i = true → Rch st es i
def StartF (st : List Int) (F : Nat → Bool) (t : Nat) : Prop := ∀ k s : Nat, k < t → st.getD k 0 = (s : Int) → F s = true
def EdgeF (es : List Ed) (F : Nat → Bool) (t : Nat) : Prop := ∀ k a b : Nat, k < t → (es.getD k ed0).f = (a : Int) → (es.getD k ed0).t = (b : Int) → F a = true → F b = true
def RowF (w : World) (b S : Nat) (F : Nat → Bool) : Prop := w.rowIs b 4 S (fun i => .bool (F i))
theorem RowF.upd {w : World} {b S j : Nat} {F : Nat → Bool} (h : RowF w b S F) : RowF (w.setCell ⟨b, j, none⟩ (.bool true)) b S (updB F j) :=
  (World.rowIs.set h j (.bool true)).congr (fun i hi => by unfold updB; by_cases e : i = j <;> simp [e])
theorem RowF.cell {w : World} {b S i : Nat} {F : Nat → Bool} (h : RowF w b S F) (hi : i < S) : w.cell? ⟨b, i, none⟩ = some (.bool (F i)) := World.rowIs.cell h hi
theorem RowF.lt {w : World} {b S : Nat} {F : Nat → Bool} (h : RowF w b S F) : b < w.heap.size := World.rowIs.lt h
theorem RowF.free {w : World} {b S : Nat} {F : Nat → Bool} (h : RowF w b S F) (i : Nat) : w.frozen? ⟨b, i, none⟩ = false := World.rowIs.frozen h i
theorem RowF.alloc {w : World} {b S : Nat} {F : Nat → Bool} (h : RowF w b S F) (o : Obj) : RowF (w.alloc o) b S F := World.rowIs.alloc h o

theorem start_next {st : List Int} {F : Nat → Bool} {t j : Nat} (h : StartF st F t) (hj : st.getD t 0 = (j : Int)) : StartF st (updB F j) (t + 1) := by
  intro k s hk hs
  by_cases e : k = t
  · subst e
    obtain rfl : j = s := by omega
    exact updB_same F j
  · exact updB_mono (h k s (by omega) hs)
theorem sound_start {st : List Int} {es : List Ed} {F : Nat → Bool} {t j : Nat} (h : SoundF st es F) (ht : t < st.length) (hj : st.getD t 0 = (j : Int)) : SoundF st es (updB F j) := by
  intro i hi
  rcases updB_true hi with rfl | h2
  · exact .start t i ht hj
  · exact h i h2
theorem sound_edge {st : List Int} {es : List Ed} {F : Nat → Bool} {t a b : Nat} (h : SoundF st es F) (ht : t < es.length) (hf : (es.getD t ed0).f = (a : Int)) (hb : (es.getD t ed0).t = (b : Int)) (ha : F a = true) : SoundF st es (updB F b) := by
  intro i hi
  rcases updB_true hi with rfl | h2
  · exact .edge t a i ht hf hb (h a ha)
  · exact h i h2
theorem edge_next {es : List Ed} {F : Nat → Bool} {t a b : Nat} (h : EdgeF es F t) (hf : (es.getD t ed0).f = (a : Int)) (hb : (es.getD t ed0).t = (b : Int)) (hab : F a = true → F b = true) : EdgeF es F (t + 1) := by
  intro k x y hk hx hy h1
  by_cases e : k = t
  · subst e
    obtain rfl : a = x := by omega
    obtain rfl : b = y := by omega
    exact hab h1
  · exact h k x y (by omega) hx hy h1
theorem reach_done {st : List Int} {es : List Ed} {F : Nat → Bool} (h1 : SoundF st es F) (h2 : StartF st F st.length) (h3 : EdgeF es F es.length) (i : Nat) : F i = true ↔ Rch st es i := by
  refine ⟨h1 i, fun h => ?_⟩
  induction h with
  | start k s hk hs => exact h2 k s hk hs
  | edge k a b hk ha hb _ ih => exact h3 k a b hk ha hb ih

set_option maxRecDepth 100000 in
set_option maxHeartbeats 8000000 in
theorem refReached_any (P : Int) (S : Nat) (K M : Int) (A E : Option Addr) (n c ne ce : Nat) (st : List Int) (es : List Ed) (w : World) (ha : Ints w A n st) (hn : n ≤ 17592186044416) (hE : EdgesAt w E ne es) (hS : S ≤ 3000) (hne : ne ≤ 40000)
    (hst : ∀ j, j < n → ∃ s : Nat, st.getD j 0 = (s : Int) ∧ s < S)
    (hes : ∀ j, j < ne → ∃ a b : Nat, (es.getD j ed0).f = (a : Int) ∧ (es.getD j ed0).t = (b : Int) ∧ a < S ∧ b < S) :
    Calls Try.prog 41 #[.agg #[.int .i64 P, .int .i64 S, .slice A n c, .int .i64 K, .int .i64 M, .slice E ne ce]] w fun r w' =>
      ∃ b F, r = .returned (.slice (some ⟨b, 0, none⟩) S S) ∧ RowF w' b S F ∧ (∀ i, F i = true ↔ Rch st es i) ∧ w.heap.size ≤ b ∧ Below w.heap.size w w' := by
  have hmk := run_make_row' (P := Try.prog) 31 4 (.bool false) 1 Try.underlying31 bool_info rfl .i64 .i64 S (by omega) (by omega)
  have HA := Lib.hid hE
  have HEL := Lib.hid hE.1
  have HI := Lib.hid ha
  have HIL := Lib.hid ha.1
  have HST := Lib.hid hst
  have HES := Lib.hid hes
  clear hE ha hst hes
  go_enter Try.func41, Try.ntmps41
  go_wp2_with fail
  obtain ⟨W0, hW0⟩ : ∃ W0, w.alloc (.cells #[.int .i64 P, .int .i64 S, .slice A n c, .int .i64 K, .int .i64 M, .slice E ne ce] 25) = W0 := ⟨_, rfl⟩
  have q5 : W0.cell? ⟨w.heap.size, 5, none⟩ = some (.slice E ne ce) := by rw [← hW0, box_last]; rfl
  have hz : W0.heap.size = w.heap.size + 1 := by rw [← hW0]; simp
  have HB0 := Lib.hid (show Below w.heap.size w W0 by rw [← hW0]; exact (Below.refl _ _).alloc (Nat.le_refl _) _)
  rw [hW0]
  clear hW0
  obtain ⟨W1, hW1⟩ : ∃ W1, W0.alloc (.cells (madeCells #[.bool false] S) 4) = W1 := ⟨_, rfl⟩
  have HR0 := Lib.hid (show RowF W1 (w.heap.size + 1) S (fun _ => false) by unfold RowF; rw [← hW1, ← hz]; exact World.rowIs_made W0 _ S _)
  have HB1 := Lib.hid (show Below (w.heap.size + 1) W0 W1 by rw [← hW1, ← hz]; exact (Below.refl _ _).alloc (Nat.le_refl _) _)
  have hz1 : W1.heap.size = w.heap.size + 2 := by rw [← hW1]; simp [hz]
  rw [hW1]
  clear hW1
  go_loopg [15] n (fun g i wx => ∃ t : Nat, t + g = n ∧ i = .int .i64 t ∧ Hid (∃ F, RowF wx (w.heap.size + 1) S F ∧ SoundF st es F ∧ StartF st F t) ∧ Hid (Below (w.heap.size + 1) W0 wx))
  case atStart => exact ⟨0, by omega, rfl, ⟨_, HR0.out, (fun i h => by cases h), (fun k s h => by omega)⟩, HB1.out⟩
  case round =>
    obtain ⟨t, htg, rfl, HR, HBx⟩ := hrel
    have hti : (0 : Int) ≤ (t : Int) := by omega
    have HBw := Lib.hid (HB0.out.trans (HBx.out.mono (by omega)))
    have r5 := (HBx.out.cell (p := ⟨w.heap.size, 5, none⟩) (by simp)).trans q5
    obtain ⟨F, hRF, hSF, hTF⟩ := HR.out
    have HRF := Lib.hid hRF
    have HSF := Lib.hid hSF
    have HTF := Lib.hid hTF
    have hzr := hRF.lt
    clear hRF hSF hTF HR
    cases gk with
    | zero =>
      obtain rfl : n = t := by omega
      go_wp2_with fail
      clear r5
      go_loopg [6] (S + 2) (fun g m wx => ∃ mb : Bool, m = .bool mb ∧ Hid (∃ F, RowF wx (w.heap.size + 1) S F ∧ SoundF st es F ∧ StartF st F st.length ∧ (mb = true → cntF F S < g) ∧ (mb = false → EdgeF es F es.length)) ∧ Hid (Below (w.heap.size + 1) W0 wx))
      case atStart => exact ⟨true, rfl, ⟨F, HRF.out, HSF.out, by rw [HIL.out]; exact HTF.out, fun _ => by have := cntF_le F S; omega, fun h => by cases h⟩, HBx.out⟩
      case round =>
        clear HRF HSF HTF HBw HBx hzr htg hti
        obtain ⟨mb, rfl, HR, HBx⟩ := hrel
        have HBw := Lib.hid (HB0.out.trans (HBx.out.mono (by omega)))
        have r5 := (HBx.out.cell (p := ⟨w.heap.size, 5, none⟩) (by simp)).trans q5
        obtain ⟨F, hRF, hSF, hTF, hCT, hEF⟩ := HR.out
        have HRF := Lib.hid hRF
        have HSF := Lib.hid hSF
        have HTF := Lib.hid hTF
        have HCT := Lib.hid hCT
        have HEF := Lib.hid hEF
        have hzr := hRF.lt
        have hzr0 : w.heap.size < wr.heap.size := by omega
        clear hRF hSF hTF hCT hEF HR
        cases mb
        · go_wp2_with fail
          go_ret
          have HE9 := Lib.hid (HEF.out (by trivial))
          first | exact ⟨_, rfl, F, HRF.out, reach_done HSF.out HTF.out HE9.out, by omega, HBw.out⟩ | exact ⟨_, F, rfl, HRF.out, reach_done HSF.out HTF.out HE9.out, by omega, HBw.out⟩
        · have hct := HCT.out rfl
          clear HCT HEF
          go_wp2_with fail
          clear r5
          have HW := Lib.hid (⟨HRF.out, HSF.out, HTF.out⟩ : RowF wr (w.heap.size + 1) S F ∧ SoundF st es F ∧ StartF st F st.length)
          have HBX0 := Lib.hid HBx.out
          clear HRF HSF HTF HBx HBw
          obtain ⟨C, hC, HC⟩ : ∃ C, cntF F S = C ∧ Hid (cntF F S = C) := ⟨_, rfl, rfl⟩
          rw [hC] at hct
          clear hC
          go_loopg [6, 27] ne (fun g m i wx => ∃ (mb : Bool) (t : Nat), t + g = ne ∧ m = .bool mb ∧ i = .int .i64 t ∧
            Hid (∃ F, RowF wx (w.heap.size + 1) S F ∧ SoundF st es F ∧ StartF st F st.length ∧ (mb = true → cntF F S < C) ∧ (mb = false → EdgeF es F t ∧ cntF F S = C)) ∧ Hid (Below (w.heap.size + 1) W0 wx))
          case atStart => exact ⟨false, 0, by omega, rfl, rfl, ⟨F, HW.out.1, HW.out.2.1, HW.out.2.2, (fun h => by cases h), fun _ => ⟨(fun k a b h => by omega), HC.out⟩⟩, HBX0.out⟩
          case round =>
            rename_i gold wold
            clear HW HBX0 HC hzr hzr0 F
            obtain ⟨mb, t, htg, rfl, rfl, HR, HBx⟩ := hrel
            have hti : (0 : Int) ≤ (t : Int) := by omega
            have HBw := Lib.hid (HB0.out.trans (HBx.out.mono (by omega)))
            obtain ⟨F, hRF, hSF, hTF, hCT, hEF⟩ := HR.out
            have HRF := Lib.hid hRF
            have HSF := Lib.hid hSF
            have HTF := Lib.hid hTF
            have HCT := Lib.hid hCT
            have HEF := Lib.hid hEF
            have hzr := hRF.lt
            have hzr0 : w.heap.size < wr.heap.size := by omega
            clear hRF hSF hTF hCT hEF HR
            cases gk with
            | zero =>
              obtain rfl : ne = t := by omega
              have HN := Lib.hid (show ∃ F, RowF wr (w.heap.size + 1) S F ∧ SoundF st es F ∧ StartF st F st.length ∧ (mb = true → cntF F S < C) ∧ (mb = false → EdgeF es F es.length) from ⟨F, HRF.out, HSF.out, HTF.out, HCT.out, fun h => by rw [HEL.out]; exact (HEF.out h).1⟩)
              clear HRF HSF HTF HCT HEF
              go_wp2_with fail
              go_roundg C
              case measure => omega
              case rel => exact ⟨mb, rfl, HN, HBx⟩
            | succ q =>
              have ht1 : t < ne := by omega
              have hti2 : (t : Int) < (ne : Int) := by omega
              obtain ⟨b, off, rfl, hlt, hcell⟩ := (HA.out.below HBw.out).2 (by omega)
              obtain ⟨c0, c1, c2, c3, c4⟩ := hcell t ht1
              obtain ⟨x, y, hx, hy, hxS, hyS⟩ := HES.out t ht1
              have HSE := Lib.hid (fun h => sound_edge HSF.out (by rw [HEL.out]; exact ht1) hx hy h)
              have HEN := Lib.hid (fun (h : EdgeF es F t) hab => edge_next h hx hy hab)
              generalize es.getD t ed0 = ex at c0 c1 c2 c3 c4 hx hy
              obtain ⟨ef, et, ec, eb, em⟩ := ex
              simp only at c0 c1 c2 c3 c4 hx hy
              subst hx
              subst hy
              clear hcell
              have hx0 : (0 : Int) ≤ (x : Int) := by omega
              have hx1 : (x : Int) < (S : Int) := by omega
              have hy0 : (0 : Int) ≤ (y : Int) := by omega
              have hy1 : (y : Int) < (S : Int) := by omega
              have kx := HRF.out.cell hxS
              have ky := HRF.out.cell hyS
              have hfz := HRF.out.free y
              cases hfx : F x
              · rw [hfx] at kx
                have HN := Lib.hid (show ∃ F', RowF (wr.alloc (.cells #[.int .i64 x, .int .i64 y, .int .i64 ec, .int .i64 eb, .int .i64 em] 54)) (w.heap.size + 1) S F' ∧ SoundF st es F' ∧ StartF st F' st.length ∧ (mb = true → cntF F' S < C) ∧ (mb = false → EdgeF es F' (t + 1) ∧ cntF F' S = C) from
                  ⟨F, HRF.out.alloc _, HSF.out, HTF.out, HCT.out, fun h => ⟨HEN.out (HEF.out h).1 (fun h1 => by rw [hfx] at h1; cases h1), (HEF.out h).2⟩⟩)
                clear HRF HSF HTF HCT HEF HSE HEN hfx ky
                go_wp2_with fail
                go_roundg q
                case measure => omega
                case rel => exact ⟨mb, t + 1, by omega, rfl, by go_num, HN, HBx.out.alloc (by omega) _⟩
              · rw [hfx] at kx
                cases hfy : F y
                · rw [hfy] at ky
                  have HN := Lib.hid (show ∃ F', RowF ((wr.setCell ⟨w.heap.size + 1, y, none⟩ (.bool true)).alloc (.cells #[.int .i64 x, .int .i64 y, .int .i64 ec, .int .i64 eb, .int .i64 em] 54)) (w.heap.size + 1) S F' ∧ SoundF st es F' ∧ StartF st F' st.length ∧ cntF F' S < C from
                    ⟨updB F y, HRF.out.upd.alloc _, HSE.out hfx, (fun k s hk hs => updB_mono (HTF.out k s hk hs)), (by
                      have h1 := cntF_set hfy S hyS
                      cases mb
                      · have := (HEF.out rfl).2; omega
                      · have := HCT.out rfl; omega)⟩)
                  clear HRF HSF HTF HCT HEF HSE HEN hfx hfy
                  go_wp2_with fail
                  go_roundg q
                  case measure => omega
                  case rel =>
                    obtain ⟨F', u1, u2, u3, u4⟩ := HN.out
                    exact ⟨true, t + 1, by omega, rfl, by go_num, ⟨F', u1, u2, u3, fun _ => u4, fun h => by cases h⟩, (HBx.out.setCell (p := ⟨w.heap.size + 1, y, none⟩) (by simp) _).alloc (by simp; omega) _⟩
                · rw [hfy] at ky
                  have HN := Lib.hid (show ∃ F', RowF (wr.alloc (.cells #[.int .i64 x, .int .i64 y, .int .i64 ec, .int .i64 eb, .int .i64 em] 54)) (w.heap.size + 1) S F' ∧ SoundF st es F' ∧ StartF st F' st.length ∧ (mb = true → cntF F' S < C) ∧ (mb = false → EdgeF es F' (t + 1) ∧ cntF F' S = C) from
                    ⟨F, HRF.out.alloc _, HSF.out, HTF.out, HCT.out, fun h => ⟨HEN.out (HEF.out h).1 (fun _ => hfy), (HEF.out h).2⟩⟩)
                  clear HRF HSF HTF HCT HEF HSE HEN hfx hfy
                  go_wp2_with fail
                  go_roundg q
                  case measure => omega
                  case rel => exact ⟨mb, t + 1, by omega, rfl, by go_num, HN, HBx.out.alloc (by omega) _⟩
    | succ q =>
      have ht1 : t < n := by omega
      have hti2 : (t : Int) < (n : Int) := by omega
      obtain ⟨b, off, rfl, hlt, hcell⟩ := (HI.out.below HBw.out).at_ ht1
      have hct := hcell t ht1
      obtain ⟨s, hs, hsS⟩ := HST.out t ht1
      have HN := Lib.hid (show ∃ F', RowF (wr.setCell ⟨w.heap.size + 1, s, none⟩ (.bool true)) (w.heap.size + 1) S F' ∧ SoundF st es F' ∧ StartF st F' (t + 1) from
        ⟨updB F s, HRF.out.upd, sound_start HSF.out (by rw [HIL.out]; exact ht1) hs, start_next HTF.out hs⟩)
      have ks := HRF.out.cell hsS
      have hfz := HRF.out.free s
      rw [hs] at hct
      have hs0 : (0 : Int) ≤ (s : Int) := by omega
      have hs1 : (s : Int) < (S : Int) := by omega
      clear hcell HRF HSF HTF hs
      go_wp2_with fail
      go_roundg q
      case measure => omega
      case rel => exact ⟨t + 1, by omega, by go_num, HN, HBx.out.setCell (p := ⟨w.heap.size + 1, s, none⟩) (by simp) _⟩

end Go.Proofs.Ytfblnadmbfhjiaa.Wd

namespace Go.Proofs.Ytfblnadmbfhjiaa.Wd
open Go.RowKit
set_option linter.unusedVariables false
set_option linter.unusedSimpArgs false

/-- What was seen, and what waits: the boxes bs (a row of bools at br) and bw (an own row of states). -/
structure Seen (B bs bw br S : Nat) (w : World) (F : Nat → Bool) (v : Value) (L : List Int) : Prop where
  seen : w.cell? ⟨bs, 0, none⟩ = some (.slice (some ⟨br, 0, none⟩) S S)
  row : RowF w br S F
  wait : w.cell? ⟨bw, 0, none⟩ = some v
  free : w.frozen? ⟨bw, 0, none⟩ = false
  own : w.ownsRow B 3 1 v L.length (L.map (Value.int .i64))
  lt : bs < B ∧ bw < B ∧ br < B ∧ bs ≠ bw ∧ br ≠ bw ∧ bs ≠ br
  size : B ≤ w.heap.size

/-- Below B only the blocks br and bw may have turned. -/
structure KeepT (B br bw : Nat) (w w' : World) : Prop where
  os : w'.os = w.os
  tape : w'.tape = w.tape
  output : w'.output = w.output
  size : w.heap.size ≤ w'.heap.size
  block : ∀ j, j < B → j ≠ br → j ≠ bw → w'.heap[j]? = w.heap[j]?

set_option maxRecDepth 100000 in
set_option maxHeartbeats 4000000 in
theorem meet_old (B bs bw br S s : Nat) (F : Nat → Bool) (v : Value) (L : List Int) (w : World) (h : Seen B bs bw br S w F v L) (hs : s < S) (hf : F s = true) :
    Calls Try.prog 63 #[.int .i64 s, .pointer (some ⟨bs, 0, none⟩), .pointer (some ⟨bw, 0, none⟩)] w fun e w' => (∃ r, e = .returned r) ∧ w = w' := by
  have p0 := h.seen
  have p1 := h.row.cell hs
  rw [hf] at p1
  have hs0 : (0 : Int) ≤ (s : Int) := by omega
  have hs1 : (s : Int) < (S : Int) := by omega
  clear h hf
  go_enter Try.func63, Try.ntmps63
  go_wp2_with fail
  exact bodyPost_end (results_none rfl _ _ _) rfl ⟨⟨_, rfl⟩, rfl⟩

theorem one_at (w : World) (g : Nat) (hg : w.heap.size = g) (x : Int) (t : TypeId) : Ints (w.alloc (.cells #[.int .i64 x] t)) (some ⟨g, 0, none⟩) 1 [x] := one_new w g hg x t

set_option maxRecDepth 100000 in
set_option maxHeartbeats 4000000 in
theorem meet_new (B bs bw br S s : Nat) (F : Nat → Bool) (v : Value) (L : List Int) (w : World) (h : Seen B bs bw br S w F v L) (hs : s < S) (hf : F s = false) (hL : L.length ≤ 100000) :
    Calls Try.prog 63 #[.int .i64 s, .pointer (some ⟨bs, 0, none⟩), .pointer (some ⟨bw, 0, none⟩)] w fun e w' => (∃ r, e = .returned r) ∧ (∃ v', Seen B bs bw br S w' (updB F s) v' (L ++ [(s : Int)])) ∧ KeepT B br bw w w' := by
  obtain ⟨i0, hi, hi0, hi1, hi2⟩ := info_parts int_row
  have p0 := h.seen
  have p1 := h.row.cell hs
  have p2 := h.row.free s
  have p3 := h.wait
  have p4 := h.free
  rw [hf] at p1
  have HS := Lib.hid h
  have HRU := Lib.hid (h.row.upd (j := s))
  have hs0 : (0 : Int) ≤ (s : Int) := by omega
  have hs1 : (s : Int) < (S : Int) := by omega
  obtain ⟨l1, l2, l3, n1, n2, n3⟩ := h.lt
  have hz := h.size
  have d1 : bs < w.heap.size := by omega
  have d2 : bw < w.heap.size := by omega
  have d3 : br < w.heap.size := by omega
  have n4 : ¬ bw = bs := fun e => n1 e.symm
  have n5 : ¬ bw = br := fun e => n2 e.symm
  have n6 : ¬ br = bs := fun e => n3 e.symm
  have HOX := Lib.hid (ownsRow_setCell_below h.own (a := ⟨br, s, none⟩) l3 (.bool true))
  obtain ⟨Av, cv, hve, hcv⟩ := own_slice h.own
  clear h hf
  subst hve
  have HB1 := Lib.hid (show Below B w ((w.setCell ⟨br, s, none⟩ (.bool true)).alloc (.cells #[.int .i64 s] 3)) → True from fun _ => trivial)
  go_enter Try.func63, Try.ntmps63
  go_wp2_with (at_builtin; refine wpList_append_ints _ (by rfl) _ _ 22 (by rfl) B 3 i0 _ Try.underlying22 hi hi0 hi1 hi2 rfl (.slice Av L.length cv) L.length (L.map (Value.int .i64)) (by rfl) (by exact HOX.out.alloc _) (some ⟨w.heap.size, 0, none⟩) 1 1 [(s : Int)] (by rfl) (by exact one_at (w.setCell ⟨br, s, none⟩ (.bool true)) w.heap.size (by simp) s _) (by omega) (by simp; omega) ?_)
  intro v' w2 hown hgrow hat
  have HBA := Lib.hid (show Below B (w.setCell ⟨br, s, none⟩ (.bool true)) ((w.setCell ⟨br, s, none⟩ (.bool true)).alloc (.cells #[.int .i64 s] 3)) from (Below.refl _ _).alloc (by simp; omega) _)
  have HBB := Lib.hid (HBA.out.trans (below_own (HOX.out.alloc _) hgrow (by simp; omega)))
  have HOW := Lib.hid hown
  obtain ⟨A', c', hve, hcc⟩ := own_slice hown
  subst hve
  have k3 : w2.cell? ⟨bw, 0, none⟩ = some (.slice Av L.length cv) := (HBB.out.cell (p := ⟨bw, 0, none⟩) l2).trans ((World.cell?_setCell_other w ⟨br, s, none⟩ ⟨bw, 0, none⟩ _ (by simp [n2])).trans p3)
  have k4 : w2.frozen? ⟨bw, 0, none⟩ = false := (HBB.out.frozen (p := ⟨bw, 0, none⟩) l2).trans (by rw [World.frozen?_setCell]; exact p4)
  have k0 : w2.cell? ⟨bs, 0, none⟩ = some (.slice (some ⟨br, 0, none⟩) S S) := (HBB.out.cell (p := ⟨bs, 0, none⟩) l1).trans ((World.cell?_setCell_other w ⟨br, s, none⟩ ⟨bs, 0, none⟩ _ (by simp [n6])).trans p0)
  have HRW := Lib.hid (show RowF w2 br S (updB F s) from World.rowIs.of_block HRU.out (HBB.out.block br l3))
  have hsz : B ≤ w2.heap.size := by have := HBB.out.size; simp at this; omega
  have d4 : bw < w2.heap.size := by omega
  clear hown hgrow hat p0 p1 p2 p3 p4 HOX HRU
  go_wp2_with fail
  refine bodyPost_end (results_none rfl _ _ _) rfl ⟨⟨_, rfl⟩, ⟨.slice A' (L.length + 1) c', ?_⟩, ⟨HBB.out.os, HBB.out.tape, HBB.out.output, by have := HBB.out.size; simpa using this, fun j hj h1 h2 => (Go.Deep.blk_setCell_other w2 _ _ _ h2).trans ((HBB.out.block j hj).trans (Go.Deep.blk_setCell_other w _ _ _ h1))⟩⟩
  have hlen : (L ++ [(s : Int)]).length = L.length + 1 := by simp
  refine ⟨(World.cell?_setCell_other w2 ⟨bw, 0, none⟩ ⟨bs, 0, none⟩ _ (by simp [n4])).trans k0, World.rowIs.setOther HRW.out (a := ⟨bw, 0, none⟩) n2 _, World.cell?_setCell_same w2 _ _ k3, by rw [World.frozen?_setCell]; exact k4, ?_, ⟨l1, l2, l3, n1, n2, n3⟩, by simpa using hsz⟩
  rw [hlen, List.map_append]
  exact ownsRow_setCell_below HOW.out (a := ⟨bw, 0, none⟩) l2 _

end Go.Proofs.Ytfblnadmbfhjiaa.Wd

namespace Go.Proofs.Ytfblnadmbfhjiaa.Wd
open Go.RowKit
set_option linter.unusedVariables false

structure Mets (st : List Int) (es : List Ed) (S : Nat) (F : Nat → Bool) (L : List Int) : Prop where
  mem : ∀ i : Nat, F i = true ↔ (i : Int) ∈ L
  lt : ∀ x, x ∈ L → ∃ i : Nat, x = (i : Int) ∧ i < S
  sound : SoundF st es F
  len : L.length + cntF F S = S

theorem cntF_none (S : Nat) : cntF (fun _ => false) S = S := by
  induction S with
  | zero => rfl
  | succ n ih => unfold cntF; rw [ih, if_neg (by decide)]; omega
theorem Mets.start (st : List Int) (es : List Ed) (S : Nat) : Mets st es S (fun _ => false) [] :=
  ⟨fun i => by simp, fun x h => (by cases h), (fun i h => by cases h), by rw [cntF_none]; simp⟩
theorem Mets.short {st : List Int} {es : List Ed} {S : Nat} {F : Nat → Bool} {L : List Int} (h : Mets st es S F L) : L.length ≤ S := by have := h.len; omega
theorem Mets.next {st : List Int} {es : List Ed} {S s : Nat} {F : Nat → Bool} {L : List Int} (h : Mets st es S F L) (hs : s < S) (hf : F s = false) (hr : Rch st es s) : Mets st es S (updB F s) (L ++ [(s : Int)]) := by
  refine ⟨fun i => ⟨fun hi => ?_, fun hi => ?_⟩, fun x hx => ?_, fun i hi => ?_, ?_⟩
  · rcases updB_true hi with rfl | h2
    · simp
    · exact List.mem_append.2 (.inl ((h.mem i).1 h2))
  · rcases List.mem_append.1 hi with h2 | h2
    · exact updB_mono ((h.mem i).2 h2)
    · obtain rfl : i = s := by have := List.mem_singleton.1 h2; omega
      exact updB_same F i
  · rcases List.mem_append.1 hx with h2 | h2
    · exact h.lt x h2
    · exact ⟨s, List.mem_singleton.1 h2, hs⟩
  · rcases updB_true hi with rfl | h2
    · exact hr
    · exact h.sound i h2
  · have h1 := cntF_set hf S hs
    have h2 := h.len
    simp only [List.length_append, List.length_cons, List.length_nil]
    omega

/-- The states that were followed: all that their edges lead to has been seen. -/
def DoneF (es : List Ed) (F : Nat → Bool) (L : List Int) (k : Nat) : Prop :=
  ∀ j k' a b : Nat, j < k → k' < es.length → (es.getD k' ed0).f = (a : Int) → L.getD j 0 = (a : Int) → (es.getD k' ed0).t = (b : Int) → F b = true
/-- Of the edges from s the first u. -/
def PartF (es : List Ed) (F : Nat → Bool) (s u : Nat) : Prop := ∀ v k b : Nat, v < u → (fromL es s es.length).getD v 0 = (k : Int) → (es.getD k ed0).t = (b : Int) → F b = true
/-- More was seen. -/
def MoreF (F F' : Nat → Bool) (L L' : List Int) : Prop := (∀ i, F i = true → F' i = true) ∧ ∃ l, L' = L ++ l
theorem MoreF.refl (F : Nat → Bool) (L : List Int) : MoreF F F L L := ⟨fun _ h => h, [], by simp⟩
theorem MoreF.at_ {F F' : Nat → Bool} {L L' : List Int} (h : MoreF F F' L L') {j : Nat} (hj : j < L.length) : L'.getD j 0 = L.getD j 0 := by
  obtain ⟨_, l, rfl⟩ := h
  simp [List.getD_eq_getElem?_getD, List.getElem?_append_left hj]
theorem MoreF.take {F F' : Nat → Bool} {L L' : List Int} (h : MoreF F F' L L') {j : Nat} (hj : j ≤ L.length) : L'.take j = L.take j := by
  obtain ⟨_, l, rfl⟩ := h
  rw [List.take_append_of_le_length hj]
theorem MoreF.len {F F' : Nat → Bool} {L L' : List Int} (h : MoreF F F' L L') : L.length ≤ L'.length := by
  obtain ⟨_, l, rfl⟩ := h
  simp
theorem DoneF.more {es : List Ed} {F F' : Nat → Bool} {L L' : List Int} {k : Nat} (h : DoneF es F L k) (hm : MoreF F F' L L') (hk : k ≤ L.length) : DoneF es F' L' k := by
  intro j k' a b hj h1 h2 h3 h4
  rw [hm.at_ (by omega)] at h3
  exact hm.1 b (h j k' a b hj h1 h2 h3 h4)
theorem StartF.more {st : List Int} {F F' : Nat → Bool} {L L' : List Int} {t : Nat} (h : StartF st F t) (hm : MoreF F F' L L') : StartF st F' t := fun k s hk hs => hm.1 s (h k s hk hs)
theorem PartF.more {es : List Ed} {F F' : Nat → Bool} {L L' : List Int} {s u : Nat} (h : PartF es F s u) (hm : MoreF F F' L L') : PartF es F' s u := fun v k b hv h1 h2 => hm.1 b (h v k b hv h1 h2)

theorem fromL_mem {es : List Ed} {s k n : Nat} (hk : k < n) (h : (es.getD k ed0).f = (s : Int)) : (k : Int) ∈ fromL es s n := by
  unfold fromL
  exact List.mem_map.2 ⟨k, List.mem_filter.2 ⟨List.mem_range.2 hk, decide_eq_true h⟩, rfl⟩
theorem fromL_is {es : List Ed} {s n : Nat} {x : Int} (h : x ∈ fromL es s n) : ∃ k : Nat, x = (k : Int) ∧ k < n ∧ (es.getD k ed0).f = (s : Int) := by
  unfold fromL at h
  obtain ⟨k, hk, rfl⟩ := List.mem_map.1 h
  have h2 := List.mem_filter.1 hk
  exact ⟨k, rfl, List.mem_range.1 h2.1, of_decide_eq_true h2.2⟩
theorem fromL_at {es : List Ed} {s n u : Nat} (h : u < (fromL es s n).length) : ∃ k : Nat, (fromL es s n).getD u 0 = (k : Int) ∧ k < n ∧ (es.getD k ed0).f = (s : Int) :=
  fromL_is (by rw [List.getD_eq_getElem?_getD, List.getElem?_eq_getElem h]; exact List.getElem_mem h)
theorem PartF.step {es : List Ed} {F : Nat → Bool} {s u k b : Nat} (h : PartF es F s u) (hk : (fromL es s es.length).getD u 0 = (k : Int)) (hb : (es.getD k ed0).t = (b : Int)) (hf : F b = true) : PartF es F s (u + 1) := by
  intro v k' b' hv h1 h2
  by_cases e : v = u
  · subst e
    obtain rfl : k = k' := by omega
    obtain rfl : b = b' := by omega
    exact hf
  · exact h v k' b' (by omega) h1 h2
theorem PartF.zero (es : List Ed) (F : Nat → Bool) (s : Nat) : PartF es F s 0 := fun v k b hv => by omega
theorem DoneF.step {es : List Ed} {F : Nat → Bool} {L : List Int} {k s : Nat} (h : DoneF es F L k) (hs : L.getD k 0 = (s : Int)) (hp : PartF es F s (fromL es s es.length).length) : DoneF es F L (k + 1) := by
  intro j k' a b hj h1 h2 h3 h4
  by_cases e : j = k
  · subst e
    obtain rfl : s = a := by omega
    have hm := fromL_mem h1 h2
    obtain ⟨v, hv, he⟩ := List.getElem_of_mem hm
    exact hp v k' b hv (by rw [List.getD_eq_getElem?_getD, List.getElem?_eq_getElem hv]; exact he) h4
  · exact h j k' a b (by omega) h1 h2 h3 h4
theorem all_done {st : List Int} {es : List Ed} {S : Nat} {F : Nat → Bool} {L : List Int} (hm : Mets st es S F L) (hs : StartF st F st.length) (hd : DoneF es F L L.length) (i : Nat) : F i = true ↔ Rch st es i := by
  refine reach_done hm.sound hs (fun k a b hk ha hb hf => ?_) i
  obtain ⟨j, hj, he⟩ := List.getElem_of_mem ((hm.mem a).1 hf)
  exact hd j k a b hj hk ha (by rw [List.getD_eq_getElem?_getD, List.getElem?_eq_getElem hj]; exact he) hb

/-- Which states have been handed out: those of the list, so far. -/
def GaveF (G : Nat → Bool) (L : List Int) (k : Nat) : Prop := ∀ i : Nat, G i = true ↔ (i : Int) ∈ L.take k
theorem GaveF.zero (L : List Int) : GaveF (fun _ => false) L 0 := fun i => by simp
theorem GaveF.step {G : Nat → Bool} {L : List Int} {k s : Nat} (h : GaveF G L k) (hk : k < L.length) (hs : L.getD k 0 = (s : Int)) : GaveF (updB G s) L (k + 1) := by
  have e : L[k] = (s : Int) := by rw [List.getD_eq_getElem?_getD, List.getElem?_eq_getElem hk] at hs; exact hs
  intro i
  rw [List.take_succ_eq_append_getElem hk, e, List.mem_append, List.mem_singleton]
  constructor
  · intro hi
    rcases updB_true hi with rfl | h2
    · exact .inr rfl
    · exact .inl ((h i).1 h2)
  · rintro (h2 | h2)
    · exact updB_mono ((h i).2 h2)
    · obtain rfl : i = s := by omega
      exact updB_same G i

/-- What meet leaves. -/
def MetR (st : List Int) (es : List Ed) (B bs bw br S s : Nat) (F : Nat → Bool) (L : List Int) (w w' : World) : Prop :=
  ∃ F' v' L', Seen B bs bw br S w' F' v' L' ∧ Mets st es S F' L' ∧ F' s = true ∧ MoreF F F' L L' ∧ KeepT B br bw w w'

theorem KeepT.refl (B br bw : Nat) (w : World) : KeepT B br bw w w := ⟨rfl, rfl, rfl, Nat.le_refl _, fun _ _ _ _ => rfl⟩

theorem meet_any (st : List Int) (es : List Ed) (B bs bw br S s : Nat) (F : Nat → Bool) (v : Value) (L : List Int) (w : World) (h : Seen B bs bw br S w F v L) (hm : Mets st es S F L) (hs : s < S) (hS : S ≤ 3000) (hr : Rch st es s) :
    Calls Try.prog 63 #[.int .i64 s, .pointer (some ⟨bs, 0, none⟩), .pointer (some ⟨bw, 0, none⟩)] w fun e w' => (∃ r, e = .returned r) ∧ MetR st es B bs bw br S s F L w w' := by
  cases hf : F s
  · refine (meet_new B bs bw br S s F v L w h hs hf (by have := hm.short; omega)).mono fun e w' h2 => ?_
    obtain ⟨hr2, ⟨v', hv'⟩, hk⟩ := h2
    exact ⟨hr2, updB F s, v', L ++ [(s : Int)], hv', hm.next hs hf hr, updB_same F s, ⟨fun i hi => updB_mono hi, [(s : Int)], rfl⟩, hk⟩
  · refine (meet_old B bs bw br S s F v L w h hs hf).mono fun e w' h2 => ?_
    obtain ⟨hr2, rfl⟩ := h2
    exact ⟨hr2, F, v, L, h, hm, hf, MoreF.refl F L, KeepT.refl _ _ _ _⟩

end Go.Proofs.Ytfblnadmbfhjiaa.Wd

namespace Go.Proofs.Ytfblnadmbfhjiaa.Wd
open Go.RowKit

/-- What lay at B or beyond lies as it lay. -/
structure Over (B : Nat) (W W' : World) : Prop where
  os : W'.os = W.os
  tape : W'.tape = W.tape
  output : W'.output = W.output
  size : W.heap.size ≤ W'.heap.size
  block : ∀ k, B ≤ k → k < W.heap.size → W'.heap[k]? = W.heap[k]?
theorem Over.refl (B : Nat) (W : World) : Over B W W := ⟨rfl, rfl, rfl, Nat.le_refl _, fun _ _ _ => rfl⟩
theorem Over.trans {B : Nat} {a b c : World} (h : Over B a b) (k : Over B b c) : Over B a c :=
  ⟨k.os.trans h.os, k.tape.trans h.tape, k.output.trans h.output, Nat.le_trans h.size k.size, fun i hi hl => (k.block i hi (Nat.lt_of_lt_of_le hl h.size)).trans (h.block i hi hl)⟩
theorem Over.mono {B B' : Nat} {a b : World} (h : Over B a b) (hB : B ≤ B') : Over B' a b := ⟨h.os, h.tape, h.output, h.size, fun i hi hl => h.block i (Nat.le_trans hB hi) hl⟩
theorem Over.setCell (B : Nat) (W : World) {a : Addr} (ha : a.block < B) (v : Value) : Over B W (W.setCell a v) :=
  ⟨(Below.refl 0 W |>.setCell (p := a) (Nat.zero_le _) v).os, (Below.refl 0 W |>.setCell (p := a) (Nat.zero_le _) v).tape, (Below.refl 0 W |>.setCell (p := a) (Nat.zero_le _) v).output, (KeepsWalks.setCell W a v).size, fun k hk _ => Below.heap_setCell W a v k (by omega)⟩
theorem Over.putObj (B : Nat) (W : World) {r : Nat} (o : Obj) (hr : r < B) : Over B W (W.putObj r o) :=
  ⟨rfl, rfl, rfl, by simp, fun k hk _ => World.putObj_heap_other (by omega)⟩
theorem below_putObj {B : Nat} (W : World) {r : Nat} (o : Obj) (hr : B ≤ r) : Below B W (W.putObj r o) :=
  ⟨rfl, rfl, rfl, by simp, fun k hk => World.putObj_heap_other (by omega)⟩

/-- How a round of such a loop may be left. -/
def onOver (B : Nat) (I : World → Prop) (W : World) : Exit → Act → World → Prop
  | .normal, _, W' => Over B W W' ∧ I W'
  | .exit _, _, _ => False
  | .ret, _, _ => False
  | .goto _, _, _ => False
  | .panic _, _, _ => False
  | .outgrown, _, _ => False

variable {F : Fence} {n : Nat} {P : Program}

theorem range_whole {β : Type} {g : Operand} {ps : Array Tmp} {assign body : Code} {Q : Exit → Act → World → Prop} {a : Act} {w : World}
    (hro : F.round = none) (h1 : 1 ≤ n) {gf : Nat} {lb : Array Value} (hg : a.eval g = .func (.func gf) #[] lb) (hFg : F.fn gf) (eg : ∀ args w, (callFunc gf args).run P w = .ok (.enter gf args) w)
    (f : Nat → Value) (N : Nat) (up : β → Nat → β) (b0 : β) (R : β → Prop) (St : World → Prop) (hps : ps.size = 1)
    (hseq : ∀ (l : Nat) (J : β → World → Prop) (W : World), (∀ G W1 W2, J G W1 → Below (w.heap.size + 2) W1 W2 → J G W2) → (∀ G W1, J G W1 → St W1) →
      (∀ G x W1, J G W1 → x < N → YieldAt F (n - 1 - 1) P l #[f x] W1 fun e W' => e = .returned (.bool true) ∧ J (up G x) W' ∧ Over (w.heap.size + 2) W1 W') → w.heap.size + 2 ≤ W.heap.size → J b0 W →
      CallsIn F (n - 1) P gf (#[.func (.yield l) #[] #[]] ++ lb) W fun e W' => (∃ v, e = .returned v) ∧ ∃ G, R G ∧ J G W')
    (I : β → World → Prop) (hI : ∀ G W1 W2, I G W1 → Below w.heap.size W1 W2 → I G W2) (hIS : ∀ G W, I G W → St W) (h0 : I b0 w)
    (a₁ : Value → Act)
    (hassign : ∀ (l : Nat) (x : Value) (W : World) (K : Act → World → Prop), K (a₁ x) W →
      assign.wpIn (F.inRound l) (n - 1 - 1) P (Exit.then K (fun _ _ _ => False)) { tmps := (ps.zip #[x]).foldl (fun t (p, v) => t.setIfInBounds p v) a.tmps, defers := [] } W)
    (hbody : ∀ (l : Nat) (G : β) (x : Nat) (W : World), I G W → x < N → w.heap.size ≤ W.heap.size → body.wpIn (F.inRound l) (n - 1 - 1) P (onOver w.heap.size (I (up G x)) W) (a₁ (f x)) W)
    (hdone : ∀ (D : Nat) (G : β) (W : World), w.heap.size ≤ D → R G → I G W → W.heap[D]? = some (.deferred (some [])) → Q .normal { a with defers := { target := .collected D, args := #[] } :: a.defers } W) :
    (Code.rangeFunc g ps assign body).wpIn F n P Q a w := by
  refine wpIn_rangeFunc fun fn hfn => ?_
  rw [hro]
  let Rc : LoopState → Option Code → Loop := fun st pe => { state := st, pending := pe, fn := fn, tmps := a.tmps, params := ps, assign := assign, body := body, defers := w.heap.size }
  obtain ⟨V, hV⟩ : ∃ V, (w.alloc (.deferred (some []))).alloc (.loop (Rc .ready none)) = V := ⟨_, rfl⟩
  have v1 : V.heap[w.heap.size + 1]? = some (.loop (Rc .ready none)) := by
    rw [← hV]
    have := World.alloc_heap_new (w.alloc (.deferred (some []))) (.loop (Rc .ready none))
    rwa [World.size_alloc] at this
  have v0 : V.heap[w.heap.size]? = some (.deferred (some [])) := by
    rw [← hV]
    exact (Below.heap_alloc _ _ _ (by simp)).trans (World.alloc_heap_new w _)
  have hI1 : I b0 V := by rw [← hV]; exact hI _ _ _ h0 (((Below.refl _ w).alloc (Nat.le_refl _) _).alloc (by simp) _)
  have hVs : w.heap.size + 2 ≤ V.heap.size := by rw [← hV]; simp
  refine ⟨w.heap.size + 1, [{ target := .collected w.heap.size, args := #[] }], V, { target := .fn (.func gf) lb, args := #[.func (.yield (w.heap.size + 1)) #[] #[]] }, V, gf,
    #[.func (.yield (w.heap.size + 1)) #[] #[]] ++ lb, V, by rw [← hV]; exact run_enterLoop_outer _ _ _ _ _, by simp only [resolve, hg]; simp [go_sem], ?_, by simp [invoke, go_sem, eg], fun _ => h1, ?_⟩
  · intro f' hf'
    simp [Target.leads] at hf'
    subst hf'
    exact hFg
  refine (hseq (w.heap.size + 1)
    (fun G W => I G W ∧ W.heap[w.heap.size + 1]? = some (.loop (Rc .ready none)) ∧ W.heap[w.heap.size]? = some (.deferred (some [])))
    V (fun G W1 W2 h hb => ⟨hI _ _ _ h.1 (hb.mono (by omega)), (hb.block _ (by omega)).trans h.2.1, (hb.block _ (by omega)).trans h.2.2⟩) (fun G W1 h => hIS _ _ h.1) ?_ hVs ⟨hI1, v1, v0⟩).mono ?_
  · rintro G x W ⟨hi, hl, hk⟩ hx
    have hlt : w.heap.size + 1 < W.heap.size := (Array.getElem?_eq_some_iff.1 hl).1
    refine ⟨fn, _, assign, body, run_yield (P := P) (args := #[f x]) hl (by show 1 = ps.size; exact hps.symm), roundIn_of_wpIn hfn (hassign _ (f x) W _ ⟨_, run_beginRound hl rfl, ?_⟩)⟩
    obtain ⟨B, hB⟩ : ∃ B, W.putObj (w.heap.size + 1) (.loop (Rc .busy none)) = B := ⟨_, rfl⟩
    have b1 : B.heap[w.heap.size + 1]? = some (.loop (Rc .busy none)) := by rw [← hB]; exact World.putObj_heap_same hlt
    have b0 : B.heap[w.heap.size]? = some (.deferred (some [])) := by rw [← hB]; exact (World.putObj_heap_other (by omega)).trans hk
    have hib : I G B := by rw [← hB]; exact hI _ _ _ hi (below_putObj _ _ (by omega))
    have hov : Over (w.heap.size + 2) W B := by rw [← hB]; exact Over.putObj _ _ _ (by omega)
    have hsz : w.heap.size + 1 < B.heap.size := (Array.getElem?_eq_some_iff.1 b1).1
    show body.wpIn (F.inRound (w.heap.size + 1)) (n - 1 - 1) P _ (a₁ (f x)) (W.putObj (w.heap.size + 1) (.loop (Rc .busy none)))
    rw [hB]
    refine wpIn_mono (hbody _ G x B hib hx (by omega)) ?_
    rintro e a3 W3 hp
    cases e with
    | normal =>
      obtain ⟨hov3, hi3⟩ := hp
      have c1 := (hov3.block _ (by omega) hsz).trans b1
      have c0 := (hov3.block _ (by omega) (by omega)).trans b0
      exact ⟨_, _, run_endRound (P := P) none c1, rfl, ⟨hI _ _ _ hi3 (below_putObj _ _ (by omega)), World.putObj_heap_same (Array.getElem?_eq_some_iff.1 c1).1, (World.putObj_heap_other (by omega)).trans c0⟩, (hov.trans (hov3.mono (by omega))).trans (Over.putObj _ _ _ (by omega))⟩
    | exit i => exact hp.elim
    | ret => exact hp.elim
    | goto t => exact hp.elim
    | panic ch => exact hp.elim
    | outgrown => exact hp.elim
  · rintro e W2 ⟨⟨v, rfl⟩, G, hR, hi, hl, hk⟩
    refine ⟨none, _, run_endLoop (P := P) hl (by simp [Rc]), hdone _ _ _ (Nat.le_refl _) hR (hI _ _ _ hi (below_putObj _ _ (by omega))) ((World.putObj_heap_other (by omega)).trans hk)⟩

end Go.Proofs.Ytfblnadmbfhjiaa.Wd
