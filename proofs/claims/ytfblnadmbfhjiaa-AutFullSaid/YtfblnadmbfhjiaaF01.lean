/-
  Bits of numbers, for the acceptance of runs: no program is looked at here.
  The greatest bit of a number: no program is looked at here.
  Slices of ints as they lie in memory, and small words for worlds, for the walks of the packages word and lodesmanref01.
  Plain facts on ultimately periodic words: the least eventual period of a loop, and that a normal form is determined by the letters alone. No program in it.
  The small functions of package word: size, allLetters, Valid, period.
  The acceptance of package aut: what the six kinds permit and accept.
  Automata as data: edges, and what makes an automaton valid. No program is looked at here.
  validStart and validEdges of package aut, for all lists.
-/
import Derived.Laws.BitsLemmas
import Derived.Below
import Derived.Lib.ItoaNum
import Derived.Laws.OwnMore
import Derived.Deep.Draws
import Derived.Deep.AppendLies
import Derived.Test.YtfblnadmbfhjiaaProg
import Derived.WalkKit
import Derived.WalkSpells
import Derived.BigQuiet
import Derived.Deep.QuietTactic
import Derived.Deep.LoopGhost
import Derived.Lib.Hide
import Derived.Shelf.Lay
import Derived.Shelf.Small.Bits
import Derived.RegionTactic
namespace Go.Proofs.Ytfblnadmbfhjiaa.Wd
open Go Go.RowKit

theorem and3 (n : Int) : bits .and .i64 n 3 = n % 4 := by
  have h : (BitVec.ofInt 64 3).toNat = 2 ^ 2 - 1 := by decide
  have key : (BitVec.ofInt 64 n &&& BitVec.ofInt 64 3).toNat = (n % ((2 ^ 64 : Nat) : Int)).toNat % 2 ^ 2 := by
    rw [BitVec.toNat_and, BitVec.toNat_ofInt, h, Nat.and_two_pow_sub_one_eq_mod]
  show IntKind.i64.wrap ((BitVec.ofInt 64 n &&& BitVec.ofInt 64 3).toNat : Nat) = n % 4
  rw [key, IntKind.wrap_i64]
  omega
theorem and1 (n : Int) : bits .and .i64 n 1 = n % 2 := by
  have h : (BitVec.ofInt 64 1).toNat = 2 ^ 1 - 1 := by decide
  have key : (BitVec.ofInt 64 n &&& BitVec.ofInt 64 1).toNat = (n % ((2 ^ 64 : Nat) : Int)).toNat % 2 ^ 1 := by
    rw [BitVec.toNat_and, BitVec.toNat_ofInt, h, Nat.and_two_pow_sub_one_eq_mod]
  show IntKind.i64.wrap ((BitVec.ofInt 64 n &&& BitVec.ofInt 64 1).toNat : Nat) = n % 2
  rw [key, IntKind.wrap_i64]
  omega

/-- Is the bit i set? -/
def hasB (x : Int) (i : Nat) : Bool := decide (x / 2 ^ i % 2 = 1)
/-- Is of some pair the second bit set, and the first one not? -/
def pairB (m : Nat) (x : Int) : Bool := (List.range m).any fun i => decide (i % 2 = 0) && decide (x / 2 ^ i % 4 = 2)

theorem pairB_zero (x : Int) : pairB 0 x = false := rfl
theorem pairB_step {i : Nat} {x : Int} (h : i % 2 = 0) (hx : ¬ x / 2 ^ i % 4 = 2) : pairB (i + 2) x = pairB i x := by
  unfold pairB
  rw [List.range_succ, List.range_succ]
  simp only [List.any_append, List.any_cons, List.any_nil, Bool.or_false]
  rw [show decide (x / 2 ^ i % 4 = 2) = false from decide_eq_false hx, show decide ((i + 1) % 2 = 0) = false from decide_eq_false (by omega)]
  simp
theorem pairB_true {i m : Nat} {x : Int} (h : i % 2 = 0) (hm : i < m) (hx : x / 2 ^ i % 4 = 2) : pairB m x = true := by
  unfold pairB
  rw [List.any_eq_true]
  exact ⟨i, List.mem_range.2 hm, by simp [h, hx]⟩

theorem half_pow (x : Int) (i : Nat) : x / 2 ^ (i + 1) = x / 2 ^ i / 2 := by
  rw [Int.ediv_ediv_of_nonneg (by exact Int.le_of_lt (Int.pow_pos (by decide))), Int.pow_succ]
/-- The two bits of a pair. -/
theorem has_pair (x : Int) (i : Nat) : (!hasB x i && hasB x (i + 1)) = decide (x / 2 ^ i % 4 = 2) := by
  unfold hasB
  rw [half_pow]
  generalize x / 2 ^ i = y
  by_cases h1 : y % 2 = 1 <;> by_cases h2 : y / 2 % 2 = 1
  · rw [decide_eq_true h1, decide_eq_false (show ¬ y % 4 = 2 by omega)]; rfl
  · rw [decide_eq_true h1, decide_eq_false (show ¬ y % 4 = 2 by omega)]; rfl
  · rw [decide_eq_false h1, decide_eq_true h2, decide_eq_true (show y % 4 = 2 by omega)]; rfl
  · rw [decide_eq_false h1, decide_eq_false h2, decide_eq_false (show ¬ y % 4 = 2 by omega)]; rfl

end Go.Proofs.Ytfblnadmbfhjiaa.Wd

namespace Go.Proofs.Ytfblnadmbfhjiaa.Wd
open Go Go.RowKit

theorem bitLen_zero : Lib.bitLen 0 = 0 := rfl
theorem bitLen_between {k y : Nat} (hk : k < 64) (h1 : 2 ^ k ≤ y) (h2 : y < 2 ^ (k + 1)) : Lib.bitLen y = k + 1 := by
  have hy : y ≠ 0 := by
    have := Nat.two_pow_pos k
    omega
  obtain ⟨h3, h4, h5⟩ := Lib.bitLenAux_bounds 64 y (Nat.lt_of_lt_of_le h2 (Nat.pow_le_pow_right (by decide) (by omega))) hy
  show Lib.bitLenAux 64 y = k + 1
  generalize Lib.bitLenAux 64 y = L at *
  have a1 : L - 1 < k + 1 := (Nat.pow_lt_pow_iff_right (by decide : 1 < 2)).1 (Nat.lt_of_le_of_lt h4 h2)
  have a2 : k < L := (Nat.pow_lt_pow_iff_right (by decide : 1 < 2)).1 (Nat.lt_of_le_of_lt h1 h5)
  omega

theorem hasB_nat (x i : Nat) : hasB (x : Int) i = decide (x / 2 ^ i % 2 = 1) := by
  unfold hasB
  rw [decide_eq_decide]
  have h : ((x : Int) / 2 ^ i % 2) = ((x / 2 ^ i % 2 : Nat) : Int) := by simp
  rw [h]
  omega
/-- The greatest bit below k that is set, plus one. -/
def topN (x k : Nat) : Nat := Lib.bitLen (x % 2 ^ k)
theorem topN_zero (x : Nat) : topN x 0 = 0 := by
  unfold topN
  rw [Nat.pow_zero, Nat.mod_one]
  rfl
theorem topN_set {x k : Nat} (hk : k < 64) (h : hasB (x : Int) k = true) : topN x (k + 1) = k + 1 := by
  rw [hasB_nat, decide_eq_true_eq] at h
  have hm : x % 2 ^ (k + 1) = x % 2 ^ k + 2 ^ k * (x / 2 ^ k % 2) := by rw [Nat.pow_succ, Nat.mod_mul]
  rw [h] at hm
  have hlt : x % 2 ^ k < 2 ^ k := Nat.mod_lt _ (Nat.two_pow_pos k)
  unfold topN
  exact bitLen_between hk (by omega) (by rw [Nat.pow_succ] at hm ⊢; omega)
theorem topN_not {x k : Nat} (h : hasB (x : Int) k = false) : topN x (k + 1) = topN x k := by
  rw [hasB_nat, decide_eq_false_iff_not] at h
  have hm : x % 2 ^ (k + 1) = x % 2 ^ k + 2 ^ k * (x / 2 ^ k % 2) := by rw [Nat.pow_succ, Nat.mod_mul]
  rw [show x / 2 ^ k % 2 = 0 by omega] at hm
  unfold topN
  rw [hm]
  simp
theorem topN_all {x k : Nat} (h : x < 2 ^ k) : topN x k = Lib.bitLen x := by
  unfold topN
  rw [Nat.mod_eq_of_lt h]
theorem topN_le (x k : Nat) (hk : k ≤ 64) : topN x k ≤ k := Lib.bitLen_le _ k hk (Nat.mod_lt _ (Nat.two_pow_pos k))
/-- The greatest bit is even. -/
def evenB (x : Nat) : Bool := decide (Lib.bitLen x % 2 = 1)
theorem even_top (x k : Nat) (h : x < 2 ^ k) : (decide ((0 : Int) ≤ (topN x k : Int) - 1) && decide (((topN x k : Int) - 1).tmod 2 = 0)) = evenB x := by
  rw [topN_all h]
  unfold evenB
  generalize Lib.bitLen x = L
  rcases Nat.eq_zero_or_pos L with h0 | h0
  · subst h0; rfl
  · rw [decide_eq_true (show (0 : Int) ≤ (L : Int) - 1 by omega), Bool.true_and, decide_eq_decide, Int.tmod_eq_emod_of_nonneg (by omega)]
    omega

end Go.Proofs.Ytfblnadmbfhjiaa.Wd

namespace Go.Proofs.Ytfblnadmbfhjiaa.Wd
open Go.RowKit

/-- The slice of address A and length n holds the ints xs, in blocks that exist. -/
def Ints (w : World) (A : Option Addr) (n : Nat) (xs : List Int) : Prop :=
  xs.length = n ∧ (0 < n → ∃ b off, A = some ⟨b, off, none⟩ ∧ b < w.heap.size ∧ ∀ j, j < n → w.cell? ⟨b, off + j, none⟩ = some (.int .i64 (xs.getD j 0)))

section
variable {w w' : World} {n : Nat} {A : Option Addr} {xs : List Int}
theorem Ints.at_ {k : Nat} (h : Ints w A n xs) (hk : k < n) : ∃ b off, A = some ⟨b, off, none⟩ ∧ b < w.heap.size ∧ ∀ j, j < n → w.cell? ⟨b, off + j, none⟩ = some (.int .i64 (xs.getD j 0)) := h.2 (by omega)
theorem Ints.none_ : Ints w A 0 [] := ⟨rfl, fun h => absurd h (by omega)⟩
theorem Ints.keep (h : Ints w A n xs) (hs : w.heap.size ≤ w'.heap.size) (hk : ∀ p : Addr, p.block < w.heap.size → w'.cell? p = w.cell? p) : Ints w' A n xs :=
  ⟨h.1, fun hn => by
    obtain ⟨b, off, e, hb, hc⟩ := h.2 hn
    exact ⟨b, off, e, by omega, fun j hj => (hk _ hb).trans (hc j hj)⟩⟩
theorem Ints.below (h : Ints w A n xs) (hb : Below w.heap.size w w') : Ints w' A n xs := h.keep hb.size fun _ hp => hb.cell hp
theorem Ints.alloc (h : Ints w A n xs) (o : Obj) : Ints (w.alloc o) A n xs := h.below ((Below.refl _ _).alloc (Nat.le_refl _) o)
theorem Ints.drew (h : Ints w A n xs) : Ints w.drew A n xs := h
theorem Ints.drewN (h : Ints w A n xs) (k : Nat) : Ints (w.drewN k) A n xs := h
theorem Ints.cut (h : Ints w A n xs) {k cap : Nat} (hk : k ≤ n) (hc : n ≤ cap) :
    Ints w (if cap = k then A else A.map (·.add k)) (n - k) (xs.drop k) := by
  refine ⟨by rw [List.length_drop, h.1], fun hn => ?_⟩
  obtain ⟨b, off, rfl, hb, hcell⟩ := h.2 (by omega)
  rw [if_neg (by omega)]
  refine ⟨b, off + k, by simp [Addr.add], hb, fun j hj => ?_⟩
  have := hcell (k + j) (by omega)
  rw [show off + k + j = off + (k + j) from by omega, this]
  simp [List.getD_eq_getElem?_getD, List.getElem?_drop]
theorem Ints.take (h : Ints w A n xs) {k : Nat} (hk : k ≤ n) : Ints w A k (xs.take k) := by
  refine ⟨by rw [List.length_take, h.1]; omega, fun hn => ?_⟩
  obtain ⟨b, off, rfl, hb, hcell⟩ := h.2 (by omega)
  refine ⟨b, off, rfl, hb, fun j hj => ?_⟩
  rw [hcell j (by omega)]
  simp [List.getD_eq_getElem?_getD, hj]
theorem Ints.of_own {base : Nat} {e : TypeId} {c : Nat} (h : w.ownsRow base e 1 (.slice A n c) n (xs.map (Value.int .i64))) : Ints w A n xs := by
  have hl : xs.length = n := by have := h.1; simpa using this
  refine ⟨hl, fun hn => ?_⟩
  obtain ⟨g, cap, hv, _, hlt⟩ := h.form hn
  have hA : A = some ⟨g, 0, none⟩ := by injection hv
  subst hA
  refine ⟨g, 0, rfl, hlt, fun j hj => ?_⟩
  have hc := h.cells (g := g) rfl j (.int .i64 (xs.getD j 0)) (by simp [List.getD_eq_getElem?_getD, List.getElem?_eq_getElem (show j < xs.length by omega)])
  rw [Addr.add_lit] at hc
  exact hc
end

/-- A slice of the call's own, or nil, is a slice value of some capacity. -/
theorem own_slice {w : World} {base n : Nat} {e : TypeId} {v : Value} {xs : List Value} (h : w.ownsRow base e 1 v n xs) : ∃ A c, v = .slice A n c ∧ n ≤ c := by
  rcases h.2 with ⟨rfl, hx⟩ | ⟨g, cap, cur, hv, _, _, hc, _⟩
  · have := h.1
    subst hx
    simp at this
    subst this
    exact ⟨none, 0, rfl, Nat.le_refl _⟩
  · exact ⟨_, cap, hv, by simpa using hc⟩

/-- A store into a cell that holds no int leaves a slice of ints. -/
theorem Ints.set {w : World} {A : Option Addr} {n : Nat} {xs : List Int} (h : Ints w A n xs) {p : Addr} {v : Value} (hv : w.cell? p = some v) (hne : ∀ z, v ≠ .int .i64 z) (u : Value) : Ints (w.setCell p u) A n xs :=
  ⟨h.1, fun hn => by
    obtain ⟨b, off, e, hb, hc⟩ := h.2 hn
    refine ⟨b, off, e, by simpa [World.setCell] using hb, fun j hj => (World.cell?_setCell_other w p _ u ?_).trans (hc j hj)⟩
    rintro rfl
    have := hv.symm.trans (hc j hj)
    injection this with this
    exact hne _ this⟩
theorem ret_int {k : IntKind} {a b : Int} (h : a = b) : Ending.returned (.int k a) = .returned (.int k b) := by rw [h]
theorem ret_bool {a b : Bool} (h : a = b) : Ending.returned (.bool a) = .returned (.bool b) := by rw [h]
theorem below_drewN {B : Nat} {a w : World} (h : Below B a w) (n : Nat) : Below B a (w.drewN n) := ⟨h.os, h.tape, h.output, h.size, h.block⟩
theorem bcell {W w1 : World} (hb : Below W.heap.size W w1) : (∀ b o, b < W.heap.size → w1.cell? ⟨b, o, none⟩ = W.cell? ⟨b, o, none⟩) ∧ (∀ b o, b < W.heap.size → w1.frozen? ⟨b, o, none⟩ = W.frozen? ⟨b, o, none⟩) :=
  ⟨fun b o h => hb.cell (p := ⟨b, o, none⟩) h, fun b o h => hb.frozen (p := ⟨b, o, none⟩) h⟩

/-- Two variables laid one behind the other: what their cells hold. -/
theorem box_first (w : World) (cs : Array Value) (t : TypeId) (o : Obj) (i : Nat) : ((w.alloc (.cells cs t)).alloc o).cell? ⟨w.heap.size, i, none⟩ = cs[i]? := by
  have h : ((w.alloc (.cells cs t)).alloc o).heap[w.heap.size]? = some (.cells cs t) := by
    rw [Below.heap_alloc _ _ _ (by simp)]
    show (w.heap.push _)[w.heap.size]? = _
    simp
  simp [World.cell?, h]
theorem box_last (w : World) (cs : Array Value) (t : TypeId) (i : Nat) : (w.alloc (.cells cs t)).cell? ⟨w.heap.size, i, none⟩ = cs[i]? := by
  have h : (w.alloc (.cells cs t)).heap[w.heap.size]? = some (.cells cs t) := by
    show (w.heap.push _)[w.heap.size]? = _
    simp
  unfold World.cell?
  simp only [h]
  simp
theorem box_first_free (w : World) (cs : Array Value) (t : TypeId) (o : Obj) (i : Nat) : ((w.alloc (.cells cs t)).alloc o).frozen? ⟨w.heap.size, i, none⟩ = false := by
  have h : ((w.alloc (.cells cs t)).alloc o).heap[w.heap.size]? = some (.cells cs t) := by
    rw [Below.heap_alloc _ _ _ (by simp)]
    show (w.heap.push _)[w.heap.size]? = _
    simp
  simp [World.frozen?, h]
theorem box_last_free (w : World) (cs : Array Value) (t : TypeId) (i : Nat) : (w.alloc (.cells cs t)).frozen? ⟨w.heap.size, i, none⟩ = false := by
  have h : (w.alloc (.cells cs t)).heap[w.heap.size]? = some (.cells cs t) := by
    show (w.heap.push _)[w.heap.size]? = _
    simp
  unfold World.frozen?
  simp only [h]
  simp

/-- Two variables of two cells each, laid one behind the other, read in a later world. -/
theorem boxes {w w1 : World} {a b c d : Value} {t t' : TypeId} (hb : Below ((w.alloc (.cells #[a, b] t)).alloc (.cells #[c, d] t')).heap.size ((w.alloc (.cells #[a, b] t)).alloc (.cells #[c, d] t')) w1) :
    (w1.cell? ⟨w.heap.size, 0, none⟩ = some a ∧ w1.cell? ⟨w.heap.size, 1, none⟩ = some b ∧ w1.cell? ⟨w.heap.size + 1, 0, none⟩ = some c ∧ w1.cell? ⟨w.heap.size + 1, 1, none⟩ = some d) ∧
    (w1.frozen? ⟨w.heap.size, 0, none⟩ = false ∧ w1.frozen? ⟨w.heap.size, 1, none⟩ = false ∧ w1.frozen? ⟨w.heap.size + 1, 0, none⟩ = false ∧ w1.frozen? ⟨w.heap.size + 1, 1, none⟩ = false) ∧ w.heap.size + 1 < w1.heap.size := by
  have hs : (w.alloc (.cells #[a, b] t)).heap.size = w.heap.size + 1 := by simp
  have hlast : ∀ i, ((w.alloc (.cells #[a, b] t)).alloc (.cells #[c, d] t')).cell? ⟨w.heap.size + 1, i, none⟩ = #[c, d][i]? := fun i => by rw [← hs]; exact box_last _ _ _ _
  have hlast' : ∀ i, ((w.alloc (.cells #[a, b] t)).alloc (.cells #[c, d] t')).frozen? ⟨w.heap.size + 1, i, none⟩ = false := fun i => by rw [← hs]; exact box_last_free _ _ _ _
  refine ⟨⟨?_, ?_, ?_, ?_⟩, ⟨?_, ?_, ?_, ?_⟩, ?_⟩
  · rw [hb.cell (by simp; omega), box_first]; rfl
  · rw [hb.cell (by simp; omega), box_first]; rfl
  · rw [hb.cell (by simp), hlast]; rfl
  · rw [hb.cell (by simp), hlast]; rfl
  · rw [hb.frozen (by simp; omega), box_first_free]
  · rw [hb.frozen (by simp; omega), box_first_free]
  · rw [hb.frozen (by simp), hlast']
  · rw [hb.frozen (by simp), hlast']
  · have := hb.size; simp at this; omega

end Go.Proofs.Ytfblnadmbfhjiaa.Wd

namespace Go.Proofs.Ytfblnadmbfhjiaa.Wd

/-- The letter at position k of the word of the stem s and the loop l. -/
def at_ (s l : List Int) (k : Nat) : Int := if k < s.length then s.getD k 0 else l.getD ((k - s.length) % l.length) 0

/-- From m on, f repeats after p. -/
def Ev (f : Nat → Int) (m p : Nat) : Prop := 0 < p ∧ ∀ n, m ≤ n → f (n + p) = f n

/-- The list l is its first p elements, repeated. -/
def Per (l : List Int) (p : Nat) : Prop := l.length % p = 0 ∧ ∀ i, p ≤ i → i < l.length → l.getD i 0 = l.getD (i - p) 0

/-- The least such p. -/
def Least (l : List Int) (p : Nat) : Prop := 1 ≤ p ∧ p ≤ l.length ∧ Per l p ∧ ∀ q, 1 ≤ q → q < p → ¬ Per l q

/-- s and l are the normal form of the letters f. -/
def NF (f : Nat → Int) (s l : List Int) : Prop :=
  (∀ k, at_ s l k = f k) ∧ 0 < l.length ∧ (∀ m p, Ev f m p → l.length ≤ p) ∧ ∀ m, Ev f m l.length → s.length ≤ m

theorem at_lt {s l : List Int} {k : Nat} (h : k < s.length) : at_ s l k = s.getD k 0 := by unfold at_; rw [if_pos h]
theorem at_ge {s l : List Int} {k : Nat} (h : s.length ≤ k) : at_ s l k = l.getD ((k - s.length) % l.length) 0 := by unfold at_; rw [if_neg (by omega)]
theorem at_add {s l : List Int} (i : Nat) : at_ s l (s.length + i) = l.getD (i % l.length) 0 := by
  rw [at_ge (by omega)]; congr 2; omega

theorem Ev.mul {f : Nat → Int} {m p : Nat} (h : Ev f m p) (n : Nat) (hn : m ≤ n) : ∀ k, f (n + p * k) = f n := by
  intro k
  induction k with
  | zero => simp
  | succ k ih =>
    rw [Nat.mul_succ, ← Nat.add_assoc, h.2 _ (by omega), ih]
theorem Ev.mono {f : Nat → Int} {m m' p : Nat} (h : Ev f m p) (hm : m ≤ m') : Ev f m' p := ⟨h.1, fun n hn => h.2 n (by omega)⟩
theorem Ev.sub {f : Nat → Int} {m p q : Nat} (hp : Ev f m p) (hq : Ev f m q) (h : q < p) : Ev f m (p - q) :=
  ⟨by omega, fun n hn => by
    rw [← hq.2 (n + (p - q)) (by omega), show n + (p - q) + q = n + p from by omega, hp.2 n hn]⟩
theorem Ev.gcd {f : Nat → Int} {m : Nat} : ∀ N p q, p + q ≤ N → Ev f m p → Ev f m q → Ev f m (Nat.gcd p q) := by
  intro N
  induction N with
  | zero => intro p q h hp _; have := hp.1; omega
  | succ N ih =>
    intro p q h hp hq
    have h1 := hp.1
    have h2 := hq.1
    rcases Nat.lt_trichotomy p q with hl | he | hg
    · have := ih p (q - p) (by omega) hp (hq.sub hp hl)
      rwa [Nat.gcd_sub_self_right (by omega)] at this
    · subst he; rw [Nat.gcd_self]; exact hp
    · have := ih (p - q) q (by omega) (hp.sub hq hg) hq
      rwa [Nat.gcd_sub_self_left (by omega)] at this

theorem ev_at (s l : List Int) (hl : 0 < l.length) : Ev (at_ s l) s.length l.length :=
  ⟨hl, fun n hn => by
    rw [at_ge (by omega), at_ge hn, show n + l.length - s.length = (n - s.length) + l.length from by omega, Nat.add_mod_right]⟩

theorem mod_step (l : List Int) (p : Nat) (hp : 0 < p) (h : Per l p) : ∀ i, i < l.length → l.getD i 0 = l.getD (i % p) 0 := by
  intro i
  induction i using Nat.strongRecOn with
  | ind i ih =>
    intro hi
    rcases Nat.lt_or_ge i p with hl | hg
    · rw [Nat.mod_eq_of_lt hl]
    · rw [h.2 i hg hi, ih (i - p) (by omega) (by omega), Nat.mod_eq_sub_mod hg]

/-- The least period of the loop is the least eventual period of the word. -/
theorem least_ev {s l : List Int} {P : Nat} (hP : Least l P) : ∀ m p, Ev (at_ s l) m p → P ≤ p := by
  intro m p h
  have hl : 0 < l.length := by have := hP.1; have := hP.2.1; omega
  have hq : Ev (at_ s l) (max m s.length) l.length := (ev_at s l hl).mono (by omega)
  have hg := Ev.gcd _ p l.length (Nat.le_refl _) (h.mono (m' := max m s.length) (by omega)) hq
  have hgp := Nat.gcd_le_left (m := p) l.length h.1
  have hgd : Nat.gcd p l.length ∣ l.length := Nat.gcd_dvd_right _ _
  generalize Nat.gcd p l.length = g at hg hgp hgd
  have hper : Per l g := by
    refine ⟨Nat.mod_eq_zero_of_dvd hgd, fun i hgi hil => ?_⟩
    have key : ∀ j, j < l.length → at_ s l (s.length + j + l.length * (max m s.length)) = l.getD j 0 := by
      intro j hj
      rw [(ev_at s l hl).mul (s.length + j) (by omega), at_add, Nat.mod_eq_of_lt hj]
    have hbig : max m s.length ≤ l.length * (max m s.length) := Nat.le_mul_of_pos_left _ hl
    rw [← key i hil, ← key (i - g) (by omega), ← hg.2 (s.length + (i - g) + l.length * (max m s.length)) (by omega)]
    congr 1
    omega
  rcases Nat.lt_or_ge g P with hlt | hge
  · exact absurd hper (hP.2.2.2 g hg.1 hlt)
  · omega

/-- Cutting the loop to its period keeps the letters. -/
theorem at_take {s l : List Int} {P : Nat} (hP : Least l P) (k : Nat) : at_ s (l.take P) k = at_ s l k := by
  have h1 := hP.1
  have h2 := hP.2.1
  unfold at_
  by_cases hk : k < s.length
  · rw [if_pos hk, if_pos hk]
  · rw [if_neg hk, if_neg hk]
    have hlen : (l.take P).length = P := by rw [List.length_take]; omega
    have hd : P ∣ l.length := Nat.dvd_of_mod_eq_zero hP.2.2.1.1
    have hlt : (k - s.length) % l.length < l.length := Nat.mod_lt _ (by omega)
    rw [mod_step l P (by omega) hP.2.2.1 _ hlt, Nat.mod_mod_of_dvd _ hd, hlen]
    have hlt' : (k - s.length) % P < P := Nat.mod_lt _ (by omega)
    simp only [List.getD_eq_getElem?_getD, List.getElem?_take]
    rw [if_pos hlt']

/-- A step back: the last letter of the stem goes to the front of the loop. -/
theorem at_step (s l : List Int) (x : Int) (k : Nat) : at_ s (x :: l) k = at_ (s ++ [x]) (l ++ [x]) k := by
  rcases Nat.lt_trichotomy k s.length with hk | hk | hk
  · rw [at_lt hk, at_lt (by simp; omega)]
    simp only [List.getD_eq_getElem?_getD, List.getElem?_append_left hk]
  · subst hk
    rw [at_ge (by omega), at_lt (by simp)]
    simp
  · rw [at_ge (by omega), at_ge (by simp; omega)]
    simp only [List.length_append, List.length_cons, List.length_nil, Nat.zero_add]
    obtain ⟨d, hd⟩ : ∃ d, k = s.length + 1 + d := ⟨k - s.length - 1, by omega⟩
    subst hd
    rw [show s.length + 1 + d - s.length = d + 1 from by omega, show s.length + 1 + d - (s.length + 1) = d from by omega]
    have hm : d % (l.length + 1) < l.length + 1 := Nat.mod_lt _ (by omega)
    rcases Nat.lt_or_ge (d % (l.length + 1)) l.length with h | h
    · rw [Nat.add_mod d 1]
      rcases Nat.eq_zero_or_pos l.length with h0 | h0
      · omega
      · rw [Nat.mod_eq_of_lt (show 1 < l.length + 1 by omega), Nat.mod_eq_of_lt (show d % (l.length + 1) + 1 < l.length + 1 by omega)]
        simp only [List.getD_eq_getElem?_getD, List.getElem?_cons_succ, List.getElem?_append_left h]
    · have he : d % (l.length + 1) = l.length := by omega
      have he' : (d + 1) % (l.length + 1) = 0 := by
        rw [Nat.add_mod, he]
        rcases Nat.eq_zero_or_pos l.length with h0 | h0
        · rw [h0]
        · rw [Nat.mod_eq_of_lt (show 1 < l.length + 1 by omega), Nat.mod_self]
      rw [he, he']
      simp

/-- When is a stem and a loop of the least length the normal form: the stem is empty, or its last letter is not the loop's. -/
theorem nf_of {f : Nat → Int} {s l : List Int} (hf : ∀ k, at_ s l k = f k) (hl : 0 < l.length) (hp : ∀ m p, Ev f m p → l.length ≤ p)
    (hs : s = [] ∨ s.getD (s.length - 1) 0 ≠ l.getD (l.length - 1) 0) : NF f s l := by
  refine ⟨hf, hl, hp, fun m hm => ?_⟩
  rcases Nat.lt_or_ge m s.length with h | h
  · exfalso
    rcases hs with rfl | hs
    · simp at h
    · apply hs
      have := hm.2 (s.length - 1) (by omega)
      rw [← hf, ← hf, show s.length - 1 + l.length = s.length + (l.length - 1) from by omega, at_add, at_lt (by omega), Nat.mod_eq_of_lt (by omega)] at this
      exact this.symm
  · exact h

theorem NF.unique {f : Nat → Int} {s l s' l' : List Int} (h : NF f s l) (h' : NF f s' l') : s = s' ∧ l = l' := by
  have e1 := ev_at s l h.2.1
  have e2 := ev_at s' l' h'.2.1
  have f1 : at_ s l = f := funext h.1
  have f2 : at_ s' l' = f := funext h'.1
  rw [f1] at e1
  rw [f2] at e2
  have hl : l.length = l'.length := Nat.le_antisymm (h.2.2.1 _ _ e2) (h'.2.2.1 _ _ e1)
  have hs : s.length = s'.length := Nat.le_antisymm (h.2.2.2 _ (by rw [hl]; exact e2)) (h'.2.2.2 _ (by rw [← hl]; exact e1))
  have hl0 := h.2.1
  constructor
  · apply List.ext_getElem hs
    intro i h1 h2
    have a := h.1 i
    have b := h'.1 i
    rw [at_lt h1] at a
    rw [at_lt h2] at b
    have := a.trans b.symm
    simpa [List.getD_eq_getElem?_getD, List.getElem?_eq_getElem h1, List.getElem?_eq_getElem h2] using this
  · apply List.ext_getElem hl
    intro i h1 h2
    have a := h.1 (s.length + i)
    have b := h'.1 (s.length + i)
    rw [at_add, Nat.mod_eq_of_lt h1, hs] at a
    rw [hs, at_add, Nat.mod_eq_of_lt h2] at b
    have := a.trans b.symm
    simpa [List.getD_eq_getElem?_getD, List.getElem?_eq_getElem h1, List.getElem?_eq_getElem h2] using this

/-- Two words with the same letters up to where both repeat together have the same letters. -/
theorem alike {s l s' l' : List Int} (hl : 0 < l.length) (hl' : 0 < l'.length)
    (h : ∀ k, k < max s.length s'.length + l.length * l'.length → at_ s l k = at_ s' l' k) : at_ s l = at_ s' l' := by
  funext k
  induction k using Nat.strongRecOn with
  | ind k ih =>
    rcases Nat.lt_or_ge k (max s.length s'.length + l.length * l'.length) with hk | hk
    · exact h k hk
    · have hp : 0 < l.length * l'.length := Nat.mul_pos hl hl'
      obtain ⟨d, rfl⟩ : ∃ d, k = d + l.length * l'.length := ⟨k - l.length * l'.length, by omega⟩
      rw [(ev_at s l hl).mul d (by omega)]
      have := (ev_at s' l' hl').mul d (by omega) l.length
      rw [Nat.mul_comm l.length l'.length, this]
      exact ih d (by omega)

end Go.Proofs.Ytfblnadmbfhjiaa.Wd

namespace Go.Proofs.Ytfblnadmbfhjiaa.Wd
open Go.RowKit

/-- All of l are letters below b. -/
def lettersB (b : Int) (l : List Int) : Bool := l.all fun x => decide (0 ≤ x) && decide (x < b)

theorem lettersB_take {b : Int} {l : List Int} {k : Nat} (hk : k < l.length) (h : lettersB b (l.take k) = true) :
    lettersB b (l.take (k + 1)) = (decide (0 ≤ l.getD k 0) && decide (l.getD k 0 < b)) := by
  rw [List.take_succ_eq_append_getElem hk]
  simp only [lettersB] at h ⊢
  rw [List.all_append, h]
  simp [List.getD_eq_getElem?_getD, List.getElem?_eq_getElem hk]
theorem lettersB_bad {b : Int} {l : List Int} {k : Nat} (hk : k < l.length) (h : ¬ (0 ≤ l.getD k 0 ∧ l.getD k 0 < b)) : lettersB b l = false := by
  rw [Bool.eq_false_iff]
  intro hall
  simp only [lettersB, List.all_eq_true] at hall
  have := hall l[k] (List.getElem_mem hk)
  apply h
  simpa [List.getD_eq_getElem?_getD, List.getElem?_eq_getElem hk] using this

theorem wrap_pow {k : Nat} (hk : k ≤ 6) : wrap64 ((2 : Int) ^ k) = (2 : Int) ^ k := by
  have : k = 0 ∨ k = 1 ∨ k = 2 ∨ k = 3 ∨ k = 4 ∨ k = 5 ∨ k = 6 := by omega
  rcases this with rfl | rfl | rfl | rfl | rfl | rfl | rfl <;> exact IntWalk.wrap64_in _ ⟨by decide, by decide⟩

set_option maxHeartbeats 400000 in
theorem allLetters_any (A : Option Addr) (n c : Nat) (k : Nat) (xs : List Int) (w : World) (h : Ints w A n xs) (hn : n ≤ 100000) (hk : k ≤ 6) :
    Calls Try.prog 78 #[.slice A n c, .int .i64 k] w fun e w' => e = .returned (.bool (lettersB ((2 : Int) ^ k) xs)) ∧ w = w' := by
  have hx := h.1
  have hp := wrap_pow hk
  go_enter Try.func78, Try.ntmps78
  go_wp2_with fail
  go_loop [6, 9] (fun _ i => ∃ j : Nat, j ≤ n ∧ i = .int .i64 j ∧ lettersB ((2 : Int) ^ k) (xs.take j) = true) (fun _ i => n - (intOf i).toNat)
  case atStart => exact ⟨0, Nat.zero_le _, rfl, by simp [lettersB]⟩
  case round =>
    obtain ⟨j, hj, rfl, hall⟩ := hrel
    by_cases hlt : j < n
    · obtain ⟨b, off, rfl, hb, hc⟩ := h.at_ hlt
      have hcj := hc j hlt
      have HT := Lib.hid (lettersB_take (b := (2 : Int) ^ k) (by omega) hall)
      have HB := Lib.hid (fun h => lettersB_bad (b := (2 : Int) ^ k) (l := xs) (k := j) (by omega) h)
      have HG := Lib.hid (show xs.getD j 0 = xs[j] from by simp [List.getD_eq_getElem?_getD, List.getElem?_eq_getElem (show j < xs.length by omega)])
      clear h hc hall
      go_wp2
      · go_ret
        exact ⟨ret_bool (HB.out (by rw [HG.out]; omega)).symm, rfl⟩
      · go_round
        case rel => exact ⟨j + 1, by omega, by go_num, by rw [HT.out, HG.out]; simp; omega⟩
        case measure => simp [intOf]; omega
      · go_ret
        exact ⟨ret_bool (HB.out (by rw [HG.out]; omega)).symm, rfl⟩
    · have HA := Lib.hid hall
      clear hall
      go_wp2
      go_ret
      exact ⟨ret_bool (by rw [← HA.out, List.take_of_length_le (by omega)]), rfl⟩

theorem size_any (A B : Option Addr) (n c m d : Nat) (w : World) (hn : n ≤ 100000) (hm : m ≤ 100000) :
    Calls Try.prog 77 #[.agg #[.slice A n c, .slice B m d]] w fun e w' => e = .returned (.int .i64 ((n : Int) + m)) ∧ Below w.heap.size w w' := by
  go_enter Try.func77, Try.ntmps77
  go_wp2
  go_ret
  exact ⟨rfl, (Below.refl _ _).alloc (Nat.le_refl _) _⟩

/-- Is the word of the stem xs and the loop ys valid over k propositions? -/
def validB (k : Int) (xs ys : List Int) : Bool :=
  decide (0 ≤ k) && decide (k ≤ 6) && decide (0 < ys.length) && decide (xs.length + ys.length ≤ 200) && lettersB ((2 : Int) ^ k.toNat) xs && lettersB ((2 : Int) ^ k.toNat) ys

theorem valid_lo {k : Int} {xs ys : List Int} (h : k < 0) : validB k xs ys = false := by simp [validB, show ¬ 0 ≤ k by omega]
theorem valid_hi {k : Int} {xs ys : List Int} (h : 6 < k) : validB k xs ys = false := by simp [validB, show ¬ k ≤ 6 by omega]
theorem valid_none {k : Int} {xs ys : List Int} (h : ys.length = 0) : validB k xs ys = false := by simp [validB, h]
theorem valid_long {k : Int} {xs ys : List Int} (h : 200 < xs.length + ys.length) : validB k xs ys = false := by simp [validB, show ¬ xs.length + ys.length ≤ 200 by omega]
theorem valid_else {j : Nat} {xs ys : List Int} (h : j ≤ 6) (h0 : 0 < ys.length) (hl : xs.length + ys.length ≤ 200) : validB j xs ys = (lettersB ((2 : Int) ^ j) xs && lettersB ((2 : Int) ^ j) ys) := by
  simp [validB, h0, hl, show (j : Int) ≤ 6 by omega]

set_option maxHeartbeats 400000 in
theorem valid_any (A B : Option Addr) (n c m d : Nat) (k : Int) (xs ys : List Int) (w : World) (h : Ints w A n xs) (h' : Ints w B m ys) (hn : n ≤ 100000) (hm : m ≤ 100000) :
    Calls Try.prog 48 #[.agg #[.slice A n c, .slice B m d], .int .i64 k] w fun e w' => e = .returned (.bool (validB k xs ys)) ∧ Below w.heap.size w w' := by
  have hx := h.1
  have hy := h'.1
  by_cases h0 : k < 0
  · have HV := Lib.hid (valid_lo (xs := xs) (ys := ys) h0)
    go_enter Try.func48, Try.ntmps48
    go_wp2
    go_ret
    exact ⟨ret_bool HV.out.symm, (Below.refl _ _).alloc (Nat.le_refl _) _⟩
  by_cases h6 : 6 < k
  · have HV := Lib.hid (valid_hi (xs := xs) (ys := ys) h6)
    go_enter Try.func48, Try.ntmps48
    go_wp2
    go_ret
    exact ⟨ret_bool HV.out.symm, (Below.refl _ _).alloc (Nat.le_refl _) _⟩
  by_cases hm0 : m = 0
  · have HV := Lib.hid (valid_none (k := k) (xs := xs) (ys := ys) (by omega))
    go_enter Try.func48, Try.ntmps48
    go_wp2
    go_ret
    exact ⟨ret_bool HV.out.symm, (Below.refl _ _).alloc (Nat.le_refl _) _⟩
  obtain ⟨j, rfl⟩ := Int.eq_ofNat_of_zero_le (show 0 ≤ k by omega)
  have hj : j ≤ 6 := by omega
  by_cases hz : 200 < n + m
  · have HV := Lib.hid (valid_long (k := j) (xs := xs) (ys := ys) (by omega))
    go_enter Try.func48, Try.ntmps48
    go_wp2_with fail
    refine (size_any A B n c m d _ hn hm).mono ?_
    rintro e w1 ⟨rfl, hb1⟩
    go_wp2
    go_ret
    exact ⟨ret_bool HV.out.symm, ((Below.refl _ _).alloc (Nat.le_refl _) _).trans (hb1.mono (by simp))⟩
  · have HV := Lib.hid (valid_else (xs := xs) (ys := ys) hj (by omega) (by omega))
    go_enter Try.func48, Try.ntmps48
    go_wp2_with fail
    refine (size_any A B n c m d _ hn hm).mono ?_
    rintro e w1 ⟨rfl, hb1⟩
    obtain ⟨hc, hf⟩ := bcell hb1
    have hb0 : ((m : Int) == 0) = false := by simp; omega
    have hb2 : decide (200 < (n : Int) + m) = false := by simp; omega
    go_wp2_with fail
    refine (allLetters_any A n c j xs _ ((h.alloc _).below hb1) hn hj).mono ?_
    rintro e w2 ⟨rfl, rfl⟩
    cases hl : lettersB ((2 : Int) ^ j) xs
    · go_wp2_with fail
      go_ret
      exact ⟨ret_bool (by rw [HV.out, hl]; rfl), ((Below.refl _ _).alloc (Nat.le_refl _) _).trans (hb1.mono (by simp))⟩
    · go_wp2_with fail
      refine (allLetters_any B m d j ys _ ((h'.alloc _).below hb1) hm hj).mono ?_
      rintro e w2 ⟨rfl, rfl⟩
      go_wp2_with fail
      go_ret
      exact ⟨ret_bool (by rw [HV.out, hl]; rfl), ((Below.refl _ _).alloc (Nat.le_refl _) _).trans (hb1.mono (by simp))⟩

end Go.Proofs.Ytfblnadmbfhjiaa.Wd

namespace Go.Proofs.Ytfblnadmbfhjiaa.Wd
open Go.RowKit
set_option linter.unusedVariables false

theorem isOne_any (m : Int) (w : World) : Calls Try.prog 64 #[.int .i64 m] w fun e w' => e = .returned (.bool (decide (m = 1))) ∧ w = w' := by
  go_enter Try.func64, Try.ntmps64
  go_wp2_with fail
  go_ret
  exact ⟨ret_bool (by first | rfl | simp), rfl⟩
def fewMB (m : Int) : Bool := decide (0 ≤ m ∧ m ≤ 40)
def evenMB (m : Int) : Bool := decide ((0 ≤ m ∧ m ≤ 40) ∧ m % 2 = 0)
theorem isFew_any (m : Int) (w : World) : Calls Try.prog 67 #[.int .i64 m] w fun e w' => e = .returned (.bool (fewMB m)) ∧ w = w' := by
  have hc : m < 0 ∨ (0 ≤ m ∧ m ≤ 40) ∨ (0 ≤ m ∧ 40 < m) := by omega
  rcases hc with h | ⟨h, h'⟩ | ⟨h, h'⟩
  · have HF := Lib.hid (show fewMB m = false from decide_eq_false (by omega))
    go_enter Try.func67, Try.ntmps67
    go_wp2_with fail
    go_ret
    exact ⟨ret_bool HF.out.symm, rfl⟩
  · have HF := Lib.hid (show fewMB m = true from decide_eq_true (by omega))
    go_enter Try.func67, Try.ntmps67
    go_wp2_with fail
    go_ret
    exact ⟨ret_bool HF.out.symm, rfl⟩
  · have HF := Lib.hid (show fewMB m = false from decide_eq_false (by omega))
    go_enter Try.func67, Try.ntmps67
    go_wp2_with fail
    go_ret
    exact ⟨ret_bool (by rw [HF.out]; exact decide_eq_false (by omega)), rfl⟩
theorem isFewPairs_any (m : Int) (w : World) : Calls Try.prog 71 #[.int .i64 m] w fun e w' => e = .returned (.bool (evenMB m)) ∧ w = w' := by
  cases hf : fewMB m
  · have HF := Lib.hid (show evenMB m = false from decide_eq_false (by unfold fewMB at hf; rw [decide_eq_false_iff_not] at hf; omega))
    go_enter Try.func71, Try.ntmps71
    go_wp2_with fail
    refine (isFew_any m _).mono ?_
    rintro e w' ⟨rfl, rfl⟩
    rw [hf]
    go_wp2_with fail
    go_ret
    exact ⟨ret_bool HF.out.symm, rfl⟩
  · have hm : 0 ≤ m ∧ m ≤ 40 := by unfold fewMB at hf; exact of_decide_eq_true hf
    obtain ⟨h1, h2⟩ := hm
    obtain ⟨r, hr, HR⟩ : ∃ r : Int, m.tmod 2 = r ∧ Hid (m % 2 = r) := ⟨_, Int.tmod_eq_emod_of_nonneg h1, rfl⟩
    have HF := Lib.hid (show evenMB m = decide (r = 0) from decide_eq_decide.2 (by rw [HR.out]; omega))
    go_enter Try.func71, Try.ntmps71
    go_wp2_with fail
    refine (isFew_any m _).mono ?_
    rintro e w' ⟨rfl, rfl⟩
    rw [hf]
    go_wp2_with fail
    go_ret
    exact ⟨ret_bool (by rw [HF.out]; first | rfl | simp), rfl⟩

theorem pow_wrap40 {m : Nat} (hm : m ≤ 40) : IntKind.i64.wrap ((2 : Int) ^ m) = (2 : Int) ^ m ∧ IntKind.i64.wrap ((2 : Int) ^ m - 1) = (2 : Int) ^ m - 1 := by
  have h : ∀ k : Fin 41, IntKind.i64.wrap ((2 : Int) ^ k.val) = (2 : Int) ^ k.val ∧ IntKind.i64.wrap ((2 : Int) ^ k.val - 1) = (2 : Int) ^ k.val - 1 := by decide +kernel
  exact h ⟨m, by omega⟩

theorem meetsAll_any (m : Nat) (x : Int) (w : World) (hm : m ≤ 40) : Calls Try.prog 65 #[.int .i64 m, .int .i64 x] w fun e w' => e = .returned (.bool (decide (x = (2 : Int) ^ m - 1))) ∧ w = w' := by
  obtain ⟨P, hP, hP1, HP⟩ : ∃ P : Int, IntKind.i64.wrap ((2 : Int) ^ m) = P ∧ IntKind.i64.wrap (P - 1) = P - 1 ∧ Hid ((2 : Int) ^ m = P) := ⟨_, (pow_wrap40 hm).1, (pow_wrap40 hm).2, rfl⟩
  have h0 : (0 : Int) ≤ (m : Int) := by omega
  go_enter Try.func65, Try.ntmps65
  go_wp2_with fail
  go_ret
  exact ⟨ret_bool (by rw [HP.out]; first | rfl | simp), rfl⟩
theorem meetsNone_any (m x : Int) (w : World) : Calls Try.prog 69 #[.int .i64 m, .int .i64 x] w fun e w' => e = .returned (.bool (decide (x = 0))) ∧ w = w' := by
  go_enter Try.func69, Try.ntmps69
  go_wp2_with fail
  go_ret
  exact ⟨ret_bool (by first | rfl | simp), rfl⟩

set_option maxHeartbeats 1000000 in
theorem meetsPair_any (m : Nat) (x : Int) (w : World) (hm : m ≤ 40) : Calls Try.prog 72 #[.int .i64 m, .int .i64 x] w fun e w' => e = .returned (.bool (pairB m x)) ∧ w = w' := by
  go_enter Try.func72, Try.ntmps72
  go_wp2_with fail
  go_loop [5] (fun v => ∃ i : Nat, i ≤ m + 1 ∧ Hid (i % 2 = 0 ∧ pairB i x = false) ∧ v = .int .i64 i) (fun v => m + 2 - (intOf v).toNat)
  case atStart => exact ⟨0, by omega, ⟨rfl, pairB_zero x⟩, rfl⟩
  case round =>
    obtain ⟨i, hi, HI, rfl⟩ := hrel
    have h0 : (0 : Int) ≤ (i : Int) := by omega
    by_cases hlt : i < m
    · obtain ⟨r, hr, HR⟩ : ∃ r : Int, bits .and .i64 (x / 2 ^ i) 3 = r ∧ Hid (x / 2 ^ i % 4 = r) := ⟨_, and3 _, rfl⟩
      by_cases h2 : r = 2
      · subst h2
        have HB := Lib.hid (pairB_true (x := x) HI.out.1 hlt HR.out)
        go_wp2_with fail
        go_ret
        exact ⟨ret_bool HB.out.symm, rfl⟩
      · have HB := Lib.hid (pairB_step (x := x) HI.out.1 (by rw [HR.out]; exact h2))
        go_wp2_with fail
        go_round
        case rel => exact ⟨i + 2, by omega, ⟨by have := HI.out.1; omega, by rw [HB.out]; exact HI.out.2⟩, by go_num⟩
        case measure => simp [intOf]; omega
    · have HE := Lib.hid (show pairB m x = false from by
        rcases Nat.lt_or_ge m i with h | h
        · have := HI.out.2
          rw [Bool.eq_false_iff] at this ⊢
          intro ht
          apply this
          unfold pairB at ht ⊢
          rw [List.any_eq_true] at ht ⊢
          obtain ⟨j, hj, hj2⟩ := ht
          exact ⟨j, List.mem_range.2 (by have := List.mem_range.1 hj; omega), hj2⟩
        · obtain rfl : i = m := by omega
          exact HI.out.2)
      go_wp2_with fail
      go_ret
      exact ⟨ret_bool HE.out.symm, rfl⟩

theorem unpaired_any (m : Nat) (x : Int) (w : World) (hm : m ≤ 40) : Calls Try.prog 73 #[.int .i64 m, .int .i64 x] w fun e w' => e = .returned (.bool (!pairB m x)) ∧ w = w' := by
  go_enter Try.func73, Try.ntmps73
  go_wp2_with fail
  refine (meetsPair_any m x _ hm).mono ?_
  rintro e w' ⟨rfl, rfl⟩
  go_wp2_with fail
  go_ret
  exact ⟨rfl, rfl⟩

end Go.Proofs.Ytfblnadmbfhjiaa.Wd

namespace Go.Proofs.Ytfblnadmbfhjiaa.Wd
open Go.RowKit
set_option linter.unusedVariables false

structure Ed where
  f : Int
  t : Int
  c : Int
  b : Int
  m : Int
def ed0 : Ed := ⟨0, 0, 0, 0, 0⟩
/-- Is that an edge of an automaton with these numbers of states, propositions, marks? -/
def edB (P : Nat) (S : Int) (M : Nat) (e : Ed) : Bool :=
  decide ((0 ≤ e.f ∧ e.f < S) ∧ (0 ≤ e.t ∧ e.t < S) ∧ (0 ≤ e.c ∧ e.c < 2 ^ P) ∧ bits .andNot .i64 e.b e.c = 0 ∧ 0 ≤ e.m ∧ e.m < 2 ^ M)
def edgesB (P : Nat) (S : Int) (M : Nat) (es : List Ed) : Bool := es.all (edB P S M)
theorem edgesB_step {P M : Nat} {S : Int} {es : List Ed} {k : Nat} (hk : k < es.length) (h : edgesB P S M (es.take k) = true) (he : edB P S M (es.getD k ed0) = true) : edgesB P S M (es.take (k + 1)) = true := by
  rw [List.take_succ_eq_append_getElem hk]
  unfold edgesB at *
  rw [List.all_append, h]
  rw [List.getD_eq_getElem?_getD, List.getElem?_eq_getElem hk] at he
  simpa using he
theorem edgesB_bad {P M : Nat} {S : Int} {es : List Ed} {k : Nat} (hk : k < es.length) (he : edB P S M (es.getD k ed0) = false) : edgesB P S M es = false := by
  unfold edgesB
  rw [Bool.eq_false_iff]
  intro h
  have := List.all_eq_true.1 h es[k] (List.getElem_mem hk)
  rw [List.getD_eq_getElem?_getD, List.getElem?_eq_getElem hk] at he
  simp only [Option.getD_some] at he
  rw [he] at this
  cases this

/-- What stands ahead of the element j. -/
def prv (st : List Int) (j : Nat) : Int := if j = 0 then -1 else st.getD (j - 1) 0
/-- Do the first k elements grow, and are they states? -/
def startP (S : Int) (st : List Int) (k : Nat) : Bool := (List.range k).all fun j => decide (prv st j < st.getD j 0 ∧ st.getD j 0 < S)
def startB (S : Int) (st : List Int) : Bool := startP S st st.length
theorem startP_zero (S : Int) (st : List Int) : startP S st 0 = true := rfl
theorem startP_step {S : Int} {st : List Int} {k : Nat} (h : startP S st k = true) (hk : prv st k < st.getD k 0 ∧ st.getD k 0 < S) : startP S st (k + 1) = true := by
  unfold startP at *
  rw [List.range_succ, List.all_append, h]
  simpa using hk
theorem startB_bad {S : Int} {st : List Int} {k : Nat} (hk : k < st.length) (h : ¬ (prv st k < st.getD k 0 ∧ st.getD k 0 < S)) : startB S st = false := by
  unfold startB startP
  rw [Bool.eq_false_iff]
  intro ht
  have := List.all_eq_true.1 ht k (List.mem_range.2 hk)
  exact h (of_decide_eq_true this)
theorem prv_succ (st : List Int) (k : Nat) : prv st (k + 1) = st.getD k 0 := by simp [prv]
theorem prv_low {S : Int} {st : List Int} {k : Nat} (h : startP S st k = true) : -1 ≤ prv st k := by
  induction k with
  | zero => simp [prv]
  | succ k ih =>
    rw [prv_succ]
    have h1 := List.all_eq_true.1 h k (List.mem_range.2 (by omega))
    have h2 := (of_decide_eq_true h1).1
    have h3 := ih (by
      unfold startP at h ⊢
      rw [List.range_succ, List.all_append] at h
      rw [Bool.and_eq_true] at h
      exact h.1)
    omega

/-- Edges in memory. -/
def EdgesAt (w : World) (E : Option Addr) (n : Nat) (es : List Ed) : Prop :=
  es.length = n ∧ (0 < n → ∃ b off, E = some ⟨b, off, none⟩ ∧ b < w.heap.size ∧ ∀ j, j < n → w.cell? ⟨b, off + j * 5, none⟩ = some (.int .i64 (es.getD j ed0).f) ∧ w.cell? ⟨b, off + j * 5 + 1, none⟩ = some (.int .i64 (es.getD j ed0).t) ∧
    w.cell? ⟨b, off + j * 5 + 2, none⟩ = some (.int .i64 (es.getD j ed0).c) ∧ w.cell? ⟨b, off + j * 5 + 3, none⟩ = some (.int .i64 (es.getD j ed0).b) ∧ w.cell? ⟨b, off + j * 5 + 4, none⟩ = some (.int .i64 (es.getD j ed0).m))
theorem EdgesAt.below {w w' : World} {E : Option Addr} {n : Nat} {es : List Ed} (h : EdgesAt w E n es) (hb : Below w.heap.size w w') : EdgesAt w' E n es := ⟨h.1, fun hn => by
  obtain ⟨b, off, e, hlt, hc⟩ := h.2 hn
  refine ⟨b, off, e, Nat.lt_of_lt_of_le hlt hb.size, fun j hj => ?_⟩
  obtain ⟨c0, c1, c2, c3, c4⟩ := hc j hj
  exact ⟨(hb.cell (p := ⟨b, off + j * 5, none⟩) hlt).trans c0, (hb.cell (p := ⟨b, off + j * 5 + 1, none⟩) hlt).trans c1, (hb.cell (p := ⟨b, off + j * 5 + 2, none⟩) hlt).trans c2, (hb.cell (p := ⟨b, off + j * 5 + 3, none⟩) hlt).trans c3, (hb.cell (p := ⟨b, off + j * 5 + 4, none⟩) hlt).trans c4⟩⟩

theorem pow_wrap6 {p : Nat} (hp : p ≤ 6) : IntKind.i64.wrap ((2 : Int) ^ p) = (2 : Int) ^ p := (pow_wrap40 (by omega)).1

end Go.Proofs.Ytfblnadmbfhjiaa.Wd

namespace Go.Proofs.Ytfblnadmbfhjiaa.Wd
open Go.RowKit
set_option linter.unusedVariables false

set_option maxRecDepth 100000 in
set_option maxHeartbeats 2000000 in
theorem validStart_any (P S K M : Int) (A E : Option Addr) (n c ne ce : Nat) (st : List Int) (w : World) (ha : Ints w A n st) (hn : n ≤ 17592186044416) :
    Calls Try.prog 45 #[.agg #[.int .i64 P, .int .i64 S, .slice A n c, .int .i64 K, .int .i64 M, .slice E ne ce]] w fun e w' => e = .returned (.bool (startB S st)) ∧ Below w.heap.size w w' := by
  have HA := Lib.hid ha
  have HL := Lib.hid ha.1
  clear ha
  go_enter Try.func45, Try.ntmps45
  go_wp2_with fail
  obtain ⟨W0, hW0⟩ : ∃ W0, w.alloc (.cells #[.int .i64 P, .int .i64 S, .slice A n c, .int .i64 K, .int .i64 M, .slice E ne ce] 25) = W0 := ⟨_, rfl⟩
  have q1 : W0.cell? ⟨w.heap.size, 1, none⟩ = some (.int .i64 S) := by rw [← hW0, box_last]; rfl
  have hz : w.heap.size < W0.heap.size := by rw [← hW0]; simp
  have HB0 := Lib.hid (show Below w.heap.size w W0 by rw [← hW0]; exact (Below.refl _ _).alloc (Nat.le_refl _) _)
  rw [hW0]
  clear hW0
  go_loopg [3, 9] n (fun g l i wx => ∃ t : Nat, t + g = n ∧ i = .int .i64 t ∧ l = .int .i64 (prv st t) ∧ Hid (startP S st t = true) ∧ Hid (Below W0.heap.size W0 wx))
  case atStart => exact ⟨0, by omega, rfl, rfl, startP_zero S st, Below.refl _ _⟩
  case round =>
    obtain ⟨t, htg, rfl, rfl, HP, HBx⟩ := hrel
    have hti : (0 : Int) ≤ (t : Int) := by omega
    have HBw := Lib.hid (HB0.out.trans (HBx.out.mono HB0.out.size))
    have r1 := (HBx.out.cell (p := ⟨w.heap.size, 1, none⟩) hz).trans q1
    cases gk with
    | zero =>
      obtain rfl : n = t := by omega
      have HE := Lib.hid (show startB S st = true by unfold startB; rw [HL.out]; exact HP.out)
      go_wp2_with fail
      go_ret
      exact ⟨ret_bool HE.out.symm, HBw.out⟩
    | succ q =>
      have ht1 : t < n := by omega
      have hti2 : (t : Int) < (n : Int) := by omega
      obtain ⟨b, off, rfl, hlt, hcell⟩ := (HA.out.below HBw.out).at_ ht1
      have hct := hcell t ht1
      have HBD := Lib.hid (startB_bad (S := S) (st := st) (k := t) (by rw [HL.out]; exact ht1))
      have HST := Lib.hid (startP_step HP.out)
      have HPS := Lib.hid (prv_succ st t)
      generalize st.getD t 0 = x at *
      generalize prv st t = l at *
      clear hcell
      have hcase : x ≤ l ∨ (l < x ∧ S ≤ x) ∨ (l < x ∧ x < S) := by omega
      rcases hcase with h1 | ⟨h1, h2⟩ | ⟨h1, h2⟩
      · have HF := Lib.hid (HBD.out (by omega))
        go_wp2_with fail
        go_ret
        exact ⟨ret_bool HF.out.symm, HBw.out⟩
      · have HF := Lib.hid (HBD.out (by omega))
        go_wp2_with fail
        go_ret
        exact ⟨ret_bool HF.out.symm, HBw.out⟩
      · have HN := Lib.hid (HST.out ⟨h1, h2⟩)
        go_wp2_with fail
        go_roundg q
        case measure => omega
        case rel => exact ⟨t + 1, by omega, by go_num, by rw [HPS.out], HN, HBx⟩

set_option maxRecDepth 100000 in
set_option maxHeartbeats 2000000 in
theorem validEdges_many (P S K M : Int) (A E : Option Addr) (n c ne ce : Nat) (w : World) (hne : ne ≤ 17592186044416) (h : 40000 < ne) :
    Calls Try.prog 46 #[.agg #[.int .i64 P, .int .i64 S, .slice A n c, .int .i64 K, .int .i64 M, .slice E ne ce]] w fun e w' => e = .returned (.bool false) ∧ Below w.heap.size w w' := by
  have h1 : (40000 : Int) < (ne : Int) := by omega
  have h2 : decide ((40000 : Int) < (ne : Int)) = true := decide_eq_true h1
  go_enter Try.func46, Try.ntmps46
  go_wp2_with fail
  go_ret
  exact ⟨rfl, (Below.refl _ _).alloc (Nat.le_refl _) _⟩

end Go.Proofs.Ytfblnadmbfhjiaa.Wd
