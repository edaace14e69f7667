/-
  The run of a deterministic automaton as data, letter by letter; what it meets again and again. No program is looked at here.
  The closure meet of reachable: a state that was not seen is seen, and waits.
  The walk of reachable as data: what was seen, the list of what waits, how far it was followed. The closure meet in one contract.
  A loop over an iterator that ends, and that keeps state of its own in cells: the body writes what lay before the loop alone, the iterator what it laid itself.
  The iterator of reachable, for all automata.
  The walker, for all automata: step and read.
  The walker, for all automata: read, union, newWalker.
-/
import Derived.Test.YtalgbcndifaaiaaF22
import Derived.Test.YtalgbcndifaaiaaF23
import Derived.Test.YtalgbcndifaaiaaF27
import Derived.Below
import Derived.RangeFuncNested
import Derived.RangeFuncBound
import Derived.RangeFuncBox
import Derived.RangeFuncCalls
import Derived.RangeFuncLeaves
import Derived.Shelf.Abstract
import Derived.Shelf.RegionOpen
import Derived.WalkKit
import Derived.OwnWalkIn
import Derived.TacticsInMore
import Derived.LoopNIn
import Derived.LoopIn
import Derived.Outline
import Derived.BigQuiet
import Derived.Deep.QuietTactic
import Derived.Deep.RegionHeld3
namespace Go.Proofs.Ytalgbcndifaaiaa.Wd
open Go.RowKit
set_option linter.unusedVariables false

/-- The first edge from s with the letter l. -/
def nextS (es : List Ed) (s : Nat) (l : Int) : Option Nat := (List.range es.length).find? fun j => decide ((es.getD j ed0).f = (s : Int)) && letB l (es.getD j ed0)
theorem nextS_out (es : List Ed) (s : Nat) (l : Int) : (outL es s l es.length).head? = (nextS es s l).map (fun (j : Nat) => (j : Int)) := by
  unfold outL nextS
  rw [List.head?_map, List.head?_filter]
theorem nextS_some {es : List Ed} {s j : Nat} {l : Int} (h : nextS es s l = some j) : j < es.length ∧ (es.getD j ed0).f = (s : Int) ∧ letB l (es.getD j ed0) = true := by
  have h1 := List.find?_some h
  have h2 := List.mem_of_find?_eq_some h
  rw [Bool.and_eq_true] at h1
  exact ⟨List.mem_range.1 h2, of_decide_eq_true h1.1, h1.2⟩
theorem nextS_from (es : List Ed) (s : Nat) (l : Int) : nextS es s l = ((List.range es.length).filter fun j => decide ((es.getD j ed0).f = (s : Int))).find? fun j => letB l (es.getD j ed0) := by
  unfold nextS
  rw [List.find?_filter]
  congr 1
  funext j
  cases decide ((es.getD j ed0).f = (s : Int)) <;> cases letB l (es.getD j ed0) <;> simp
theorem fromL_as (es : List Ed) (s n : Nat) : fromL es s n = ((List.range n).filter fun j => decide ((es.getD j ed0).f = (s : Int))).map fun (j : Nat) => (j : Int) := rfl
theorem nextS_at {es : List Ed} {s u i : Nat} {l : Int} (hu : u < (fromL es s es.length).length) (hi : (fromL es s es.length).getD u 0 = (i : Int)) (hn : ∀ v k : Nat, v < u → (fromL es s es.length).getD v 0 = (k : Int) → letB l (es.getD k ed0) = false) (hl : letB l (es.getD i ed0) = true) : nextS es s l = some i := by
  rw [nextS_from]
  rw [fromL_as] at hu hi hn
  generalize ((List.range es.length).filter fun j => decide ((es.getD j ed0).f = (s : Int))) = L at *
  rw [List.length_map] at hu
  have e : ∀ v (hv : v < L.length), (L.map fun (j : Nat) => (j : Int)).getD v 0 = (L[v] : Int) := fun v hv => by
    rw [List.getD_eq_getElem?_getD, List.getElem?_map, List.getElem?_eq_getElem hv]; rfl
  rw [List.find?_eq_some_iff_getElem]
  refine ⟨hl, u, hu, ?_, fun j hj => ?_⟩
  · have := e u hu; omega
  · rw [hn j L[j] hj (e j (by omega))]; rfl
theorem nextS_none {es : List Ed} {s : Nat} {l : Int} (hn : ∀ v k : Nat, v < (fromL es s es.length).length → (fromL es s es.length).getD v 0 = (k : Int) → letB l (es.getD k ed0) = false) : nextS es s l = none := by
  rw [nextS_from]
  rw [fromL_as] at hn
  generalize ((List.range es.length).filter fun j => decide ((es.getD j ed0).f = (s : Int))) = L at *
  rw [List.find?_eq_none]
  intro x hx
  obtain ⟨v, hv, rfl⟩ := List.getElem_of_mem hx
  rw [hn v L[v] (by rw [List.length_map]; exact hv) (by rw [List.getD_eq_getElem?_getD, List.getElem?_map, List.getElem?_eq_getElem hv]; rfl)]
  decide

/-- The state behind t letters, if the run is not over. -/
def runU (es : List Ed) (f : Nat → Int) (s0 : Nat) : Nat → Option Nat
  | 0 => some s0
  | t + 1 => (runU es f s0 t).bind fun s => (nextS es s (f t)).map fun j => (es.getD j ed0).t.toNat
/-- The marks of the step number t. -/
def markU (es : List Ed) (f : Nat → Int) (s0 t : Nat) : Nat :=
  match (runU es f s0 t).bind fun s => nextS es s (f t) with
  | some j => (es.getD j ed0).m.toNat
  | none => 0
/-- All marks of c steps from the step number a on. -/
def orU (es : List Ed) (f : Nat → Int) (s0 a : Nat) : Nat → Nat
  | 0 => 0
  | c + 1 => orU es f s0 a c ||| markU es f s0 (a + c)
section
variable {es : List Ed} {f : Nat → Int} {s0 : Nat}
theorem runU_dead {t : Nat} (h : runU es f s0 t = none) : ∀ c, runU es f s0 (t + c) = none
  | 0 => h
  | c + 1 => by
    show (runU es f s0 (t + c)).bind _ = none
    rw [runU_dead h c]; rfl
theorem runU_live {t t' : Nat} {s : Nat} (h : runU es f s0 t' = some s) (ht : t ≤ t') : ∃ s', runU es f s0 t = some s' := by
  cases e : runU es f s0 t with
  | some s' => exact ⟨s', rfl⟩
  | none =>
    have := runU_dead e (t' - t)
    rw [show t + (t' - t) = t' by omega, h] at this
    cases this
theorem runU_next {t s j : Nat} (h : runU es f s0 t = some s) (hj : nextS es s (f t) = some j) : runU es f s0 (t + 1) = some (es.getD j ed0).t.toNat ∧ markU es f s0 t = (es.getD j ed0).m.toNat := by
  refine ⟨?_, ?_⟩
  · show (runU es f s0 t).bind _ = _
    rw [h]; show (nextS es s (f t)).map _ = _; rw [hj]; rfl
  · unfold markU; rw [h]; show (match nextS es s (f t) with | some j => _ | none => 0) = _; rw [hj]
theorem runU_stop {t s : Nat} (h : runU es f s0 t = some s) (hj : nextS es s (f t) = none) : runU es f s0 (t + 1) = none ∧ markU es f s0 t = 0 := by
  refine ⟨?_, ?_⟩
  · show (runU es f s0 t).bind _ = _
    rw [h]; show (nextS es s (f t)).map _ = _; rw [hj]; rfl
  · unfold markU; rw [h]; show (match nextS es s (f t) with | some j => _ | none => 0) = _; rw [hj]
theorem markU_dead {t : Nat} (h : runU es f s0 t = none) : markU es f s0 t = 0 := by unfold markU; rw [h]; rfl
theorem orU_bit (a c b : Nat) : (orU es f s0 a c).testBit b = true ↔ ∃ t, a ≤ t ∧ t < a + c ∧ (markU es f s0 t).testBit b = true := by
  induction c with
  | zero => simp [orU]; intro t h1 h2; omega
  | succ c ih =>
    rw [orU, Nat.testBit_or, Bool.or_eq_true, ih]
    constructor
    · rintro (⟨t, h1, h2, h3⟩ | h)
      · exact ⟨t, h1, by omega, h3⟩
      · exact ⟨a + c, by omega, by omega, h⟩
    · rintro ⟨t, h1, h2, h3⟩
      by_cases e : t = a + c
      · subst e; exact .inr h3
      · exact .inl ⟨t, h1, by omega, h3⟩
/-- States and marks are small. -/
theorem runU_lt {P M S : Nat} (he : ∀ j, j < es.length → ∃ a b : Nat, (es.getD j ed0).f = (a : Int) ∧ (es.getD j ed0).t = (b : Int) ∧ a < S ∧ b < S) (h0 : s0 < S) : ∀ {t s : Nat}, runU es f s0 t = some s → s < S
  | 0, s, h => by cases h; exact h0
  | t + 1, s, h => by
    have h' : (runU es f s0 t).bind (fun s => (nextS es s (f t)).map fun j => (es.getD j ed0).t.toNat) = some s := h
    rw [Option.bind_eq_some_iff] at h'
    obtain ⟨s', h1, h2⟩ := h'
    rw [Option.map_eq_some_iff] at h2
    obtain ⟨j, h3, h4⟩ := h2
    obtain ⟨a, b, _, hb, _, hb2⟩ := he j (nextS_some h3).1
    rw [hb] at h4
    omega
/-- Where the run is at the beginning of the turn number k of the loop. -/
def turnU (es : List Ed) (f : Nat → Int) (s0 n m k : Nat) : Option Nat := runU es f s0 (n + k * m)

section
variable {n m : Nat} (hf : ∀ t, n ≤ t → f (t + m) = f t)
include hf
theorem f_turns (t k : Nat) (ht : n ≤ t) : f (t + k * m) = f t := by
  induction k with
  | zero => simp
  | succ k ih => rw [Nat.succ_mul, ← Nat.add_assoc, hf _ (by omega), ih]
/-- From one state at the beginning of a turn on all goes alike. -/
theorem runU_again {i k : Nat} (h : turnU es f s0 n m i = turnU es f s0 n m k) : ∀ c, runU es f s0 (n + i * m + c) = runU es f s0 (n + k * m + c)
  | 0 => h
  | c + 1 => by
    show (runU es f s0 (n + i * m + c)).bind _ = (runU es f s0 (n + k * m + c)).bind _
    rw [runU_again h c]
    have e : f (n + i * m + c) = f (n + k * m + c) := by
      rw [show n + i * m + c = n + c + i * m by omega, show n + k * m + c = n + c + k * m by omega, f_turns hf _ _ (by omega), f_turns hf _ _ (by omega)]
    show (runU es f s0 (n + k * m + c)).bind (fun s => (nextS es s (f (n + i * m + c))).map fun j => (es.getD j ed0).t.toNat) = (runU es f s0 (n + k * m + c)).bind (fun s => (nextS es s (f (n + k * m + c))).map fun j => (es.getD j ed0).t.toNat)
    rw [e]
theorem markU_again {i k : Nat} (h : turnU es f s0 n m i = turnU es f s0 n m k) (c : Nat) : markU es f s0 (n + i * m + c) = markU es f s0 (n + k * m + c) := by
  unfold markU
  rw [runU_again hf h c, show n + i * m + c = n + c + i * m by omega, show n + k * m + c = n + c + k * m by omega, f_turns hf _ _ (by omega), f_turns hf _ _ (by omega)]
/-- A turn that repeats an earlier one repeats it with a period. -/
theorem turnU_period {i k : Nat} (hik : i < k) (h : turnU es f s0 n m i = turnU es f s0 n m k) : ∀ j, i ≤ j → turnU es f s0 n m (j + (k - i)) = turnU es f s0 n m j := by
  intro j hj
  unfold turnU
  have := runU_again hf h ((j - i) * m)
  rw [show n + i * m + (j - i) * m = n + j * m by rw [Nat.add_assoc, ← Nat.add_mul, show i + (j - i) = j by omega], show n + k * m + (j - i) * m = n + (j + (k - i)) * m by rw [Nat.add_assoc, ← Nat.add_mul, show k + (j - i) = j + (k - i) by omega]] at this
  exact this.symm
theorem turnU_mod {i k : Nat} (hik : i < k) (h : turnU es f s0 n m i = turnU es f s0 n m k) : ∀ c j, i ≤ j → turnU es f s0 n m (j + c * (k - i)) = turnU es f s0 n m j
  | 0, j, _ => by simp
  | c + 1, j, hj => by
    rw [Nat.succ_mul, ← Nat.add_assoc, turnU_period hf hik h _ (by omega), turnU_mod hik h c j hj]
/-- So the run does not end. -/
theorem turnU_live {i k : Nat} (hm : 0 < m) (hik : i < k) (h : turnU es f s0 n m i = turnU es f s0 n m k) (hl : turnU es f s0 n m i ≠ none) (t : Nat) : runU es f s0 t ≠ none := by
  intro hd
  have h1 := turnU_mod hf hik h t i (Nat.le_refl _)
  have h2 : t ≤ n + (i + t * (k - i)) * m := by
    have a1 : t ≤ t * (k - i) := Nat.le_mul_of_pos_right t (by omega)
    have a2 : i + t * (k - i) ≤ (i + t * (k - i)) * m := Nat.le_mul_of_pos_right _ hm
    omega
  have h3 := runU_dead hd (n + (i + t * (k - i)) * m - t)
  rw [show t + (n + (i + t * (k - i)) * m - t) = n + (i + t * (k - i)) * m by omega] at h3
  exact hl (h1.symm.trans h3)
omit hf in
theorem reach_class {p : Nat} (hp : 0 < p) (A : Nat) : ∀ (g x : Nat), A - x ≤ g → x ≤ A → ∃ c, A ≤ x + c * p ∧ x + c * p < A + p
  | 0, x, hg, hx => ⟨0, by omega, by omega⟩
  | g + 1, x, hg, hx => by
    by_cases h0 : x = A
    · exact ⟨0, by omega, by omega⟩
    by_cases h : A ≤ x + p
    · exact ⟨1, by omega, by omega⟩
    · obtain ⟨c, h1, h2⟩ := reach_class hp A g (x + p) (by omega) (by omega)
      exact ⟨c + 1, by rw [Nat.succ_mul]; omega, by rw [Nat.succ_mul]; omega⟩
omit hf in
theorem in_turn {m d S : Nat} (hm : 0 < m) (h : d < S * m) : ∃ q r, q < S ∧ r < m ∧ d = q * m + r :=
  ⟨d / m, d % m, Nat.div_lt_of_lt_mul (by rw [Nat.mul_comm]; exact h), Nat.mod_lt _ hm, by have := Nat.div_add_mod d m; rw [Nat.mul_comm] at this; omega⟩
omit hf in
theorem in_cycle {p i x : Nat} (hp : 0 < p) (h : i ≤ x) : ∃ c y, y < p ∧ x = i + y + c * p :=
  ⟨(x - i) / p, (x - i) % p, Nat.mod_lt _ hp, by have := Nat.div_add_mod (x - i) p; rw [Nat.mul_comm] at this; omega⟩
omit hf in
theorem turn_lt {m j r S : Nat} (hj : j < S) (hr : r < m) : j * m + r < S * m := by
  have h1 : (j + 1) * m ≤ S * m := Nat.mul_le_mul_right m hj
  rw [Nat.succ_mul] at h1
  omega
/-- The marks of the turns i to k - 1 are those of any S turns from one on that is not earlier. -/
theorem marks_turns {i k S : Nat} (hm : 0 < m) (hik : i < k) (hkS : k ≤ S) (h : turnU es f s0 n m i = turnU es f s0 n m k) : orU es f s0 (n + i * m) ((k - i) * m) = orU es f s0 (n + S * m) (S * m) := by
  apply Nat.eq_of_testBit_eq
  intro b
  rw [Bool.eq_iff_iff, orU_bit, orU_bit]
  constructor
  · rintro ⟨t, h1, h2, h3⟩
    obtain ⟨d, rfl⟩ : ∃ d, t = n + i * m + d := ⟨t - (n + i * m), by omega⟩
    obtain ⟨q, r, hq, hr, rfl⟩ := in_turn (d := d) (S := k - i) hm (by omega)
    obtain ⟨c, hc1, hc2⟩ := reach_class (p := k - i) (by omega) S S (i + q) (by omega) (by omega)
    have ht := turnU_mod hf hik h c (i + q) (by omega)
    have hk := markU_again hf ht r
    obtain ⟨j, hj⟩ : ∃ j, i + q + c * (k - i) = S + j := ⟨i + q + c * (k - i) - S, by omega⟩
    have hlt := turn_lt (show j < S by omega) hr
    rw [hj, Nat.add_mul, Nat.add_mul] at hk
    refine ⟨n + (S * m + j * m) + r, by omega, by omega, ?_⟩
    rw [hk, show n + (i * m + q * m) + r = n + i * m + (q * m + r) by omega]
    exact h3
  · rintro ⟨t, h1, h2, h3⟩
    obtain ⟨d, rfl⟩ : ∃ d, t = n + S * m + d := ⟨t - (n + S * m), by omega⟩
    obtain ⟨q, r, hq, hr, rfl⟩ := in_turn (d := d) (S := S) hm (by omega)
    obtain ⟨c, y, hy, hx⟩ := in_cycle (p := k - i) (i := i) (x := S + q) (by omega) (by omega)
    have ht := turnU_mod hf hik h c (i + y) (by omega)
    rw [← hx] at ht
    have hk := markU_again hf ht r
    have hlt := turn_lt hy hr
    rw [Nat.add_mul, Nat.add_mul] at hk
    refine ⟨n + (i * m + y * m) + r, by omega, by omega, ?_⟩
    rw [← hk, show n + (S * m + q * m) + r = n + S * m + (q * m + r) by omega]
    exact h3
end
/-- What the walk of the program comes to. -/
def WalkA (es : List Ed) (f : Nat → Int) (s0 n m S : Nat) (r : Nat) (dead : Bool) : Prop :=
  (∃ k, k ≤ S ∧ turnU es f s0 n m k = none ∧ r = 0 ∧ dead = true) ∨
  (∃ i k, i < k ∧ k ≤ S ∧ turnU es f s0 n m i = turnU es f s0 n m k ∧ turnU es f s0 n m i ≠ none ∧ r = orU es f s0 (n + i * m) ((k - i) * m) ∧ dead = false)
/-- What the walk of the reference comes to. -/
def WalkB (es : List Ed) (f : Nat → Int) (s0 n m S : Nat) (r : Nat) (dead : Bool) : Prop :=
  (∃ t, t ≤ n + S * m + S * m ∧ runU es f s0 t = none ∧ r = 0 ∧ dead = true) ∨
  (runU es f s0 (n + S * m + S * m) ≠ none ∧ r = orU es f s0 (n + S * m) (S * m) ∧ dead = false)
theorem walk_same {n m S r r' : Nat} {dead dead' : Bool} (hm : 0 < m) (hf : ∀ t, n ≤ t → f (t + m) = f t) (h : WalkA es f s0 n m S r dead) (h' : WalkB es f s0 n m S r' dead') : r = r' ∧ dead = dead' := by
  rcases h with ⟨k, hk, h1, rfl, rfl⟩ | ⟨i, k, hik, hk, h1, h2, rfl, rfl⟩
  · rcases h' with ⟨t, _, _, rfl, rfl⟩ | ⟨h3, rfl, rfl⟩
    · exact ⟨rfl, rfl⟩
    · have h4 : k * m ≤ S * m := Nat.mul_le_mul_right m hk
      have h5 := runU_dead h1 (n + S * m + S * m - (n + k * m))
      rw [show n + k * m + (n + S * m + S * m - (n + k * m)) = n + S * m + S * m by omega] at h5
      exact absurd h5 h3
  · rcases h' with ⟨t, _, h3, rfl, rfl⟩ | ⟨h3, rfl, rfl⟩
    · exact absurd h3 (turnU_live hf hm hik h1 h2 t)
    · exact ⟨marks_turns hf hm hik hk h1, rfl⟩
end
end Go.Proofs.Ytalgbcndifaaiaa.Wd

namespace Go.Proofs.Ytalgbcndifaaiaa.Wd
open Go.RowKit
set_option linter.unusedVariables false
set_option linter.unusedSimpArgs false

/-- What was seen, and what waits: the boxes bs (a row of bools at br) and bw (an own row of states). -/
structure Seen (B bs bw br S : Nat) (w : World) (F : Nat → Bool) (v : Value) (L : List Int) : Prop where
  seen : w.cell? ⟨bs, 0, none⟩ = some (.slice (some ⟨br, 0, none⟩) S S)
  row : RowF w br S F
  wait : w.cell? ⟨bw, 0, none⟩ = some v
  free : w.frozen? ⟨bw, 0, none⟩ = false
  own : w.ownsRow B 3 1 v L.length (L.map (Value.int .i64))
  lt : bs < B ∧ bw < B ∧ br < B ∧ bs ≠ bw ∧ br ≠ bw ∧ bs ≠ br
  size : B ≤ w.heap.size

/-- Below B only the blocks br and bw may have turned. -/
structure KeepT (B br bw : Nat) (w w' : World) : Prop where
  os : w'.os = w.os
  tape : w'.tape = w.tape
  output : w'.output = w.output
  size : w.heap.size ≤ w'.heap.size
  block : ∀ j, j < B → j ≠ br → j ≠ bw → w'.heap[j]? = w.heap[j]?

theorem one_at (w : World) (g : Nat) (hg : w.heap.size = g) (x : Int) (t : TypeId) : Ints (w.alloc (.cells #[.int .i64 x] t)) (some ⟨g, 0, none⟩) 1 [x] := one_new w g hg x t

end Go.Proofs.Ytalgbcndifaaiaa.Wd

namespace Go.Proofs.Ytalgbcndifaaiaa.Wd
open Go.RowKit
set_option linter.unusedVariables false

structure Mets (st : List Int) (es : List Ed) (S : Nat) (F : Nat → Bool) (L : List Int) : Prop where
  mem : ∀ i : Nat, F i = true ↔ (i : Int) ∈ L
  lt : ∀ x, x ∈ L → ∃ i : Nat, x = (i : Int) ∧ i < S
  sound : SoundF st es F
  len : L.length + cntF F S = S

theorem cntF_none (S : Nat) : cntF (fun _ => false) S = S := by
  induction S with
  | zero => rfl
  | succ n ih => unfold cntF; rw [ih, if_neg (by decide)]; omega
theorem Mets.start (st : List Int) (es : List Ed) (S : Nat) : Mets st es S (fun _ => false) [] :=
  ⟨fun i => by simp, fun x h => (by cases h), (fun i h => by cases h), by rw [cntF_none]; simp⟩
theorem Mets.short {st : List Int} {es : List Ed} {S : Nat} {F : Nat → Bool} {L : List Int} (h : Mets st es S F L) : L.length ≤ S := by have := h.len; omega
theorem Mets.next {st : List Int} {es : List Ed} {S s : Nat} {F : Nat → Bool} {L : List Int} (h : Mets st es S F L) (hs : s < S) (hf : F s = false) (hr : Rch st es s) : Mets st es S (updB F s) (L ++ [(s : Int)]) := by
  refine ⟨fun i => ⟨fun hi => ?_, fun hi => ?_⟩, fun x hx => ?_, fun i hi => ?_, ?_⟩
  · rcases updB_true hi with rfl | h2
    · simp
    · exact List.mem_append.2 (.inl ((h.mem i).1 h2))
  · rcases List.mem_append.1 hi with h2 | h2
    · exact updB_mono ((h.mem i).2 h2)
    · obtain rfl : i = s := by have := List.mem_singleton.1 h2; omega
      exact updB_same F i
  · rcases List.mem_append.1 hx with h2 | h2
    · exact h.lt x h2
    · exact ⟨s, List.mem_singleton.1 h2, hs⟩
  · rcases updB_true hi with rfl | h2
    · exact hr
    · exact h.sound i h2
  · have h1 := cntF_set hf S hs
    have h2 := h.len
    simp only [List.length_append, List.length_cons, List.length_nil]
    omega

/-- The states that were followed: all that their edges lead to has been seen. -/
def DoneF (es : List Ed) (F : Nat → Bool) (L : List Int) (k : Nat) : Prop :=
  ∀ j k' a b : Nat, j < k → k' < es.length → (es.getD k' ed0).f = (a : Int) → L.getD j 0 = (a : Int) → (es.getD k' ed0).t = (b : Int) → F b = true
/-- Of the edges from s the first u. -/
def PartF (es : List Ed) (F : Nat → Bool) (s u : Nat) : Prop := ∀ v k b : Nat, v < u → (fromL es s es.length).getD v 0 = (k : Int) → (es.getD k ed0).t = (b : Int) → F b = true
/-- More was seen. -/
def MoreF (F F' : Nat → Bool) (L L' : List Int) : Prop := (∀ i, F i = true → F' i = true) ∧ ∃ l, L' = L ++ l
theorem MoreF.refl (F : Nat → Bool) (L : List Int) : MoreF F F L L := ⟨fun _ h => h, [], by simp⟩
theorem MoreF.at_ {F F' : Nat → Bool} {L L' : List Int} (h : MoreF F F' L L') {j : Nat} (hj : j < L.length) : L'.getD j 0 = L.getD j 0 := by
  obtain ⟨_, l, rfl⟩ := h
  simp [List.getD_eq_getElem?_getD, List.getElem?_append_left hj]
theorem MoreF.take {F F' : Nat → Bool} {L L' : List Int} (h : MoreF F F' L L') {j : Nat} (hj : j ≤ L.length) : L'.take j = L.take j := by
  obtain ⟨_, l, rfl⟩ := h
  rw [List.take_append_of_le_length hj]
theorem MoreF.len {F F' : Nat → Bool} {L L' : List Int} (h : MoreF F F' L L') : L.length ≤ L'.length := by
  obtain ⟨_, l, rfl⟩ := h
  simp
theorem DoneF.more {es : List Ed} {F F' : Nat → Bool} {L L' : List Int} {k : Nat} (h : DoneF es F L k) (hm : MoreF F F' L L') (hk : k ≤ L.length) : DoneF es F' L' k := by
  intro j k' a b hj h1 h2 h3 h4
  rw [hm.at_ (by omega)] at h3
  exact hm.1 b (h j k' a b hj h1 h2 h3 h4)
theorem StartF.more {st : List Int} {F F' : Nat → Bool} {L L' : List Int} {t : Nat} (h : StartF st F t) (hm : MoreF F F' L L') : StartF st F' t := fun k s hk hs => hm.1 s (h k s hk hs)
theorem PartF.more {es : List Ed} {F F' : Nat → Bool} {L L' : List Int} {s u : Nat} (h : PartF es F s u) (hm : MoreF F F' L L') : PartF es F' s u := fun v k b hv h1 h2 => hm.1 b (h v k b hv h1 h2)

theorem fromL_mem {es : List Ed} {s k n : Nat} (hk : k < n) (h : (es.getD k ed0).f = (s : Int)) : (k : Int) ∈ fromL es s n := by
  unfold fromL
  exact List.mem_map.2 ⟨k, List.mem_filter.2 ⟨List.mem_range.2 hk, decide_eq_true h⟩, rfl⟩
theorem fromL_is {es : List Ed} {s n : Nat} {x : Int} (h : x ∈ fromL es s n) : ∃ k : Nat, x = (k : Int) ∧ k < n ∧ (es.getD k ed0).f = (s : Int) := by
  unfold fromL at h
  obtain ⟨k, hk, rfl⟩ := List.mem_map.1 h
  have h2 := List.mem_filter.1 hk
  exact ⟨k, rfl, List.mem_range.1 h2.1, of_decide_eq_true h2.2⟩
theorem fromL_at {es : List Ed} {s n u : Nat} (h : u < (fromL es s n).length) : ∃ k : Nat, (fromL es s n).getD u 0 = (k : Int) ∧ k < n ∧ (es.getD k ed0).f = (s : Int) :=
  fromL_is (by rw [List.getD_eq_getElem?_getD, List.getElem?_eq_getElem h]; exact List.getElem_mem h)
theorem PartF.step {es : List Ed} {F : Nat → Bool} {s u k b : Nat} (h : PartF es F s u) (hk : (fromL es s es.length).getD u 0 = (k : Int)) (hb : (es.getD k ed0).t = (b : Int)) (hf : F b = true) : PartF es F s (u + 1) := by
  intro v k' b' hv h1 h2
  by_cases e : v = u
  · subst e
    obtain rfl : k = k' := by omega
    obtain rfl : b = b' := by omega
    exact hf
  · exact h v k' b' (by omega) h1 h2
theorem PartF.zero (es : List Ed) (F : Nat → Bool) (s : Nat) : PartF es F s 0 := fun v k b hv => by omega
theorem DoneF.step {es : List Ed} {F : Nat → Bool} {L : List Int} {k s : Nat} (h : DoneF es F L k) (hs : L.getD k 0 = (s : Int)) (hp : PartF es F s (fromL es s es.length).length) : DoneF es F L (k + 1) := by
  intro j k' a b hj h1 h2 h3 h4
  by_cases e : j = k
  · subst e
    obtain rfl : s = a := by omega
    have hm := fromL_mem h1 h2
    obtain ⟨v, hv, he⟩ := List.getElem_of_mem hm
    exact hp v k' b hv (by rw [List.getD_eq_getElem?_getD, List.getElem?_eq_getElem hv]; exact he) h4
  · exact h j k' a b (by omega) h1 h2 h3 h4
theorem all_done {st : List Int} {es : List Ed} {S : Nat} {F : Nat → Bool} {L : List Int} (hm : Mets st es S F L) (hs : StartF st F st.length) (hd : DoneF es F L L.length) (i : Nat) : F i = true ↔ Rch st es i := by
  refine reach_done hm.sound hs (fun k a b hk ha hb hf => ?_) i
  obtain ⟨j, hj, he⟩ := List.getElem_of_mem ((hm.mem a).1 hf)
  exact hd j k a b hj hk ha (by rw [List.getD_eq_getElem?_getD, List.getElem?_eq_getElem hj]; exact he) hb

/-- Which states have been handed out: those of the list, so far. -/
def GaveF (G : Nat → Bool) (L : List Int) (k : Nat) : Prop := ∀ i : Nat, G i = true ↔ (i : Int) ∈ L.take k
theorem GaveF.zero (L : List Int) : GaveF (fun _ => false) L 0 := fun i => by simp
theorem GaveF.step {G : Nat → Bool} {L : List Int} {k s : Nat} (h : GaveF G L k) (hk : k < L.length) (hs : L.getD k 0 = (s : Int)) : GaveF (updB G s) L (k + 1) := by
  have e : L[k] = (s : Int) := by rw [List.getD_eq_getElem?_getD, List.getElem?_eq_getElem hk] at hs; exact hs
  intro i
  rw [List.take_succ_eq_append_getElem hk, e, List.mem_append, List.mem_singleton]
  constructor
  · intro hi
    rcases updB_true hi with rfl | h2
    · exact .inr rfl
    · exact .inl ((h i).1 h2)
  · rintro (h2 | h2)
    · exact updB_mono ((h i).2 h2)
    · obtain rfl : i = s := by omega
      exact updB_same G i

/-- What meet leaves. -/
def MetR (st : List Int) (es : List Ed) (B bs bw br S s : Nat) (F : Nat → Bool) (L : List Int) (w w' : World) : Prop :=
  ∃ F' v' L', Seen B bs bw br S w' F' v' L' ∧ Mets st es S F' L' ∧ F' s = true ∧ MoreF F F' L L' ∧ KeepT B br bw w w'

theorem KeepT.refl (B br bw : Nat) (w : World) : KeepT B br bw w w := ⟨rfl, rfl, rfl, Nat.le_refl _, fun _ _ _ _ => rfl⟩

end Go.Proofs.Ytalgbcndifaaiaa.Wd

namespace Go.Proofs.Ytalgbcndifaaiaa.Wd
open Go.RowKit

/-- What lay at B or beyond lies as it lay. -/
structure Over (B : Nat) (W W' : World) : Prop where
  os : W'.os = W.os
  tape : W'.tape = W.tape
  output : W'.output = W.output
  size : W.heap.size ≤ W'.heap.size
  block : ∀ k, B ≤ k → k < W.heap.size → W'.heap[k]? = W.heap[k]?
theorem Over.refl (B : Nat) (W : World) : Over B W W := ⟨rfl, rfl, rfl, Nat.le_refl _, fun _ _ _ => rfl⟩
theorem Over.trans {B : Nat} {a b c : World} (h : Over B a b) (k : Over B b c) : Over B a c :=
  ⟨k.os.trans h.os, k.tape.trans h.tape, k.output.trans h.output, Nat.le_trans h.size k.size, fun i hi hl => (k.block i hi (Nat.lt_of_lt_of_le hl h.size)).trans (h.block i hi hl)⟩
theorem Over.mono {B B' : Nat} {a b : World} (h : Over B a b) (hB : B ≤ B') : Over B' a b := ⟨h.os, h.tape, h.output, h.size, fun i hi hl => h.block i (Nat.le_trans hB hi) hl⟩
theorem Over.setCell (B : Nat) (W : World) {a : Addr} (ha : a.block < B) (v : Value) : Over B W (W.setCell a v) :=
  ⟨(Below.refl 0 W |>.setCell (p := a) (Nat.zero_le _) v).os, (Below.refl 0 W |>.setCell (p := a) (Nat.zero_le _) v).tape, (Below.refl 0 W |>.setCell (p := a) (Nat.zero_le _) v).output, (KeepsWalks.setCell W a v).size, fun k hk _ => Below.heap_setCell W a v k (by omega)⟩
theorem Over.putObj (B : Nat) (W : World) {r : Nat} (o : Obj) (hr : r < B) : Over B W (W.putObj r o) :=
  ⟨rfl, rfl, rfl, by simp, fun k hk _ => World.putObj_heap_other (by omega)⟩
theorem below_putObj {B : Nat} (W : World) {r : Nat} (o : Obj) (hr : B ≤ r) : Below B W (W.putObj r o) :=
  ⟨rfl, rfl, rfl, by simp, fun k hk => World.putObj_heap_other (by omega)⟩

/-- How a round of such a loop may be left. -/
def onOver (B : Nat) (I : World → Prop) (W : World) : Exit → Act → World → Prop
  | .normal, _, W' => Over B W W' ∧ I W'
  | .exit _, _, _ => False
  | .ret, _, _ => False
  | .goto _, _, _ => False
  | .panic _, _, _ => False
  | .outgrown, _, _ => False

variable {F : Fence} {n : Nat} {P : Program}

theorem range_whole {β : Type} {g : Operand} {ps : Array Tmp} {assign body : Code} {Q : Exit → Act → World → Prop} {a : Act} {w : World}
    (hro : F.round = none) (h1 : 1 ≤ n) {gf : Nat} {lb : Array Value} (hg : a.eval g = .func (.func gf) #[] lb) (hFg : F.fn gf) (eg : ∀ args w, (callFunc gf args).run P w = .ok (.enter gf args) w)
    (f : Nat → Value) (N : Nat) (up : β → Nat → β) (b0 : β) (R : β → Prop) (St : World → Prop) (hps : ps.size = 1)
    (hseq : ∀ (l : Nat) (J : β → World → Prop) (W : World), (∀ G W1 W2, J G W1 → Below (w.heap.size + 2) W1 W2 → J G W2) → (∀ G W1, J G W1 → St W1) →
      (∀ G x W1, J G W1 → x < N → YieldAt F (n - 1 - 1) P l #[f x] W1 fun e W' => e = .returned (.bool true) ∧ J (up G x) W' ∧ Over (w.heap.size + 2) W1 W') → w.heap.size + 2 ≤ W.heap.size → J b0 W →
      CallsIn F (n - 1) P gf (#[.func (.yield l) #[] #[]] ++ lb) W fun e W' => (∃ v, e = .returned v) ∧ ∃ G, R G ∧ J G W')
    (I : β → World → Prop) (hI : ∀ G W1 W2, I G W1 → Below w.heap.size W1 W2 → I G W2) (hIS : ∀ G W, I G W → St W) (h0 : I b0 w)
    (a₁ : Value → Act)
    (hassign : ∀ (l : Nat) (x : Value) (W : World) (K : Act → World → Prop), K (a₁ x) W →
      assign.wpIn (F.inRound l) (n - 1 - 1) P (Exit.then K (fun _ _ _ => False)) { tmps := (ps.zip #[x]).foldl (fun t (p, v) => t.setIfInBounds p v) a.tmps, defers := [] } W)
    (hbody : ∀ (l : Nat) (G : β) (x : Nat) (W : World), I G W → x < N → w.heap.size ≤ W.heap.size → body.wpIn (F.inRound l) (n - 1 - 1) P (onOver w.heap.size (I (up G x)) W) (a₁ (f x)) W)
    (hdone : ∀ (D : Nat) (G : β) (W : World), w.heap.size ≤ D → R G → I G W → W.heap[D]? = some (.deferred (some [])) → Q .normal { a with defers := { target := .collected D, args := #[] } :: a.defers } W) :
    (Code.rangeFunc g ps assign body).wpIn F n P Q a w := by
  refine wpIn_rangeFunc fun fn hfn => ?_
  rw [hro]
  let Rc : LoopState → Option Code → Loop := fun st pe => { state := st, pending := pe, fn := fn, tmps := a.tmps, params := ps, assign := assign, body := body, defers := w.heap.size }
  obtain ⟨V, hV⟩ : ∃ V, (w.alloc (.deferred (some []))).alloc (.loop (Rc .ready none)) = V := ⟨_, rfl⟩
  have v1 : V.heap[w.heap.size + 1]? = some (.loop (Rc .ready none)) := by
    rw [← hV]
    have := World.alloc_heap_new (w.alloc (.deferred (some []))) (.loop (Rc .ready none))
    rwa [World.size_alloc] at this
  have v0 : V.heap[w.heap.size]? = some (.deferred (some [])) := by
    rw [← hV]
    exact (Below.heap_alloc _ _ _ (by simp)).trans (World.alloc_heap_new w _)
  have hI1 : I b0 V := by rw [← hV]; exact hI _ _ _ h0 (((Below.refl _ w).alloc (Nat.le_refl _) _).alloc (by simp) _)
  have hVs : w.heap.size + 2 ≤ V.heap.size := by rw [← hV]; simp
  refine ⟨w.heap.size + 1, [{ target := .collected w.heap.size, args := #[] }], V, { target := .fn (.func gf) lb, args := #[.func (.yield (w.heap.size + 1)) #[] #[]] }, V, gf,
    #[.func (.yield (w.heap.size + 1)) #[] #[]] ++ lb, V, by rw [← hV]; exact run_enterLoop_outer _ _ _ _ _, by simp only [resolve, hg]; simp [go_sem], ?_, by simp [invoke, go_sem, eg], fun _ => h1, ?_⟩
  · intro f' hf'
    simp [Target.leads] at hf'
    subst hf'
    exact hFg
  refine (hseq (w.heap.size + 1)
    (fun G W => I G W ∧ W.heap[w.heap.size + 1]? = some (.loop (Rc .ready none)) ∧ W.heap[w.heap.size]? = some (.deferred (some [])))
    V (fun G W1 W2 h hb => ⟨hI _ _ _ h.1 (hb.mono (by omega)), (hb.block _ (by omega)).trans h.2.1, (hb.block _ (by omega)).trans h.2.2⟩) (fun G W1 h => hIS _ _ h.1) ?_ hVs ⟨hI1, v1, v0⟩).mono ?_
  · rintro G x W ⟨hi, hl, hk⟩ hx
    have hlt : w.heap.size + 1 < W.heap.size := (Array.getElem?_eq_some_iff.1 hl).1
    refine ⟨fn, _, assign, body, run_yield (P := P) (args := #[f x]) hl (by show 1 = ps.size; exact hps.symm), roundIn_of_wpIn hfn (hassign _ (f x) W _ ⟨_, run_beginRound hl rfl, ?_⟩)⟩
    obtain ⟨B, hB⟩ : ∃ B, W.putObj (w.heap.size + 1) (.loop (Rc .busy none)) = B := ⟨_, rfl⟩
    have b1 : B.heap[w.heap.size + 1]? = some (.loop (Rc .busy none)) := by rw [← hB]; exact World.putObj_heap_same hlt
    have b0 : B.heap[w.heap.size]? = some (.deferred (some [])) := by rw [← hB]; exact (World.putObj_heap_other (by omega)).trans hk
    have hib : I G B := by rw [← hB]; exact hI _ _ _ hi (below_putObj _ _ (by omega))
    have hov : Over (w.heap.size + 2) W B := by rw [← hB]; exact Over.putObj _ _ _ (by omega)
    have hsz : w.heap.size + 1 < B.heap.size := (Array.getElem?_eq_some_iff.1 b1).1
    show body.wpIn (F.inRound (w.heap.size + 1)) (n - 1 - 1) P _ (a₁ (f x)) (W.putObj (w.heap.size + 1) (.loop (Rc .busy none)))
    rw [hB]
    refine wpIn_mono (hbody _ G x B hib hx (by omega)) ?_
    rintro e a3 W3 hp
    cases e with
    | normal =>
      obtain ⟨hov3, hi3⟩ := hp
      have c1 := (hov3.block _ (by omega) hsz).trans b1
      have c0 := (hov3.block _ (by omega) (by omega)).trans b0
      exact ⟨_, _, run_endRound (P := P) none c1, rfl, ⟨hI _ _ _ hi3 (below_putObj _ _ (by omega)), World.putObj_heap_same (Array.getElem?_eq_some_iff.1 c1).1, (World.putObj_heap_other (by omega)).trans c0⟩, (hov.trans (hov3.mono (by omega))).trans (Over.putObj _ _ _ (by omega))⟩
    | exit i => exact hp.elim
    | ret => exact hp.elim
    | goto t => exact hp.elim
    | panic ch => exact hp.elim
    | outgrown => exact hp.elim
  · rintro e W2 ⟨⟨v, rfl⟩, G, hR, hi, hl, hk⟩
    refine ⟨none, _, run_endLoop (P := P) hl (by simp [Rc]), hdone _ _ _ (Nat.le_refl _) hR (hI _ _ _ hi (below_putObj _ _ (by omega))) ((World.putObj_heap_other (by omega)).trans hk)⟩

end Go.Proofs.Ytalgbcndifaaiaa.Wd

namespace Go.Proofs.Ytalgbcndifaaiaa.Wd
open Go.RowKit Go.Shelf
set_option linter.unusedVariables false

attribute [local go_sem] Oper.semAt_some

/-- The rows of outgoing, in blocks from lo to hi. -/
def OutAt (w : World) (lo hi ob S : Nat) (es : List Ed) (V : Nat → Value) : Prop :=
  lo ≤ ob ∧ ob < hi ∧ ∀ s, s < S → ∃ A c, V s = .slice A (fromL es s es.length).length c ∧ w.cell? ⟨ob, s, none⟩ = some (.slice A (fromL es s es.length).length c) ∧
    (0 < (fromL es s es.length).length → ∃ b off, A = some ⟨b, off, none⟩ ∧ lo ≤ b ∧ b < hi ∧ ∀ u, u < (fromL es s es.length).length → w.cell? ⟨b, off + u, none⟩ = some (.int .i64 ((fromL es s es.length).getD u 0)))
theorem OutAt.kept {w w' : World} {lo hi ob S : Nat} {es : List Ed} {V : Nat → Value} (h : OutAt w lo hi ob S es V) (hk : ∀ j, lo ≤ j → j < hi → w'.heap[j]? = w.heap[j]?) : OutAt w' lo hi ob S es V := by
  obtain ⟨h1, h2, h3⟩ := h
  refine ⟨h1, h2, fun s hs => ?_⟩
  obtain ⟨A, c, hv, hc, hx⟩ := h3 s hs
  refine ⟨A, c, hv, (World.cell?_of_block (a := ⟨ob, s, none⟩) (hk ob h1 h2)).trans hc, fun hp => ?_⟩
  obtain ⟨b, off, e, l1, l2, hu⟩ := hx hp
  exact ⟨b, off, e, l1, l2, fun u hlt => (World.cell?_of_block (a := ⟨b, off + u, none⟩) (hk b l1 l2)).trans (hu u hlt)⟩
theorem OutAt.of_rows {w : World} {lo S ne : Nat} {es : List Ed} {V : Nat → Value} (hl : es.length = ne) (hr : w.rowIs (lo + 1) 22 S V) (ho : Rows (lo + 2) S w V (fun s => fromL es s ne)) : OutAt w lo w.heap.size (lo + 1) S es V := by
  subst hl
  refine ⟨by omega, hr.lt, fun s hs => ?_⟩
  have hown := ho.own s hs
  obtain ⟨A, c, hv, _⟩ := own_slice hown
  refine ⟨A, c, hv, by rw [hr.cell hs, hv], fun hp => ?_⟩
  rw [hv] at hown
  obtain ⟨g, cap, hg, h1, h2⟩ := hown.form hp
  obtain ⟨b, off, e, _, hc⟩ := (Ints.of_own hown).2 hp
  have hb : b = g := by injection hg with hg; rw [e] at hg; injection hg with hg; injection hg
  exact ⟨b, off, e, by omega, by omega, hc⟩

theorem ownsRow_over {w w' : World} {B base e size n : Nat} {v : Value} {xs : List Value} (h : w.ownsRow base e size v n xs) (hb : Over B w w') (hB : B ≤ base) : w'.ownsRow base e size v n xs := by
  refine ⟨h.1, h.2.imp id fun ⟨g, cap, cur, hv, h1, h2, r⟩ => ⟨g, cap, cur, hv, h1, ?_, r⟩⟩
  rw [hb.block g (by omega) (Array.getElem?_eq_some_iff.1 h2).1]; exact h2
theorem Seen.over {B' B bs bw br S : Nat} {w w' : World} {F : Nat → Bool} {v : Value} {L : List Int} (h : Seen B bs bw br S w F v L) (ho : Over B' w w') (h1 : B' ≤ bs) (h2 : B' ≤ bw) (h3 : B' ≤ br) (h4 : B' ≤ B) : Seen B bs bw br S w' F v L := by
  obtain ⟨l1, l2, l3, _⟩ := h.lt
  have hz := h.size
  exact ⟨(World.cell?_of_block (a := ⟨bs, 0, none⟩) (ho.block bs h1 (by omega))).trans h.seen, World.rowIs.of_block h.row (ho.block br h3 (by omega)), (World.cell?_of_block (a := ⟨bw, 0, none⟩) (ho.block bw h2 (by omega))).trans h.wait,
    (World.frozen?_of_block (a := ⟨bw, 0, none⟩) (ho.block bw h2 (by omega))).trans h.free, ownsRow_over h.own ho h4, h.lt, Nat.le_trans hz ho.size⟩

def RI (st : List Int) (es : List Ed) (lo br S : Nat) (V : Nat → Value) (J : (Nat → Bool) → World → Prop) (F : Nat → Bool) (v : Value) (L : List Int) (G : Nat → Bool) (w : World) : Prop :=
  J G w ∧ Seen (br + 1 + 1 + 1) (br + 1) (br + 1 + 1) br S w F v L ∧ Mets st es S F L ∧ OutAt w lo br (lo + 1) S es V
def Loop1 (st : List Int) (es : List Ed) (lo br S : Nat) (V : Nat → Value) (J : (Nat → Bool) → World → Prop) (t : Nat) (w : World) : Prop :=
  ∃ F v L, RI st es lo br S V J F v L (fun _ => false) w ∧ StartF st F t
def Loop2 (st : List Int) (es : List Ed) (lo br S : Nat) (V : Nat → Value) (J : (Nat → Bool) → World → Prop) (k : Nat) (w : World) : Prop :=
  ∃ F v L G, RI st es lo br S V J F v L G w ∧ StartF st F st.length ∧ DoneF es F L k ∧ k ≤ L.length ∧ GaveF G L k
def Loop3 (st : List Int) (es : List Ed) (lo br S : Nat) (V : Nat → Value) (J : (Nat → Bool) → World → Prop) (k s u : Nat) (w : World) : Prop :=
  ∃ F v L G, RI st es lo br S V J F v L G w ∧ StartF st F st.length ∧ DoneF es F L k ∧ k < L.length ∧ L.getD k 0 = (s : Int) ∧ GaveF G L (k + 1) ∧ PartF es F s u

section
variable {st : List Int} {es : List Ed} {lo br S : Nat} {V : Nat → Value} {J : (Nat → Bool) → World → Prop} {F : Nat → Bool} {v : Value} {L : List Int} {G : Nat → Bool} {w w' : World} {B : Nat}
theorem RI.met (h : RI st es lo br S V J F v L G w) (hJB : ∀ G W1 W2, J G W1 → Below B W1 W2 → J G W2) (hB : B ≤ lo) (hlb : lo ≤ br) {s : Nat} (hm : MetR st es (br + 1 + 1 + 1) (br + 1) (br + 1 + 1) br S s F L w w') :
    ∃ F' v' L', RI st es lo br S V J F' v' L' G w' ∧ F' s = true ∧ MoreF F F' L L' := by
  obtain ⟨hJ, hS, hM, hO⟩ := h
  obtain ⟨F', v', L', hS', hM', hf, hmo, hk⟩ := hm
  exact ⟨F', v', L', ⟨hJB _ _ _ hJ ⟨hk.os, hk.tape, hk.output, hk.size, fun j hj => hk.block j (by omega) (by omega) (by omega)⟩, hS', hM', hO.kept (fun j h1 h2 => hk.block j (by omega) (by omega) (by omega))⟩, hf, hmo⟩
theorem RI.gave (h : RI st es lo br S V J F v L G w) (ho : Over B w w') {G' : Nat → Bool} (hJ : J G' w') (hB : B ≤ lo) (hlb : lo ≤ br) : RI st es lo br S V J F v L G' w' := by
  obtain ⟨_, hS, hM, hO⟩ := h
  have hz := hS.size
  exact ⟨hJ, hS.over ho (by omega) (by omega) (by omega) (by omega), hM, hO.kept (fun j h1 h2 => ho.block j (by omega) (by omega))⟩
theorem Loop1.step {t s : Nat} (h : RI st es lo br S V J F v L (fun _ => false) w) (ht : StartF st F t) (hJB : ∀ G W1 W2, J G W1 → Below B W1 W2 → J G W2) (hB : B ≤ lo) (hlb : lo ≤ br) (hs : st.getD t 0 = (s : Int))
    (hm : MetR st es (br + 1 + 1 + 1) (br + 1) (br + 1 + 1) br S s F L w w') : Loop1 st es lo br S V J (t + 1) w' := by
  obtain ⟨F', v', L', h', hf, hmo⟩ := h.met hJB hB hlb hm
  refine ⟨F', v', L', h', fun k s' hk hs' => ?_⟩
  by_cases e : k = t
  · subst e
    obtain rfl : s = s' := by omega
    exact hf
  · exact hmo.1 s' (ht k s' (by omega) hs')
theorem Loop3.step {k s u i b : Nat} (h : RI st es lo br S V J F v L G w) (h1 : StartF st F st.length) (h2 : DoneF es F L k) (h3 : k < L.length) (h4 : L.getD k 0 = (s : Int)) (h5 : GaveF G L (k + 1)) (h6 : PartF es F s u)
    (hJB : ∀ G W1 W2, J G W1 → Below B W1 W2 → J G W2) (hB : B ≤ lo) (hlb : lo ≤ br) (hi : (fromL es s es.length).getD u 0 = (i : Int)) (hb : (es.getD i ed0).t = (b : Int))
    (hm : MetR st es (br + 1 + 1 + 1) (br + 1) (br + 1 + 1) br S b F L w w') : Loop3 st es lo br S V J k s (u + 1) w' := by
  obtain ⟨F', v', L', h', hf, hmo⟩ := h.met hJB hB hlb hm
  exact ⟨F', v', L', G, h', h1.more hmo, h2.more hmo (by omega), Nat.lt_of_lt_of_le h3 hmo.len, (hmo.at_ h3).trans h4, fun j => by rw [hmo.take (by omega)]; exact h5 j, (h6.more hmo).step hi hb hf⟩
theorem Loop2.step {k s : Nat} (h : Loop3 st es lo br S V J k s (fromL es s es.length).length w) : Loop2 st es lo br S V J (k + 1) w := by
  obtain ⟨F, v, L, G, h, h1, h2, h3, h4, h5, h6⟩ := h
  exact ⟨F, v, L, G, h, h1, h2.step h4 h6, h3, h5⟩
theorem Loop2.gives {k : Nat} (h : RI st es lo br S V J F v L G w) (h1 : StartF st F st.length) (h2 : DoneF es F L k) (h5 : GaveF G L k) (hk : k = L.length) : (∀ i, G i = true ↔ Rch st es i) ∧ J G w := by
  subst hk
  refine ⟨fun i => ?_, h.1⟩
  rw [h5 i, List.take_length, ← h.2.2.1.mem i]
  exact all_done h.2.2.1 h1 h2 i
end

/-- What the iterator reads of the automaton. -/
def ReSt (bw : Nat) (P : Int) (S : Nat) (A : Option Addr) (n c : Nat) (K M : Int) (E : Option Addr) (ne ce : Nat) (st : List Int) (es : List Ed) (w : World) : Prop :=
  Box6 w bw P S A n c K M E ne ce ∧ Ints w A n st ∧ EdgesAt w E ne es

end Go.Proofs.Ytalgbcndifaaiaa.Wd

namespace Go.Proofs.Ytalgbcndifaaiaa.Wd
open Go.RowKit
set_option linter.unusedVariables false

theorem or_i64 (a b : Nat) (ha : a < 2 ^ 62) (hb : b < 2 ^ 62) : bits .or .i64 (a : Int) (b : Int) = ((a ||| b : Nat) : Int) :=
  (bits_nat .i64 62 (by decide) (fun n h0 h1 => by rw [IntKind.wrap_i64]; omega) a b ha hb).2

/-- The walker at block r: its fields, and the rows of outgoing in blocks from lo to hi. -/
structure WkS (w : World) (r lo hi S : Nat) (V : Nat → Value) (E : Option Addr) (ne ce : Nat) (es : List Ed) (q : Option Nat) : Prop where
  lt : r < w.heap.size
  far : hi ≤ r
  c0 : w.cell? ⟨r, 0, none⟩ = some (.slice E ne ce)
  c1 : w.cell? ⟨r, 1, none⟩ = some (.slice (some ⟨lo + 1, 0, none⟩) S S)
  f2 : w.frozen? ⟨r, 2, none⟩ = false
  f3 : w.frozen? ⟨r, 3, none⟩ = false
  st : ∃ x : Int, ∃ d : Bool, w.cell? ⟨r, 2, none⟩ = some (.int .i64 x) ∧ w.cell? ⟨r, 3, none⟩ = some (.bool d) ∧ (match q with | some s => x = (s : Int) ∧ d = false ∧ s < S | none => d = true)
  out : OutAt w lo hi (lo + 1) S es V
section
variable {w w' : World} {r lo hi S : Nat} {V : Nat → Value} {E : Option Addr} {ne ce : Nat} {es : List Ed} {q : Option Nat}
theorem WkS.below (h : WkS w r lo hi S V E ne ce es q) (hb : Below w.heap.size w w') : WkS w' r lo hi S V E ne ce es q := by
  obtain ⟨x, d, s1, s2, s3⟩ := h.st
  have hr := h.lt
  exact ⟨Nat.lt_of_lt_of_le hr hb.size, h.far, (hb.cell (p := ⟨r, 0, none⟩) hr).trans h.c0, (hb.cell (p := ⟨r, 1, none⟩) hr).trans h.c1, (hb.frozen (p := ⟨r, 2, none⟩) hr).trans h.f2, (hb.frozen (p := ⟨r, 3, none⟩) hr).trans h.f3,
    ⟨x, d, (hb.cell (p := ⟨r, 2, none⟩) hr).trans s1, (hb.cell (p := ⟨r, 3, none⟩) hr).trans s2, s3⟩, h.out.kept (fun j _ h2 => hb.block j (by have := h.far; omega))⟩
theorem WkS.move (h : WkS w r lo hi S V E ne ce es q) {s : Nat} (hq : ∃ s0, q = some s0) (hs : s < S) : WkS (w.setCell ⟨r, 2, none⟩ (.int .i64 s)) r lo hi S V E ne ce es (some s) := by
  obtain ⟨s0, rfl⟩ := hq
  obtain ⟨x, d, s1, s2, s3⟩ := h.st
  have ho : ∀ i, i ≠ 2 → (w.setCell ⟨r, 2, none⟩ (.int .i64 s)).cell? ⟨r, i, none⟩ = w.cell? ⟨r, i, none⟩ := fun i hi => World.cell?_setCell_other _ _ _ _ (fun e => hi (by cases e; rfl))
  exact ⟨by simpa using h.lt, h.far, (ho 0 (by decide)).trans h.c0, (ho 1 (by decide)).trans h.c1, by rw [World.frozen?_setCell]; exact h.f2, by rw [World.frozen?_setCell]; exact h.f3,
    ⟨s, d, World.cell?_setCell_same w _ _ s1, (ho 3 (by decide)).trans s2, rfl, s3.2.1, hs⟩, h.out.kept (fun j _ h2 => Below.heap_setCell w ⟨r, 2, none⟩ _ j (by have := h.far; show j ≠ r; omega))⟩
theorem WkS.die (h : WkS w r lo hi S V E ne ce es q) : WkS (w.setCell ⟨r, 3, none⟩ (.bool true)) r lo hi S V E ne ce es none := by
  obtain ⟨x, d, s1, s2, s3⟩ := h.st
  have ho : ∀ i, i ≠ 3 → (w.setCell ⟨r, 3, none⟩ (.bool true)).cell? ⟨r, i, none⟩ = w.cell? ⟨r, i, none⟩ := fun i hi => World.cell?_setCell_other _ _ _ _ (fun e => hi (by cases e; rfl))
  exact ⟨by simpa using h.lt, h.far, (ho 0 (by decide)).trans h.c0, (ho 1 (by decide)).trans h.c1, by rw [World.frozen?_setCell]; exact h.f2, by rw [World.frozen?_setCell]; exact h.f3,
    ⟨x, true, (ho 2 (by decide)).trans s1, World.cell?_setCell_same w _ _ s2, rfl⟩, h.out.kept (fun j _ h2 => Below.heap_setCell w ⟨r, 3, none⟩ _ j (by have := h.far; show j ≠ r; omega))⟩
end

/-- None of the first u edges of s has the letter. -/
def NoneF (es : List Ed) (s : Nat) (l : Int) (u : Nat) : Prop := ∀ v k : Nat, v < u → (fromL es s es.length).getD v 0 = (k : Int) → letB l (es.getD k ed0) = false
theorem NoneF.step {es : List Ed} {s u i : Nat} {l : Int} (h : NoneF es s l u) (hi : (fromL es s es.length).getD u 0 = (i : Int)) (hl : letB l (es.getD i ed0) = false) : NoneF es s l (u + 1) := by
  intro v k hv hk
  by_cases e : v = u
  · subst e
    obtain rfl : i = k := by omega
    exact hl
  · exact h v k (by omega) hk

/-- What step comes to. -/
def StepT (es : List Ed) (f : Nat → Int) (s0 t : Nat) (w w' : World) (r lo hi S : Nat) (V : Nat → Value) (E : Option Addr) (ne ce : Nat) (e : Ending) : Prop :=
  e = .returned (.int .i64 (markU es f s0 t : Nat)) ∧ WkS w' r lo hi S V E ne ce es (runU es f s0 (t + 1)) ∧ w.grownBy w' (some r)

theorem step_ret {w w' : World} {e : Ending} {es : List Ed} {f : Nat → Int} {s0 t r lo hi S ne ce : Nat} {V : Nat → Value} {E : Option Addr} {x : Int} (he : e = .returned (.int .i64 x)) (hx : x = (markU es f s0 t : Nat)) (h : WkS w' r lo hi S V E ne ce es (runU es f s0 (t + 1))) (hg : w.grownBy w' (some r)) : StepT es f s0 t w w' r lo hi S V E ne ce e :=
  ⟨by rw [he, hx], h, hg⟩
theorem grown_set2 {w w1 : World} {r i : Nat} (hg : w.grownBy w1 (some r)) (v : Value) : w.grownBy (w1.setCell ⟨r, i, none⟩ v) (some r) :=
  hg.trans ⟨(Below.refl 0 w1 |>.setCell (p := ⟨r, i, none⟩) (Nat.zero_le _) v).os, (Below.refl 0 w1 |>.setCell (p := ⟨r, i, none⟩) (Nat.zero_le _) v).tape, (Below.refl 0 w1 |>.setCell (p := ⟨r, i, none⟩) (Nat.zero_le _) v).output, (KeepsWalks.setCell w1 ⟨r, i, none⟩ v).size, fun k _ hk => Below.heap_setCell w1 _ v k (fun e => hk (by rw [e]))⟩

set_option maxRecDepth 100000 in
set_option maxHeartbeats 8000000 in
theorem step_run (f : Nat → Int) (s0 t r lo hi S : Nat) (V : Nat → Value) (E : Option Addr) (ne ce : Nat) (es : List Ed) (l : Int) (w : World) (h : WkS w r lo hi S V E ne ce es (runU es f s0 t)) (hE : EdgesAt w E ne es) (hne : ne ≤ 40000) (hS : S ≤ 3000) (hl : f t = l)
    (hes : ∀ j, j < ne → ∃ a b : Nat, (es.getD j ed0).f = (a : Int) ∧ (es.getD j ed0).t = (b : Int) ∧ a < S ∧ b < S) (hms : ∀ j, j < ne → 0 ≤ (es.getD j ed0).m ∧ (es.getD j ed0).m < 2 ^ 40) :
    Calls Try.prog 76 #[.pointer (some ⟨r, 0, none⟩), .int .i64 l] w fun e w' => StepT es f s0 t w w' r lo hi S V E ne ce e := by
  have HW := Lib.hid h
  have HLE := Lib.hid hE.1
  have hr := h.lt
  cases hq : runU es f s0 t with
  | none =>
    have HX := Lib.hid (show markU es f s0 t = 0 ∧ runU es f s0 (t + 1) = none from ⟨markU_dead hq, runU_dead hq 1⟩)
    rw [hq] at h HW
    obtain ⟨x, d, s1, s2, s3⟩ := h.st
    have hd : d = true := s3
    subst hd
    clear h hq hE hes hms s3
    go_enter Try.func76, Try.ntmps76
    go_wp2_with fail
    go_ret
    exact step_ret rfl (by rw [HX.out.1]; rfl) (by rw [HX.out.2]; exact HW.out) (World.grownBy.refl w _)
  | some s =>
    have HQ := Lib.hid hq
    rw [hq] at h HW
    obtain ⟨x, d, s1, s2, s3⟩ := h.st
    obtain ⟨rfl, rfl, hsS⟩ : x = (s : Int) ∧ d = false ∧ s < S := s3
    obtain ⟨A4, c4, hV, k4, hx4⟩ := h.out.2.2 s hsS
    have c0 := h.c0
    have c1 := h.c1
    have f2 := h.f2
    have f3 := h.f3
    have hs0 : (0 : Int) ≤ (s : Int) := by omega
    have hs1 : (s : Int) < (S : Int) := by omega
    have HXX := Lib.hid hx4
    have HEE := Lib.hid hE
    have HES := Lib.hid hes
    have HMS := Lib.hid hms
    obtain ⟨m4, hm4, HM4⟩ : ∃ m4, (fromL es s es.length).length = m4 ∧ Hid ((fromL es s es.length).length = m4) := ⟨_, rfl, rfl⟩
    have hm4b : m4 ≤ 40000 := by rw [← hm4]; have := fromL_len es s es.length; have := HLE.out; omega
    rw [hm4] at k4 hV
    have HV4 := Lib.hid hV
    have hlo : lo + 1 < w.heap.size := by have := h.out.2.1; have := h.far; omega
    clear h hq hE hes hms hV hx4 hm4
    go_enter Try.func76, Try.ntmps76
    go_wp2_with fail
    go_quiet (fail)
    go_wp2_with fail
    have HWD := Lib.hid (show WkS (w.drewN nq) r lo hi S V E ne ce es (some s) from HW.out.below (below_drewN (Below.refl _ _) _))
    have HGD := Lib.hid (show Below w.heap.size w (w.drewN nq) from below_drewN (Below.refl _ _) _)
    generalize w.drewN nq = Z at *
    clear c0 c1 f2 f3 s1 s2 k4 hlo
    go_loopg [23] m4 (fun g i wx => ∃ u : Nat, u + g = m4 ∧ i = .int .i64 u ∧ Hid (NoneF es s l u) ∧ Hid (WkS wx r lo hi S V E ne ce es (some s)) ∧ Hid (Below w.heap.size w wx))
    case atStart => exact ⟨0, by omega, rfl, (fun v k hv => by omega), HWD.out, HGD.out⟩
    case round =>
      clear HWD HGD
      obtain ⟨u, hug, rfl, HNF, HWx, HBx⟩ := hrel
      have hui : (0 : Int) ≤ (u : Int) := by omega
      have hrx := HWx.out.lt
      have c0 := HWx.out.c0
      have f2 := HWx.out.f2
      have f3 := HWx.out.f3
      obtain ⟨x9, d9, s1, s2, s3⟩ := HWx.out.st
      obtain ⟨rfl, rfl, _⟩ : x9 = (s : Int) ∧ d9 = false ∧ s < S := s3
      cases gk with
      | zero =>
        obtain rfl : m4 = u := by omega
        have HX := Lib.hid (runU_stop HQ.out (by rw [hl]; exact nextS_none (fun v k hv hk => HNF.out v k (by rw [← HM4.out]; exact hv) hk)))
        go_wp2_with fail
        go_ret
        exact step_ret rfl (by rw [HX.out.2]; rfl) (by rw [HX.out.1]; exact HWx.out.die) (grown_set2 (grown_of HBx.out) _)
      | succ q =>
        have hu1 : u < m4 := by omega
        have hui2 : (u : Int) < (m4 : Int) := by omega
        obtain ⟨A5, c5, hV5, _, hx5⟩ := HWx.out.out.2.2 s hsS
        obtain ⟨i, hi, hine, hif⟩ := fromL_at (es := es) (s := s) (n := es.length) (u := u) (by rw [HM4.out]; exact hu1)
        have hine2 : i < ne := by have := HLE.out; omega
        have hV6 := HV4.out.symm.trans hV5
        injection hV6 with ee1 ee2 ee3
        subst ee1
        obtain ⟨b5, off5, rfl, hb5a, hb5b, hc5⟩ := hx5 (by rw [HM4.out]; omega)
        have k5 := hc5 u (by rw [HM4.out]; exact hu1)
        rw [hi] at k5
        obtain ⟨b7, off7, rfl, hb7, hc7⟩ := (HEE.out.below HBx.out).2 (by omega)
        obtain ⟨e0, e1, e2, e3, e4⟩ := hc7 i hine2
        obtain ⟨fx, tx, hfx, htx, _, htS⟩ := HES.out i hine2
        obtain ⟨hm0, hm1⟩ := HMS.out i hine2
        have hi0 : (0 : Int) ≤ (i : Int) := by omega
        have hi1 : (i : Int) < (ne : Int) := by omega
        have HNS := Lib.hid (fun h1 => nextS_at (l := l) (by rw [HM4.out]; exact hu1) hi HNF.out h1)
        have HNO := Lib.hid (fun h1 => NoneF.step HNF.out hi h1)
        have HRUN := Lib.hid (fun h1 => runU_next HQ.out (show nextS es s (f t) = some i by rw [hl]; exact h1))
        generalize es.getD i ed0 = y at *
        obtain ⟨ef, et, ec, eb, em⟩ := y
        simp only at e0 e1 e2 e3 e4 hfx htx hm0 hm1 hif
        subst htx
        obtain ⟨mm, rfl⟩ := Int.eq_ofNat_of_zero_le hm0
        have HH := Lib.hid (fun w => has_letB ef tx ec eb mm l w)
        obtain ⟨rb, hrb, HRB⟩ : ∃ rb, letB l ⟨ef, tx, ec, eb, mm⟩ = rb ∧ Hid (letB l ⟨ef, tx, ec, eb, mm⟩ = rb) := ⟨_, rfl, rfl⟩
        rw [hrb] at HH
        have HWR := Lib.hid (fun w1 (hb : Below wr.heap.size wr w1) => (HWx.out.below hb).move (s := tx) ⟨s, rfl⟩ htS)
        have hb5r : b5 < wr.heap.size := by have := HWx.out.far; omega
        clear hrb hV5 ee2 ee3 hx5 hi hif hfx hc5 hc7 hm0 hm1 s1 s2
        go_wp2_with fail
        refine (HH.out _).mono ?_
        rintro z w3 ⟨rfl, hb3⟩
        have hbx3 := box_at hb3
        have d1 : w3.cell? ⟨wr.heap.size, 1, none⟩ = some (.int .i64 tx) := hbx3.2 1
        have d4 : w3.cell? ⟨wr.heap.size, 4, none⟩ = some (.int .i64 mm) := hbx3.2 4
        have hd0 := hbx3.1
        have HBB := Lib.hid (show Below wr.heap.size wr w3 from boxA hb3)
        have hr3 := Nat.lt_of_lt_of_le hrx HBB.out.size
        have g2 := (HBB.out.frozen (p := ⟨r, 2, none⟩) hrx).trans f2
        obtain ⟨x8, d8, s1, _, _⟩ := (HWx.out.below HBB.out).st
        have HB3 := Lib.hid (HBx.out.trans (HBB.out.mono HBx.out.size))
        have hrne : r ≠ wr.heap.size := by omega
        have hrne2 : ¬ wr.heap.size = r := by omega
        clear hb3 hbx3 k5 e0 e1 e2 e3 e4 f2 f3 c0
        cases rb
        · have HN := Lib.hid (HNO.out HRB.out)
          go_wp2_with fail
          go_roundg q
          case measure => omega
          case rel => exact ⟨u + 1, by omega, by go_num, HN.out, HWx.out.below HBB.out, HB3.out⟩
        · have HX := Lib.hid (HRUN.out (HNS.out HRB.out))
          go_wp2_with fail
          go_ret
          exact step_ret rfl (by rw [HX.out.2]; rfl) (by rw [HX.out.1]; exact HWR.out w3 HBB.out) (grown_set2 (grown_of HB3.out) _)

end Go.Proofs.Ytalgbcndifaaiaa.Wd

namespace Go.Proofs.Ytalgbcndifaaiaa.Wd
open Go.RowKit
set_option linter.unusedVariables false

theorem markU_lt {es : List Ed} {f : Nat → Int} {s0 t : Nat} (hms : ∀ j, j < es.length → 0 ≤ (es.getD j ed0).m ∧ (es.getD j ed0).m < 2 ^ 40) : markU es f s0 t < 2 ^ 40 := by
  unfold markU
  cases h : (runU es f s0 t).bind fun s => nextS es s (f t) with
  | none => simp
  | some j =>
    rw [Option.bind_eq_some_iff] at h
    obtain ⟨s, _, hj⟩ := h
    have h1 := hms j (nextS_some hj).1
    show (es.getD j ed0).m.toNat < 2 ^ 40
    omega
theorem orU_lt {es : List Ed} {f : Nat → Int} {s0 a : Nat} (hms : ∀ j, j < es.length → 0 ≤ (es.getD j ed0).m ∧ (es.getD j ed0).m < 2 ^ 40) : ∀ c, orU es f s0 a c < 2 ^ 40
  | 0 => by simp [orU]
  | c + 1 => Nat.or_lt_two_pow (orU_lt hms c) (markU_lt hms)

/-- What read comes to. -/
def ReadT (es : List Ed) (f : Nat → Int) (s0 t c : Nat) (w w' : World) (r lo hi S : Nat) (V : Nat → Value) (E : Option Addr) (ne ce : Nat) (e : Ending) : Prop :=
  e = .returned (.int .i64 (orU es f s0 t c : Nat)) ∧ WkS w' r lo hi S V E ne ce es (runU es f s0 (t + c)) ∧ w.grownBy w' (some r)

set_option maxRecDepth 100000 in
set_option maxHeartbeats 8000000 in
theorem read_run (f : Nat → Int) (s0 t0 r lo hi S : Nat) (V : Nat → Value) (E : Option Addr) (ne ce : Nat) (es : List Ed) (A : Option Addr) (n c : Nat) (xs : List Int) (B : Nat) (w : World) (h : WkS w r lo hi S V E ne ce es (runU es f s0 t0)) (hB : B ≤ r) (hBw : B ≤ w.heap.size)
    (hE : ∀ W, Below B w W → EdgesAt W E ne es) (hx : ∀ W, Below B w W → Ints W A n xs) (hn : n ≤ 100000) (hne : ne ≤ 40000) (hS : S ≤ 3000) (hl : ∀ j, j < n → f (t0 + j) = xs.getD j 0)
    (hes : ∀ j, j < ne → ∃ a b : Nat, (es.getD j ed0).f = (a : Int) ∧ (es.getD j ed0).t = (b : Int) ∧ a < S ∧ b < S) (hms : ∀ j, j < ne → 0 ≤ (es.getD j ed0).m ∧ (es.getD j ed0).m < 2 ^ 40) :
    Calls Try.prog 54 #[.pointer (some ⟨r, 0, none⟩), .slice A n c] w fun e w' => ReadT es f s0 t0 n w w' r lo hi S V E ne ce e := by
  have HW := Lib.hid h
  have HX := Lib.hid hx
  have HLE := Lib.hid (hE w (Below.refl _ _)).1
  have HOR := Lib.hid (fun a c => orU_lt (es := es) (f := f) (s0 := s0) (a := a) (by rw [HLE.out]; exact hms) c)
  have HMK := Lib.hid (fun t => markU_lt (es := es) (f := f) (s0 := s0) (t := t) (by rw [HLE.out]; exact hms))
  have HST := Lib.hid (fun t W (hW : Below B w W) (h : WkS W r lo hi S V E ne ce es (runU es f s0 t)) l (hl : f t = l) => step_run f s0 t r lo hi S V E ne ce es l W h (hE W hW) hne hS hl hes hms)
  have HL := Lib.hid hl
  clear h hx hE hl hes hms
  go_enter Try.func54, Try.ntmps54
  go_wp2_with fail
  go_loopg [5, 10] n (fun g m i wx => ∃ t : Nat, t + g = n ∧ i = .int .i64 t ∧ m = .int .i64 (orU es f s0 t0 t : Nat) ∧ Hid (WkS wx r lo hi S V E ne ce es (runU es f s0 (t0 + t))) ∧ Hid (w.grownBy wx (some r)))
  case atStart => exact ⟨0, by omega, rfl, rfl, HW.out, World.grownBy.refl w _⟩
  case round =>
    obtain ⟨t, htq, rfl, rfl, HWr, HBr⟩ := hrel
    have hti : (0 : Int) ≤ (t : Int) := by omega
    cases gk with
    | zero =>
      obtain rfl : n = t := by omega
      go_wp2_with fail
      go_ret
      exact ⟨rfl, HWr.out, HBr.out⟩
    | succ q =>
      have ht1 : t < n := by omega
      have hti2 : (t : Int) < (n : Int) := by omega
      have HBB := Lib.hid (show Below B w wr from (Below.refl _ _).grown HBr.out hBw (fun k hk => by cases hk; exact hB))
      obtain ⟨bA, oA, rfl, hlt, hcell⟩ := (HX.out wr HBB.out).at_ ht1
      have hct := hcell t ht1
      have HSX := Lib.hid (HST.out (t0 + t) wr HBB.out HWr.out _ (HL.out t ht1))
      generalize xs.getD t 0 = l at *
      have hor := or_i64 (orU es f s0 t0 t) (markU es f s0 (t0 + t)) (Nat.lt_of_lt_of_le (HOR.out t0 t) (by decide)) (Nat.lt_of_lt_of_le (HMK.out (t0 + t)) (by decide))
      obtain ⟨X, hX, HXX⟩ : ∃ X, orU es f s0 t0 t ||| markU es f s0 (t0 + t) = X ∧ Hid (orU es f s0 t0 (t + 1) = X) := ⟨_, rfl, rfl⟩
      rw [hX] at hor
      generalize orU es f s0 t0 t = O at *
      have hor2 := Lib.hid hor
      clear hcell hX hor
      go_wp2_with fail
      refine HSX.out.mono ?_
      rintro x w1 ⟨rfl, hw1, hb1⟩
      have HW1 := Lib.hid hw1
      have HB1 := Lib.hid (HBr.out.trans hb1)
      clear hw1 hb1
      go_wp2_with fail
      go_roundg q
      case measure => omega
      case rel => exact ⟨t + 1, by omega, by go_num, (by rw [hor2.out, HXX.out]), HW1, HB1⟩

/-- All of the first c numbers together. -/
def orN (g : Nat → Nat) : Nat → Nat
  | 0 => 0
  | c + 1 => orN g c ||| g c
theorem orN_lt {g : Nat → Nat} (h : ∀ j, g j < 2 ^ 40) : ∀ c, orN g c < 2 ^ 40
  | 0 => by simp [orN]
  | c + 1 => Nat.or_lt_two_pow (orN_lt h c) (h c)

set_option maxRecDepth 100000 in
set_option maxHeartbeats 4000000 in
theorem union_run (g : Nat → Nat) (A : Option Addr) (n c : Nat) (xs : List Int) (w : World) (h : Ints w A n xs) (hn : n ≤ 100000) (hg : ∀ j, g j < 2 ^ 40) (hx : ∀ j, j < n → xs.getD j 0 = (g j : Nat)) :
    Calls Try.prog 55 #[.slice A n c] w fun e w' => e = .returned (.int .i64 (orN g n : Nat)) ∧ w = w' := by
  have HX := Lib.hid h
  have HG := Lib.hid hg
  have HL := Lib.hid hx
  have HOR := Lib.hid (orN_lt hg)
  clear h hg hx
  go_enter Try.func55, Try.ntmps55
  go_wp2_with fail
  go_loopg [3, 8] n (fun q m i wx => ∃ t : Nat, t + q = n ∧ i = .int .i64 t ∧ m = .int .i64 (orN g t : Nat) ∧ wx = w)
  case atStart => exact ⟨0, by omega, rfl, rfl, rfl⟩
  case round =>
    obtain ⟨t, htq, rfl, rfl, rfl⟩ := hrel
    have hti : (0 : Int) ≤ (t : Int) := by omega
    cases gk with
    | zero =>
      obtain rfl : n = t := by omega
      go_wp2_with fail
      go_ret
      exact ⟨rfl, rfl⟩
    | succ q =>
      have ht1 : t < n := by omega
      have hti2 : (t : Int) < (n : Int) := by omega
      obtain ⟨bA, oA, rfl, hlt, hcell⟩ := HX.out.at_ ht1
      have hct := hcell t ht1
      rw [HL.out t ht1] at hct
      have hor := or_i64 (orN g t) (g t) (Nat.lt_of_lt_of_le (HOR.out t) (by decide)) (Nat.lt_of_lt_of_le (HG.out t) (by decide))
      obtain ⟨X, hX, HXX⟩ : ∃ X, orN g t ||| g t = X ∧ Hid (orN g (t + 1) = X) := ⟨_, rfl, rfl⟩
      rw [hX] at hor
      generalize orN g t = O at *
      generalize g t = M at *
      clear hcell hX
      go_wp2_with fail
      go_roundg q
      case measure => omega
      case rel => exact ⟨t + 1, by omega, by go_num, (by rw [HXX.out]), rfl⟩

end Go.Proofs.Ytalgbcndifaaiaa.Wd
