/-
  Automata as data: edges, and what makes an automaton valid. No program is looked at here.
-/
import Derived.Test.YtalgbcndifaaiaaAtAcc
namespace Go.Proofs.Ytalgbcndifaaiaa.Wd
open Go.RowKit
set_option linter.unusedVariables false

structure Ed where
  f : Int
  t : Int
  c : Int
  b : Int
  m : Int
def ed0 : Ed := ⟨0, 0, 0, 0, 0⟩
/-- Is that an edge of an automaton with these numbers of states, propositions, marks? -/
def edB (P : Nat) (S : Int) (M : Nat) (e : Ed) : Bool :=
  decide ((0 ≤ e.f ∧ e.f < S) ∧ (0 ≤ e.t ∧ e.t < S) ∧ (0 ≤ e.c ∧ e.c < 2 ^ P) ∧ bits .andNot .i64 e.b e.c = 0 ∧ 0 ≤ e.m ∧ e.m < 2 ^ M)
def edgesB (P : Nat) (S : Int) (M : Nat) (es : List Ed) : Bool := es.all (edB P S M)
theorem edgesB_step {P M : Nat} {S : Int} {es : List Ed} {k : Nat} (hk : k < es.length) (h : edgesB P S M (es.take k) = true) (he : edB P S M (es.getD k ed0) = true) : edgesB P S M (es.take (k + 1)) = true := by
  rw [List.take_succ_eq_append_getElem hk]
  unfold edgesB at *
  rw [List.all_append, h]
  rw [List.getD_eq_getElem?_getD, List.getElem?_eq_getElem hk] at he
  simpa using he
theorem edgesB_bad {P M : Nat} {S : Int} {es : List Ed} {k : Nat} (hk : k < es.length) (he : edB P S M (es.getD k ed0) = false) : edgesB P S M es = false := by
  unfold edgesB
  rw [Bool.eq_false_iff]
  intro h
  have := List.all_eq_true.1 h es[k] (List.getElem_mem hk)
  rw [List.getD_eq_getElem?_getD, List.getElem?_eq_getElem hk] at he
  simp only [Option.getD_some] at he
  rw [he] at this
  cases this

/-- What stands ahead of the element j. -/
def prv (st : List Int) (j : Nat) : Int := if j = 0 then -1 else st.getD (j - 1) 0
/-- Do the first k elements grow, and are they states? -/
def startP (S : Int) (st : List Int) (k : Nat) : Bool := (List.range k).all fun j => decide (prv st j < st.getD j 0 ∧ st.getD j 0 < S)
def startB (S : Int) (st : List Int) : Bool := startP S st st.length
theorem startP_zero (S : Int) (st : List Int) : startP S st 0 = true := rfl
theorem startP_step {S : Int} {st : List Int} {k : Nat} (h : startP S st k = true) (hk : prv st k < st.getD k 0 ∧ st.getD k 0 < S) : startP S st (k + 1) = true := by
  unfold startP at *
  rw [List.range_succ, List.all_append, h]
  simpa using hk
theorem startB_bad {S : Int} {st : List Int} {k : Nat} (hk : k < st.length) (h : ¬ (prv st k < st.getD k 0 ∧ st.getD k 0 < S)) : startB S st = false := by
  unfold startB startP
  rw [Bool.eq_false_iff]
  intro ht
  have := List.all_eq_true.1 ht k (List.mem_range.2 hk)
  exact h (of_decide_eq_true this)
theorem prv_succ (st : List Int) (k : Nat) : prv st (k + 1) = st.getD k 0 := by simp [prv]
theorem prv_low {S : Int} {st : List Int} {k : Nat} (h : startP S st k = true) : -1 ≤ prv st k := by
  induction k with
  | zero => simp [prv]
  | succ k ih =>
    rw [prv_succ]
    have h1 := List.all_eq_true.1 h k (List.mem_range.2 (by omega))
    have h2 := (of_decide_eq_true h1).1
    have h3 := ih (by
      unfold startP at h ⊢
      rw [List.range_succ, List.all_append] at h
      rw [Bool.and_eq_true] at h
      exact h.1)
    omega

/-- Edges in memory. -/
def EdgesAt (w : World) (E : Option Addr) (n : Nat) (es : List Ed) : Prop :=
  es.length = n ∧ (0 < n → ∃ b off, E = some ⟨b, off, none⟩ ∧ b < w.heap.size ∧ ∀ j, j < n → w.cell? ⟨b, off + j * 5, none⟩ = some (.int .i64 (es.getD j ed0).f) ∧ w.cell? ⟨b, off + j * 5 + 1, none⟩ = some (.int .i64 (es.getD j ed0).t) ∧
    w.cell? ⟨b, off + j * 5 + 2, none⟩ = some (.int .i64 (es.getD j ed0).c) ∧ w.cell? ⟨b, off + j * 5 + 3, none⟩ = some (.int .i64 (es.getD j ed0).b) ∧ w.cell? ⟨b, off + j * 5 + 4, none⟩ = some (.int .i64 (es.getD j ed0).m))
theorem EdgesAt.below {w w' : World} {E : Option Addr} {n : Nat} {es : List Ed} (h : EdgesAt w E n es) (hb : Below w.heap.size w w') : EdgesAt w' E n es := ⟨h.1, fun hn => by
  obtain ⟨b, off, e, hlt, hc⟩ := h.2 hn
  refine ⟨b, off, e, Nat.lt_of_lt_of_le hlt hb.size, fun j hj => ?_⟩
  obtain ⟨c0, c1, c2, c3, c4⟩ := hc j hj
  exact ⟨(hb.cell (p := ⟨b, off + j * 5, none⟩) hlt).trans c0, (hb.cell (p := ⟨b, off + j * 5 + 1, none⟩) hlt).trans c1, (hb.cell (p := ⟨b, off + j * 5 + 2, none⟩) hlt).trans c2, (hb.cell (p := ⟨b, off + j * 5 + 3, none⟩) hlt).trans c3, (hb.cell (p := ⟨b, off + j * 5 + 4, none⟩) hlt).trans c4⟩⟩

theorem pow_wrap6 {p : Nat} (hp : p ≤ 6) : IntKind.i64.wrap ((2 : Int) ^ p) = (2 : Int) ^ p := (pow_wrap40 (by omega)).1

end Go.Proofs.Ytalgbcndifaaiaa.Wd
