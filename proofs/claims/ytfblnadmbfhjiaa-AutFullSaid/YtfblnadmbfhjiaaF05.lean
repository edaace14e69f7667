/-
  The automaton of the chapter's first example: what its cells hold, and that it is valid.
  Valid of package aut, for all automata.
  Valid of package aut, for all automata.
  Valid of package aut, for all automata.
  Valid of package aut, for all automata.
  Marks, has and Accepted of the reference.
  Marks and Accepts of the reference, for all numbers.
  Valid of the reference of layer 5, for all automata.
  The example automaton is deterministic.
  Regions in a drawn order, with stores at their end: a condition S on the world that must hold only as long as none of the stores has come up. A load that every one of these stores waits for (by way of the operations that stand between) may be taken first, though the stores write the cell that it reads.
  append of a slice of ints, nil or not, onto a row of the call's own: as a step of a list of operations, and as a step of a region that draws its order.
  The edges of the example automaton, state by state.
  The walker of the example automaton: newWalker and step.
  The walker of the example automaton: read and union.
  The walker of the example automaton: walk, over any word of the letters 0 and 1.
  The edges from a state with a letter: Step of aut, Out of the reference.
  Step of package aut, for all automata.
  fitting of package aut: the letters of an edge as a set of bits.
  lettersOf of package aut: for each state the letters of its edges.
  Deterministic and Complete of package aut, for all automata.
  Letters and edges: when two edges have a letter in common, and what the sets of letters say. No program is looked at here.
  The table of Whole as data: which letters the first edges have, bit by bit. No program is looked at here.
-/
import Derived.Test.YtfblnadmbfhjiaaF03
import Derived.Deep.LoopGhost
import Derived.LoopN
import Derived.Outline
import Derived.Test.YtfblnadmbfhjiaaF02
import Derived.Test.YtfblnadmbfhjiaaF04
import Derived.Test.YtfblnadmbfhjiaaF01
import Derived.BigQuiet
import Derived.Deep.QuietTactic
import Derived.OrdersHeld
import Derived.Deep.RegionHeld3
import Derived.Maps.AppendAt
import Derived.RegionTactic
import Derived.OwnWalk
import Derived.Maps.OwnSet
import Derived.Laws.Bits64b
import Derived.Deep.OwnRows
import Derived.Laws.BitsLemmas
namespace Go.Proofs.Ytfblnadmbfhjiaa.Wd
open Go.RowKit
set_option linter.unusedVariables false

/-- The cells of L hold what L says. -/
def CellsAt (w : World) (L : List (Addr × Value)) : Prop := ∀ p ∈ L, p.1.block < w.heap.size ∧ w.cell? p.1 = some p.2
theorem CellsAt.below {w w' : World} {L : List (Addr × Value)} (h : CellsAt w L) (hb : Below w.heap.size w w') : CellsAt w' L := fun p hp =>
  ⟨Nat.lt_of_lt_of_le (h p hp).1 hb.size, (hb.cell (h p hp).1).trans (h p hp).2⟩

/-- The automaton as a value, and its cells. -/
def agV (s e : Nat) : Value := .agg #[.int .i64 1, .int .i64 1, .slice (some ⟨s, 0, none⟩) 1 1, .int .i64 0, .int .i64 1, .slice (some ⟨e, 0, none⟩) 2 2]
def agL (s e : Nat) : List (Addr × Value) :=
  [(⟨s, 0, none⟩, .int .i64 0), (⟨e, 0, none⟩, .int .i64 0), (⟨e, 1, none⟩, .int .i64 0), (⟨e, 2, none⟩, .int .i64 1), (⟨e, 3, none⟩, .int .i64 1), (⟨e, 4, none⟩, .int .i64 1),
   (⟨e, 5, none⟩, .int .i64 0), (⟨e, 6, none⟩, .int .i64 0), (⟨e, 7, none⟩, .int .i64 1), (⟨e, 8, none⟩, .int .i64 0), (⟨e, 9, none⟩, .int .i64 0)]
theorem agL_out {w : World} {s e : Nat} (h : CellsAt w (agL s e)) : (s < w.heap.size ∧ e < w.heap.size) ∧ w.cell? ⟨s, 0, none⟩ = some (.int .i64 0) ∧
    (w.cell? ⟨e, 0, none⟩ = some (.int .i64 0) ∧ w.cell? ⟨e, 1, none⟩ = some (.int .i64 0) ∧ w.cell? ⟨e, 2, none⟩ = some (.int .i64 1) ∧ w.cell? ⟨e, 3, none⟩ = some (.int .i64 1) ∧ w.cell? ⟨e, 4, none⟩ = some (.int .i64 1)) ∧
    (w.cell? ⟨e, 5, none⟩ = some (.int .i64 0) ∧ w.cell? ⟨e, 6, none⟩ = some (.int .i64 0) ∧ w.cell? ⟨e, 7, none⟩ = some (.int .i64 1) ∧ w.cell? ⟨e, 8, none⟩ = some (.int .i64 0) ∧ w.cell? ⟨e, 9, none⟩ = some (.int .i64 0)) :=
  ⟨⟨(h (⟨s, 0, none⟩, .int .i64 0) (by simp [agL])).1, (h (⟨e, 0, none⟩, .int .i64 0) (by simp [agL])).1⟩, (h (⟨s, 0, none⟩, .int .i64 0) (by simp [agL])).2,
   ⟨(h (⟨e, 0, none⟩, .int .i64 0) (by simp [agL])).2, (h (⟨e, 1, none⟩, .int .i64 0) (by simp [agL])).2, (h (⟨e, 2, none⟩, .int .i64 1) (by simp [agL])).2, (h (⟨e, 3, none⟩, .int .i64 1) (by simp [agL])).2, (h (⟨e, 4, none⟩, .int .i64 1) (by simp [agL])).2⟩,
   ⟨(h (⟨e, 5, none⟩, .int .i64 0) (by simp [agL])).2, (h (⟨e, 6, none⟩, .int .i64 0) (by simp [agL])).2, (h (⟨e, 7, none⟩, .int .i64 1) (by simp [agL])).2, (h (⟨e, 8, none⟩, .int .i64 0) (by simp [agL])).2, (h (⟨e, 9, none⟩, .int .i64 0) (by simp [agL])).2⟩⟩

/-- What a round of a walk over the edges needs. -/
theorem agL_at {w w' : World} {s e : Nat} (h : CellsAt w (agL s e)) (hb : Below w.heap.size w w') : (s < w'.heap.size ∧ e < w'.heap.size) ∧ w'.cell? ⟨s, 0, none⟩ = some (.int .i64 0) ∧
    (w'.cell? ⟨e, 0, none⟩ = some (.int .i64 0) ∧ w'.cell? ⟨e, 1, none⟩ = some (.int .i64 0) ∧ w'.cell? ⟨e, 2, none⟩ = some (.int .i64 1) ∧ w'.cell? ⟨e, 3, none⟩ = some (.int .i64 1) ∧ w'.cell? ⟨e, 4, none⟩ = some (.int .i64 1)) ∧
    (w'.cell? ⟨e, 5, none⟩ = some (.int .i64 0) ∧ w'.cell? ⟨e, 6, none⟩ = some (.int .i64 0) ∧ w'.cell? ⟨e, 7, none⟩ = some (.int .i64 1) ∧ w'.cell? ⟨e, 8, none⟩ = some (.int .i64 0) ∧ w'.cell? ⟨e, 9, none⟩ = some (.int .i64 0)) :=
  agL_out (h.below hb)

/-- The variable that holds the automaton. -/
def bxL (b s e : Nat) : List (Addr × Value) :=
  [(⟨b, 0, none⟩, .int .i64 1), (⟨b, 1, none⟩, .int .i64 1), (⟨b, 2, none⟩, .slice (some ⟨s, 0, none⟩) 1 1), (⟨b, 3, none⟩, .int .i64 0), (⟨b, 4, none⟩, .int .i64 1), (⟨b, 5, none⟩, .slice (some ⟨e, 0, none⟩) 2 2)]
theorem bxL_new (w : World) (s e : Nat) (t : TypeId) : CellsAt (w.alloc (.cells #[.int .i64 1, .int .i64 1, .slice (some ⟨s, 0, none⟩) 1 1, .int .i64 0, .int .i64 1, .slice (some ⟨e, 0, none⟩) 2 2] t)) (bxL w.heap.size s e) := by
  intro p hp
  simp only [bxL, List.mem_cons, List.not_mem_nil, or_false] at hp
  rcases hp with rfl | rfl | rfl | rfl | rfl | rfl
  all_goals exact ⟨by simp, by rw [box_last]; rfl⟩
theorem bxL_out {w : World} {b s e : Nat} (h : CellsAt w (bxL b s e)) : b < w.heap.size ∧ w.cell? ⟨b, 0, none⟩ = some (.int .i64 1) ∧ w.cell? ⟨b, 1, none⟩ = some (.int .i64 1) ∧ w.cell? ⟨b, 2, none⟩ = some (.slice (some ⟨s, 0, none⟩) 1 1) ∧
    w.cell? ⟨b, 3, none⟩ = some (.int .i64 0) ∧ w.cell? ⟨b, 4, none⟩ = some (.int .i64 1) ∧ w.cell? ⟨b, 5, none⟩ = some (.slice (some ⟨e, 0, none⟩) 2 2) :=
  ⟨(h (⟨b, 0, none⟩, .int .i64 1) (by simp [bxL])).1, (h (⟨b, 0, none⟩, .int .i64 1) (by simp [bxL])).2, (h (⟨b, 1, none⟩, .int .i64 1) (by simp [bxL])).2, (h (⟨b, 2, none⟩, .slice (some ⟨s, 0, none⟩) 1 1) (by simp [bxL])).2,
   (h (⟨b, 3, none⟩, .int .i64 0) (by simp [bxL])).2, (h (⟨b, 4, none⟩, .int .i64 1) (by simp [bxL])).2, (h (⟨b, 5, none⟩, .slice (some ⟨e, 0, none⟩) 2 2) (by simp [bxL])).2⟩

set_option maxRecDepth 100000 in
set_option maxHeartbeats 1000000 in
theorem validStart_ag (s e : Nat) (w : World) (h : CellsAt w (agL s e)) : Calls Try.prog 45 #[agV s e] w fun r w' => r = .returned (.bool true) ∧ Below w.heap.size w w' := by
  obtain ⟨⟨h1, h2⟩, c0, _, _⟩ := agL_out h
  clear h
  unfold agV
  go_enter Try.func45, Try.ntmps45
  go_wp2_with fail
  refine wp_loop_rounds 2 ?_
  rw [rounds_succ]
  go_wp2_with fail
  rw [rounds_succ]
  go_wp2_with fail
  go_ret
  exact ⟨rfl, (Below.refl _ _).alloc (Nat.le_refl _) _⟩

set_option maxRecDepth 100000 in
set_option maxHeartbeats 4000000 in
theorem validEdges_ag (s e : Nat) (w : World) (h : CellsAt w (agL s e)) : Calls Try.prog 46 #[agV s e] w fun r w' => r = .returned (.bool true) ∧ Below w.heap.size w w' := by
  obtain ⟨⟨h1, h2⟩, _, ⟨a0, a1, a2, a3, a4⟩, b0, b1, b2, b3, b4⟩ := agL_out h
  clear h
  unfold agV
  go_enter Try.func46, Try.ntmps46
  go_wp2_with fail
  refine wp_loop_rounds 3 ?_
  rw [rounds_succ]
  go_wp2_with fail
  go_quiet (fail)
  go_wp2_with fail
  go_quiet (fail)
  go_wp2_with fail
  rw [rounds_succ]
  go_wp2_with fail
  go_quiet (fail)
  go_wp2_with fail
  go_quiet (fail)
  go_wp2_with fail
  rw [rounds_succ]
  go_wp2_with fail
  go_ret
  refine ⟨rfl, ?_⟩
  (repeat first | apply below_drewN | refine Below.alloc ?_ (by first | exact Nat.le_refl _ | (simp <;> omega)) _)
  exact Below.refl _ _

set_option maxRecDepth 100000 in
set_option maxHeartbeats 4000000 in
theorem valid_ag (s e : Nat) (w : World) (h : CellsAt w (agL s e)) : Calls Try.prog 18 #[agV s e] w fun r w' => r = .returned (.bool true) ∧ Below w.heap.size w w' := by
  have HS := Lib.hid (fun W (hW : Below w.heap.size w W) => validStart_ag s e W (h.below hW))
  have HE := Lib.hid (fun W (hW : Below w.heap.size w W) => validEdges_ag s e W (h.below hW))
  have HX := Lib.hid (bxL_new w s e 25)
  clear h
  unfold agV at *
  go_enter Try.func18, Try.ntmps18
  go_wp2_with fail
  refine (of_kind0 _).mono ?_
  rintro r w1 ⟨rfl, hb1⟩
  have HX1 := Lib.hid (HX.out.below hb1)
  obtain ⟨hz, p0, p1, p2, p3, p4, p5⟩ := bxL_out HX1.out
  have HB1 := Lib.hid (show Below w.heap.size w w1 from ((Below.refl _ _).alloc (Nat.le_refl _) _).trans (hb1.mono (by simp)))
  clear hb1
  go_wp2_with fail
  refine (isOne_any 1 _).mono ?_
  rintro r w2 ⟨rfl, rfl⟩
  go_wp2_with fail
  refine (HS.out _ (HB1.out.alloc HB1.out.size _)).mono ?_
  rintro r w3 ⟨rfl, hb3⟩
  have HX3 := Lib.hid ((HX1.out.below ((Below.refl _ _).alloc (Nat.le_refl _) _)).below hb3)
  have HB3 := Lib.hid ((HB1.out.alloc HB1.out.size _).trans (hb3.mono (HB1.out.alloc HB1.out.size _).size))
  clear hz p0 p1 p2 p3 p4 p5 hb3
  obtain ⟨hz, p0, p1, p2, p3, p4, p5⟩ := bxL_out HX3.out
  go_wp2_with fail
  refine (HE.out _ HB3.out).mono ?_
  rintro r w4 ⟨rfl, hb4⟩
  go_wp2_with fail
  go_ret
  exact ⟨rfl, HB3.out.trans (hb4.mono HB3.out.size)⟩

theorem has_any (f t c b m l : Int) (w : World) : Calls Try.prog 42 #[.agg #[.int .i64 f, .int .i64 t, .int .i64 c, .int .i64 b, .int .i64 m], .int .i64 l] w fun r w' => r = .returned (.bool (decide (bits .and .i64 l c = b))) ∧ Below w.heap.size w w' := by
  go_enter Try.func42, Try.ntmps42
  go_wp2_with fail
  go_ret
  exact ⟨ret_bool (by first | rfl | simp), (Below.refl _ _).alloc (Nat.le_refl _) _⟩

theorem box_at {w w1 : World} {cs : Array Value} {t : TypeId} (hb : Below (w.alloc (.cells cs t)).heap.size (w.alloc (.cells cs t)) w1) : w.heap.size < w1.heap.size ∧ ∀ i, w1.cell? ⟨w.heap.size, i, none⟩ = cs[i]? :=
  ⟨by have := hb.size; simp at this; omega, fun i => (hb.cell (p := ⟨w.heap.size, i, none⟩) (by simp)).trans (box_last _ _ _ _)⟩

set_option maxRecDepth 100000 in
set_option maxHeartbeats 4000000 in
theorem fitting_ag1 (w : World) : Calls Try.prog 59 #[.agg #[.int .i64 0, .int .i64 0, .int .i64 1, .int .i64 1, .int .i64 1], .int .i64 1] w fun r w' => r = .returned (.int .u64 2) ∧ Below w.heap.size w w' := by
  have a0 : decide (bits .and .i64 0 1 = (1 : Int)) = false := by decide
  have a1 : decide (bits .and .i64 1 1 = (1 : Int)) = true := by decide
  have A0 := Lib.hid a0
  have A1 := Lib.hid a1
  clear a0 a1
  have a2 : bits .or .u64 0 2 = 2 := by decide
  have a3 : bits .or .u64 0 1 = 1 := by decide
  go_enter Try.func59, Try.ntmps59
  go_wp2_with fail
  refine wp_loop_rounds 3 ?_
  rw [rounds_succ]
  go_wp2_with fail
  refine (has_any 0 0 1 1 1 0 _).mono ?_
  rintro r w1 ⟨rfl, hb1⟩
  rw [A0.out]
  obtain ⟨hz, hq⟩ := box_at hb1
  have q0 : w1.cell? ⟨w.heap.size, 0, none⟩ = some (.int .i64 0) := hq 0
  have q1 : w1.cell? ⟨w.heap.size, 1, none⟩ = some (.int .i64 0) := hq 1
  have q2 : w1.cell? ⟨w.heap.size, 2, none⟩ = some (.int .i64 1) := hq 2
  have q3 : w1.cell? ⟨w.heap.size, 3, none⟩ = some (.int .i64 1) := hq 3
  have q4 : w1.cell? ⟨w.heap.size, 4, none⟩ = some (.int .i64 1) := hq 4
  have HB1 := Lib.hid (show Below w.heap.size w w1 from ((Below.refl _ _).alloc (Nat.le_refl _) _).trans (hb1.mono (by simp)))
  clear hq hb1
  go_wp2_with fail
  rw [rounds_succ]
  go_wp2_with fail
  refine (has_any 0 0 1 1 1 1 _).mono ?_
  rintro r w2 ⟨rfl, hb2⟩
  rw [A1.out]
  have HB2 := Lib.hid (HB1.out.trans (hb2.mono HB1.out.size))
  clear hb2 q0 q1 q2 q3 q4 hz
  go_wp2_with fail
  rw [rounds_succ]
  go_wp2_with fail
  go_ret
  exact ⟨rfl, HB2.out⟩

set_option maxRecDepth 100000 in
set_option maxHeartbeats 4000000 in
theorem fitting_ag2 (w : World) : Calls Try.prog 59 #[.agg #[.int .i64 0, .int .i64 0, .int .i64 1, .int .i64 0, .int .i64 0], .int .i64 1] w fun r w' => r = .returned (.int .u64 1) ∧ Below w.heap.size w w' := by
  have a0 : decide (bits .and .i64 0 1 = (0 : Int)) = true := by decide
  have a1 : decide (bits .and .i64 1 1 = (0 : Int)) = false := by decide
  have A0 := Lib.hid a0
  have A1 := Lib.hid a1
  clear a0 a1
  have a2 : bits .or .u64 0 2 = 2 := by decide
  have a3 : bits .or .u64 0 1 = 1 := by decide
  go_enter Try.func59, Try.ntmps59
  go_wp2_with fail
  refine wp_loop_rounds 3 ?_
  rw [rounds_succ]
  go_wp2_with fail
  refine (has_any 0 0 1 0 0 0 _).mono ?_
  rintro r w1 ⟨rfl, hb1⟩
  rw [A0.out]
  obtain ⟨hz, hq⟩ := box_at hb1
  have q0 : w1.cell? ⟨w.heap.size, 0, none⟩ = some (.int .i64 0) := hq 0
  have q1 : w1.cell? ⟨w.heap.size, 1, none⟩ = some (.int .i64 0) := hq 1
  have q2 : w1.cell? ⟨w.heap.size, 2, none⟩ = some (.int .i64 1) := hq 2
  have q3 : w1.cell? ⟨w.heap.size, 3, none⟩ = some (.int .i64 0) := hq 3
  have q4 : w1.cell? ⟨w.heap.size, 4, none⟩ = some (.int .i64 0) := hq 4
  have HB1 := Lib.hid (show Below w.heap.size w w1 from ((Below.refl _ _).alloc (Nat.le_refl _) _).trans (hb1.mono (by simp)))
  clear hq hb1
  go_wp2_with fail
  rw [rounds_succ]
  go_wp2_with fail
  refine (has_any 0 0 1 0 0 1 _).mono ?_
  rintro r w2 ⟨rfl, hb2⟩
  rw [A1.out]
  have HB2 := Lib.hid (HB1.out.trans (hb2.mono HB1.out.size))
  clear hb2 q0 q1 q2 q3 q4 hz
  go_wp2_with fail
  rw [rounds_succ]
  go_wp2_with fail
  go_ret
  exact ⟨rfl, HB2.out⟩

end Go.Proofs.Ytfblnadmbfhjiaa.Wd

namespace Go.Proofs.Ytfblnadmbfhjiaa.Wd
open Go.RowKit
set_option linter.unusedVariables false

/-- The head of a valid automaton. -/
def headP (P S K : Int) : Prop := 0 ≤ P ∧ P ≤ 6 ∧ 0 ≤ S ∧ S ≤ 3000 ∧ 0 ≤ K ∧ K ≤ 5
instance (P S K : Int) : Decidable (headP P S K) := by unfold headP; infer_instance
/-- The lists of a valid automaton. -/
def listsB (P S M : Int) (st : List Int) (es : List Ed) : Bool := startB S st && (decide (es.length ≤ 40000) && edgesB P.toNat S M.toNat es)
/-- Is that a valid automaton? -/
def autB (P S K M : Int) (st : List Int) (es : List Ed) : Bool := decide (headP P S K) && (marksB K M && listsB P S M st es)
theorem autB_head {P S K M : Int} {st : List Int} {es : List Ed} (h : ¬ headP P S K) : autB P S K M st es = false := by unfold autB; rw [decide_eq_false h]; rfl
theorem autB_marks {P S K M : Int} {st : List Int} {es : List Ed} (h : marksB K M = false) : autB P S K M st es = false := by unfold autB; rw [h]; simp
theorem autB_tail {P S K M : Int} {st : List Int} {es : List Ed} (h : headP P S K) (hm : marksB K M = true) : autB P S K M st es = listsB P S M st es := by unfold autB; rw [decide_eq_true h, hm]; simp
theorem autB_start {P S K M : Int} {st : List Int} {es : List Ed} (h : headP P S K) (hm : marksB K M = true) (hs : startB S st = false) : autB P S K M st es = false := by rw [autB_tail h hm]; unfold listsB; rw [hs]; rfl
theorem autB_edges {P S K M : Int} {st : List Int} {es : List Ed} (h : headP P S K) (hm : marksB K M = true) (hs : startB S st = true) : autB P S K M st es = (decide (es.length ≤ 40000) && edgesB P.toNat S M.toNat es) := by rw [autB_tail h hm]; unfold listsB; rw [hs]; simp

theorem validEdges_any (P M : Nat) (S K : Int) (A E : Option Addr) (n c ne ce : Nat) (es : List Ed) (w : World) (hE : EdgesAt w E ne es) (hP : P ≤ 6) (hM : M ≤ 40) (hne : ne ≤ 17592186044416) :
    Calls Try.prog 46 #[.agg #[.int .i64 P, .int .i64 S, .slice A n c, .int .i64 K, .int .i64 M, .slice E ne ce]] w fun e w' => e = .returned (.bool (decide (es.length ≤ 40000) && edgesB P S M es)) ∧ Below w.heap.size w w' := by
  by_cases h : ne ≤ 40000
  · rw [show (decide (es.length ≤ 40000) && edgesB P S M es) = edgesB P S M es by rw [hE.1, decide_eq_true h]; simp]
    exact validEdges_few P M S K A E n c ne ce es w hE hP hM h
  · rw [show (decide (es.length ≤ 40000) && edgesB P S M es) = false by rw [hE.1, decide_eq_false h]; rfl]
    exact validEdges_many P S K M A E n c ne ce w hne (by omega)

/-- The six cells of an automaton. -/
def Box6 (w : World) (b : Nat) (P S : Int) (A : Option Addr) (n c : Nat) (K M : Int) (E : Option Addr) (ne ce : Nat) : Prop :=
  b < w.heap.size ∧ w.cell? ⟨b, 0, none⟩ = some (.int .i64 P) ∧ w.cell? ⟨b, 1, none⟩ = some (.int .i64 S) ∧ w.cell? ⟨b, 2, none⟩ = some (.slice A n c) ∧
    w.cell? ⟨b, 3, none⟩ = some (.int .i64 K) ∧ w.cell? ⟨b, 4, none⟩ = some (.int .i64 M) ∧ w.cell? ⟨b, 5, none⟩ = some (.slice E ne ce)
theorem Box6.new (w : World) (P S : Int) (A : Option Addr) (n c : Nat) (K M : Int) (E : Option Addr) (ne ce : Nat) (t : TypeId) : Box6 (w.alloc (.cells #[.int .i64 P, .int .i64 S, .slice A n c, .int .i64 K, .int .i64 M, .slice E ne ce] t)) w.heap.size P S A n c K M E ne ce := by
  refine ⟨by simp, ?_, ?_, ?_, ?_, ?_, ?_⟩ <;> (rw [box_last]; rfl)
theorem Box6.below {w w' : World} {b : Nat} {P S : Int} {A : Option Addr} {n c : Nat} {K M : Int} {E : Option Addr} {ne ce : Nat} (h : Box6 w b P S A n c K M E ne ce) (hb : Below w.heap.size w w') : Box6 w' b P S A n c K M E ne ce :=
  ⟨Nat.lt_of_lt_of_le h.1 hb.size, (hb.cell (p := ⟨b, 0, none⟩) h.1).trans h.2.1, (hb.cell (p := ⟨b, 1, none⟩) h.1).trans h.2.2.1, (hb.cell (p := ⟨b, 2, none⟩) h.1).trans h.2.2.2.1, (hb.cell (p := ⟨b, 3, none⟩) h.1).trans h.2.2.2.2.1, (hb.cell (p := ⟨b, 4, none⟩) h.1).trans h.2.2.2.2.2.1, (hb.cell (p := ⟨b, 5, none⟩) h.1).trans h.2.2.2.2.2.2⟩

set_option maxRecDepth 100000 in
set_option maxHeartbeats 2000000 in
theorem valid_head (P S K M : Int) (A E : Option Addr) (n c ne ce : Nat) (st : List Int) (es : List Ed) (w : World) (h : ¬ headP P S K) :
    Calls Try.prog 18 #[.agg #[.int .i64 P, .int .i64 S, .slice A n c, .int .i64 K, .int .i64 M, .slice E ne ce]] w fun e w' => e = .returned (.bool (autB P S K M st es)) ∧ Below w.heap.size w w' := by
  have HF := Lib.hid (autB_head (M := M) (st := st) (es := es) h)
  have hc : P < 0 ∨ (0 ≤ P ∧ 6 < P) ∨ (0 ≤ P ∧ P ≤ 6 ∧ S < 0) ∨ (0 ≤ P ∧ P ≤ 6 ∧ 0 ≤ S ∧ 3000 < S) ∨ (0 ≤ P ∧ P ≤ 6 ∧ 0 ≤ S ∧ S ≤ 3000 ∧ (K < 0 ∨ 5 < K)) := by unfold headP at h; omega
  clear h
  rcases hc with h | ⟨h, h2⟩ | ⟨h, h2, h3⟩ | ⟨h, h2, h3, h4⟩ | ⟨h, h2, h3, h4, h5⟩
  · go_enter Try.func18, Try.ntmps18
    go_wp2_with fail
    go_ret
    exact ⟨ret_bool HF.out.symm, (Below.refl _ _).alloc (Nat.le_refl _) _⟩
  · go_enter Try.func18, Try.ntmps18
    go_wp2_with fail
    go_ret
    exact ⟨ret_bool HF.out.symm, (Below.refl _ _).alloc (Nat.le_refl _) _⟩
  · go_enter Try.func18, Try.ntmps18
    go_wp2_with fail
    go_ret
    exact ⟨ret_bool HF.out.symm, (Below.refl _ _).alloc (Nat.le_refl _) _⟩
  · go_enter Try.func18, Try.ntmps18
    go_wp2_with fail
    go_ret
    exact ⟨ret_bool HF.out.symm, (Below.refl _ _).alloc (Nat.le_refl _) _⟩
  · have HO := Lib.hid (fun w => of_none K w h5)
    clear h5
    go_enter Try.func18, Try.ntmps18
    go_wp2_with fail
    refine (HO.out _).mono ?_
    rintro e w1 ⟨rfl, hb1⟩
    have HB1 := Lib.hid (show Below w.heap.size w w1 from ((Below.refl _ _).alloc (Nat.le_refl _) _).trans (hb1.mono (by simp)))
    clear hb1
    go_wp2_with fail
    go_ret
    exact ⟨ret_bool HF.out.symm, HB1.out.alloc HB1.out.size _⟩

end Go.Proofs.Ytfblnadmbfhjiaa.Wd

namespace Go.Proofs.Ytfblnadmbfhjiaa.Wd
open Go.RowKit
set_option linter.unusedVariables false

set_option maxRecDepth 100000 in
set_option maxHeartbeats 4000000 in
theorem valid_0 (p : Nat) (S M : Int) (A E : Option Addr) (n c ne ce : Nat) (st : List Int) (es : List Ed) (w : World) (hp : p ≤ 6) (hS : 0 ≤ S) (hS2 : S ≤ 3000) (ha : Ints w A n st) (hn : n ≤ 17592186044416) (he : EdgesAt w E ne es) (hne : ne ≤ 17592186044416) :
    Calls Try.prog 18 #[.agg #[.int .i64 p, .int .i64 S, .slice A n c, .int .i64 0, .int .i64 M, .slice E ne ce]] w fun e w' => e = .returned (.bool (autB p S 0 M st es)) ∧ Below w.heap.size w w' := by
  have HM := Lib.hid (show marksB 0 M = decide (M = 1) by unfold marksB; simp)
  have HH := Lib.hid (show headP p S 0 by unfold headP; omega)
  have HX := Lib.hid (Box6.new w p S A n c 0 M E ne ce 25)
  have hp0 : (0 : Int) ≤ (p : Int) := by omega
  have hp6 : (p : Int) ≤ 6 := by omega
  cases hq : marksB 0 M
  · have HF := Lib.hid (autB_marks (P := (p : Int)) (S := S) (st := st) (es := es) hq)
    rw [hq] at HM
    clear hq ha he
    go_enter Try.func18, Try.ntmps18
    go_wp2_with fail
    refine (of_kind0 _).mono ?_
    rintro r w1 ⟨rfl, hb1⟩
    have HX1 := Lib.hid (HX.out.below hb1)
    obtain ⟨hz, p0, p1, p2, p3, p4, p5⟩ := HX1.out
    have HB1 := Lib.hid (show Below w.heap.size w w1 from ((Below.refl _ _).alloc (Nat.le_refl _) _).trans (hb1.mono (by simp)))
    clear hb1
    go_wp2_with fail
    refine (isOne_any M _).mono ?_
    rintro r w2 ⟨rfl, rfl⟩
    rw [← HM.out]
    go_wp2_with fail
    go_ret
    exact ⟨ret_bool HF.out.symm, HB1.out.alloc HB1.out.size _⟩
  · have hm := marksB_few hq
    obtain ⟨m, rfl⟩ := Int.eq_ofNat_of_zero_le hm.1
    have hm40 : m ≤ 40 := by omega
    have HS := Lib.hid (fun W (hW : Below w.heap.size w W) => validStart_any p S 0 m A E n c ne ce st W (ha.below hW) hn)
    have HE := Lib.hid (fun W (hW : Below w.heap.size w W) => validEdges_any p m S 0 A E n c ne ce es W (he.below hW) hp hm40 hne)
    have HT := Lib.hid (fun hs => autB_start (P := (p : Int)) (S := S) (st := st) (es := es) HH.out hq hs)
    have HG := Lib.hid (fun hs => autB_edges (P := (p : Int)) (S := S) (st := st) (es := es) HH.out hq hs)
    rw [hq] at HM
    clear hq ha he hm
    obtain ⟨sb, hsb, HSB⟩ : ∃ sb, startB S st = sb ∧ Hid (startB S st = sb) := ⟨_, rfl, rfl⟩
    rw [hsb] at HS
    clear hsb
    obtain ⟨eb, heb, HEB⟩ : ∃ eb, (decide (es.length ≤ 40000) && edgesB p S m es) = eb ∧ Hid ((decide (es.length ≤ 40000) && edgesB p S m es) = eb) := ⟨_, rfl, rfl⟩
    rw [heb] at HE
    clear heb
    go_enter Try.func18, Try.ntmps18
    go_wp2_with fail
    refine (of_kind0 _).mono ?_
    rintro r w1 ⟨rfl, hb1⟩
    have HX1 := Lib.hid (HX.out.below hb1)
    obtain ⟨hz, p0, p1, p2, p3, p4, p5⟩ := HX1.out
    have HB1 := Lib.hid (show Below w.heap.size w w1 from ((Below.refl _ _).alloc (Nat.le_refl _) _).trans (hb1.mono (by simp)))
    clear hb1
    go_wp2_with fail
    refine (isOne_any (m : Int) _).mono ?_
    rintro r w2 ⟨rfl, rfl⟩
    rw [← HM.out]
    go_wp2_with fail
    refine (HS.out _ (HB1.out.alloc HB1.out.size _)).mono ?_
    rintro r w3 ⟨rfl, hb3⟩
    have HX3 := Lib.hid ((HX1.out.below ((Below.refl _ _).alloc (Nat.le_refl _) _)).below hb3)
    have HB3 := Lib.hid ((HB1.out.alloc HB1.out.size _).trans (hb3.mono (HB1.out.alloc HB1.out.size _).size))
    clear hz p0 p1 p2 p3 p4 p5 hb3
    obtain ⟨hz, p0, p1, p2, p3, p4, p5⟩ := HX3.out
    cases sb
    · have HF := Lib.hid (HT.out HSB.out)
      go_wp2_with fail
      go_ret
      exact ⟨ret_bool HF.out.symm, HB3.out⟩
    · have HF := Lib.hid ((HG.out HSB.out).trans HEB.out)
      go_wp2_with fail
      refine (HE.out _ HB3.out).mono ?_
      rintro r w4 ⟨rfl, hb4⟩
      go_wp2_with fail
      go_ret
      exact ⟨ret_bool HF.out.symm, HB3.out.trans (hb4.mono HB3.out.size)⟩

set_option maxRecDepth 100000 in
set_option maxHeartbeats 4000000 in
theorem valid_1 (p : Nat) (S M : Int) (A E : Option Addr) (n c ne ce : Nat) (st : List Int) (es : List Ed) (w : World) (hp : p ≤ 6) (hS : 0 ≤ S) (hS2 : S ≤ 3000) (ha : Ints w A n st) (hn : n ≤ 17592186044416) (he : EdgesAt w E ne es) (hne : ne ≤ 17592186044416) :
    Calls Try.prog 18 #[.agg #[.int .i64 p, .int .i64 S, .slice A n c, .int .i64 1, .int .i64 M, .slice E ne ce]] w fun e w' => e = .returned (.bool (autB p S 1 M st es)) ∧ Below w.heap.size w w' := by
  have HM := Lib.hid (show marksB 1 M = fewMB M by unfold marksB; simp)
  have HH := Lib.hid (show headP p S 1 by unfold headP; omega)
  have HX := Lib.hid (Box6.new w p S A n c 1 M E ne ce 25)
  have hp0 : (0 : Int) ≤ (p : Int) := by omega
  have hp6 : (p : Int) ≤ 6 := by omega
  cases hq : marksB 1 M
  · have HF := Lib.hid (autB_marks (P := (p : Int)) (S := S) (st := st) (es := es) hq)
    rw [hq] at HM
    clear hq ha he
    go_enter Try.func18, Try.ntmps18
    go_wp2_with fail
    refine (of_kind1 _).mono ?_
    rintro r w1 ⟨rfl, hb1⟩
    have HX1 := Lib.hid (HX.out.below hb1)
    obtain ⟨hz, p0, p1, p2, p3, p4, p5⟩ := HX1.out
    have HB1 := Lib.hid (show Below w.heap.size w w1 from ((Below.refl _ _).alloc (Nat.le_refl _) _).trans (hb1.mono (by simp)))
    clear hb1
    go_wp2_with fail
    refine (isFew_any M _).mono ?_
    rintro r w2 ⟨rfl, rfl⟩
    rw [← HM.out]
    go_wp2_with fail
    go_ret
    exact ⟨ret_bool HF.out.symm, HB1.out.alloc HB1.out.size _⟩
  · have hm := marksB_few hq
    obtain ⟨m, rfl⟩ := Int.eq_ofNat_of_zero_le hm.1
    have hm40 : m ≤ 40 := by omega
    have HS := Lib.hid (fun W (hW : Below w.heap.size w W) => validStart_any p S 1 m A E n c ne ce st W (ha.below hW) hn)
    have HE := Lib.hid (fun W (hW : Below w.heap.size w W) => validEdges_any p m S 1 A E n c ne ce es W (he.below hW) hp hm40 hne)
    have HT := Lib.hid (fun hs => autB_start (P := (p : Int)) (S := S) (st := st) (es := es) HH.out hq hs)
    have HG := Lib.hid (fun hs => autB_edges (P := (p : Int)) (S := S) (st := st) (es := es) HH.out hq hs)
    rw [hq] at HM
    clear hq ha he hm
    obtain ⟨sb, hsb, HSB⟩ : ∃ sb, startB S st = sb ∧ Hid (startB S st = sb) := ⟨_, rfl, rfl⟩
    rw [hsb] at HS
    clear hsb
    obtain ⟨eb, heb, HEB⟩ : ∃ eb, (decide (es.length ≤ 40000) && edgesB p S m es) = eb ∧ Hid ((decide (es.length ≤ 40000) && edgesB p S m es) = eb) := ⟨_, rfl, rfl⟩
    rw [heb] at HE
    clear heb
    go_enter Try.func18, Try.ntmps18
    go_wp2_with fail
    refine (of_kind1 _).mono ?_
    rintro r w1 ⟨rfl, hb1⟩
    have HX1 := Lib.hid (HX.out.below hb1)
    obtain ⟨hz, p0, p1, p2, p3, p4, p5⟩ := HX1.out
    have HB1 := Lib.hid (show Below w.heap.size w w1 from ((Below.refl _ _).alloc (Nat.le_refl _) _).trans (hb1.mono (by simp)))
    clear hb1
    go_wp2_with fail
    refine (isFew_any (m : Int) _).mono ?_
    rintro r w2 ⟨rfl, rfl⟩
    rw [← HM.out]
    go_wp2_with fail
    refine (HS.out _ (HB1.out.alloc HB1.out.size _)).mono ?_
    rintro r w3 ⟨rfl, hb3⟩
    have HX3 := Lib.hid ((HX1.out.below ((Below.refl _ _).alloc (Nat.le_refl _) _)).below hb3)
    have HB3 := Lib.hid ((HB1.out.alloc HB1.out.size _).trans (hb3.mono (HB1.out.alloc HB1.out.size _).size))
    clear hz p0 p1 p2 p3 p4 p5 hb3
    obtain ⟨hz, p0, p1, p2, p3, p4, p5⟩ := HX3.out
    cases sb
    · have HF := Lib.hid (HT.out HSB.out)
      go_wp2_with fail
      go_ret
      exact ⟨ret_bool HF.out.symm, HB3.out⟩
    · have HF := Lib.hid ((HG.out HSB.out).trans HEB.out)
      go_wp2_with fail
      refine (HE.out _ HB3.out).mono ?_
      rintro r w4 ⟨rfl, hb4⟩
      go_wp2_with fail
      go_ret
      exact ⟨ret_bool HF.out.symm, HB3.out.trans (hb4.mono HB3.out.size)⟩

end Go.Proofs.Ytfblnadmbfhjiaa.Wd

namespace Go.Proofs.Ytfblnadmbfhjiaa.Wd
open Go.RowKit
set_option linter.unusedVariables false

set_option maxRecDepth 100000 in
set_option maxHeartbeats 4000000 in
theorem valid_2 (p : Nat) (S M : Int) (A E : Option Addr) (n c ne ce : Nat) (st : List Int) (es : List Ed) (w : World) (hp : p ≤ 6) (hS : 0 ≤ S) (hS2 : S ≤ 3000) (ha : Ints w A n st) (hn : n ≤ 17592186044416) (he : EdgesAt w E ne es) (hne : ne ≤ 17592186044416) :
    Calls Try.prog 18 #[.agg #[.int .i64 p, .int .i64 S, .slice A n c, .int .i64 2, .int .i64 M, .slice E ne ce]] w fun e w' => e = .returned (.bool (autB p S 2 M st es)) ∧ Below w.heap.size w w' := by
  have HM := Lib.hid (show marksB 2 M = decide (M = 1) by unfold marksB; simp)
  have HH := Lib.hid (show headP p S 2 by unfold headP; omega)
  have HX := Lib.hid (Box6.new w p S A n c 2 M E ne ce 25)
  have hp0 : (0 : Int) ≤ (p : Int) := by omega
  have hp6 : (p : Int) ≤ 6 := by omega
  cases hq : marksB 2 M
  · have HF := Lib.hid (autB_marks (P := (p : Int)) (S := S) (st := st) (es := es) hq)
    rw [hq] at HM
    clear hq ha he
    go_enter Try.func18, Try.ntmps18
    go_wp2_with fail
    refine (of_kind2 _).mono ?_
    rintro r w1 ⟨rfl, hb1⟩
    have HX1 := Lib.hid (HX.out.below hb1)
    obtain ⟨hz, p0, p1, p2, p3, p4, p5⟩ := HX1.out
    have HB1 := Lib.hid (show Below w.heap.size w w1 from ((Below.refl _ _).alloc (Nat.le_refl _) _).trans (hb1.mono (by simp)))
    clear hb1
    go_wp2_with fail
    refine (isOne_any M _).mono ?_
    rintro r w2 ⟨rfl, rfl⟩
    rw [← HM.out]
    go_wp2_with fail
    go_ret
    exact ⟨ret_bool HF.out.symm, HB1.out.alloc HB1.out.size _⟩
  · have hm := marksB_few hq
    obtain ⟨m, rfl⟩ := Int.eq_ofNat_of_zero_le hm.1
    have hm40 : m ≤ 40 := by omega
    have HS := Lib.hid (fun W (hW : Below w.heap.size w W) => validStart_any p S 2 m A E n c ne ce st W (ha.below hW) hn)
    have HE := Lib.hid (fun W (hW : Below w.heap.size w W) => validEdges_any p m S 2 A E n c ne ce es W (he.below hW) hp hm40 hne)
    have HT := Lib.hid (fun hs => autB_start (P := (p : Int)) (S := S) (st := st) (es := es) HH.out hq hs)
    have HG := Lib.hid (fun hs => autB_edges (P := (p : Int)) (S := S) (st := st) (es := es) HH.out hq hs)
    rw [hq] at HM
    clear hq ha he hm
    obtain ⟨sb, hsb, HSB⟩ : ∃ sb, startB S st = sb ∧ Hid (startB S st = sb) := ⟨_, rfl, rfl⟩
    rw [hsb] at HS
    clear hsb
    obtain ⟨eb, heb, HEB⟩ : ∃ eb, (decide (es.length ≤ 40000) && edgesB p S m es) = eb ∧ Hid ((decide (es.length ≤ 40000) && edgesB p S m es) = eb) := ⟨_, rfl, rfl⟩
    rw [heb] at HE
    clear heb
    go_enter Try.func18, Try.ntmps18
    go_wp2_with fail
    refine (of_kind2 _).mono ?_
    rintro r w1 ⟨rfl, hb1⟩
    have HX1 := Lib.hid (HX.out.below hb1)
    obtain ⟨hz, p0, p1, p2, p3, p4, p5⟩ := HX1.out
    have HB1 := Lib.hid (show Below w.heap.size w w1 from ((Below.refl _ _).alloc (Nat.le_refl _) _).trans (hb1.mono (by simp)))
    clear hb1
    go_wp2_with fail
    refine (isOne_any (m : Int) _).mono ?_
    rintro r w2 ⟨rfl, rfl⟩
    rw [← HM.out]
    go_wp2_with fail
    refine (HS.out _ (HB1.out.alloc HB1.out.size _)).mono ?_
    rintro r w3 ⟨rfl, hb3⟩
    have HX3 := Lib.hid ((HX1.out.below ((Below.refl _ _).alloc (Nat.le_refl _) _)).below hb3)
    have HB3 := Lib.hid ((HB1.out.alloc HB1.out.size _).trans (hb3.mono (HB1.out.alloc HB1.out.size _).size))
    clear hz p0 p1 p2 p3 p4 p5 hb3
    obtain ⟨hz, p0, p1, p2, p3, p4, p5⟩ := HX3.out
    cases sb
    · have HF := Lib.hid (HT.out HSB.out)
      go_wp2_with fail
      go_ret
      exact ⟨ret_bool HF.out.symm, HB3.out⟩
    · have HF := Lib.hid ((HG.out HSB.out).trans HEB.out)
      go_wp2_with fail
      refine (HE.out _ HB3.out).mono ?_
      rintro r w4 ⟨rfl, hb4⟩
      go_wp2_with fail
      go_ret
      exact ⟨ret_bool HF.out.symm, HB3.out.trans (hb4.mono HB3.out.size)⟩

set_option maxRecDepth 100000 in
set_option maxHeartbeats 4000000 in
theorem valid_3 (p : Nat) (S M : Int) (A E : Option Addr) (n c ne ce : Nat) (st : List Int) (es : List Ed) (w : World) (hp : p ≤ 6) (hS : 0 ≤ S) (hS2 : S ≤ 3000) (ha : Ints w A n st) (hn : n ≤ 17592186044416) (he : EdgesAt w E ne es) (hne : ne ≤ 17592186044416) :
    Calls Try.prog 18 #[.agg #[.int .i64 p, .int .i64 S, .slice A n c, .int .i64 3, .int .i64 M, .slice E ne ce]] w fun e w' => e = .returned (.bool (autB p S 3 M st es)) ∧ Below w.heap.size w w' := by
  have HM := Lib.hid (show marksB 3 M = evenMB M by unfold marksB; simp)
  have HH := Lib.hid (show headP p S 3 by unfold headP; omega)
  have HX := Lib.hid (Box6.new w p S A n c 3 M E ne ce 25)
  have hp0 : (0 : Int) ≤ (p : Int) := by omega
  have hp6 : (p : Int) ≤ 6 := by omega
  cases hq : marksB 3 M
  · have HF := Lib.hid (autB_marks (P := (p : Int)) (S := S) (st := st) (es := es) hq)
    rw [hq] at HM
    clear hq ha he
    go_enter Try.func18, Try.ntmps18
    go_wp2_with fail
    refine (of_kind3 _).mono ?_
    rintro r w1 ⟨rfl, hb1⟩
    have HX1 := Lib.hid (HX.out.below hb1)
    obtain ⟨hz, p0, p1, p2, p3, p4, p5⟩ := HX1.out
    have HB1 := Lib.hid (show Below w.heap.size w w1 from ((Below.refl _ _).alloc (Nat.le_refl _) _).trans (hb1.mono (by simp)))
    clear hb1
    go_wp2_with fail
    refine (isFewPairs_any M _).mono ?_
    rintro r w2 ⟨rfl, rfl⟩
    rw [← HM.out]
    go_wp2_with fail
    go_ret
    exact ⟨ret_bool HF.out.symm, HB1.out.alloc HB1.out.size _⟩
  · have hm := marksB_few hq
    obtain ⟨m, rfl⟩ := Int.eq_ofNat_of_zero_le hm.1
    have hm40 : m ≤ 40 := by omega
    have HS := Lib.hid (fun W (hW : Below w.heap.size w W) => validStart_any p S 3 m A E n c ne ce st W (ha.below hW) hn)
    have HE := Lib.hid (fun W (hW : Below w.heap.size w W) => validEdges_any p m S 3 A E n c ne ce es W (he.below hW) hp hm40 hne)
    have HT := Lib.hid (fun hs => autB_start (P := (p : Int)) (S := S) (st := st) (es := es) HH.out hq hs)
    have HG := Lib.hid (fun hs => autB_edges (P := (p : Int)) (S := S) (st := st) (es := es) HH.out hq hs)
    rw [hq] at HM
    clear hq ha he hm
    obtain ⟨sb, hsb, HSB⟩ : ∃ sb, startB S st = sb ∧ Hid (startB S st = sb) := ⟨_, rfl, rfl⟩
    rw [hsb] at HS
    clear hsb
    obtain ⟨eb, heb, HEB⟩ : ∃ eb, (decide (es.length ≤ 40000) && edgesB p S m es) = eb ∧ Hid ((decide (es.length ≤ 40000) && edgesB p S m es) = eb) := ⟨_, rfl, rfl⟩
    rw [heb] at HE
    clear heb
    go_enter Try.func18, Try.ntmps18
    go_wp2_with fail
    refine (of_kind3 _).mono ?_
    rintro r w1 ⟨rfl, hb1⟩
    have HX1 := Lib.hid (HX.out.below hb1)
    obtain ⟨hz, p0, p1, p2, p3, p4, p5⟩ := HX1.out
    have HB1 := Lib.hid (show Below w.heap.size w w1 from ((Below.refl _ _).alloc (Nat.le_refl _) _).trans (hb1.mono (by simp)))
    clear hb1
    go_wp2_with fail
    refine (isFewPairs_any (m : Int) _).mono ?_
    rintro r w2 ⟨rfl, rfl⟩
    rw [← HM.out]
    go_wp2_with fail
    refine (HS.out _ (HB1.out.alloc HB1.out.size _)).mono ?_
    rintro r w3 ⟨rfl, hb3⟩
    have HX3 := Lib.hid ((HX1.out.below ((Below.refl _ _).alloc (Nat.le_refl _) _)).below hb3)
    have HB3 := Lib.hid ((HB1.out.alloc HB1.out.size _).trans (hb3.mono (HB1.out.alloc HB1.out.size _).size))
    clear hz p0 p1 p2 p3 p4 p5 hb3
    obtain ⟨hz, p0, p1, p2, p3, p4, p5⟩ := HX3.out
    cases sb
    · have HF := Lib.hid (HT.out HSB.out)
      go_wp2_with fail
      go_ret
      exact ⟨ret_bool HF.out.symm, HB3.out⟩
    · have HF := Lib.hid ((HG.out HSB.out).trans HEB.out)
      go_wp2_with fail
      refine (HE.out _ HB3.out).mono ?_
      rintro r w4 ⟨rfl, hb4⟩
      go_wp2_with fail
      go_ret
      exact ⟨ret_bool HF.out.symm, HB3.out.trans (hb4.mono HB3.out.size)⟩

end Go.Proofs.Ytfblnadmbfhjiaa.Wd

namespace Go.Proofs.Ytfblnadmbfhjiaa.Wd
open Go.RowKit
set_option linter.unusedVariables false

set_option maxRecDepth 100000 in
set_option maxHeartbeats 4000000 in
theorem valid_4 (p : Nat) (S M : Int) (A E : Option Addr) (n c ne ce : Nat) (st : List Int) (es : List Ed) (w : World) (hp : p ≤ 6) (hS : 0 ≤ S) (hS2 : S ≤ 3000) (ha : Ints w A n st) (hn : n ≤ 17592186044416) (he : EdgesAt w E ne es) (hne : ne ≤ 17592186044416) :
    Calls Try.prog 18 #[.agg #[.int .i64 p, .int .i64 S, .slice A n c, .int .i64 4, .int .i64 M, .slice E ne ce]] w fun e w' => e = .returned (.bool (autB p S 4 M st es)) ∧ Below w.heap.size w w' := by
  have HM := Lib.hid (show marksB 4 M = evenMB M by unfold marksB; simp)
  have HH := Lib.hid (show headP p S 4 by unfold headP; omega)
  have HX := Lib.hid (Box6.new w p S A n c 4 M E ne ce 25)
  have hp0 : (0 : Int) ≤ (p : Int) := by omega
  have hp6 : (p : Int) ≤ 6 := by omega
  cases hq : marksB 4 M
  · have HF := Lib.hid (autB_marks (P := (p : Int)) (S := S) (st := st) (es := es) hq)
    rw [hq] at HM
    clear hq ha he
    go_enter Try.func18, Try.ntmps18
    go_wp2_with fail
    refine (of_kind4 _).mono ?_
    rintro r w1 ⟨rfl, hb1⟩
    have HX1 := Lib.hid (HX.out.below hb1)
    obtain ⟨hz, p0, p1, p2, p3, p4, p5⟩ := HX1.out
    have HB1 := Lib.hid (show Below w.heap.size w w1 from ((Below.refl _ _).alloc (Nat.le_refl _) _).trans (hb1.mono (by simp)))
    clear hb1
    go_wp2_with fail
    refine (isFewPairs_any M _).mono ?_
    rintro r w2 ⟨rfl, rfl⟩
    rw [← HM.out]
    go_wp2_with fail
    go_ret
    exact ⟨ret_bool HF.out.symm, HB1.out.alloc HB1.out.size _⟩
  · have hm := marksB_few hq
    obtain ⟨m, rfl⟩ := Int.eq_ofNat_of_zero_le hm.1
    have hm40 : m ≤ 40 := by omega
    have HS := Lib.hid (fun W (hW : Below w.heap.size w W) => validStart_any p S 4 m A E n c ne ce st W (ha.below hW) hn)
    have HE := Lib.hid (fun W (hW : Below w.heap.size w W) => validEdges_any p m S 4 A E n c ne ce es W (he.below hW) hp hm40 hne)
    have HT := Lib.hid (fun hs => autB_start (P := (p : Int)) (S := S) (st := st) (es := es) HH.out hq hs)
    have HG := Lib.hid (fun hs => autB_edges (P := (p : Int)) (S := S) (st := st) (es := es) HH.out hq hs)
    rw [hq] at HM
    clear hq ha he hm
    obtain ⟨sb, hsb, HSB⟩ : ∃ sb, startB S st = sb ∧ Hid (startB S st = sb) := ⟨_, rfl, rfl⟩
    rw [hsb] at HS
    clear hsb
    obtain ⟨eb, heb, HEB⟩ : ∃ eb, (decide (es.length ≤ 40000) && edgesB p S m es) = eb ∧ Hid ((decide (es.length ≤ 40000) && edgesB p S m es) = eb) := ⟨_, rfl, rfl⟩
    rw [heb] at HE
    clear heb
    go_enter Try.func18, Try.ntmps18
    go_wp2_with fail
    refine (of_kind4 _).mono ?_
    rintro r w1 ⟨rfl, hb1⟩
    have HX1 := Lib.hid (HX.out.below hb1)
    obtain ⟨hz, p0, p1, p2, p3, p4, p5⟩ := HX1.out
    have HB1 := Lib.hid (show Below w.heap.size w w1 from ((Below.refl _ _).alloc (Nat.le_refl _) _).trans (hb1.mono (by simp)))
    clear hb1
    go_wp2_with fail
    refine (isFewPairs_any (m : Int) _).mono ?_
    rintro r w2 ⟨rfl, rfl⟩
    rw [← HM.out]
    go_wp2_with fail
    refine (HS.out _ (HB1.out.alloc HB1.out.size _)).mono ?_
    rintro r w3 ⟨rfl, hb3⟩
    have HX3 := Lib.hid ((HX1.out.below ((Below.refl _ _).alloc (Nat.le_refl _) _)).below hb3)
    have HB3 := Lib.hid ((HB1.out.alloc HB1.out.size _).trans (hb3.mono (HB1.out.alloc HB1.out.size _).size))
    clear hz p0 p1 p2 p3 p4 p5 hb3
    obtain ⟨hz, p0, p1, p2, p3, p4, p5⟩ := HX3.out
    cases sb
    · have HF := Lib.hid (HT.out HSB.out)
      go_wp2_with fail
      go_ret
      exact ⟨ret_bool HF.out.symm, HB3.out⟩
    · have HF := Lib.hid ((HG.out HSB.out).trans HEB.out)
      go_wp2_with fail
      refine (HE.out _ HB3.out).mono ?_
      rintro r w4 ⟨rfl, hb4⟩
      go_wp2_with fail
      go_ret
      exact ⟨ret_bool HF.out.symm, HB3.out.trans (hb4.mono HB3.out.size)⟩

set_option maxRecDepth 100000 in
set_option maxHeartbeats 4000000 in
theorem valid_5 (p : Nat) (S M : Int) (A E : Option Addr) (n c ne ce : Nat) (st : List Int) (es : List Ed) (w : World) (hp : p ≤ 6) (hS : 0 ≤ S) (hS2 : S ≤ 3000) (ha : Ints w A n st) (hn : n ≤ 17592186044416) (he : EdgesAt w E ne es) (hne : ne ≤ 17592186044416) :
    Calls Try.prog 18 #[.agg #[.int .i64 p, .int .i64 S, .slice A n c, .int .i64 5, .int .i64 M, .slice E ne ce]] w fun e w' => e = .returned (.bool (autB p S 5 M st es)) ∧ Below w.heap.size w w' := by
  have HM := Lib.hid (show marksB 5 M = fewMB M by unfold marksB; simp)
  have HH := Lib.hid (show headP p S 5 by unfold headP; omega)
  have HX := Lib.hid (Box6.new w p S A n c 5 M E ne ce 25)
  have hp0 : (0 : Int) ≤ (p : Int) := by omega
  have hp6 : (p : Int) ≤ 6 := by omega
  cases hq : marksB 5 M
  · have HF := Lib.hid (autB_marks (P := (p : Int)) (S := S) (st := st) (es := es) hq)
    rw [hq] at HM
    clear hq ha he
    go_enter Try.func18, Try.ntmps18
    go_wp2_with fail
    refine (of_kind5 _).mono ?_
    rintro r w1 ⟨rfl, hb1⟩
    have HX1 := Lib.hid (HX.out.below hb1)
    obtain ⟨hz, p0, p1, p2, p3, p4, p5⟩ := HX1.out
    have HB1 := Lib.hid (show Below w.heap.size w w1 from ((Below.refl _ _).alloc (Nat.le_refl _) _).trans (hb1.mono (by simp)))
    clear hb1
    go_wp2_with fail
    refine (isFew_any M _).mono ?_
    rintro r w2 ⟨rfl, rfl⟩
    rw [← HM.out]
    go_wp2_with fail
    go_ret
    exact ⟨ret_bool HF.out.symm, HB1.out.alloc HB1.out.size _⟩
  · have hm := marksB_few hq
    obtain ⟨m, rfl⟩ := Int.eq_ofNat_of_zero_le hm.1
    have hm40 : m ≤ 40 := by omega
    have HS := Lib.hid (fun W (hW : Below w.heap.size w W) => validStart_any p S 5 m A E n c ne ce st W (ha.below hW) hn)
    have HE := Lib.hid (fun W (hW : Below w.heap.size w W) => validEdges_any p m S 5 A E n c ne ce es W (he.below hW) hp hm40 hne)
    have HT := Lib.hid (fun hs => autB_start (P := (p : Int)) (S := S) (st := st) (es := es) HH.out hq hs)
    have HG := Lib.hid (fun hs => autB_edges (P := (p : Int)) (S := S) (st := st) (es := es) HH.out hq hs)
    rw [hq] at HM
    clear hq ha he hm
    obtain ⟨sb, hsb, HSB⟩ : ∃ sb, startB S st = sb ∧ Hid (startB S st = sb) := ⟨_, rfl, rfl⟩
    rw [hsb] at HS
    clear hsb
    obtain ⟨eb, heb, HEB⟩ : ∃ eb, (decide (es.length ≤ 40000) && edgesB p S m es) = eb ∧ Hid ((decide (es.length ≤ 40000) && edgesB p S m es) = eb) := ⟨_, rfl, rfl⟩
    rw [heb] at HE
    clear heb
    go_enter Try.func18, Try.ntmps18
    go_wp2_with fail
    refine (of_kind5 _).mono ?_
    rintro r w1 ⟨rfl, hb1⟩
    have HX1 := Lib.hid (HX.out.below hb1)
    obtain ⟨hz, p0, p1, p2, p3, p4, p5⟩ := HX1.out
    have HB1 := Lib.hid (show Below w.heap.size w w1 from ((Below.refl _ _).alloc (Nat.le_refl _) _).trans (hb1.mono (by simp)))
    clear hb1
    go_wp2_with fail
    refine (isFew_any (m : Int) _).mono ?_
    rintro r w2 ⟨rfl, rfl⟩
    rw [← HM.out]
    go_wp2_with fail
    refine (HS.out _ (HB1.out.alloc HB1.out.size _)).mono ?_
    rintro r w3 ⟨rfl, hb3⟩
    have HX3 := Lib.hid ((HX1.out.below ((Below.refl _ _).alloc (Nat.le_refl _) _)).below hb3)
    have HB3 := Lib.hid ((HB1.out.alloc HB1.out.size _).trans (hb3.mono (HB1.out.alloc HB1.out.size _).size))
    clear hz p0 p1 p2 p3 p4 p5 hb3
    obtain ⟨hz, p0, p1, p2, p3, p4, p5⟩ := HX3.out
    cases sb
    · have HF := Lib.hid (HT.out HSB.out)
      go_wp2_with fail
      go_ret
      exact ⟨ret_bool HF.out.symm, HB3.out⟩
    · have HF := Lib.hid ((HG.out HSB.out).trans HEB.out)
      go_wp2_with fail
      refine (HE.out _ HB3.out).mono ?_
      rintro r w4 ⟨rfl, hb4⟩
      go_wp2_with fail
      go_ret
      exact ⟨ret_bool HF.out.symm, HB3.out.trans (hb4.mono HB3.out.size)⟩

end Go.Proofs.Ytfblnadmbfhjiaa.Wd

namespace Go.Proofs.Ytfblnadmbfhjiaa.Wd
open Go.RowKit
set_option linter.unusedVariables false

theorem refHas_any (x : Int) (i : Nat) (w : World) (hi : i ≤ 41) : Calls Try.prog 76 #[.int .i64 x, .int .i64 i] w fun e w' => e = .returned (.bool (hasB x i)) ∧ w = w' := by
  obtain ⟨r, hr, HR⟩ : ∃ r : Int, bits .and .i64 (x / 2 ^ i) 1 = r ∧ Hid (hasB x i = decide (r = 1)) := ⟨_, and1 _, rfl⟩
  have h0 : (0 : Int) ≤ (i : Int) := by omega
  have h1 : (i : Int) ≤ 41 := by omega
  go_enter Try.func76, Try.ntmps76
  go_wp2_with fail
  go_ret
  exact ⟨ret_bool (by rw [HR.out]; first | rfl | simp), rfl⟩

set_option maxHeartbeats 1000000 in
/-- The loop over the pairs, for Rabin. -/
theorem refAccepted_3 (m : Nat) (x : Int) (w : World) (hm : m ≤ 40) (hev : m % 2 = 0) : Calls Try.prog 47 #[.int .i64 3, .int .i64 m, .int .i64 x] w fun e w' => e = .returned (.bool (pairB m x)) ∧ w = w' := by
  have HEV := Lib.hid hev
  clear hev
  go_enter Try.func47, Try.ntmps47
  go_wp2_with fail
  go_loop [7] (fun v => ∃ i : Nat, i ≤ m ∧ Hid (i % 2 = 0 ∧ pairB i x = false) ∧ v = .int .i64 i) (fun v => m + 2 - (intOf v).toNat)
  case atStart => exact ⟨0, by omega, ⟨rfl, pairB_zero x⟩, rfl⟩
  case round =>
    obtain ⟨i, hi, HI, rfl⟩ := hrel
    have h0 : (0 : Int) ≤ (i : Int) := by omega
    by_cases hlt : i < m
    · have hlt2 : i + 1 < m := by have := HI.out.1; have := HEV.out; omega
      have HP := Lib.hid (has_pair x i)
      have HH := Lib.hid (fun w => refHas_any x i w (by omega))
      have HH2 := Lib.hid (fun w => refHas_any x (i + 1) w (by omega))
      have HT := Lib.hid (fun h => pairB_true (x := x) HI.out.1 hlt h)
      have HS := Lib.hid (fun h => pairB_step (x := x) HI.out.1 h)
      generalize hasB x i = b1 at *
      generalize hasB x (i + 1) = b2 at *
      cases b1
      · cases b2
        · have HN := Lib.hid (show ¬ x / 2 ^ i % 4 = 2 from of_decide_eq_false HP.out.symm)
          go_wp2_with fail
          refine (HH.out _).mono ?_
          rintro e w' ⟨rfl, rfl⟩
          go_wp2_with fail
          refine (HH2.out _).mono ?_
          rintro e w' ⟨rfl, rfl⟩
          go_wp2_with fail
          go_round
          case rel => exact ⟨i + 2, by omega, ⟨by have := HI.out.1; omega, by rw [HS.out HN.out]; exact HI.out.2⟩, by go_num⟩
          case measure => simp [intOf]; omega
        · have HN := Lib.hid (show x / 2 ^ i % 4 = 2 from of_decide_eq_true HP.out.symm)
          go_wp2_with fail
          refine (HH.out _).mono ?_
          rintro e w' ⟨rfl, rfl⟩
          go_wp2_with fail
          refine (HH2.out _).mono ?_
          rintro e w' ⟨rfl, rfl⟩
          go_wp2_with fail
          go_ret
          exact ⟨ret_bool (HT.out HN.out).symm, rfl⟩
      · have HN := Lib.hid (show ¬ x / 2 ^ i % 4 = 2 from of_decide_eq_false HP.out.symm)
        go_wp2_with fail
        refine (HH.out _).mono ?_
        rintro e w' ⟨rfl, rfl⟩
        go_wp2_with fail
        go_round
        case rel => exact ⟨i + 2, by omega, ⟨by have := HI.out.1; omega, by rw [HS.out HN.out]; exact HI.out.2⟩, by go_num⟩
        case measure => simp [intOf]; omega
    · obtain rfl : i = m := by omega
      go_wp2_with fail
      go_ret
      exact ⟨ret_bool HI.out.2.symm, rfl⟩

set_option maxHeartbeats 1000000 in
/-- The loop over the pairs, for Streett. -/
theorem refAccepted_4 (m : Nat) (x : Int) (w : World) (hm : m ≤ 40) (hev : m % 2 = 0) : Calls Try.prog 47 #[.int .i64 4, .int .i64 m, .int .i64 x] w fun e w' => e = .returned (.bool (!pairB m x)) ∧ w = w' := by
  have HEV := Lib.hid hev
  clear hev
  go_enter Try.func47, Try.ntmps47
  go_wp2_with fail
  go_loop [8] (fun v => ∃ i : Nat, i ≤ m ∧ Hid (i % 2 = 0 ∧ pairB i x = false) ∧ v = .int .i64 i) (fun v => m + 2 - (intOf v).toNat)
  case atStart => exact ⟨0, by omega, ⟨rfl, pairB_zero x⟩, rfl⟩
  case round =>
    obtain ⟨i, hi, HI, rfl⟩ := hrel
    have h0 : (0 : Int) ≤ (i : Int) := by omega
    by_cases hlt : i < m
    · have hlt2 : i + 1 < m := by have := HI.out.1; have := HEV.out; omega
      have HP := Lib.hid (has_pair x i)
      have HH := Lib.hid (fun w => refHas_any x i w (by omega))
      have HH2 := Lib.hid (fun w => refHas_any x (i + 1) w (by omega))
      have HT := Lib.hid (fun h => pairB_true (x := x) HI.out.1 hlt h)
      have HS := Lib.hid (fun h => pairB_step (x := x) HI.out.1 h)
      generalize hasB x i = b1 at *
      generalize hasB x (i + 1) = b2 at *
      cases b1
      · cases b2
        · have HN := Lib.hid (show ¬ x / 2 ^ i % 4 = 2 from of_decide_eq_false HP.out.symm)
          go_wp2_with fail
          refine (HH.out _).mono ?_
          rintro e w' ⟨rfl, rfl⟩
          go_wp2_with fail
          refine (HH2.out _).mono ?_
          rintro e w' ⟨rfl, rfl⟩
          go_wp2_with fail
          go_round
          case rel => exact ⟨i + 2, by omega, ⟨by have := HI.out.1; omega, by rw [HS.out HN.out]; exact HI.out.2⟩, by go_num⟩
          case measure => simp [intOf]; omega
        · have HN := Lib.hid (show x / 2 ^ i % 4 = 2 from of_decide_eq_true HP.out.symm)
          go_wp2_with fail
          refine (HH.out _).mono ?_
          rintro e w' ⟨rfl, rfl⟩
          go_wp2_with fail
          refine (HH2.out _).mono ?_
          rintro e w' ⟨rfl, rfl⟩
          go_wp2_with fail
          go_ret
          exact ⟨ret_bool (by rw [HT.out HN.out]; rfl), rfl⟩
      · have HN := Lib.hid (show ¬ x / 2 ^ i % 4 = 2 from of_decide_eq_false HP.out.symm)
        go_wp2_with fail
        refine (HH.out _).mono ?_
        rintro e w' ⟨rfl, rfl⟩
        go_wp2_with fail
        go_round
        case rel => exact ⟨i + 2, by omega, ⟨by have := HI.out.1; omega, by rw [HS.out HN.out]; exact HI.out.2⟩, by go_num⟩
        case measure => simp [intOf]; omega
    · obtain rfl : i = m := by omega
      go_wp2_with fail
      go_ret
      exact ⟨ret_bool (by rw [HI.out.2]; rfl), rfl⟩

theorem refAccepted_0 (m x : Int) (w : World) : Calls Try.prog 47 #[.int .i64 0, .int .i64 m, .int .i64 x] w fun e w' => e = .returned (.bool (hasB x 0)) ∧ w = w' := by
  have HH := Lib.hid (fun w => refHas_any x 0 w (by omega))
  go_enter Try.func47, Try.ntmps47
  go_wp2_with fail
  refine (HH.out _).mono ?_
  rintro e w' ⟨rfl, rfl⟩
  go_wp2_with fail
  go_ret
  exact ⟨rfl, rfl⟩
theorem refAccepted_2 (m x : Int) (w : World) : Calls Try.prog 47 #[.int .i64 2, .int .i64 m, .int .i64 x] w fun e w' => e = .returned (.bool (!hasB x 0)) ∧ w = w' := by
  have HH := Lib.hid (fun w => refHas_any x 0 w (by omega))
  go_enter Try.func47, Try.ntmps47
  go_wp2_with fail
  refine (HH.out _).mono ?_
  rintro e w' ⟨rfl, rfl⟩
  go_wp2_with fail
  go_ret
  exact ⟨rfl, rfl⟩
theorem refAccepted_1 (m : Nat) (x : Int) (w : World) (hm : m ≤ 40) : Calls Try.prog 47 #[.int .i64 1, .int .i64 m, .int .i64 x] w fun e w' => e = .returned (.bool (decide (x = (2 : Int) ^ m - 1))) ∧ w = w' := by
  obtain ⟨P, hP, hP1, HP⟩ : ∃ P : Int, IntKind.i64.wrap ((2 : Int) ^ m) = P ∧ IntKind.i64.wrap (P - 1) = P - 1 ∧ Hid ((2 : Int) ^ m = P) := ⟨_, (pow_wrap40 hm).1, (pow_wrap40 hm).2, rfl⟩
  have h0 : (0 : Int) ≤ (m : Int) := by omega
  go_enter Try.func47, Try.ntmps47
  go_wp2_with fail
  go_ret
  exact ⟨ret_bool (by rw [HP.out]; first | rfl | simp), rfl⟩

set_option maxHeartbeats 1000000 in
/-- The loop that looks for the greatest mark. -/
theorem refAccepted_5 (m x : Nat) (w : World) (hm : m ≤ 40) (hx : x < 2 ^ m) : Calls Try.prog 47 #[.int .i64 5, .int .i64 m, .int .i64 x] w fun e w' => e = .returned (.bool (evenB x)) ∧ w = w' := by
  have HX := Lib.hid hx
  clear hx
  go_enter Try.func47, Try.ntmps47
  go_wp2_with fail
  go_loop [9, 63] (fun t v => ∃ (i : Nat) (T : Int), i ≤ m ∧ Hid (T = (topN x i : Int) - 1) ∧ t = .int .i64 T ∧ v = .int .i64 i) (fun _ v => m - (intOf v).toNat)
  case atStart => exact ⟨0, -1, by omega, by show (-1 : Int) = _; rw [topN_zero]; rfl, rfl, rfl⟩
  case round =>
    obtain ⟨i, T, hi, HI, rfl, rfl⟩ := hrel
    have h0 : (0 : Int) ≤ (i : Int) := by omega
    by_cases hlt : i < m
    · have HH := Lib.hid (fun w => refHas_any (x : Int) i w (by omega))
      cases hb : hasB (x : Int) i
      · have HT := Lib.hid (topN_not hb)
        rw [hb] at HH
        clear hb
        go_wp2_with fail
        refine (HH.out _).mono ?_
        rintro e w' ⟨rfl, rfl⟩
        go_wp2_with fail
        go_round
        case rel => exact ⟨i + 1, T, by omega, by show T = _; rw [HT.out]; exact HI.out, rfl, by go_num⟩
        case measure => simp [intOf]; omega
      · have HT := Lib.hid (topN_set (show i < 64 by omega) hb)
        rw [hb] at HH
        clear hb
        go_wp2_with fail
        refine (HH.out _).mono ?_
        rintro e w' ⟨rfl, rfl⟩
        go_wp2_with fail
        go_round
        case rel => exact ⟨i + 1, i, by omega, by show (i : Int) = _; rw [HT.out]; omega, rfl, by go_num⟩
        case measure => simp [intOf]; omega
    · obtain rfl : i = m := by omega
      have HE := Lib.hid (even_top x i HX.out)
      rw [← HI.out] at HE
      have hTl : T ≤ 40 := by have := topN_le x i (by omega); have := HI.out; omega
      by_cases hT : 0 ≤ T
      · obtain ⟨r, hr, HR⟩ : ∃ r : Int, T.tmod 2 = r ∧ Hid (T.tmod 2 = r) := ⟨_, rfl, rfl⟩
        have HD := Lib.hid (show decide ((0 : Int) ≤ T) = true from decide_eq_true hT)
        rw [HD.out, HR.out] at HE
        have hd : decide ((0 : Int) ≤ T) = true := HD.out
        go_wp2_with fail
        go_ret
        exact ⟨ret_bool (by rw [← HE.out]; first | rfl | simp), rfl⟩
      · have HD := Lib.hid (show decide ((0 : Int) ≤ T) = false from decide_eq_false hT)
        rw [HD.out, Bool.false_and] at HE
        have hT' : T < 0 := by omega
        go_wp2_with fail
        go_ret
        exact ⟨ret_bool HE.out, rfl⟩

end Go.Proofs.Ytfblnadmbfhjiaa.Wd

namespace Go.Proofs.Ytfblnadmbfhjiaa.Wd
open Go.RowKit
set_option linter.unusedVariables false

theorem marksB_out {k m : Int} (h : m < 0 ∨ 40 < m) : marksB k m = false := by
  cases hb : marksB k m
  · rfl
  · have := marksB_few hb; omega

theorem refMarks_0 (m : Int) (w : World) : Calls Try.prog 35 #[.int .i64 0, .int .i64 m] w fun e w' => e = .returned (.bool (marksB 0 m)) ∧ w = w' := by
  have hc : m < 0 ∨ (0 ≤ m ∧ 40 < m) ∨ (0 ≤ m ∧ m ≤ 40) := by omega
  rcases hc with h | ⟨h, h2⟩ | ⟨h, h2⟩
  · have HF := Lib.hid (marksB_out (k := 0) (m := m) (by omega))
    go_enter Try.func35, Try.ntmps35
    go_wp2_with fail
    go_ret
    exact ⟨ret_bool HF.out.symm, rfl⟩
  · have HF := Lib.hid (marksB_out (k := 0) (m := m) (by omega))
    go_enter Try.func35, Try.ntmps35
    go_wp2_with fail
    go_ret
    exact ⟨ret_bool HF.out.symm, rfl⟩
  · have HF := Lib.hid (show marksB 0 m = decide (m = 1) by unfold marksB; rw [if_pos (by decide)])
    go_enter Try.func35, Try.ntmps35
    go_wp2_with fail
    go_ret
    exact ⟨ret_bool (by rw [HF.out]; first | rfl | simp), rfl⟩

theorem refMarks_1 (m : Int) (w : World) : Calls Try.prog 35 #[.int .i64 1, .int .i64 m] w fun e w' => e = .returned (.bool (marksB 1 m)) ∧ w = w' := by
  have hc : m < 0 ∨ (0 ≤ m ∧ 40 < m) ∨ (0 ≤ m ∧ m ≤ 40) := by omega
  rcases hc with h | ⟨h, h2⟩ | ⟨h, h2⟩
  · have HF := Lib.hid (marksB_out (k := 1) (m := m) (by omega))
    go_enter Try.func35, Try.ntmps35
    go_wp2_with fail
    go_ret
    exact ⟨ret_bool HF.out.symm, rfl⟩
  · have HF := Lib.hid (marksB_out (k := 1) (m := m) (by omega))
    go_enter Try.func35, Try.ntmps35
    go_wp2_with fail
    go_ret
    exact ⟨ret_bool HF.out.symm, rfl⟩
  · have HF := Lib.hid (show marksB 1 m = true by unfold marksB; rw [if_neg (by decide), if_neg (by decide)]; unfold fewMB; exact decide_eq_true ⟨h, h2⟩)
    go_enter Try.func35, Try.ntmps35
    go_wp2_with fail
    go_ret
    exact ⟨ret_bool HF.out.symm, rfl⟩

theorem refMarks_2 (m : Int) (w : World) : Calls Try.prog 35 #[.int .i64 2, .int .i64 m] w fun e w' => e = .returned (.bool (marksB 2 m)) ∧ w = w' := by
  have hc : m < 0 ∨ (0 ≤ m ∧ 40 < m) ∨ (0 ≤ m ∧ m ≤ 40) := by omega
  rcases hc with h | ⟨h, h2⟩ | ⟨h, h2⟩
  · have HF := Lib.hid (marksB_out (k := 2) (m := m) (by omega))
    go_enter Try.func35, Try.ntmps35
    go_wp2_with fail
    go_ret
    exact ⟨ret_bool HF.out.symm, rfl⟩
  · have HF := Lib.hid (marksB_out (k := 2) (m := m) (by omega))
    go_enter Try.func35, Try.ntmps35
    go_wp2_with fail
    go_ret
    exact ⟨ret_bool HF.out.symm, rfl⟩
  · have HF := Lib.hid (show marksB 2 m = decide (m = 1) by unfold marksB; rw [if_pos (by decide)])
    go_enter Try.func35, Try.ntmps35
    go_wp2_with fail
    go_ret
    exact ⟨ret_bool (by rw [HF.out]; first | rfl | simp), rfl⟩

theorem refMarks_3 (m : Int) (w : World) : Calls Try.prog 35 #[.int .i64 3, .int .i64 m] w fun e w' => e = .returned (.bool (marksB 3 m)) ∧ w = w' := by
  have hc : m < 0 ∨ (0 ≤ m ∧ 40 < m) ∨ (0 ≤ m ∧ m ≤ 40) := by omega
  rcases hc with h | ⟨h, h2⟩ | ⟨h, h2⟩
  · have HF := Lib.hid (marksB_out (k := 3) (m := m) (by omega))
    go_enter Try.func35, Try.ntmps35
    go_wp2_with fail
    go_ret
    exact ⟨ret_bool HF.out.symm, rfl⟩
  · have HF := Lib.hid (marksB_out (k := 3) (m := m) (by omega))
    go_enter Try.func35, Try.ntmps35
    go_wp2_with fail
    go_ret
    exact ⟨ret_bool HF.out.symm, rfl⟩
  · obtain ⟨r, hr, HR⟩ : ∃ r : Int, m.tmod 2 = r ∧ Hid (m % 2 = r) := ⟨_, Int.tmod_eq_emod_of_nonneg h, rfl⟩
    have HF := Lib.hid (show marksB 3 m = decide (r = 0) by unfold marksB; rw [if_neg (by decide), if_pos (by decide)]; unfold evenMB; rw [decide_eq_decide, HR.out]; omega)
    go_enter Try.func35, Try.ntmps35
    go_wp2_with fail
    go_ret
    exact ⟨ret_bool (by rw [HF.out]; first | rfl | simp), rfl⟩

theorem refMarks_4 (m : Int) (w : World) : Calls Try.prog 35 #[.int .i64 4, .int .i64 m] w fun e w' => e = .returned (.bool (marksB 4 m)) ∧ w = w' := by
  have hc : m < 0 ∨ (0 ≤ m ∧ 40 < m) ∨ (0 ≤ m ∧ m ≤ 40) := by omega
  rcases hc with h | ⟨h, h2⟩ | ⟨h, h2⟩
  · have HF := Lib.hid (marksB_out (k := 4) (m := m) (by omega))
    go_enter Try.func35, Try.ntmps35
    go_wp2_with fail
    go_ret
    exact ⟨ret_bool HF.out.symm, rfl⟩
  · have HF := Lib.hid (marksB_out (k := 4) (m := m) (by omega))
    go_enter Try.func35, Try.ntmps35
    go_wp2_with fail
    go_ret
    exact ⟨ret_bool HF.out.symm, rfl⟩
  · obtain ⟨r, hr, HR⟩ : ∃ r : Int, m.tmod 2 = r ∧ Hid (m % 2 = r) := ⟨_, Int.tmod_eq_emod_of_nonneg h, rfl⟩
    have HF := Lib.hid (show marksB 4 m = decide (r = 0) by unfold marksB; rw [if_neg (by decide), if_pos (by decide)]; unfold evenMB; rw [decide_eq_decide, HR.out]; omega)
    go_enter Try.func35, Try.ntmps35
    go_wp2_with fail
    go_ret
    exact ⟨ret_bool (by rw [HF.out]; first | rfl | simp), rfl⟩

theorem refMarks_5 (m : Int) (w : World) : Calls Try.prog 35 #[.int .i64 5, .int .i64 m] w fun e w' => e = .returned (.bool (marksB 5 m)) ∧ w = w' := by
  have hc : m < 0 ∨ (0 ≤ m ∧ 40 < m) ∨ (0 ≤ m ∧ m ≤ 40) := by omega
  rcases hc with h | ⟨h, h2⟩ | ⟨h, h2⟩
  · have HF := Lib.hid (marksB_out (k := 5) (m := m) (by omega))
    go_enter Try.func35, Try.ntmps35
    go_wp2_with fail
    go_ret
    exact ⟨ret_bool HF.out.symm, rfl⟩
  · have HF := Lib.hid (marksB_out (k := 5) (m := m) (by omega))
    go_enter Try.func35, Try.ntmps35
    go_wp2_with fail
    go_ret
    exact ⟨ret_bool HF.out.symm, rfl⟩
  · have HF := Lib.hid (show marksB 5 m = true by unfold marksB; rw [if_neg (by decide), if_neg (by decide)]; unfold fewMB; exact decide_eq_true ⟨h, h2⟩)
    go_enter Try.func35, Try.ntmps35
    go_wp2_with fail
    go_ret
    exact ⟨ret_bool HF.out.symm, rfl⟩

theorem refAccepts_none (kind marks x : Int) (w : World) (hk : ¬ (0 ≤ kind ∧ kind ≤ 5)) : Calls Try.prog 23 #[.int .i64 kind, .int .i64 marks, .int .i64 x] w fun e w' => ResA w w' kind marks x e := by
  have HK := Lib.hid hk
  have hc : kind < 0 ∨ (0 ≤ kind ∧ 5 < kind) := by omega
  clear hk
  rcases hc with h | ⟨h, h2⟩
  all_goals
    go_enter Try.func23, Try.ntmps23
    go_wp2_with fail
    go_ret2
    exact ⟨false, 7, rfl, .inl ⟨HK.out, rfl, rfl⟩, Below.refl _ _⟩

set_option maxHeartbeats 2000000 in
theorem refAccepts_0 (marks x : Int) (w : World) : Calls Try.prog 23 #[.int .i64 0, .int .i64 marks, .int .i64 x] w fun e w' => ResA w w' 0 marks x e := by
  have HMk := Lib.hid (fun w => refMarks_0 marks w)
  cases hp : marksB 0 marks
  · have HP := Lib.hid hp
    rw [hp] at HMk
    clear hp
    go_enter Try.func23, Try.ntmps23
    go_wp2_with fail
    refine (HMk.out _).mono ?_
    rintro e w2 ⟨rfl, rfl⟩
    go_wp2_with fail
    go_ret2
    exact ⟨false, 1, rfl, .inr (.inl ⟨by omega, HP.out, rfl, rfl⟩), Below.refl _ _⟩
  · have hm := marksB_few hp
    obtain ⟨m, rfl⟩ := Int.eq_ofNat_of_zero_le hm.1
    have hm40 : m ≤ 40 := by omega
    have HP := Lib.hid hp
    rw [hp] at HMk
    clear hm
    have HA := Lib.hid (fun w => refAccepted_0 m x w)
    clear hp
    obtain ⟨P, hPw, HPP⟩ : ∃ P : Int, IntKind.i64.wrap ((2 : Int) ^ m) = P ∧ Hid ((2 : Int) ^ m = P) := ⟨_, (pow_wrap40 hm40).1, rfl⟩
    have hm0 : (0 : Int) ≤ (m : Int) := by omega
    have hcase : x < 0 ∨ (0 ≤ x ∧ P ≤ x) ∨ (0 ≤ x ∧ x < P) := by omega
    rcases hcase with hx | ⟨hx, hx2⟩ | ⟨hx, hx2⟩
    · have HX := Lib.hid (show ¬ (0 ≤ x ∧ x < 2 ^ ((m : Int)).toNat) by omega)
      go_enter Try.func23, Try.ntmps23
      go_wp2_with fail
      refine (HMk.out _).mono ?_
      rintro e w2 ⟨rfl, rfl⟩
      go_wp2_with fail
      go_ret2
      exact ⟨false, 6, rfl, .inr (.inr (.inl ⟨by omega, HP.out, HX.out, rfl, rfl⟩)), Below.refl _ _⟩
    · have HX := Lib.hid (show ¬ (0 ≤ x ∧ x < 2 ^ ((m : Int)).toNat) by rw [Int.toNat_natCast, HPP.out]; omega)
      go_enter Try.func23, Try.ntmps23
      go_wp2_with fail
      refine (HMk.out _).mono ?_
      rintro e w2 ⟨rfl, rfl⟩
      go_wp2_with fail
      go_ret2
      exact ⟨false, 6, rfl, .inr (.inr (.inl ⟨by omega, HP.out, HX.out, rfl, rfl⟩)), Below.refl _ _⟩
    · have HX := Lib.hid (show 0 ≤ x ∧ x < 2 ^ ((m : Int)).toNat by rw [Int.toNat_natCast, HPP.out]; omega)
      go_enter Try.func23, Try.ntmps23
      go_wp2_with fail
      refine (HMk.out _).mono ?_
      rintro e w2 ⟨rfl, rfl⟩
      go_wp2_with fail
      refine (HA.out _).mono ?_
      rintro e w3 ⟨rfl, rfl⟩
      go_wp2_with fail
      go_ret2
      refine ⟨_, 0, rfl, .inr (.inr (.inr ⟨by omega, HP.out, HX.out, ?_, rfl⟩)), Below.refl _ _⟩
      have h1 : m = 1 := by
        have h := HP.out
        unfold marksB at h
        rw [if_pos (by decide)] at h
        have := of_decide_eq_true h
        omega
      subst h1
      have h3 := HX.out
      rw [show (2 : Int) ^ (((1 : Nat) : Int)).toNat = 2 from rfl] at h3
      have h4 : x = 0 ∨ x = 1 := by omega
      rcases h4 with rfl | rfl <;> rfl

set_option maxHeartbeats 2000000 in
theorem refAccepts_1 (marks x : Int) (w : World) : Calls Try.prog 23 #[.int .i64 1, .int .i64 marks, .int .i64 x] w fun e w' => ResA w w' 1 marks x e := by
  have HMk := Lib.hid (fun w => refMarks_1 marks w)
  cases hp : marksB 1 marks
  · have HP := Lib.hid hp
    rw [hp] at HMk
    clear hp
    go_enter Try.func23, Try.ntmps23
    go_wp2_with fail
    refine (HMk.out _).mono ?_
    rintro e w2 ⟨rfl, rfl⟩
    go_wp2_with fail
    go_ret2
    exact ⟨false, 1, rfl, .inr (.inl ⟨by omega, HP.out, rfl, rfl⟩), Below.refl _ _⟩
  · have hm := marksB_few hp
    obtain ⟨m, rfl⟩ := Int.eq_ofNat_of_zero_le hm.1
    have hm40 : m ≤ 40 := by omega
    have HP := Lib.hid hp
    rw [hp] at HMk
    clear hm
    have HA := Lib.hid (fun w => refAccepted_1 m x w hm40)
    clear hp
    obtain ⟨P, hPw, HPP⟩ : ∃ P : Int, IntKind.i64.wrap ((2 : Int) ^ m) = P ∧ Hid ((2 : Int) ^ m = P) := ⟨_, (pow_wrap40 hm40).1, rfl⟩
    have hm0 : (0 : Int) ≤ (m : Int) := by omega
    have hcase : x < 0 ∨ (0 ≤ x ∧ P ≤ x) ∨ (0 ≤ x ∧ x < P) := by omega
    rcases hcase with hx | ⟨hx, hx2⟩ | ⟨hx, hx2⟩
    · have HX := Lib.hid (show ¬ (0 ≤ x ∧ x < 2 ^ ((m : Int)).toNat) by omega)
      go_enter Try.func23, Try.ntmps23
      go_wp2_with fail
      refine (HMk.out _).mono ?_
      rintro e w2 ⟨rfl, rfl⟩
      go_wp2_with fail
      go_ret2
      exact ⟨false, 6, rfl, .inr (.inr (.inl ⟨by omega, HP.out, HX.out, rfl, rfl⟩)), Below.refl _ _⟩
    · have HX := Lib.hid (show ¬ (0 ≤ x ∧ x < 2 ^ ((m : Int)).toNat) by rw [Int.toNat_natCast, HPP.out]; omega)
      go_enter Try.func23, Try.ntmps23
      go_wp2_with fail
      refine (HMk.out _).mono ?_
      rintro e w2 ⟨rfl, rfl⟩
      go_wp2_with fail
      go_ret2
      exact ⟨false, 6, rfl, .inr (.inr (.inl ⟨by omega, HP.out, HX.out, rfl, rfl⟩)), Below.refl _ _⟩
    · have HX := Lib.hid (show 0 ≤ x ∧ x < 2 ^ ((m : Int)).toNat by rw [Int.toNat_natCast, HPP.out]; omega)
      go_enter Try.func23, Try.ntmps23
      go_wp2_with fail
      refine (HMk.out _).mono ?_
      rintro e w2 ⟨rfl, rfl⟩
      go_wp2_with fail
      refine (HA.out _).mono ?_
      rintro e w3 ⟨rfl, rfl⟩
      go_wp2_with fail
      go_ret2
      refine ⟨_, 0, rfl, .inr (.inr (.inr ⟨by omega, HP.out, HX.out, ?_, rfl⟩)), Below.refl _ _⟩
      simp [accB]

set_option maxHeartbeats 2000000 in
theorem refAccepts_2 (marks x : Int) (w : World) : Calls Try.prog 23 #[.int .i64 2, .int .i64 marks, .int .i64 x] w fun e w' => ResA w w' 2 marks x e := by
  have HMk := Lib.hid (fun w => refMarks_2 marks w)
  cases hp : marksB 2 marks
  · have HP := Lib.hid hp
    rw [hp] at HMk
    clear hp
    go_enter Try.func23, Try.ntmps23
    go_wp2_with fail
    refine (HMk.out _).mono ?_
    rintro e w2 ⟨rfl, rfl⟩
    go_wp2_with fail
    go_ret2
    exact ⟨false, 1, rfl, .inr (.inl ⟨by omega, HP.out, rfl, rfl⟩), Below.refl _ _⟩
  · have hm := marksB_few hp
    obtain ⟨m, rfl⟩ := Int.eq_ofNat_of_zero_le hm.1
    have hm40 : m ≤ 40 := by omega
    have HP := Lib.hid hp
    rw [hp] at HMk
    clear hm
    have HA := Lib.hid (fun w => refAccepted_2 m x w)
    clear hp
    obtain ⟨P, hPw, HPP⟩ : ∃ P : Int, IntKind.i64.wrap ((2 : Int) ^ m) = P ∧ Hid ((2 : Int) ^ m = P) := ⟨_, (pow_wrap40 hm40).1, rfl⟩
    have hm0 : (0 : Int) ≤ (m : Int) := by omega
    have hcase : x < 0 ∨ (0 ≤ x ∧ P ≤ x) ∨ (0 ≤ x ∧ x < P) := by omega
    rcases hcase with hx | ⟨hx, hx2⟩ | ⟨hx, hx2⟩
    · have HX := Lib.hid (show ¬ (0 ≤ x ∧ x < 2 ^ ((m : Int)).toNat) by omega)
      go_enter Try.func23, Try.ntmps23
      go_wp2_with fail
      refine (HMk.out _).mono ?_
      rintro e w2 ⟨rfl, rfl⟩
      go_wp2_with fail
      go_ret2
      exact ⟨false, 6, rfl, .inr (.inr (.inl ⟨by omega, HP.out, HX.out, rfl, rfl⟩)), Below.refl _ _⟩
    · have HX := Lib.hid (show ¬ (0 ≤ x ∧ x < 2 ^ ((m : Int)).toNat) by rw [Int.toNat_natCast, HPP.out]; omega)
      go_enter Try.func23, Try.ntmps23
      go_wp2_with fail
      refine (HMk.out _).mono ?_
      rintro e w2 ⟨rfl, rfl⟩
      go_wp2_with fail
      go_ret2
      exact ⟨false, 6, rfl, .inr (.inr (.inl ⟨by omega, HP.out, HX.out, rfl, rfl⟩)), Below.refl _ _⟩
    · have HX := Lib.hid (show 0 ≤ x ∧ x < 2 ^ ((m : Int)).toNat by rw [Int.toNat_natCast, HPP.out]; omega)
      go_enter Try.func23, Try.ntmps23
      go_wp2_with fail
      refine (HMk.out _).mono ?_
      rintro e w2 ⟨rfl, rfl⟩
      go_wp2_with fail
      refine (HA.out _).mono ?_
      rintro e w3 ⟨rfl, rfl⟩
      go_wp2_with fail
      go_ret2
      refine ⟨_, 0, rfl, .inr (.inr (.inr ⟨by omega, HP.out, HX.out, ?_, rfl⟩)), Below.refl _ _⟩
      have h1 : m = 1 := by
        have h := HP.out
        unfold marksB at h
        rw [if_pos (by decide)] at h
        have := of_decide_eq_true h
        omega
      subst h1
      have h3 := HX.out
      rw [show (2 : Int) ^ (((1 : Nat) : Int)).toNat = 2 from rfl] at h3
      have h4 : x = 0 ∨ x = 1 := by omega
      rcases h4 with rfl | rfl <;> rfl

set_option maxHeartbeats 2000000 in
theorem refAccepts_3 (marks x : Int) (w : World) : Calls Try.prog 23 #[.int .i64 3, .int .i64 marks, .int .i64 x] w fun e w' => ResA w w' 3 marks x e := by
  have HMk := Lib.hid (fun w => refMarks_3 marks w)
  cases hp : marksB 3 marks
  · have HP := Lib.hid hp
    rw [hp] at HMk
    clear hp
    go_enter Try.func23, Try.ntmps23
    go_wp2_with fail
    refine (HMk.out _).mono ?_
    rintro e w2 ⟨rfl, rfl⟩
    go_wp2_with fail
    go_ret2
    exact ⟨false, 1, rfl, .inr (.inl ⟨by omega, HP.out, rfl, rfl⟩), Below.refl _ _⟩
  · have hm := marksB_few hp
    obtain ⟨m, rfl⟩ := Int.eq_ofNat_of_zero_le hm.1
    have hm40 : m ≤ 40 := by omega
    have HP := Lib.hid hp
    rw [hp] at HMk
    clear hm
    have hev : m % 2 = 0 := by
      have h := hp
      unfold marksB at h
      rw [if_neg (by decide), if_pos (by decide)] at h
      have := of_decide_eq_true h
      omega
    have HA := Lib.hid (fun w => refAccepted_3 m x w hm40 hev)
    clear hev
    clear hp
    obtain ⟨P, hPw, HPP⟩ : ∃ P : Int, IntKind.i64.wrap ((2 : Int) ^ m) = P ∧ Hid ((2 : Int) ^ m = P) := ⟨_, (pow_wrap40 hm40).1, rfl⟩
    have hm0 : (0 : Int) ≤ (m : Int) := by omega
    have hcase : x < 0 ∨ (0 ≤ x ∧ P ≤ x) ∨ (0 ≤ x ∧ x < P) := by omega
    rcases hcase with hx | ⟨hx, hx2⟩ | ⟨hx, hx2⟩
    · have HX := Lib.hid (show ¬ (0 ≤ x ∧ x < 2 ^ ((m : Int)).toNat) by omega)
      go_enter Try.func23, Try.ntmps23
      go_wp2_with fail
      refine (HMk.out _).mono ?_
      rintro e w2 ⟨rfl, rfl⟩
      go_wp2_with fail
      go_ret2
      exact ⟨false, 6, rfl, .inr (.inr (.inl ⟨by omega, HP.out, HX.out, rfl, rfl⟩)), Below.refl _ _⟩
    · have HX := Lib.hid (show ¬ (0 ≤ x ∧ x < 2 ^ ((m : Int)).toNat) by rw [Int.toNat_natCast, HPP.out]; omega)
      go_enter Try.func23, Try.ntmps23
      go_wp2_with fail
      refine (HMk.out _).mono ?_
      rintro e w2 ⟨rfl, rfl⟩
      go_wp2_with fail
      go_ret2
      exact ⟨false, 6, rfl, .inr (.inr (.inl ⟨by omega, HP.out, HX.out, rfl, rfl⟩)), Below.refl _ _⟩
    · have HX := Lib.hid (show 0 ≤ x ∧ x < 2 ^ ((m : Int)).toNat by rw [Int.toNat_natCast, HPP.out]; omega)
      go_enter Try.func23, Try.ntmps23
      go_wp2_with fail
      refine (HMk.out _).mono ?_
      rintro e w2 ⟨rfl, rfl⟩
      go_wp2_with fail
      refine (HA.out _).mono ?_
      rintro e w3 ⟨rfl, rfl⟩
      go_wp2_with fail
      go_ret2
      refine ⟨_, 0, rfl, .inr (.inr (.inr ⟨by omega, HP.out, HX.out, ?_, rfl⟩)), Below.refl _ _⟩
      simp [accB]

set_option maxHeartbeats 2000000 in
theorem refAccepts_4 (marks x : Int) (w : World) : Calls Try.prog 23 #[.int .i64 4, .int .i64 marks, .int .i64 x] w fun e w' => ResA w w' 4 marks x e := by
  have HMk := Lib.hid (fun w => refMarks_4 marks w)
  cases hp : marksB 4 marks
  · have HP := Lib.hid hp
    rw [hp] at HMk
    clear hp
    go_enter Try.func23, Try.ntmps23
    go_wp2_with fail
    refine (HMk.out _).mono ?_
    rintro e w2 ⟨rfl, rfl⟩
    go_wp2_with fail
    go_ret2
    exact ⟨false, 1, rfl, .inr (.inl ⟨by omega, HP.out, rfl, rfl⟩), Below.refl _ _⟩
  · have hm := marksB_few hp
    obtain ⟨m, rfl⟩ := Int.eq_ofNat_of_zero_le hm.1
    have hm40 : m ≤ 40 := by omega
    have HP := Lib.hid hp
    rw [hp] at HMk
    clear hm
    have hev : m % 2 = 0 := by
      have h := hp
      unfold marksB at h
      rw [if_neg (by decide), if_pos (by decide)] at h
      have := of_decide_eq_true h
      omega
    have HA := Lib.hid (fun w => refAccepted_4 m x w hm40 hev)
    clear hev
    clear hp
    obtain ⟨P, hPw, HPP⟩ : ∃ P : Int, IntKind.i64.wrap ((2 : Int) ^ m) = P ∧ Hid ((2 : Int) ^ m = P) := ⟨_, (pow_wrap40 hm40).1, rfl⟩
    have hm0 : (0 : Int) ≤ (m : Int) := by omega
    have hcase : x < 0 ∨ (0 ≤ x ∧ P ≤ x) ∨ (0 ≤ x ∧ x < P) := by omega
    rcases hcase with hx | ⟨hx, hx2⟩ | ⟨hx, hx2⟩
    · have HX := Lib.hid (show ¬ (0 ≤ x ∧ x < 2 ^ ((m : Int)).toNat) by omega)
      go_enter Try.func23, Try.ntmps23
      go_wp2_with fail
      refine (HMk.out _).mono ?_
      rintro e w2 ⟨rfl, rfl⟩
      go_wp2_with fail
      go_ret2
      exact ⟨false, 6, rfl, .inr (.inr (.inl ⟨by omega, HP.out, HX.out, rfl, rfl⟩)), Below.refl _ _⟩
    · have HX := Lib.hid (show ¬ (0 ≤ x ∧ x < 2 ^ ((m : Int)).toNat) by rw [Int.toNat_natCast, HPP.out]; omega)
      go_enter Try.func23, Try.ntmps23
      go_wp2_with fail
      refine (HMk.out _).mono ?_
      rintro e w2 ⟨rfl, rfl⟩
      go_wp2_with fail
      go_ret2
      exact ⟨false, 6, rfl, .inr (.inr (.inl ⟨by omega, HP.out, HX.out, rfl, rfl⟩)), Below.refl _ _⟩
    · have HX := Lib.hid (show 0 ≤ x ∧ x < 2 ^ ((m : Int)).toNat by rw [Int.toNat_natCast, HPP.out]; omega)
      go_enter Try.func23, Try.ntmps23
      go_wp2_with fail
      refine (HMk.out _).mono ?_
      rintro e w2 ⟨rfl, rfl⟩
      go_wp2_with fail
      refine (HA.out _).mono ?_
      rintro e w3 ⟨rfl, rfl⟩
      go_wp2_with fail
      go_ret2
      refine ⟨_, 0, rfl, .inr (.inr (.inr ⟨by omega, HP.out, HX.out, ?_, rfl⟩)), Below.refl _ _⟩
      simp [accB]

set_option maxHeartbeats 2000000 in
theorem refAccepts_5 (marks x : Int) (w : World) : Calls Try.prog 23 #[.int .i64 5, .int .i64 marks, .int .i64 x] w fun e w' => ResA w w' 5 marks x e := by
  have HMk := Lib.hid (fun w => refMarks_5 marks w)
  cases hp : marksB 5 marks
  · have HP := Lib.hid hp
    rw [hp] at HMk
    clear hp
    go_enter Try.func23, Try.ntmps23
    go_wp2_with fail
    refine (HMk.out _).mono ?_
    rintro e w2 ⟨rfl, rfl⟩
    go_wp2_with fail
    go_ret2
    exact ⟨false, 1, rfl, .inr (.inl ⟨by omega, HP.out, rfl, rfl⟩), Below.refl _ _⟩
  · have hm := marksB_few hp
    obtain ⟨m, rfl⟩ := Int.eq_ofNat_of_zero_le hm.1
    have hm40 : m ≤ 40 := by omega
    have HP := Lib.hid hp
    rw [hp] at HMk
    clear hm
    clear hp
    obtain ⟨P, hPw, HPP⟩ : ∃ P : Int, IntKind.i64.wrap ((2 : Int) ^ m) = P ∧ Hid ((2 : Int) ^ m = P) := ⟨_, (pow_wrap40 hm40).1, rfl⟩
    have hm0 : (0 : Int) ≤ (m : Int) := by omega
    have hcase : x < 0 ∨ (0 ≤ x ∧ P ≤ x) ∨ (0 ≤ x ∧ x < P) := by omega
    rcases hcase with hx | ⟨hx, hx2⟩ | ⟨hx, hx2⟩
    · have HX := Lib.hid (show ¬ (0 ≤ x ∧ x < 2 ^ ((m : Int)).toNat) by omega)
      go_enter Try.func23, Try.ntmps23
      go_wp2_with fail
      refine (HMk.out _).mono ?_
      rintro e w2 ⟨rfl, rfl⟩
      go_wp2_with fail
      go_ret2
      exact ⟨false, 6, rfl, .inr (.inr (.inl ⟨by omega, HP.out, HX.out, rfl, rfl⟩)), Below.refl _ _⟩
    · have HX := Lib.hid (show ¬ (0 ≤ x ∧ x < 2 ^ ((m : Int)).toNat) by rw [Int.toNat_natCast, HPP.out]; omega)
      go_enter Try.func23, Try.ntmps23
      go_wp2_with fail
      refine (HMk.out _).mono ?_
      rintro e w2 ⟨rfl, rfl⟩
      go_wp2_with fail
      go_ret2
      exact ⟨false, 6, rfl, .inr (.inr (.inl ⟨by omega, HP.out, HX.out, rfl, rfl⟩)), Below.refl _ _⟩
    · have HX := Lib.hid (show 0 ≤ x ∧ x < 2 ^ ((m : Int)).toNat by rw [Int.toNat_natCast, HPP.out]; omega)
      obtain ⟨x, rfl⟩ := Int.eq_ofNat_of_zero_le hx
      have hxm : x < 2 ^ m := by
        have h := hx2
        rw [← HPP.out] at h
        have h2 : ((2 ^ m : Nat) : Int) = (2 : Int) ^ m := by simp
        omega
      have HA := Lib.hid (fun w => refAccepted_5 m x w hm40 hxm)
      clear hxm
      go_enter Try.func23, Try.ntmps23
      go_wp2_with fail
      refine (HMk.out _).mono ?_
      rintro e w2 ⟨rfl, rfl⟩
      go_wp2_with fail
      refine (HA.out _).mono ?_
      rintro e w3 ⟨rfl, rfl⟩
      go_wp2_with fail
      go_ret2
      refine ⟨_, 0, rfl, .inr (.inr (.inr ⟨by omega, HP.out, HX.out, ?_, rfl⟩)), Below.refl _ _⟩
      simp [accB]

theorem refAccepts_any (kind marks x : Int) (w : World) : Calls Try.prog 23 #[.int .i64 kind, .int .i64 marks, .int .i64 x] w fun e w' => ResA w w' kind marks x e := by
  by_cases hk : 0 ≤ kind ∧ kind ≤ 5
  · have h : kind = 0 ∨ kind = 1 ∨ kind = 2 ∨ kind = 3 ∨ kind = 4 ∨ kind = 5 := by omega
    rcases h with rfl | rfl | rfl | rfl | rfl | rfl
    · exact refAccepts_0 marks x w
    · exact refAccepts_1 marks x w
    · exact refAccepts_2 marks x w
    · exact refAccepts_3 marks x w
    · exact refAccepts_4 marks x w
    · exact refAccepts_5 marks x w
  · exact refAccepts_none kind marks x w hk

end Go.Proofs.Ytfblnadmbfhjiaa.Wd

namespace Go.Proofs.Ytfblnadmbfhjiaa.Wd
open Go.RowKit
set_option linter.unusedVariables false

theorem autValid_any (P S K M : Int) (A E : Option Addr) (n c ne ce : Nat) (st : List Int) (es : List Ed) (w : World) (ha : Ints w A n st) (hn : n ≤ 17592186044416) (he : EdgesAt w E ne es) (hne : ne ≤ 17592186044416) :
    Calls Try.prog 18 #[.agg #[.int .i64 P, .int .i64 S, .slice A n c, .int .i64 K, .int .i64 M, .slice E ne ce]] w fun e w' => e = .returned (.bool (autB P S K M st es)) ∧ Below w.heap.size w w' := by
  by_cases h : headP P S K
  · obtain ⟨h1, h2, h3, h4, h5, h6⟩ := h
    obtain ⟨p, rfl⟩ := Int.eq_ofNat_of_zero_le h1
    have hk : K = 0 ∨ K = 1 ∨ K = 2 ∨ K = 3 ∨ K = 4 ∨ K = 5 := by omega
    rcases hk with rfl | rfl | rfl | rfl | rfl | rfl
    · exact valid_0 p S M A E n c ne ce st es w (by omega) h3 h4 ha hn he hne
    · exact valid_1 p S M A E n c ne ce st es w (by omega) h3 h4 ha hn he hne
    · exact valid_2 p S M A E n c ne ce st es w (by omega) h3 h4 ha hn he hne
    · exact valid_3 p S M A E n c ne ce st es w (by omega) h3 h4 ha hn he hne
    · exact valid_4 p S M A E n c ne ce st es w (by omega) h3 h4 ha hn he hne
    · exact valid_5 p S M A E n c ne ce st es w (by omega) h3 h4 ha hn he hne
  · exact valid_head P S K M A E n c ne ce st es w h

theorem refMarks_any (K m : Int) (w : World) (hK : 0 ≤ K) (hK2 : K ≤ 5) : Calls Try.prog 35 #[.int .i64 K, .int .i64 m] w fun e w' => e = .returned (.bool (marksB K m)) ∧ w = w' := by
  have hk : K = 0 ∨ K = 1 ∨ K = 2 ∨ K = 3 ∨ K = 4 ∨ K = 5 := by omega
  rcases hk with rfl | rfl | rfl | rfl | rfl | rfl
  · exact refMarks_0 m w
  · exact refMarks_1 m w
  · exact refMarks_2 m w
  · exact refMarks_3 m w
  · exact refMarks_4 m w
  · exact refMarks_5 m w

theorem autB_many {P S K M : Int} {st : List Int} {es : List Ed} (h : 40000 < es.length) : autB P S K M st es = false := by
  unfold autB listsB
  rw [decide_eq_false (p := es.length ≤ 40000) (by omega)]
  simp
theorem autB_few {P S K M : Int} {st : List Int} {es : List Ed} (h : headP P S K) (hm : marksB K M = true) (hl : es.length ≤ 40000) : autB P S K M st es = (startB S st && edgesB P.toNat S M.toNat es) := by
  rw [autB_tail h hm]
  unfold listsB
  rw [decide_eq_true hl]
  simp

set_option maxRecDepth 100000 in
set_option maxHeartbeats 2000000 in
theorem refValid_head (P S K M : Int) (A E : Option Addr) (n c ne ce : Nat) (st : List Int) (es : List Ed) (w : World) (h : ¬ headP P S K) :
    Calls Try.prog 19 #[.agg #[.int .i64 P, .int .i64 S, .slice A n c, .int .i64 K, .int .i64 M, .slice E ne ce]] w fun e w' => e = .returned (.bool (autB P S K M st es)) ∧ Below w.heap.size w w' := by
  have HF := Lib.hid (autB_head (M := M) (st := st) (es := es) h)
  have hc : P < 0 ∨ (0 ≤ P ∧ 6 < P) ∨ (0 ≤ P ∧ P ≤ 6 ∧ S < 0) ∨ (0 ≤ P ∧ P ≤ 6 ∧ 0 ≤ S ∧ 3000 < S) ∨ (0 ≤ P ∧ P ≤ 6 ∧ 0 ≤ S ∧ S ≤ 3000 ∧ (K < 0 ∨ (0 ≤ K ∧ 5 < K))) := by unfold headP at h; omega
  clear h
  rcases hc with h | ⟨h, h2⟩ | ⟨h, h2, h3⟩ | ⟨h, h2, h3, h4⟩ | ⟨h, h2, h3, h4, h5 | ⟨h5, h6⟩⟩
  all_goals
    go_enter Try.func19, Try.ntmps19
    go_wp2_with fail
    go_ret
    exact ⟨ret_bool HF.out.symm, (Below.refl _ _).alloc (Nat.le_refl _) _⟩

set_option maxRecDepth 100000 in
set_option maxHeartbeats 2000000 in
theorem refValid_marks (P S K M : Int) (A E : Option Addr) (n c ne ce : Nat) (st : List Int) (es : List Ed) (w : World) (h : headP P S K) (hq : marksB K M = false) :
    Calls Try.prog 19 #[.agg #[.int .i64 P, .int .i64 S, .slice A n c, .int .i64 K, .int .i64 M, .slice E ne ce]] w fun e w' => e = .returned (.bool (autB P S K M st es)) ∧ Below w.heap.size w w' := by
  have HF := Lib.hid (autB_marks (P := P) (S := S) (st := st) (es := es) hq)
  obtain ⟨h1, h2, h3, h4, h5, h6⟩ := h
  have HMk := Lib.hid (fun w => refMarks_any K M w h5 h6)
  rw [hq] at HMk
  clear hq
  go_enter Try.func19, Try.ntmps19
  go_wp2_with fail
  refine (HMk.out _).mono ?_
  rintro e w1 ⟨rfl, rfl⟩
  go_wp2_with fail
  go_ret
  exact ⟨ret_bool HF.out.symm, (Below.refl _ _).alloc (Nat.le_refl _) _⟩

set_option maxRecDepth 100000 in
set_option maxHeartbeats 2000000 in
theorem refValid_many (P S K M : Int) (A E : Option Addr) (n c ne ce : Nat) (st : List Int) (es : List Ed) (w : World) (h : headP P S K) (hq : marksB K M = true) (hl : es.length = ne) (hne : ne ≤ 17592186044416) (hm : 40000 < ne) :
    Calls Try.prog 19 #[.agg #[.int .i64 P, .int .i64 S, .slice A n c, .int .i64 K, .int .i64 M, .slice E ne ce]] w fun e w' => e = .returned (.bool (autB P S K M st es)) ∧ Below w.heap.size w w' := by
  have HF := Lib.hid (autB_many (P := P) (S := S) (K := K) (M := M) (st := st) (es := es) (by omega))
  obtain ⟨h1, h2, h3, h4, h5, h6⟩ := h
  have HMk := Lib.hid (fun w => refMarks_any K M w h5 h6)
  rw [hq] at HMk
  clear hq hl
  have hmi : (40000 : Int) < (ne : Int) := by omega
  have hmd : decide ((40000 : Int) < (ne : Int)) = true := decide_eq_true hmi
  go_enter Try.func19, Try.ntmps19
  go_wp2_with fail
  refine (HMk.out _).mono ?_
  rintro e w1 ⟨rfl, rfl⟩
  go_wp2_with fail
  go_ret
  exact ⟨ret_bool HF.out.symm, (Below.refl _ _).alloc (Nat.le_refl _) _⟩

end Go.Proofs.Ytfblnadmbfhjiaa.Wd

namespace Go.Proofs.Ytfblnadmbfhjiaa.Wd
open Go.RowKit
set_option linter.unusedVariables false

section
variable {w w' : World} {L : List (Addr × Value)}
theorem CellsAt.nil (w : World) : CellsAt w [] := fun p hp => by cases hp
theorem CellsAt.head {a : Addr} {v : Value} (h : CellsAt w ((a, v) :: L)) : w.cell? a = some v := (h (a, v) (by simp)).2
theorem CellsAt.lt {a : Addr} {v : Value} (h : CellsAt w ((a, v) :: L)) : a.block < w.heap.size := (h (a, v) (by simp)).1
theorem CellsAt.tail {p : Addr × Value} (h : CellsAt w (p :: L)) : CellsAt w L := fun q hq => h q (by simp [hq])
theorem CellsAt.append {L' : List (Addr × Value)} (h : CellsAt w L) (h' : CellsAt w L') : CellsAt w (L ++ L') := fun p hp => (List.mem_append.1 hp).elim (h p) (h' p)
theorem CellsAt.left {L' : List (Addr × Value)} (h : CellsAt w (L ++ L')) : CellsAt w L := fun p hp => h p (List.mem_append.2 (.inl hp))
theorem CellsAt.right {L' : List (Addr × Value)} (h : CellsAt w (L ++ L')) : CellsAt w L' := fun p hp => h p (List.mem_append.2 (.inr hp))
theorem CellsAt.alloc (h : CellsAt w L) (o : Obj) : CellsAt (w.alloc o) L := h.below ((Below.refl _ _).alloc (Nat.le_refl _) o)
theorem CellsAt.drewN (h : CellsAt w L) (n : Nat) : CellsAt (w.drewN n) L := h
theorem CellsAt.one (h : CellsAt w L) (x : Value) (t : TypeId) : CellsAt (w.alloc (.cells #[x] t)) ((⟨w.heap.size, 0, none⟩, x) :: L) := by
  intro p hp
  rcases List.mem_cons.1 hp with rfl | hp
  · exact ⟨by simp, by rw [box_last]; rfl⟩
  · exact h.alloc _ p hp
theorem CellsAt.five (h : CellsAt w L) (x0 x1 x2 x3 x4 : Value) (t : TypeId) : CellsAt (w.alloc (.cells #[x0, x1, x2, x3, x4] t))
    ((⟨w.heap.size, 0, none⟩, x0) :: (⟨w.heap.size, 1, none⟩, x1) :: (⟨w.heap.size, 2, none⟩, x2) :: (⟨w.heap.size, 3, none⟩, x3) :: (⟨w.heap.size, 4, none⟩, x4) :: L) := by
  intro p hp
  rcases List.mem_cons.1 hp with rfl | hp
  · exact ⟨by simp, by rw [box_last]; rfl⟩
  rcases List.mem_cons.1 hp with rfl | hp
  · exact ⟨by simp, by rw [box_last]; rfl⟩
  rcases List.mem_cons.1 hp with rfl | hp
  · exact ⟨by simp, by rw [box_last]; rfl⟩
  rcases List.mem_cons.1 hp with rfl | hp
  · exact ⟨by simp, by rw [box_last]; rfl⟩
  rcases List.mem_cons.1 hp with rfl | hp
  · exact ⟨by simp, by rw [box_last]; rfl⟩
  · exact h.alloc _ p hp
/-- A store into another cell. -/
theorem CellsAt.other (h : CellsAt w L) (a : Addr) (v : Value) (hne : ∀ p ∈ L, a ≠ p.1) : CellsAt (w.setCell a v) L := fun p hp =>
  ⟨by simpa using (h p hp).1, (World.cell?_setCell_other w a p.1 v (hne p hp)).trans (h p hp).2⟩
/-- A store of what was there. -/
theorem CellsAt.again (h : CellsAt w L) {a : Addr} {v : Value} (ha : w.cell? a = some v) : CellsAt (w.setCell a v) L := fun p hp =>
  ⟨by simpa using (h p hp).1, by
    by_cases he : a = p.1
    · subst he
      rw [World.cell?_setCell_same w p.1 v ha, ← ha]
      exact (h p hp).2
    · exact (World.cell?_setCell_other w a p.1 v he).trans (h p hp).2⟩
end

set_option maxRecDepth 100000 in
set_option maxHeartbeats 4000000 in
theorem lettersOf_ag (s e : Nat) (w : World) (h : CellsAt w (agL s e)) : Calls Try.prog 38 #[agV s e] w fun r w' => (∃ b, r = .returned (.tuple #[.slice (some b) 1 1, .bool false])) ∧ Below w.heap.size w w' := by
  have hmk : ∀ w : World, (Instr.makeSlice 62 (.int .i64 1) (.int .i64 1)).run Try.prog w = .ok (.slice (some ⟨w.heap.size, 0, none⟩) 1 1) (w.alloc (.cells #[.int .u64 0] 92)) := fun _ => by kernel_rfl
  have HX := Lib.hid (bxL_new w s e 25)
  have HL := Lib.hid h
  obtain ⟨⟨h1, h2⟩, _, ⟨a0, a1, a2, a3, a4⟩, b0, b1, b2, b3, b4⟩ := agL_out h
  clear h
  unfold agV
  go_enter Try.func38, Try.ntmps38
  go_wp2_with fail
  refine wp_loop_rounds 3 ?_
  rw [rounds_succ]
  go_wp2_with fail
  have HC0 := Lib.hid ((((CellsAt.append HX.out (HL.out.alloc _)).one (.int .u64 0) 92)).five (.int .i64 0) (.int .i64 0) (.int .i64 1) (.int .i64 1) (.int .i64 1) 54)
  refine (fitting_ag1 _).mono ?_
  rintro r w1 ⟨rfl, hb1⟩
  have HC1 := Lib.hid (HC0.out.below hb1)
  have q5 : w1.cell? ⟨w.heap.size + 1, 0, none⟩ = some (.int .u64 0) := by simpa using HC1.out.tail.tail.tail.tail.tail.head
  have f5 : w1.frozen? ⟨w.heap.size + 1, 0, none⟩ = false := by
    rw [hb1.frozen (p := ⟨w.heap.size + 1, 0, none⟩) (by simp)]
    have := box_first_free (w.alloc (.cells #[.int .i64 1, .int .i64 1, .slice (some ⟨s, 0, none⟩) 1 1, .int .i64 0, .int .i64 1, .slice (some ⟨e, 0, none⟩) 2 2] 25)) #[.int .u64 0] 92 (.cells #[.int .i64 0, .int .i64 0, .int .i64 1, .int .i64 1, .int .i64 1] 54) 0
    simpa using this
  have q0 : w1.cell? ⟨w.heap.size + 1 + 1, 0, none⟩ = some (.int .i64 0) := by simpa using HC1.out.head
  have hz1 : w.heap.size + 1 + 1 < w1.heap.size := by have := hb1.size; simp at this; omega
  have hz0 : w.heap.size + 1 < w1.heap.size := by omega
  have hz : w.heap.size < w1.heap.size := by omega
  obtain ⟨_, p0, p1, p2, p3, p4, p5⟩ := bxL_out HC1.out.tail.tail.tail.tail.tail.tail.left
  clear a0 a1 a2 a3 a4 b0 b1 b2 b3 b4
  obtain ⟨⟨h3, h4⟩, _, ⟨a0, a1, a2, a3, a4⟩, b0, b1, b2, b3, b4⟩ := agL_out HC1.out.tail.tail.tail.tail.tail.tail.right
  have HB1 := Lib.hid (show Below w.heap.size w w1 from ((((Below.refl _ _).alloc (Nat.le_refl _) _).alloc (by simp) _).alloc (by simp; omega) _).trans (hb1.mono (by simp; omega)))
  have o1 : bits .and .u64 0 2 = 0 := by decide
  have o2 : bits .or .u64 0 2 = 2 := by decide
  have o3 : bits .and .u64 2 1 = 0 := by decide
  have o4 : bits .or .u64 2 1 = 3 := by decide
  have n1 : ¬ w.heap.size + 1 = e := by omega
  have n2 : ¬ e = w.heap.size + 1 := by omega
  clear hb1
  go_wp2_with fail
  rw [rounds_succ]
  go_wp2_with fail
  refine (fitting_ag2 _).mono ?_
  rintro r w2 ⟨rfl, hb2⟩
  have hw : Below (w1.setCell ⟨w.heap.size + 1, 0, none⟩ (.int .u64 2)).heap.size (w1.setCell ⟨w.heap.size + 1, 0, none⟩ (.int .u64 2)) w2 := ((Below.refl _ _).alloc (Nat.le_refl _) _).trans (hb2.mono (by simp))
  have q5' : w2.cell? ⟨w.heap.size + 1, 0, none⟩ = some (.int .u64 2) := (hw.cell (by simpa using hz0)).trans (World.cell?_setCell_same w1 _ _ q5)
  have f5' : w2.frozen? ⟨w.heap.size + 1, 0, none⟩ = false := (hw.frozen (by simpa using hz0)).trans (by rw [World.frozen?_setCell]; exact f5)
  have q0' : w2.cell? ⟨w1.heap.size, 0, none⟩ = some (.int .i64 0) := by
    have := (box_at hb2).2 0
    simpa using this
  have hz3 : w1.heap.size < w2.heap.size := by have := (box_at hb2).1; simpa using this
  have hz4 : w.heap.size + 1 < w2.heap.size := by omega
  have HB2 := Lib.hid (show Below w.heap.size w w2 from (HB1.out.setCell (p := ⟨w.heap.size + 1, 0, none⟩) (by simp) (.int .u64 2)).trans (hw.mono (by simp; omega)))
  clear hw hb2 a0 a1 a2 a3 a4 b0 b1 b2 b3 b4 p0 p1 p2 p3 p4 p5 q0 q5 f5 hz1 hz0 hz h1 h2 h3 h4
  go_wp2_with fail
  rw [rounds_succ]
  go_wp2_with fail
  go_ret2
  exact ⟨⟨_, rfl⟩, HB2.out.setCell (p := ⟨w.heap.size + 1, 0, none⟩) (by simp) _⟩

set_option maxRecDepth 100000 in
theorem det_ag (s e : Nat) (w : World) (h : CellsAt w (agL s e)) : Calls Try.prog 10 #[agV s e] w fun r w' => r = .returned (.tuple #[.bool true, .int .i64 0]) ∧ Below w.heap.size w w' := by
  have HX := Lib.hid (bxL_new w s e 25)
  have HV := Lib.hid (fun W (hW : Below w.heap.size w W) => valid_ag s e W (h.below hW))
  have HL := Lib.hid (fun W (hW : Below w.heap.size w W) => lettersOf_ag s e W (h.below hW))
  clear h
  unfold agV at *
  go_enter Try.func10, Try.ntmps10
  go_wp2_with fail
  refine (HV.out _ ((Below.refl _ _).alloc (Nat.le_refl _) _)).mono ?_
  rintro r w1 ⟨rfl, hb1⟩
  have HX1 := Lib.hid (HX.out.below hb1)
  have HB1 := Lib.hid (show Below w.heap.size w w1 from ((Below.refl _ _).alloc (Nat.le_refl _) _).trans (hb1.mono (by simp)))
  obtain ⟨hz, p0, p1, p2, p3, p4, p5⟩ := bxL_out HX1.out
  clear hb1
  go_wp2_with fail
  refine (HL.out _ HB1.out).mono ?_
  rintro r w2 ⟨⟨b, rfl⟩, hb2⟩
  have HX2 := Lib.hid (HX1.out.below hb2)
  have HB2 := Lib.hid (HB1.out.trans (hb2.mono HB1.out.size))
  clear hz p0 p1 p2 p3 p4 p5 hb2
  obtain ⟨hz, p0, p1, p2, p3, p4, p5⟩ := bxL_out HX2.out
  go_wp2_with fail
  go_ret2
  exact ⟨rfl, HB2.out⟩

end Go.Proofs.Ytfblnadmbfhjiaa.Wd

namespace Go.Proofs.Ytfblnadmbfhjiaa.Wd
open Go

section
variable {P : Program} {ops : Array Oper} {Q : Exit → Act → World → Prop} {md : Region.Mode} {S : World → Prop} {st : List Nat}

/-- None of the operations `st` has come up. -/
def allOpen (st : List Nat) (listed : Array Bool) : Bool := st.all fun s => !(listed.getD s true)

theorem allOpen_iff {st : List Nat} {listed : Array Bool} : allOpen st listed = true ↔ ∀ s ∈ st, listed.getD s true = false := by
  simp only [allOpen, List.all_eq_true, Bool.not_eq_true']

/-- Any order from here on; S holds behind each operation as long as `st` is open. -/
def wpAnyU (P : Program) (md : Region.Mode) (ops : Array Oper) (Q : Exit → Act → World → Prop) (S : World → Prop) (st : List Nat) : Nat → Array Bool → Act → World → Prop
  | 0, listed, a, w => Region.ready md ops listed = [] ∧ Q .normal a w
  | fuel + 1, listed, a, w =>
    (Region.ready md ops listed = [] → Q .normal a w) ∧
    ∀ i ∈ Region.ready md ops listed, wpOp P ops Q i
      (fun a' w' => (allOpen st (listed.setIfInBounds i true) = true → S w') ∧ wpAnyU P md ops Q S st fuel (listed.setIfInBounds i true) a' w') a w

theorem wpAny_of_until : ∀ (fuel : Nat) (listed : Array Bool) (a : Act) (w : World), wpAnyU P md ops Q S st fuel listed a w → wpAny P md ops Q fuel listed a w
  | 0, _, _, _, h => h
  | fuel + 1, _, _, _, h => ⟨h.1, fun i hi => wpOp_mono (fun a' w' h' => wpAny_of_until fuel _ a' w' h'.2) (h.2 i hi)⟩

/-- Each of `U` is open and waits for `i` or for another one of `U`. -/
def Waits (md : Region.Mode) (ops : Array Oper) (listed : Array Bool) (i : Nat) (U : List Nat) : Prop :=
  ∀ k ∈ U, listed.getD k true = false ∧ ∃ o, ops[k]? = some o ∧ ∃ e ∈ o.after, Region.binds md e = true ∧ (e.on = i ∨ e.on ∈ U)

theorem open_not {listed : Array Bool} {k : Nat} (h0 : listed.getD k true = false) (h1 : listed.getD k false = true) : False := by
  rcases Nat.lt_or_ge k listed.size with h' | h'
  · simp [h'] at h0 h1; rw [h0] at h1; cases h1
  · simp [Array.getElem?_eq_none h'] at h1

/-- Who may come up is none of those that wait. -/
theorem Waits.out {listed : Array Bool} {i j : Nat} {U : List Nat} (hw : Waits md ops listed i U) (hi : listed.getD i true = false)
    (hj : j ∈ Region.ready md ops listed) : j ∉ U := fun hU => by
  obtain ⟨_, o, ho, e, he, hb, hon⟩ := hw j hU
  obtain ⟨_, oj, hoj, hall⟩ := mem_ready.1 hj
  rw [ho] at hoj
  cases hoj
  have h1 := hall e he hb
  rcases hon with hon | hon
  · rw [hon] at h1; exact open_not hi h1
  · exact open_not (hw _ hon).1 h1

theorem Waits.step {listed : Array Bool} {i j : Nat} {U : List Nat} (hw : Waits md ops listed i U) (hj : j ∉ U) :
    Waits md ops (listed.setIfInBounds j true) i U := fun k hk => by
  obtain ⟨h0, h1⟩ := hw k hk
  have hne : j ≠ k := fun h => hj (h ▸ hk)
  exact ⟨by rw [getD_set_ne true hne]; exact h0, h1⟩

theorem wpAnyU_first {i : Nat} {oi : Oper} {v : Value} {U : List Nat} (hi : ops[i]? = some oi) (hsel : ∀ (j : Nat) (o : Oper) cs b, ops[j]? = some o → o.op ≠ .select cs b)
    (hQ : ∀ c a w, Q (.panic c) (a.put oi.dst v) w → Q (.panic c) a w) (hst : ∀ s ∈ st, s ∈ U) :
    ∀ (fuel : Nat) (listed : Array Bool) (a : Act) (w : World),
      (∀ j oj, ops[j]? = some oj → j ≠ i → listed.getD j true = false → (∀ e ∈ oj.after, Region.binds md e = true → e.on ≠ i) → oi.apart ops oj = true) →
      i ∈ Region.ready md ops listed → Waits md ops listed i U → YieldsIf P ops S oi v a → S w →
      wpAnyU P md ops Q S st fuel (listed.setIfInBounds i true) (a.put oi.dst v) w → wpAnyU P md ops Q S st (fuel + 1) listed a w := by
  intro fuel
  induction fuel with
  | zero =>
    intro listed a w _ hr _ hy hS H
    refine ⟨fun h => (by rw [h] at hr; cases hr), fun j hj => ?_⟩
    by_cases hji : j = i
    · subst hji; exact hy.wpOp hi hS ⟨fun _ => hS, H⟩
    · have := ready_mono hj hji
      rw [H.1] at this
      cases this
  | succ fuel ih =>
    intro listed a w hfree hr hwt hy hS H
    refine ⟨fun h => (by rw [h] at hr; cases hr), fun j hj => ?_⟩
    by_cases hji : j = i
    · subst hji; exact hy.wpOp hi hS ⟨fun _ => hS, H⟩
    · have h1 := H.2 j (ready_mono hj hji)
      have hi0 := (mem_ready.1 hr).1
      obtain ⟨hjun, oj, hoj, hall⟩ := mem_ready.1 hj
      have hjU := hwt.out hi0 hj
      have hiU := hwt.out hi0 hr
      have hwt' := hwt.step hjU
      have hopen : allOpen st ((listed.setIfInBounds i true).setIfInBounds j true) = true :=
        allOpen_iff.2 fun s hs => ((hwt.step hiU).step hjU s (hst s hs)).1
      have hnot : ∀ e ∈ oj.after, Region.binds md e = true → e.on ≠ i := fun e he hb heq =>
        open_not hi0 (heq ▸ hall e he hb)
      have h2 := wpOp_putIf hoj (hfree j oj hoj hji hjun hnot) (fun cs b => hsel i oi cs b hi) (fun cs b => hsel j oj cs b hoj) hQ hy h1
      have hfree' : ∀ k ok, ops[k]? = some ok → k ≠ i → (listed.setIfInBounds j true).getD k true = false →
          (∀ e ∈ ok.after, Region.binds md e = true → e.on ≠ i) → oi.apart ops ok = true := fun k ok hk hki hun hno => by
        refine hfree k ok hk hki ?_ hno
        by_cases hjk : j = k
        · subst hjk; exact hjun
        · rw [getD_set_ne true hjk] at hun; exact hun
      refine wpOp_mono (fun a' w' h3 => ⟨fun _ => h3.2.1 hopen, ih (listed.setIfInBounds j true) a' w' hfree' (ready_mono hr (Ne.symm hji)) hwt' h3.1 (h3.2.1 hopen) ?_⟩) h2
      rw [Array.setIfInBounds_comm _ _ hji]
      exact h3.2.2

/-- The same, to be computed. -/
def waits (md : Region.Mode) (ops : Array Oper) (listed : Array Bool) (i : Nat) (U : List Nat) : Bool :=
  U.all fun k => !(listed.getD k true) && (match ops[k]? with
    | some o => o.after.any fun e => Region.binds md e && (e.on == i || U.contains e.on)
    | none => false)

theorem waits_spec {listed : Array Bool} {i : Nat} {U : List Nat} (h : waits md ops listed i U = true) : Waits md ops listed i U := fun k hk => by
  have h1 := List.all_eq_true.1 h k hk
  rw [Bool.and_eq_true, Bool.not_eq_true'] at h1
  obtain ⟨h0, h1⟩ := h1
  refine ⟨h0, ?_⟩
  cases ho : ops[k]? with
  | none => rw [ho] at h1; cases h1
  | some o =>
    rw [ho] at h1
    have h1 : (o.after.any fun e => Region.binds md e && (e.on == i || U.contains e.on)) = true := h1
    obtain ⟨e, he, h2⟩ := Array.any_eq_true'.1 h1
    rw [Bool.and_eq_true, Bool.or_eq_true] at h2
    exact ⟨o, rfl, e, he, h2.1, h2.2.imp (fun h => by simpa using h) (fun h => by simpa using h)⟩

/-- Take number i first: it yields v in every world that meets S, and all the stores wait for it. -/
theorem wpAnyU_take {i : Nat} {oi : Oper} {v : Value} {fuel : Nat} {listed : Array Bool} {a : Act} {w : World} (U : List Nat) (hi : ops[i]? = some oi)
    (hs : Region.noSelect ops = true) (hf : Region.free md ops listed i = true) (hr : (Region.ready md ops listed).contains i = true)
    (hu : waits md ops listed i U = true) (hst : (st.all fun s => U.contains s) = true)
    (hQ : ∀ c a w, Q (.panic c) (a.put oi.dst v) w → Q (.panic c) a w) (hy : YieldsIf P ops S oi v a) (hS : S w)
    (h : wpAnyU P md ops Q S st fuel (listed.setIfInBounds i true) (a.put oi.dst v) w) : wpAnyU P md ops Q S st (fuel + 1) listed a w :=
  wpAnyU_first hi (Region.noSelect_spec hs) hQ (fun s h' => by simpa using List.all_eq_true.1 hst s h') fuel listed a w (Region.free_spec hi hf) (by simpa using hr) (waits_spec hu) hy hS h

/-- Those that wait for i, by way of one another (the operations in their text order: one pass). -/
def waiters (md : Region.Mode) (ops : Array Oper) (listed : Array Bool) (i : Nat) : List Nat :=
  (List.range ops.size).foldl (fun acc k => if !(listed.getD k true) && (match ops[k]? with
    | some o => o.after.any fun e => Region.binds md e && (e.on == i || acc.contains e.on)
    | none => false) then k :: acc else acc) []

/-- A load: all the stores wait for it, and it yields v in every world that meets S. -/
theorem wpAnyU_load {i : Nat} {oi : Oper} {v : Value} {fuel : Nat} {listed : Array Bool} {a : Act} {w : World} (hi : ops[i]? = some oi)
    (hs : Region.noSelect ops = true) (hf : Region.free md ops listed i = true) (hr : (Region.ready md ops listed).contains i = true)
    (hu : (waits md ops listed i (waiters md ops listed i) && st.all fun s => (waiters md ops listed i).contains s) = true)
    (hQ : ∀ c a w, Q (.panic c) (a.put oi.dst v) w → Q (.panic c) a w) (hy : YieldsIf P ops S oi v a) (hS : S w)
    (h : wpAnyU P md ops Q S st fuel (listed.setIfInBounds i true) (a.put oi.dst v) w) : wpAnyU P md ops Q S st (fuel + 1) listed a w := by
  rw [Bool.and_eq_true] at hu
  exact wpAnyU_take (waiters md ops listed i) hi hs hf hr hu.1 hu.2 hQ hy hS h

theorem allOpen_pure {listed : Array Bool} {i : Nat} (hn : i ∉ st) (h : allOpen st listed = true) : allOpen st (listed.setIfInBounds i true) = true :=
  allOpen_iff.2 fun s hs => by
    rw [getD_set_ne true (show i ≠ s from fun h' => hn (h' ▸ hs))]
    exact allOpen_iff.1 h s hs

theorem wpAnyU_pure_first {i : Nat} {oi : Oper} {v : Value} (hi : ops[i]? = some oi) (hsel : ∀ (j : Nat) (o : Oper) cs b, ops[j]? = some o → o.op ≠ .select cs b)
    (hQ : ∀ c a w, Q (.panic c) (a.put oi.dst v) w → Q (.panic c) a w) (hn : i ∉ st) :
    ∀ (fuel : Nat) (listed : Array Bool) (a : Act) (w : World),
      (∀ j oj, ops[j]? = some oj → j ≠ i → listed.getD j true = false → (∀ e ∈ oj.after, Region.binds md e = true → e.on ≠ i) → oi.apart ops oj = true) →
      i ∈ Region.ready md ops listed → YieldsIf P ops (fun _ => True) oi v a → (allOpen st listed = true → S w) →
      wpAnyU P md ops Q S st fuel (listed.setIfInBounds i true) (a.put oi.dst v) w → wpAnyU P md ops Q S st (fuel + 1) listed a w := by
  have hback : ∀ listed : Array Bool, i ∈ Region.ready md ops listed → allOpen st (listed.setIfInBounds i true) = true → allOpen st listed = true :=
    fun listed _ h => allOpen_iff.2 fun s hs => by
      have h1 := allOpen_iff.1 h s hs
      rw [getD_set_ne true (show i ≠ s from fun h' => hn (h' ▸ hs))] at h1
      exact h1
  intro fuel
  induction fuel with
  | zero =>
    intro listed a w _ hr hy hS H
    refine ⟨fun h => (by rw [h] at hr; cases hr), fun j hj => ?_⟩
    by_cases hji : j = i
    · subst hji; exact hy.wpOp hi trivial ⟨fun h => hS (hback _ hr h), H⟩
    · have := ready_mono hj hji
      rw [H.1] at this
      cases this
  | succ fuel ih =>
    intro listed a w hfree hr hy hS H
    refine ⟨fun h => (by rw [h] at hr; cases hr), fun j hj => ?_⟩
    by_cases hji : j = i
    · subst hji; exact hy.wpOp hi trivial ⟨fun h => hS (hback _ hr h), H⟩
    · have h1 := H.2 j (ready_mono hj hji)
      have hi0 := (mem_ready.1 hr).1
      obtain ⟨hjun, oj, hoj, hall⟩ := mem_ready.1 hj
      have hnot : ∀ e ∈ oj.after, Region.binds md e = true → e.on ≠ i := fun e he hb heq =>
        open_not hi0 (heq ▸ hall e he hb)
      have h2 := wpOp_putIf hoj (hfree j oj hoj hji hjun hnot) (fun cs b => hsel i oi cs b hi) (fun cs b => hsel j oj cs b hoj) hQ hy h1
      have hfree' : ∀ k ok, ops[k]? = some ok → k ≠ i → (listed.setIfInBounds j true).getD k true = false →
          (∀ e ∈ ok.after, Region.binds md e = true → e.on ≠ i) → oi.apart ops ok = true := fun k ok hk hki hun hno => by
        refine hfree k ok hk hki ?_ hno
        by_cases hjk : j = k
        · subst hjk; exact hjun
        · rw [getD_set_ne true hjk] at hun; exact hun
      have hS' : ∀ {w' : World}, (allOpen st ((listed.setIfInBounds i true).setIfInBounds j true) = true → S w') → allOpen st (listed.setIfInBounds j true) = true → S w' := fun h1 h2 =>
        h1 (by rw [Array.setIfInBounds_comm _ _ (Ne.symm hji)]; exact allOpen_pure hn h2)
      refine wpOp_mono (fun a' w' h3 => ⟨hS' h3.2.1, ih (listed.setIfInBounds j true) a' w' hfree' (ready_mono hr (Ne.symm hji)) h3.1 (hS' h3.2.1) ?_⟩) h2
      rw [Array.setIfInBounds_comm _ _ hji]
      exact h3.2.2

/-- What yields in whatever world may be taken first at any time. -/
theorem wpAnyU_pure {i : Nat} {oi : Oper} {v : Value} {fuel : Nat} {listed : Array Bool} {a : Act} {w : World} (hi : ops[i]? = some oi)
    (hs : Region.noSelect ops = true) (hf : Region.free md ops listed i = true) (hr : (Region.ready md ops listed).contains i = true)
    (hn : (!(st.contains i)) = true)
    (hQ : ∀ c a w, Q (.panic c) (a.put oi.dst v) w → Q (.panic c) a w) (hy : YieldsIf P ops (fun _ => True) oi v a) (hS : allOpen st listed = true → S w)
    (h : wpAnyU P md ops Q S st fuel (listed.setIfInBounds i true) (a.put oi.dst v) w) : wpAnyU P md ops Q S st (fuel + 1) listed a w :=
  wpAnyU_pure_first hi (Region.noSelect_spec hs) hQ (by simpa using hn) fuel listed a w (Region.free_spec hi hf) (by simpa using hr) hy hS h

/-- Whichever comes up: one goal each, what follows kept behind a letter. -/
def AllU (P : Program) (md : Region.Mode) (ops : Array Oper) (Q : Exit → Act → World → Prop) (S : World → Prop) (st : List Nat) (fuel : Nat) (listed : Array Bool) (a : Act) (w : World) (rs : List Nat) : Prop :=
  ∀ i ∈ rs, wpOp P ops Q i (fun a' w' => (allOpen st (listed.setIfInBounds i true) = true → S w') ∧ wpAnyU P md ops Q S st fuel (listed.setIfInBounds i true) a' w') a w

theorem AllU.nil {fuel : Nat} {listed : Array Bool} {a : Act} {w : World} : AllU P md ops Q S st fuel listed a w [] := fun _ h => by cases h

theorem AllU.cons {fuel : Nat} {listed : Array Bool} {a : Act} {w : World} {i : Nat} {o : Oper} {rs : List Nat} (ho : ops[i]? = some o)
    (h : ∀ K : Act → World → Prop, Shut (∀ a w, (allOpen st (listed.setIfInBounds i true) = true → S w) → wpAnyU P md ops Q S st fuel (listed.setIfInBounds i true) a w → K a w) →
      if Region.wanted o (yielded ops a.tmps) = true then Oper.wp P o a w K Q else K (a.put o.dst undef) w)
    (hs : AllU P md ops Q S st fuel listed a w rs) : AllU P md ops Q S st fuel listed a w (i :: rs) := fun j hj => by
  rcases List.mem_cons.1 hj with rfl | hj
  · exact wpOp_step ho (fun K hK => h K (fun a w hS hW => hK a w ⟨hS, hW⟩))
  · exact hs j hj

theorem wpAnyU_ready {rs : List Nat} {fuel : Nat} {listed : Array Bool} {a : Act} {w : World} (hr : Region.ready md ops listed = rs) (hne : rs ≠ [])
    (h : AllU P md ops Q S st fuel listed a w rs) : wpAnyU P md ops Q S st (fuel + 1) listed a w := ⟨fun h0 => absurd (hr ▸ h0) hne, hr ▸ h⟩

/-- Whichever comes up. -/
theorem wpAnyU_all {rs : List Nat} {fuel : Nat} {listed : Array Bool} {a : Act} {w : World} (hr : Region.ready md ops listed = rs) (hne : rs ≠ [])
    (h : ∀ i ∈ rs, wpOp P ops Q i (fun a' w' => (allOpen st (listed.setIfInBounds i true) = true → S w') ∧ wpAnyU P md ops Q S st fuel (listed.setIfInBounds i true) a' w') a w) :
    wpAnyU P md ops Q S st (fuel + 1) listed a w :=
  ⟨fun h0 => absurd (hr ▸ h0) hne, hr ▸ h⟩

/-- All have come up. -/
theorem wpAnyU_done {listed : Array Bool} {a : Act} {w : World} (hr : Region.ready md ops listed = []) (h : Q .normal a w) :
    ∀ fuel, wpAnyU P md ops Q S st fuel listed a w
  | 0 => ⟨hr, h⟩
  | _ + 1 => ⟨fun _ => h, by rw [hr]; simp⟩

/-- The beginning, behind the draw. -/
theorem wp_region_until {id : Nat} {a : Act} {w : World} (hm : P.follows .mixedOrders = true)
    (h : wpAnyU P .any ops Q S st ops.size (Array.replicate ops.size false) a { w with drawn := w.drawn + 1 }) : (Code.region id ops true).wp P Q a w :=
  wp_region_any hm (wpAny_of_until _ _ _ _ h)

/-- S is shown of the world behind the draw, and handed on. -/
theorem wp_region_until_drew {id : Nat} {a : Act} {w : World} (hm : P.follows .mixedOrders = true) (hS : S w.drew)
    (h : S w.drew → wpAnyU P .any ops Q S st ops.size (Array.replicate ops.size false) a w.drew) : (Code.region id ops true).wp P Q a w :=
  wp_region_until hm (h hS)

end
end Go.Proofs.Ytfblnadmbfhjiaa.Wd

namespace Go.Proofs.Ytfblnadmbfhjiaa.Wd
open Go.RowKit

/-- The cells of a slice of ints, for an append law. -/
theorem Ints.news {w : World} {b off n : Nat} {xs : List Int} (hl : xs.length = n) (hc : ∀ j, j < n → w.cell? ⟨b, off + j, none⟩ = some (.int .i64 (xs.getD j 0))) :
    ∀ j u, (xs.map (Value.int .i64))[j]? = some u → w.cell? ((⟨b, off, none⟩ : Addr).add j) = some u := by
  intro j u hj
  have hjn : j < xs.length := by
    have := (List.getElem?_eq_some_iff.1 hj).1
    simpa using this
  rw [Addr.add_lit, hc j (by omega)]
  rw [← hj]
  simp [List.getD_eq_getElem?_getD, List.getElem?_eq_getElem hjn]
theorem ones (xs : List Int) : ∀ u ∈ xs.map (Value.int .i64), u.oneCell' = true := by
  intro u hu
  obtain ⟨x, _, rfl⟩ := List.mem_map.1 hu
  rfl

section
variable {P : Program} (w : World)

/-- append onto nil or onto a row of the call's own has the row at base or above; below base nothing turns. -/
theorem below_own {w w' : World} {base e size n : Nat} {v : Value} {xs : List Value} (hown : w.ownsRow base e size v n xs) (hg : w.grownBy w' v.ownBlock) (hbase : base ≤ w.heap.size) : Below base w w' :=
  (Below.refl _ _).grown hg hbase (fun q hq => by
    rcases hown.2 with ⟨rfl, _⟩ | ⟨g, cap, cur, rfl, hb, _⟩
    · simp [Value.ownBlock] at hq
    · simp [Value.ownBlock] at hq
      omega)

theorem run_append_ints (base t ty e : Nat) (i : TypeInfo) (z : Value) (ht : P.underlying t = some (.slice e)) (hi : P.info? e = some i) (hz : i.zero = some z)
    (hsize : i.size = 1) (hby : i.bytes = 8) (hzs : z.cells.size = 1)
    (v : Value) (n : Nat) (xs : List Value) (hown : w.ownsRow base e 1 v n xs)
    (A : Option Addr) (m c : Nat) (ys : List Int) (hr : Ints w A m ys) (hn : n + m ≤ 1000000) (hbase : base ≤ w.heap.size) :
    ∃ v' w', (Builtin.append_ #[t, t] ty #[v, .slice A m c]).run P w = .ok v' w' ∧ w'.ownsRow base e 1 v' (n + m) (xs ++ ys.map (Value.int .i64)) ∧ w.grownBy w' v.ownBlock ∧
      (v'.ownBlock = v.ownBlock ∨ v'.ownBlock = some w.heap.size) := by
  have hlen := hr.1
  rcases A with _ | ad
  · have hm : m = 0 := by
      rcases Nat.eq_zero_or_pos m with h0 | h0
      · exact h0
      · obtain ⟨b, off, h, _⟩ := hr.2 h0
        cases h
    subst hm
    have hy : ys = [] := List.eq_nil_of_length_eq_zero hlen
    subst hy
    refine ⟨v, w, ?_, by simpa using hown, World.grownBy.refl w _, .inl rfl⟩
    rcases hown.2 with ⟨rfl, rfl⟩ | ⟨g, cap, cur, rfl, _, _, hnc, _⟩
    · simp [Builtin.append_, run_underlying ht, sizeOf, typeInfo, hi, Builtin.lenOf, Builtin.firstCells]
    · simp [Builtin.append_, run_underlying ht, sizeOf, typeInfo, hi, Builtin.lenOf, Builtin.firstCells, hnc, storeCells]
  · have hcells : ∀ j u, (ys.map (Value.int .i64))[j]? = some u → w.cell? (ad.add j) = some u := by
      intro j u hu
      rcases Nat.eq_zero_or_pos m with h0 | h0
      · subst h0
        have hy : ys = [] := List.eq_nil_of_length_eq_zero hlen
        subst hy
        simp at hu
      · obtain ⟨b, off, h, _, hc⟩ := hr.2 h0
        injection h with h
        subst h
        exact Ints.news hlen hc j u hu
    obtain ⟨v', w', hrun, h2, h3, _, h5⟩ := run_append_own_at (P := P) w base t ty e i z 1 8 ht hi hz hsize hby hzs (by omega) v n xs hown ad m c (ys.map (Value.int .i64)) (by simp [hlen]) hcells (ones ys) (by unfold maxLen; omega) (by omega) hbase
    exact ⟨v', w', hrun, h2, h3, h5⟩

theorem wp_append_ints {o : Oper} {a : Act} {K : Act → World → Prop} {Q : Exit → Act → World → Prop} (s x : Operand) (t : TypeId)
    (ho : o.op = .call { callee := .builtin .append, args := #[s, x], argTypes := #[t, t] })
    (base : Nat) (e : TypeId) (i : TypeInfo) (z : Value) (ht : P.underlying t = some (.slice e)) (hi : P.info? e = some i) (hz : i.zero = some z)
    (hsize : i.size = 1) (hby : i.bytes = 8) (hzs : z.cells.size = 1)
    (v : Value) (n : Nat) (xs : List Value) (hs : a.eval s = v) (hown : w.ownsRow base e 1 v n xs)
    (A : Option Addr) (m c : Nat) (ys : List Int) (hx : a.eval x = .slice A m c) (hr : Ints w A m ys) (hn : n + m ≤ 1000000) (hbase : base ≤ w.heap.size)
    (h : ∀ v' w', w'.ownsRow base e 1 v' (n + m) (xs ++ ys.map (Value.int .i64)) → w.grownBy w' v.ownBlock → (v'.ownBlock = v.ownBlock ∨ v'.ownBlock = some w.heap.size) → K (a.put o.dst v') w') : o.wp P a w K Q := by
  obtain ⟨v', w', hrun, h2, h3, h4⟩ := run_append_ints (P := P) w base t o.type e i z ht hi hz hsize hby hzs v n xs hown A m c ys hr hn hbase
  unfold Oper.wp execOp
  simp only [ho, resolve, invoke, builtin, Sem.run_bind, Sem.run_pure, Result.andThen_ok, List.map_toArray, List.map_cons, List.map_nil, hs, hx, hrun]
  exact h v' w' h2 h3 h4

theorem wpList_append_ints {ops : Array Oper} {rest : List Oper} {o : Oper} {a : Act} {Q : Exit → Act → World → Prop} (hgd : o.guard = none) (s x : Operand) (t : TypeId)
    (ho : o.op = .call { callee := .builtin .append, args := #[s, x], argTypes := #[t, t] })
    (base : Nat) (e : TypeId) (i : TypeInfo) (z : Value) (ht : P.underlying t = some (.slice e)) (hi : P.info? e = some i) (hz : i.zero = some z)
    (hsize : i.size = 1) (hby : i.bytes = 8) (hzs : z.cells.size = 1)
    (v : Value) (n : Nat) (xs : List Value) (hs : a.eval s = v) (hown : w.ownsRow base e 1 v n xs)
    (A : Option Addr) (m c : Nat) (ys : List Int) (hx : a.eval x = .slice A m c) (hr : Ints w A m ys) (hn : n + m ≤ 1000000) (hbase : base ≤ w.heap.size)
    (h : ∀ v' w', w'.ownsRow base e 1 v' (n + m) (xs ++ ys.map (Value.int .i64)) → w.grownBy w' v.ownBlock → (v'.ownBlock = v.ownBlock ∨ v'.ownBlock = some w.heap.size) → wpList P ops Q rest (a.put o.dst v') w') : wpList P ops Q (o :: rest) a w :=
  wpList_plain hgd fun _ hK => wp_append_ints w s x t ho base e i z ht hi hz hsize hby hzs v n xs hs hown A m c ys hx hr hn hbase fun v' w' h2 h3 h4 => hK _ _ (h v' w' h2 h3 h4)

theorem step_append_ints {ops : Array Oper} {o : Oper} {a : Act} {K : Act → World → Prop} {Q : Exit → Act → World → Prop} {E : Prop} (hgd : o.guard = none) (s x : Operand) (t : TypeId)
    (ho : o.op = .call { callee := .builtin .append, args := #[s, x], argTypes := #[t, t] })
    (base : Nat) (e : TypeId) (i : TypeInfo) (z : Value) (ht : P.underlying t = some (.slice e)) (hi : P.info? e = some i) (hz : i.zero = some z)
    (hsize : i.size = 1) (hby : i.bytes = 8) (hzs : z.cells.size = 1)
    (v : Value) (n : Nat) (xs : List Value) (hs : a.eval s = v) (hown : w.ownsRow base e 1 v n xs)
    (A : Option Addr) (m c : Nat) (ys : List Int) (hx : a.eval x = .slice A m c) (hr : Ints w A m ys) (hn : n + m ≤ 1000000) (hbase : base ≤ w.heap.size)
    (h : ∀ v' w', w'.ownsRow base e 1 v' (n + m) (xs ++ ys.map (Value.int .i64)) → w.grownBy w' v.ownBlock → (v'.ownBlock = v.ownBlock ∨ v'.ownBlock = some w.heap.size) → K (a.put o.dst v') w') :
    if Region.wanted o (yielded ops a.tmps) = true then Oper.wp P o a w K Q else E := by
  have hw : Region.wanted o (yielded ops a.tmps) = true := by simp [Region.wanted, hgd]
  rw [if_pos hw]
  exact wp_append_ints w s x t ho base e i z ht hi hz hsize hby hzs v n xs hs hown A m c ys hx hr hn hbase h
end
end Go.Proofs.Ytfblnadmbfhjiaa.Wd

namespace Go.Proofs.Ytfblnadmbfhjiaa.Wd
open Go.RowKit
set_option linter.unusedVariables false
set_option linter.unusedSimpArgs false

theorem agL_edge {w : World} {s e : Nat} (h : CellsAt w (agL s e)) {t : Nat} (ht : t < 2) : ∃ y2 y3 y4 : Int, w.cell? ⟨e, t * 5, none⟩ = some (.int .i64 0) ∧ w.cell? ⟨e, t * 5 + 1, none⟩ = some (.int .i64 0) ∧ w.cell? ⟨e, t * 5 + 2, none⟩ = some (.int .i64 y2) ∧ w.cell? ⟨e, t * 5 + 3, none⟩ = some (.int .i64 y3) ∧ w.cell? ⟨e, t * 5 + 4, none⟩ = some (.int .i64 y4) := by
  obtain ⟨_, _, ⟨a0, a1, a2, a3, a4⟩, b0, b1, b2, b3, b4⟩ := agL_out h
  have h2 : t = 0 ∨ t = 1 := by omega
  rcases h2 with rfl | rfl
  · exact ⟨1, 1, 1, a0, a1, a2, a3, a4⟩
  · exact ⟨1, 0, 0, b0, b1, b2, b3, b4⟩

theorem int_row : (Try.prog.info? 3).map (fun i => (i.zero, i.size, i.bytes)) = some (some (.int .i64 0), 1, 8) := by kernel_rfl

theorem own_keep {w w' : World} {base e size n : Nat} {v : Value} {xs : List Value} (h : w.ownsRow base e size v n xs) (hb : Below w.heap.size w w') : w'.ownsRow base e size v n xs :=
  h.kept (row := none) ⟨hb.os, hb.tape, hb.output, hb.size, fun j hj _ => hb.block j hj⟩ (by cases hv : v.ownBlock <;> simp)
theorem own_apart0 {w : World} {B e n g : Nat} {v : Value} {xs : List Value} (h : w.ownsRow B e 1 v n xs) (hg : w.heap.size ≤ g) : some g ≠ v.ownBlock := by
  intro he
  rcases h.2 with ⟨rfl, _⟩ | ⟨b, cap, cur, rfl, h1, hgg, _⟩
  · cases he
  · cases he
    exact Nat.lt_irrefl _ (Nat.lt_of_lt_of_le (Array.getElem?_eq_some_iff.1 hgg).1 hg)
theorem one_new (w : World) (g : Nat) (hg : w.heap.size = g) (x : Int) (t : TypeId) : Ints (w.alloc (.cells #[.int .i64 x] t)).drew (some ⟨g, 0, none⟩) 1 [x] := by
  subst hg
  exact ⟨rfl, fun _ => ⟨w.heap.size, 0, rfl, by simp, fun j hj => by
    obtain rfl : j = 0 := by omega
    show World.cell? (w.alloc _) _ = _
    rw [box_last]
    rfl⟩⟩

def upL (k : Nat) : List Int := (List.range k).map fun (j : Nat) => (j : Int)
theorem upL_snoc (k : Nat) : upL (k + 1) = upL k ++ [(k : Int)] := by simp [upL, List.range_succ]

set_option maxRecDepth 100000 in
set_option maxHeartbeats 4000000 in
theorem outgoing_ag (s e : Nat) (w : World) (h : CellsAt w (agL s e)) : Calls Try.prog 62 #[agV s e] w fun r w' =>
    ∃ o g c, r = .returned (.slice (some ⟨o, 0, none⟩) 1 1) ∧ w.heap.size ≤ o ∧ CellsAt w' [(⟨o, 0, none⟩, .slice (some ⟨g, 0, none⟩) 2 c), (⟨g, 0, none⟩, .int .i64 0), (⟨g, 1, none⟩, .int .i64 1)] ∧ Below w.heap.size w w' := by
  obtain ⟨i0, hi, hi0, hi1, hi2⟩ := info_parts int_row
  have hmk : ∀ w : World, (Instr.makeSlice 95 (.int .i64 1) (.int .i64 1)).run Try.prog w = .ok (.slice (some ⟨w.heap.size, 0, none⟩) 1 1) (w.alloc (.cells #[.slice none 0 0] 22)) := fun _ => by kernel_rfl
  have HL := Lib.hid h
  clear h
  unfold agV
  go_enter Try.func62, Try.ntmps62
  go_wp2_with fail
  have hX0 : ∀ X : World, X.heap.size = w.heap.size + 1 → True := fun _ _ => trivial
  go_loopg [12] 2 (fun g i wx => ∃ (t : Nat) (v : Value), t + g = 2 ∧ i = .int .i64 t ∧ Hid (wx.ownsRow (w.heap.size + 2) 3 1 v t ((upL t).map (Value.int .i64))) ∧ Hid (wx.cell? ⟨w.heap.size + 1, 0, none⟩ = some v ∧ wx.frozen? ⟨w.heap.size + 1, 0, none⟩ = false ∧ w.heap.size + 2 ≤ wx.heap.size) ∧ Below w.heap.size w wx)
  case atStart =>
    refine ⟨0, .slice none 0 0, by omega, rfl, World.ownsRow_nil _ _ _ _, ⟨?_, ?_, ?_⟩, ((Below.refl _ _).alloc (Nat.le_refl _) _).alloc (by simp) _⟩
    · simp
    · simp
    · simp
  case round =>
    obtain ⟨t, v, htg, rfl, HO, HV, hbx⟩ := hrel
    cases gk with
    | zero =>
      obtain rfl : t = 2 := by omega
      obtain ⟨A, c, rfl, hcc⟩ := own_slice HO.out
      obtain ⟨g, cap, hv1, hv2, hlt⟩ := HO.out.form (by omega)
      have hA : A = some ⟨g, 0, none⟩ := by injection hv1
      subst hA
      have hq0 := HO.out.cells (g := g) rfl 0 (.int .i64 0) (by simp [upL])
      have hq1 := HO.out.cells (g := g) rfl 1 (.int .i64 1) (by simp [upL])
      rw [Addr.add_lit] at hq0 hq1
      have HCS := Lib.hid (show CellsAt wr [(⟨w.heap.size + 1, 0, none⟩, .slice (some ⟨g, 0, none⟩) 2 c), (⟨g, 0, none⟩, .int .i64 0), (⟨g, 1, none⟩, .int .i64 1)] by
        intro p hp
        simp only [List.mem_cons, List.not_mem_nil, or_false] at hp
        rcases hp with rfl | rfl | rfl
        · exact ⟨by have := HV.out.2.2; show w.heap.size + 1 < _; omega, HV.out.1⟩
        · exact ⟨hlt, by simpa using hq0⟩
        · exact ⟨hlt, by simpa using hq1⟩)
      clear hv1 hq0 hq1 hX0
      go_wp2_with fail
      go_ret
      exact ⟨w.heap.size + 1, rfl, by omega, ⟨g, c, HCS.out⟩, hbx⟩
    | succ g =>
      have hti : (0 : Int) ≤ (t : Int) := by omega
      have hti2 : (t : Int) < 2 := by omega
      have ht2 : t < 2 := by omega
      obtain ⟨y2, y3, y4, e0, e1, e2, e3, e4⟩ := agL_edge (HL.out.below hbx) ht2
      have hv := HV.out.1
      have hfz := HV.out.2.1
      have hzz := HV.out.2.2
      have hz0 : w.heap.size + 1 < wr.heap.size := by omega
      clear hX0
      go_wp2_with fail
      have HBA := Lib.hid (show Below wr.heap.size wr ((wr.alloc (.cells #[.int .i64 0, .int .i64 0, .int .i64 y2, .int .i64 y3, .int .i64 y4] 54)).alloc (.cells #[.int .i64 (t : Int)] 3)).drew from (((Below.refl _ _).alloc (Nat.le_refl _) _).alloc (by simp) _).drew)
      refine wp_region_until_drew (st := [12]) (S := fun V => V.cell? ⟨wr.heap.size, 0, none⟩ = some (.int .i64 0) ∧ V.cell? ⟨w.heap.size + 1, 0, none⟩ = some v) (by kernel_rfl) ⟨by show World.cell? (wr.alloc _) _ = _; rw [box_last]; rfl, by show World.cell? (wr.alloc _) _ = _; rw [Below.cell ((Below.refl wr.heap.size wr).alloc (Nat.le_refl _) _) hz0]; exact hv⟩ (fun hHeld => ?_)
      refine wpAnyU_pure (i := 0) (v := ?vo0) rfl (by kernel_rfl) (by kernel_rfl) (by kernel_rfl) (by kernel_rfl) (fun _ _ _ h => h) (Or.inl ⟨by rfl, fun V _ => ?hyo0⟩) (fun _ => hHeld) ?resto0
      case hyo0 => go_simp; try with_reducible rfl
      try simp only [Act.put, List.getElem_toArray, List.getElem_cons_zero, List.getElem_cons_succ, List.setIfInBounds_toArray, List.set_cons_zero, List.set_cons_succ]
      refine wpAnyU_pure (i := 1) (v := ?vo1) rfl (by kernel_rfl) (by kernel_rfl) (by kernel_rfl) (by kernel_rfl) (fun _ _ _ h => h) (Or.inl ⟨by rfl, fun V _ => ?hyo1⟩) (fun _ => hHeld) ?resto1
      case hyo1 => go_simp; try with_reducible rfl
      try simp only [Act.put, List.getElem_toArray, List.getElem_cons_zero, List.getElem_cons_succ, List.setIfInBounds_toArray, List.set_cons_zero, List.set_cons_succ]
      refine wpAnyU_load (i := 2) (v := ?vo2) rfl (by kernel_rfl) (by kernel_rfl) (by kernel_rfl) (by kernel_rfl) (fun _ _ _ h => h) (Or.inl ⟨by rfl, fun V hSw => ?hyo2⟩) hHeld ?resto2
      case hyo2 => (obtain ⟨hs1, hs2⟩ := hSw); go_simp; try with_reducible rfl
      try simp only [Act.put, List.getElem_toArray, List.getElem_cons_zero, List.getElem_cons_succ, List.setIfInBounds_toArray, List.set_cons_zero, List.set_cons_succ]
      refine wpAnyU_pure (i := 3) (v := ?vo3) rfl (by kernel_rfl) (by kernel_rfl) (by kernel_rfl) (by kernel_rfl) (fun _ _ _ h => h) (Or.inl ⟨by rfl, fun V _ => ?hyo3⟩) (fun _ => hHeld) ?resto3
      case hyo3 => go_simp; try with_reducible rfl
      try simp only [Act.put, List.getElem_toArray, List.getElem_cons_zero, List.getElem_cons_succ, List.setIfInBounds_toArray, List.set_cons_zero, List.set_cons_succ]
      refine wpAnyU_pure (i := 4) (v := ?vo4) rfl (by kernel_rfl) (by kernel_rfl) (by kernel_rfl) (by kernel_rfl) (fun _ _ _ h => h) (Or.inl ⟨by rfl, fun V _ => ?hyo4⟩) (fun _ => hHeld) ?resto4
      case hyo4 => go_simp; try with_reducible rfl
      try simp only [Act.put, List.getElem_toArray, List.getElem_cons_zero, List.getElem_cons_succ, List.setIfInBounds_toArray, List.set_cons_zero, List.set_cons_succ]
      refine wpAnyU_load (i := 5) (v := ?vo5) rfl (by kernel_rfl) (by kernel_rfl) (by kernel_rfl) (by kernel_rfl) (fun _ _ _ h => h) (Or.inl ⟨by rfl, fun V hSw => ?hyo5⟩) hHeld ?resto5
      case hyo5 => (obtain ⟨hs1, hs2⟩ := hSw); go_simp; try with_reducible rfl
      try simp only [Act.put, List.getElem_toArray, List.getElem_cons_zero, List.getElem_cons_succ, List.setIfInBounds_toArray, List.set_cons_zero, List.set_cons_succ]
      refine wpAnyU_pure (i := 6) (v := ?vo6) rfl (by kernel_rfl) (by kernel_rfl) (by kernel_rfl) (by kernel_rfl) (fun _ _ _ h => h) (Or.inl ⟨by rfl, fun V _ => ?hyo6⟩) (fun _ => hHeld) ?resto6
      case hyo6 => go_simp; try with_reducible rfl
      try simp only [Act.put, List.getElem_toArray, List.getElem_cons_zero, List.getElem_cons_succ, List.setIfInBounds_toArray, List.set_cons_zero, List.set_cons_succ]
      refine wpAnyU_load (i := 7) (v := ?vo7) rfl (by kernel_rfl) (by kernel_rfl) (by kernel_rfl) (by kernel_rfl) (fun _ _ _ h => h) (Or.inl ⟨by rfl, fun V hSw => ?hyo7⟩) hHeld ?resto7
      case hyo7 => (obtain ⟨hs1, hs2⟩ := hSw); go_simp; try with_reducible rfl
      try simp only [Act.put, List.getElem_toArray, List.getElem_cons_zero, List.getElem_cons_succ, List.setIfInBounds_toArray, List.set_cons_zero, List.set_cons_succ]
      refine wpAnyU_pure (i := 8) (v := ?vo8) rfl (by kernel_rfl) (by kernel_rfl) (by kernel_rfl) (by kernel_rfl) (fun _ _ _ h => h) (Or.inl ⟨by rfl, fun V _ => ?hyo8⟩) (fun _ => hHeld) ?resto8
      case hyo8 => go_simp; try with_reducible rfl
      try simp only [Act.put, List.getElem_toArray, List.getElem_cons_zero, List.getElem_cons_succ, List.setIfInBounds_toArray, List.set_cons_zero, List.set_cons_succ]
      refine wpAnyU_ready (rs := [9]) (by kernel_rfl) (by simp) (AllU.cons (i := 9) rfl (fun K hK => ?_) AllU.nil)
      simp only [List.getElem_toArray, List.getElem_cons_zero, List.getElem_cons_succ]
      go_simp
      refine hK.out _ _ (fun _ => ⟨?se, (HBA.out.cell (p := ⟨w.heap.size + 1, 0, none⟩) hz0).trans hv⟩) ?re
      case se => exact (box_first wr #[.int .i64 0, .int .i64 0, .int .i64 y2, .int .i64 y3, .int .i64 y4] 54 (.cells #[.int .i64 (t : Int)] 3) 0)
      clear hK K
      try simp only [Act.put, List.getElem_toArray, List.getElem_cons_zero, List.getElem_cons_succ, List.setIfInBounds_toArray, List.set_cons_zero, List.set_cons_succ]
      refine wpAnyU_ready (rs := [10]) (by kernel_rfl) (by simp) (AllU.cons (i := 10) rfl (fun K hK => ?_) AllU.nil)
      have hown0 := own_keep HO.out HBA.out
      have hbase : w.heap.size + 2 ≤ ((wr.alloc (.cells #[.int .i64 0, .int .i64 0, .int .i64 y2, .int .i64 y3, .int .i64 y4] 54)).alloc (.cells #[.int .i64 (t : Int)] 3)).drew.heap.size := Nat.le_trans hzz HBA.out.size
      refine step_append_ints _ (by rfl) _ _ _ (by rfl) (w.heap.size + 2) 3 i0 _ Try.underlying22 hi hi0 hi1 hi2 rfl v t ((upL t).map (Value.int .i64)) (by rfl) (by exact hown0) (some ⟨wr.heap.size + 1, 0, none⟩) 1 1 [(t : Int)] (by rfl) (by exact one_new (wr.alloc (.cells #[.int .i64 0, .int .i64 0, .int .i64 y2, .int .i64 y3, .int .i64 y4] 54)) (wr.heap.size + 1) (by simp) t _) (by omega) (by exact hbase) ?_
      intro v' w2 hown hgrow hat
      obtain ⟨A', c', hve, hcc⟩ := own_slice hown
      rw [hve] at hown hat ⊢
      have hb2 := below_own hown0 hgrow hbase
      have HB2 := Lib.hid hb2
      have HOW := Lib.hid hown
      have hc2 : w2.cell? ⟨w.heap.size + 1, 0, none⟩ = some v := (hb2.cell (p := ⟨w.heap.size + 1, 0, none⟩) (by simp)).trans ((HBA.out.cell (p := ⟨w.heap.size + 1, 0, none⟩) hz0).trans hv)
      have hf2 : w2.frozen? ⟨w.heap.size + 1, 0, none⟩ = false := (hb2.frozen (p := ⟨w.heap.size + 1, 0, none⟩) (by simp)).trans ((HBA.out.frozen (p := ⟨w.heap.size + 1, 0, none⟩) hz0).trans hfz)
      have he2 : w2.cell? ⟨wr.heap.size, 0, none⟩ = some (.int .i64 0) := (hgrow.cell_far ⟨wr.heap.size, 0, none⟩ (by simp; omega) (own_apart0 HO.out (Nat.le_refl _))).trans (box_first wr #[.int .i64 0, .int .i64 0, .int .i64 y2, .int .i64 y3, .int .i64 y4] 54 (.cells #[.int .i64 (t : Int)] 3) 0)
      clear hve hown0 hown hgrow hat hb2 hHeld
      have hHeld := And.intro he2 hc2
      refine hK.out _ _ (fun _ => hHeld) ?_
      clear hK K
      try simp only [Act.put, List.getElem_toArray, List.getElem_cons_zero, List.getElem_cons_succ, List.setIfInBounds_toArray, List.set_cons_zero, List.set_cons_succ]
      refine wpAnyU_pure (i := 11) (v := ?vq11) rfl (by kernel_rfl) (by kernel_rfl) (by kernel_rfl) (by kernel_rfl) (fun _ _ _ h => h) (Or.inl ⟨by rfl, fun V _ => ?hyq11⟩) (fun _ => hHeld) ?restq11
      case hyq11 => go_simp; try with_reducible rfl
      try simp only [Act.put, List.getElem_toArray, List.getElem_cons_zero, List.getElem_cons_succ, List.setIfInBounds_toArray, List.set_cons_zero, List.set_cons_succ]
      refine wpAnyU_ready (rs := [12]) (by kernel_rfl) (by simp) (AllU.cons (i := 12) rfl (fun K hK => ?_) AllU.nil)
      simp only [List.getElem_toArray, List.getElem_cons_zero, List.getElem_cons_succ]
      go_simp
      refine hK.out _ _ (fun h => by have h2 : false = true := h; cases h2) ?_
      clear hK K
      try simp only [Act.put, List.getElem_toArray, List.getElem_cons_zero, List.getElem_cons_succ, List.setIfInBounds_toArray, List.set_cons_zero, List.set_cons_succ]
      refine wpAnyU_done (by kernel_rfl) ?_ _
      clear hHeld
      go_wp2_with fail
      go_roundg g
      case measure => omega
      case rel =>
        refine ⟨t + 1, .slice A' (t + 1) c', by omega, by go_num, ?_, ⟨?_, ?_, ?_⟩, ?_⟩
        · show World.ownsRow _ _ _ _ _ _ _
          rw [upL_snoc, List.map_append]
          exact ownsRow_setCell_below HOW.out (by show w.heap.size + 1 < w.heap.size + 2; omega) _
        · exact World.cell?_setCell_same w2 _ _ hc2
        · rw [World.frozen?_setCell]; exact hf2
        · have := Nat.le_trans hbase HB2.out.size; simpa using this
        · exact ((hbx.trans (HBA.out.mono hbx.size)).trans (HB2.out.mono (by omega))).setCell (p := ⟨w.heap.size + 1, 0, none⟩) (by simp) _

end Go.Proofs.Ytfblnadmbfhjiaa.Wd

namespace Go.Proofs.Ytfblnadmbfhjiaa.Wd
open Go.RowKit
set_option linter.unusedVariables false

/-- The walker at block r, with all that it looks at. -/
def wkL (r s e o g c : Nat) : List (Addr × Value) :=
  [(⟨r, 0, none⟩, .slice (some ⟨e, 0, none⟩) 2 2), (⟨r, 1, none⟩, .slice (some ⟨o, 0, none⟩) 1 1), (⟨r, 2, none⟩, .int .i64 0), (⟨r, 3, none⟩, .bool false)] ++
  ([(⟨o, 0, none⟩, .slice (some ⟨g, 0, none⟩) 2 c), (⟨g, 0, none⟩, .int .i64 0), (⟨g, 1, none⟩, .int .i64 1)] ++ agL s e)

set_option maxRecDepth 100000 in
set_option maxHeartbeats 4000000 in
theorem newWalker_ag (s e : Nat) (w : World) (h : CellsAt w (agL s e)) : Calls Try.prog 49 #[agV s e] w fun x w' =>
    ∃ r o g c, x = .returned (.pointer (some ⟨r, 0, none⟩)) ∧ w.heap.size ≤ r ∧ CellsAt w' (wkL r s e o g c) ∧ w'.frozen? ⟨r, 2, none⟩ = false ∧ Below w.heap.size w w' := by
  have HX := Lib.hid (bxL_new w s e 25)
  have HL := Lib.hid h
  have HO := Lib.hid (fun W (hW : Below w.heap.size w W) => outgoing_ag s e W (h.below hW))
  have HBX := Lib.hid (show Below w.heap.size w (w.alloc (.cells #[.int .i64 1, .int .i64 1, .slice (some ⟨s, 0, none⟩) 1 1, .int .i64 0, .int .i64 1, .slice (some ⟨e, 0, none⟩) 2 2] 25)) from (Below.refl _ _).alloc (Nat.le_refl _) _)
  obtain ⟨⟨h1, h2⟩, c0, _, _⟩ := agL_out h
  have c0' : (w.alloc (.cells #[.int .i64 1, .int .i64 1, .slice (some ⟨s, 0, none⟩) 1 1, .int .i64 0, .int .i64 1, .slice (some ⟨e, 0, none⟩) 2 2] 25)).cell? ⟨s, 0, none⟩ = some (.int .i64 0) := (HBX.out.cell (p := ⟨s, 0, none⟩) h1).trans c0
  have HS := Lib.hid (show ∀ V, Below (w.alloc (.cells #[.int .i64 1, .int .i64 1, .slice (some ⟨s, 0, none⟩) 1 1, .int .i64 0, .int .i64 1, .slice (some ⟨e, 0, none⟩) 2 2] 25)).heap.size (w.alloc (.cells #[.int .i64 1, .int .i64 1, .slice (some ⟨s, 0, none⟩) 1 1, .int .i64 0, .int .i64 1, .slice (some ⟨e, 0, none⟩) 2 2] 25)) V →
      (V.cell? ⟨w.heap.size, 0, none⟩ = some (.int .i64 1) ∧ V.cell? ⟨w.heap.size, 1, none⟩ = some (.int .i64 1) ∧ V.cell? ⟨w.heap.size, 2, none⟩ = some (.slice (some ⟨s, 0, none⟩) 1 1) ∧ V.cell? ⟨w.heap.size, 3, none⟩ = some (.int .i64 0) ∧ V.cell? ⟨w.heap.size, 4, none⟩ = some (.int .i64 1) ∧ V.cell? ⟨w.heap.size, 5, none⟩ = some (.slice (some ⟨e, 0, none⟩) 2 2)) ∧ V.cell? ⟨s, 0, none⟩ = some (.int .i64 0) from
    fun V hV => ⟨(bxL_out (HX.out.below hV)).2, (hV.cell (p := ⟨s, 0, none⟩) (by simp; omega)).trans c0'⟩)
  clear h c0 c0'
  unfold agV at *
  go_enter Try.func49, Try.ntmps49
  go_wp2_with fail
  generalize w.alloc (.cells #[.int .i64 1, .int .i64 1, .slice (some ⟨s, 0, none⟩) 1 1, .int .i64 0, .int .i64 1, .slice (some ⟨e, 0, none⟩) 2 2] 25) = Z at *
  go_region_held3 (fun V => (V.cell? ⟨w.heap.size, 0, none⟩ = some (.int .i64 1) ∧ V.cell? ⟨w.heap.size, 1, none⟩ = some (.int .i64 1) ∧ V.cell? ⟨w.heap.size, 2, none⟩ = some (.slice (some ⟨s, 0, none⟩) 1 1) ∧ V.cell? ⟨w.heap.size, 3, none⟩ = some (.int .i64 0) ∧ V.cell? ⟨w.heap.size, 4, none⟩ = some (.int .i64 1) ∧ V.cell? ⟨w.heap.size, 5, none⟩ = some (.slice (some ⟨e, 0, none⟩) 2 2)) ∧ V.cell? ⟨s, 0, none⟩ = some (.int .i64 0))
    (first
      | exact HS.out _ k1
      | exact HS.out _ ((Below.refl Z.heap.size Z).drew)
      | exact HS.out _ (k1.alloc k1.size _))
    (first
      | (go_at_call 62; refine (HO.out _ HBX.out.drew).mono ?_; rintro x z1 ⟨o, g, c, rfl, ho, HC, b1⟩; have k1 : Below Z.heap.size Z z1 := ((Below.refl _ _).drew).trans b1)
      | fail)
  go_wp2_with fail
  go_ret
  have hw1 : Below w.heap.size w z1 := HBX.out.trans (k1.mono HBX.out.size)
  refine ⟨z1.heap.size, o, g, c, rfl, hw1.size, ?_, box_last_free _ _ _ _, hw1.alloc hw1.size _⟩
  refine CellsAt.append ?_ (CellsAt.append (HC.alloc _) (((HL.out.below hw1)).alloc _))
  intro p hp
  simp only [List.mem_cons, List.not_mem_nil, or_false] at hp
  rcases hp with rfl | rfl | rfl | rfl
  all_goals exact ⟨by simp, by rw [box_last]; rfl⟩

theorem wkL_out {w : World} {r s e o g c : Nat} (h : CellsAt w (wkL r s e o g c)) : r < w.heap.size ∧ (w.cell? ⟨r, 0, none⟩ = some (.slice (some ⟨e, 0, none⟩) 2 2) ∧ w.cell? ⟨r, 1, none⟩ = some (.slice (some ⟨o, 0, none⟩) 1 1) ∧ w.cell? ⟨r, 2, none⟩ = some (.int .i64 0) ∧ w.cell? ⟨r, 3, none⟩ = some (.bool false)) ∧
    (w.cell? ⟨o, 0, none⟩ = some (.slice (some ⟨g, 0, none⟩) 2 c) ∧ w.cell? ⟨g, 0, none⟩ = some (.int .i64 0) ∧ w.cell? ⟨g, 1, none⟩ = some (.int .i64 1)) ∧ (o < w.heap.size ∧ g < w.heap.size) ∧ CellsAt w (agL s e) :=
  ⟨h.left.lt, ⟨h.left.head, h.left.tail.head, h.left.tail.tail.head, h.left.tail.tail.tail.head⟩, ⟨h.right.left.head, h.right.left.tail.head, h.right.left.tail.tail.head⟩, ⟨h.right.left.lt, h.right.left.tail.lt⟩, h.right.right⟩

/-- The walker stands. -/
def Wk (w : World) (r s e o g c : Nat) : Prop := CellsAt w (wkL r s e o g c) ∧ w.frozen? ⟨r, 2, none⟩ = false
theorem Wk.below {w w' : World} {r s e o g c : Nat} (h : Wk w r s e o g c) (hb : Below w.heap.size w w') : Wk w' r s e o g c :=
  ⟨h.1.below hb, (hb.frozen (p := ⟨r, 2, none⟩) (wkL_out h.1).1).trans h.2⟩
theorem Wk.again {w : World} {r s e o g c : Nat} (h : Wk w r s e o g c) : Wk (w.setCell ⟨r, 2, none⟩ (.int .i64 0)) r s e o g c :=
  ⟨h.1.again (wkL_out h.1).2.1.2.2.1, by rw [World.frozen?_setCell]; exact h.2⟩

theorem grown_of {w w' : World} {row : Option Nat} (hb : Below w.heap.size w w') : w.grownBy w' row := ⟨hb.os, hb.tape, hb.output, hb.size, fun i hi _ => hb.block i hi⟩
theorem grown_set {w w' : World} {r : Nat} (h : w.grownBy w' (some r)) (o : Nat) (v : Value) : w.grownBy (w'.setCell ⟨r, o, none⟩ v) (some r) :=
  ⟨h.os, h.tape, h.output, by simpa using h.size, fun i hi hne => (Below.heap_setCell _ _ _ i (fun e => hne (by rw [e]))).trans (h.block i hi hne)⟩
theorem grown_below {w w' : World} {r B : Nat} (h : w.grownBy w' (some r)) (hB : B ≤ r) (hBw : B ≤ w.heap.size) : Below B w w' := (Below.refl _ _).grown h hBw (fun k hk => by cases hk; exact hB)

def StepR (w w' : World) (r s e o g c : Nat) (v : Int) (x : Ending) : Prop := x = .returned (.int .i64 v) ∧ Wk w' r s e o g c ∧ w.grownBy w' (some r)

set_option maxRecDepth 100000 in
set_option maxHeartbeats 4000000 in
theorem step_one (r s e o g c : Nat) (w : World) (h : Wk w r s e o g c) : Calls Try.prog 91 #[.pointer (some ⟨r, 0, none⟩), .int .i64 1] w fun x w' => StepR w w' r s e o g c 1 x := by
  have HW := Lib.hid h
  obtain ⟨hr, ⟨r0, r1, r2, r3⟩, ⟨o0, g0, g1⟩, ⟨ho, hg⟩, ha⟩ := wkL_out h.1
  have l1 := Lib.hid (show decide (bits .and .i64 1 1 = (1 : Int)) = true by decide)
  have l2 := Lib.hid (show decide (bits .and .i64 1 1 = (0 : Int)) = false by decide)
  clear h ha
  go_enter Try.func91, Try.ntmps91
  go_wp2_with fail
  go_quiet (fail)
  have HW2 := Lib.hid (show Wk (w.drewN nq) r s e o g c from HW.out)
  have HBl := Lib.hid (show w.grownBy (w.drewN nq) (some r) from grown_of (below_drewN (Below.refl _ _) _))
  clear hr r0 r1 r2 r3 o0 g0 g1 ho hg HW
  generalize w.drewN nq = W at *
  obtain ⟨hr, ⟨r0, r1, r2, r3⟩, ⟨o0, g0, g1⟩, ⟨ho, hg⟩, ha⟩ := wkL_out HW2.out.1
  obtain ⟨⟨h1, h2⟩, _, ⟨a0, a1, a2, a3, a4⟩, b0, b1, b2, b3, b4⟩ := agL_out ha
  have hf := HW2.out.2
  clear ha
  go_wp2_with fail
  refine wp_loop_rounds 3 ?_
  rw [rounds_succ]
  go_wp2_with fail
  refine (has_any 0 0 1 1 1 1 _).mono ?_
  rintro x w1 ⟨rfl, hb1⟩
  rw [l1.out]
  obtain ⟨hz, hq⟩ := box_at hb1
  have q0 : w1.cell? ⟨W.heap.size, 0, none⟩ = some (.int .i64 0) := hq 0
  have q1 : w1.cell? ⟨W.heap.size, 1, none⟩ = some (.int .i64 0) := hq 1
  have q4 : w1.cell? ⟨W.heap.size, 4, none⟩ = some (.int .i64 1) := hq 4
  have hw1 : Below W.heap.size W w1 := ((Below.refl _ _).alloc (Nat.le_refl _) _).trans (hb1.mono (by simp))
  have HW3 := Lib.hid (HW2.out.below hw1)
  have HB3 := Lib.hid (HBl.out.trans (grown_of hw1))
  clear hr r0 r1 r2 r3 o0 g0 g1 ho hg h1 h2 a0 a1 a2 a3 a4 b0 b1 b2 b3 b4 hf hq hb1 hw1 HW2
  obtain ⟨hr, ⟨r0, r1, r2, r3⟩, ⟨o0, g0, g1⟩, ⟨ho, hg⟩, ha⟩ := wkL_out HW3.out.1
  obtain ⟨⟨h1, h2⟩, _, ⟨a0, a1, a2, a3, a4⟩, b0, b1, b2, b3, b4⟩ := agL_out ha
  have hf := HW3.out.2
  clear ha
  go_wp2_with fail
  go_ret
  exact ⟨rfl, HW3.out.again, grown_set HB3.out _ _⟩

set_option maxRecDepth 100000 in
set_option maxHeartbeats 4000000 in
theorem step_zero (r s e o g c : Nat) (w : World) (h : Wk w r s e o g c) : Calls Try.prog 91 #[.pointer (some ⟨r, 0, none⟩), .int .i64 0] w fun x w' => StepR w w' r s e o g c 0 x := by
  have HW := Lib.hid h
  obtain ⟨hr, ⟨r0, r1, r2, r3⟩, ⟨o0, g0, g1⟩, ⟨ho, hg⟩, ha⟩ := wkL_out h.1
  have l1 := Lib.hid (show decide (bits .and .i64 0 1 = (1 : Int)) = false by decide)
  have l2 := Lib.hid (show decide (bits .and .i64 0 1 = (0 : Int)) = true by decide)
  clear h ha
  go_enter Try.func91, Try.ntmps91
  go_wp2_with fail
  go_quiet (fail)
  have HW2 := Lib.hid (show Wk (w.drewN nq) r s e o g c from HW.out)
  have HBl := Lib.hid (show w.grownBy (w.drewN nq) (some r) from grown_of (below_drewN (Below.refl _ _) _))
  clear hr r0 r1 r2 r3 o0 g0 g1 ho hg HW
  generalize w.drewN nq = W at *
  obtain ⟨hr, ⟨r0, r1, r2, r3⟩, ⟨o0, g0, g1⟩, ⟨ho, hg⟩, ha⟩ := wkL_out HW2.out.1
  obtain ⟨⟨h1, h2⟩, _, ⟨a0, a1, a2, a3, a4⟩, b0, b1, b2, b3, b4⟩ := agL_out ha
  have hf := HW2.out.2
  clear ha
  go_wp2_with fail
  refine wp_loop_rounds 3 ?_
  rw [rounds_succ]
  go_wp2_with fail
  refine (has_any 0 0 1 1 1 0 _).mono ?_
  rintro x w1 ⟨rfl, hb1⟩
  rw [l1.out]
  obtain ⟨hz, hq⟩ := box_at hb1
  have q0 : w1.cell? ⟨W.heap.size, 0, none⟩ = some (.int .i64 0) := hq 0
  have q1 : w1.cell? ⟨W.heap.size, 1, none⟩ = some (.int .i64 0) := hq 1
  have q4 : w1.cell? ⟨W.heap.size, 4, none⟩ = some (.int .i64 1) := hq 4
  have hw1 : Below W.heap.size W w1 := ((Below.refl _ _).alloc (Nat.le_refl _) _).trans (hb1.mono (by simp))
  have HW3 := Lib.hid (HW2.out.below hw1)
  have HB3 := Lib.hid (HBl.out.trans (grown_of hw1))
  clear hr r0 r1 r2 r3 o0 g0 g1 ho hg h1 h2 a0 a1 a2 a3 a4 b0 b1 b2 b3 b4 hf hq hb1 hw1 HW2
  obtain ⟨hr, ⟨r0, r1, r2, r3⟩, ⟨o0, g0, g1⟩, ⟨ho, hg⟩, ha⟩ := wkL_out HW3.out.1
  obtain ⟨⟨h1, h2⟩, _, ⟨a0, a1, a2, a3, a4⟩, b0, b1, b2, b3, b4⟩ := agL_out ha
  have hf := HW3.out.2
  clear ha
  go_wp2_with fail
  rw [rounds_succ]
  go_wp2_with fail
  refine (has_any 0 0 1 0 0 0 _).mono ?_
  rintro x w2 ⟨rfl, hb2⟩
  rw [l2.out]
  obtain ⟨hz', hq'⟩ := box_at hb2
  have p1 : w2.cell? ⟨w1.heap.size, 1, none⟩ = some (.int .i64 0) := hq' 1
  have p4 : w2.cell? ⟨w1.heap.size, 4, none⟩ = some (.int .i64 0) := hq' 4
  have hw2 : Below w1.heap.size w1 w2 := ((Below.refl _ _).alloc (Nat.le_refl _) _).trans (hb2.mono (by simp))
  have HW4 := Lib.hid (HW3.out.below hw2)
  have HB4 := Lib.hid (HB3.out.trans (grown_of hw2))
  clear hr r0 r1 r2 r3 o0 g0 g1 ho hg h1 h2 a0 a1 a2 a3 a4 b0 b1 b2 b3 b4 hf hq' hb2 hw2 q0 q1 q4 hz
  obtain ⟨hr, ⟨r0, r1, r2, r3⟩, ⟨o0, g0, g1⟩, ⟨ho, hg⟩, ha⟩ := wkL_out HW4.out.1
  have hf := HW4.out.2
  clear ha
  go_wp2_with fail
  go_ret
  exact ⟨rfl, HW4.out.again, grown_set HB4.out _ _⟩

end Go.Proofs.Ytfblnadmbfhjiaa.Wd

namespace Go.Proofs.Ytfblnadmbfhjiaa.Wd
open Go.RowKit
set_option linter.unusedVariables false

/-- Ints outside block r. -/
def IntsN (r : Nat) (w : World) (A : Option Addr) (n : Nat) (xs : List Int) : Prop :=
  xs.length = n ∧ (0 < n → ∃ b off, A = some ⟨b, off, none⟩ ∧ (b < w.heap.size ∧ b ≠ r) ∧ ∀ j, j < n → w.cell? ⟨b, off + j, none⟩ = some (.int .i64 (xs.getD j 0)))
theorem IntsN.grown {r n : Nat} {w w' : World} {A : Option Addr} {xs : List Int} (h : IntsN r w A n xs) (hb : w.grownBy w' (some r)) : IntsN r w' A n xs := ⟨h.1, fun hn => by
  obtain ⟨b, off, e, hlt, hc⟩ := h.2 hn
  exact ⟨b, off, e, ⟨Nat.lt_of_lt_of_le hlt.1 hb.size, hlt.2⟩, fun j hj => (hb.cell_far ⟨b, off + j, none⟩ hlt.1 (fun e => hlt.2 (by cases e; rfl))).trans (hc j hj)⟩⟩
theorem IntsN.below {r n : Nat} {w w' : World} {A : Option Addr} {xs : List Int} (h : IntsN r w A n xs) (hb : Below w.heap.size w w') : IntsN r w' A n xs := h.grown (grown_of hb)

/-- Is there a letter 1? -/
def oneL (xs : List Int) : Int := if 1 ∈ xs then 1 else 0
theorem oneL_cases (xs : List Int) : oneL xs = 0 ∨ oneL xs = 1 := by unfold oneL; split; exact .inr rfl; exact .inl rfl
theorem or_table : ∀ a : Fin 2, ∀ b : Fin 2, bits .or .i64 ((a.val : Nat) : Int) ((b.val : Nat) : Int) = ((max a.val b.val : Nat) : Int) := by decide +kernel
theorem oneL_snoc {xs : List Int} {l : Int} (hl : l = 0 ∨ l = 1) : bits .or .i64 (oneL xs) l = oneL (xs ++ [l]) := by
  unfold oneL
  by_cases h : (1 : Int) ∈ xs
  · rw [if_pos h, if_pos (by simp [h])]
    rcases hl with rfl | rfl
    · exact or_table 1 0
    · exact or_table 1 1
  · rw [if_neg h]
    rcases hl with rfl | rfl
    · rw [if_neg (by simp [h])]
      exact or_table 0 0
    · rw [if_pos (by simp)]
      exact or_table 0 1

set_option maxRecDepth 100000 in
set_option maxHeartbeats 4000000 in
theorem read_ag (r s e o g c : Nat) (A : Option Addr) (n d : Nat) (xs : List Int) (w : World) (h : Wk w r s e o g c) (hx : IntsN r w A n xs) (hl : ∀ x ∈ xs, x = 0 ∨ x = 1) (hn : n ≤ 100000) :
    Calls Try.prog 79 #[.pointer (some ⟨r, 0, none⟩), .slice A n d] w fun x w' => StepR w w' r s e o g c (oneL xs) x := by
  have HW := Lib.hid h
  have HX := Lib.hid hx
  have HL := Lib.hid hl
  have hxl := Lib.hid hx.1
  clear h hx hl
  go_enter Try.func79, Try.ntmps79
  go_wp2_with fail
  go_loopg [5, 10] n (fun q m i wx => ∃ t : Nat, t + q = n ∧ i = .int .i64 t ∧ m = .int .i64 (oneL (xs.take t)) ∧ Hid (Wk wx r s e o g c) ∧ Hid (w.grownBy wx (some r)))
  case atStart => exact ⟨0, by omega, rfl, rfl, HW, World.grownBy.refl w _⟩
  case round =>
    obtain ⟨t, htq, rfl, rfl, HWr, HBr⟩ := hrel
    have hti : (0 : Int) ≤ (t : Int) := by omega
    cases gk with
    | zero =>
      obtain rfl : n = t := by omega
      have HT := Lib.hid (List.take_of_length_le (l := xs) (i := n) (by have := hxl.out; omega))
      go_wp2_with fail
      go_ret
      exact ⟨ret_int (by rw [HT.out]), HWr.out, HBr.out⟩
    | succ q =>
      have ht1 : t < n := by omega
      have hti2 : (t : Int) < (n : Int) := by omega
      obtain ⟨bA, oA, hAe, ⟨hlt, _⟩, hcell⟩ := (HX.out.grown HBr.out).2 (by omega)
      subst hAe
      have hct := hcell t ht1
      have hmem : xs.getD t 0 = 0 ∨ xs.getD t 0 = 1 := by
        have ht2 : t < xs.length := by have := hxl.out; omega
        rw [List.getD_eq_getElem?_getD, List.getElem?_eq_getElem ht2]
        exact HL.out _ (List.getElem_mem ht2)
      have hsn : xs.take (t + 1) = xs.take t ++ [xs.getD t 0] := by
        have ht2 : t < xs.length := by have := hxl.out; omega
        rw [List.take_succ_eq_append_getElem ht2, List.getD_eq_getElem?_getD, List.getElem?_eq_getElem ht2]
        rfl
      generalize xs.getD t 0 = l at *
      have hor := oneL_snoc (xs := xs.take t) hmem
      rw [← hsn] at hor
      have HST := Lib.hid (show Calls Try.prog 91 #[.pointer (some ⟨r, 0, none⟩), .int .i64 l] wr fun x w' => StepR wr w' r s e o g c l x from by
        rcases hmem with rfl | rfl
        · exact step_zero r s e o g c wr HWr.out
        · exact step_one r s e o g c wr HWr.out)
      obtain ⟨M, hM⟩ : ∃ M, oneL (xs.take t) = M := ⟨_, rfl⟩
      rw [hM] at hor
      rw [hM]
      clear hM hsn hmem hcell
      go_wp2_with fail
      refine HST.out.mono ?_
      rintro x w1 ⟨rfl, hw1, hb1⟩
      have HW1 := Lib.hid hw1
      have HB1 := Lib.hid (HBr.out.trans hb1)
      clear hw1 hb1
      go_wp2_with fail
      go_roundg q
      case measure => omega
      case rel => exact ⟨t + 1, by omega, by go_num, by first | rfl | rw [hor], HW1, HB1⟩

theorem union_one (a : Addr) (d : Nat) (x : Int) (w : World) (hc : w.cell? a = some (.int .i64 x)) (hs : a.spot = none) (hx : x = 0 ∨ x = 1) :
    Calls Try.prog 80 #[.slice (some a) 1 d] w fun e w' => e = .returned (.int .i64 x) ∧ w = w' := by
  obtain ⟨b, o, sp⟩ := a
  simp only at hs
  subst hs
  have hor : bits .or .i64 0 x = x := by rcases hx with rfl | rfl <;> decide
  go_enter Try.func80, Try.ntmps80
  go_wp2_with fail
  refine wp_loop_rounds 2 ?_
  rw [rounds_succ]
  go_wp2_with fail
  rw [rounds_succ]
  go_wp2_with fail
  go_ret
  exact ⟨rfl, rfl⟩

end Go.Proofs.Ytfblnadmbfhjiaa.Wd

namespace Go.Proofs.Ytfblnadmbfhjiaa.Wd
open Go.RowKit Go.Maps
set_option linter.unusedVariables false

theorem map_below {w1 w2 : World} {o : Obj} (hg : (w1.alloc o).grownBy w2 (some w1.heap.size)) : Below w1.heap.size w1 w2 :=
  ((Below.refl _ _).alloc (Nat.le_refl _) o).grown hg (by simp) (fun k hk => by cases hk; exact Nat.le_refl _)

theorem ints_one (w : World) (x : Int) (t : TypeId) : Ints (w.alloc (.cells #[.int .i64 x] t)) (some ⟨w.heap.size, 0, none⟩) 1 [x] := one_new w w.heap.size rfl x t

theorem lawInt : Keyed Try.prog 3 := int_keyed Try.underlying3
theorem zeroInt (w : World) : (zeroValue 3).run Try.prog w = .ok (.int .i64 0) w := by kernel_rfl
theorem keyInt0 : keyOf Try.prog 3 (.int .i64 0) = some (.int .i64 0) := keyOf_int_mk Try.underlying3 (by decide)

theorem at_zero : ((DataW.map (H := Nat) []).put (.int .i64 0) (.lit (.int .i64 0))).atKey (.int .i64 0) (.lit (.int .i64 0)) = .lit (.int .i64 0) := by rfl

set_option maxRecDepth 100000 in
set_option maxHeartbeats 4000000 in
theorem walk_ag (r s e o g c : Nat) (A B : Option Addr) (n cA m dB : Nat) (st lp : List Int) (w : World) (h : Wk w r s e o g c) (hs : IntsN r w A n st) (hl : IntsN r w B m lp) (hs1 : ∀ x ∈ st, x = 0 ∨ x = 1) (hl1 : ∀ x ∈ lp, x = 0 ∨ x = 1) (hn : n ≤ 100000) (hm : m ≤ 100000) :
    Calls Try.prog 50 #[.pointer (some ⟨r, 0, none⟩), .agg #[.slice A n cA, .slice B m dB]] w fun x w' => x = .returned (.tuple #[.int .i64 (oneL lp), .bool false]) ∧ w.grownBy w' (some r) := by
  obtain ⟨i0, hi, hi0, hi1, hi2⟩ := info_parts int_row
  have hmm := @run_makeMap Try.prog
  have hr : r < w.heap.size := (wkL_out h.1).1
  have HR1 := Lib.hid (fun W (hW : Below w.heap.size w W) => read_ag r s e o g c A n cA st W (h.below hW) (hs.below hW) hs1 hn)
  have HR2 := Lib.hid (fun W (hk : Wk W r s e o g c) (hW : w.grownBy W (some r)) => read_ag r s e o g c B m dB lp W hk (hl.grown hW) hl1 hm)
  clear hs hl hs1 hl1 h
  go_enter Try.func50, Try.ntmps50
  go_wp2_with fail
  refine (HR1.out _ ((Below.refl _ _).alloc (Nat.le_refl _) _)).mono ?_
  rintro x w1 ⟨rfl, hw1, hg1⟩
  have p0 : w1.cell? ⟨w.heap.size, 0, none⟩ = some (.slice A n cA) := (hg1.cell_far ⟨w.heap.size, 0, none⟩ (by simp) (by simp; omega)).trans (by rw [box_last]; rfl)
  have p1 : w1.cell? ⟨w.heap.size, 1, none⟩ = some (.slice B m dB) := (hg1.cell_far ⟨w.heap.size, 1, none⟩ (by simp) (by simp; omega)).trans (by rw [box_last]; rfl)
  have hz1 : w.heap.size < w1.heap.size := by have := hg1.size; simp at this; omega
  have HG1 := Lib.hid (show w.grownBy w1 (some r) from (grown_of ((Below.refl _ _).alloc (Nat.le_refl _) _)).trans hg1)
  have HW1 := Lib.hid hw1
  obtain ⟨hr1, ⟨r0, r1, r2, r3⟩, _⟩ := wkL_out hw1.1
  clear hw1 hg1
  have hown0 := World.ownsMap_made (H := Nat) w1 Try.prog 3 (plainElem Try.prog 3)
  have hh0 : Maps.has (DataW.map (H := Nat) []) (.int .i64 0) = false := rfl
  go_wp2_with fail
  refine wp_loop_rounds 2 ?_
  rw [rounds_succ]
  go_wp2_with (first
    | (at_lookup; refine wpList_lookup_own_ok_int _ rfl _ _ 41 rfl 3 3 .i64 lawInt Try.underlying41 Try.underlying3 (zeroInt _) w1.heap.size 0 _ rfl hown0 _ _ rfl keyInt0 ?_; intro cc hat hwc)
    | (at_mapUpdate; refine wpList_mapUpdate_own _ rfl _ _ _ 41 rfl 3 3 lawInt Try.underlying41 _ w1.heap.size 0 _ rfl hown0 (by unfold maxLen; omega) _ _ _ rfl rfl keyInt0 _ [] (plainElem_int Try.underlying3 (by decide)) ?_; intro w2 hown1 hgrow1
       have hb2 := map_below hgrow1
       have q1 : w2.cell? ⟨w.heap.size, 1, none⟩ = some (.slice B m dB) := (hb2.cell (p := ⟨w.heap.size, 1, none⟩) hz1).trans p1
       have hz2 : w.heap.size < w2.heap.size := Nat.lt_of_lt_of_le hz1 hb2.size
       have HW2 := Lib.hid (HW1.out.below hb2)
       have HG2 := Lib.hid (HG1.out.trans (grown_of hb2))
       have HM2 := Lib.hid hown1
       have hr1' : r < w1.heap.size := hr1
       clear hown1 hgrow1 hb2 hown0 p0 p1 hz1 r0 r1 r2 r3 hh0 hat hwc))
  refine (HR2.out _ HW2.out HG2.out).mono ?_
  rintro x w3 ⟨rfl, hw3, hg3⟩
  have HW3 := Lib.hid hw3
  have HG3 := Lib.hid (HG2.out.trans hg3)
  have HM3 := Lib.hid (HM2.out.kept hg3 (by simp; omega))
  have hz3 : w1.heap.size < w3.heap.size := HM3.out.lt
  obtain ⟨M, hM⟩ : ∃ M, oneL lp = M := ⟨_, rfl⟩
  have hMc : M = 0 ∨ M = 1 := by rw [← hM]; exact oneL_cases lp
  have HM0 := Lib.hid hM
  rw [hM]
  clear hw3 hg3 q1 hz2 hM
  go_wp2_with (at_builtin; refine wpList_append_ints _ (by rfl) _ _ 22 (by rfl) w3.heap.size 3 i0 _ Try.underlying22 hi hi0 hi1 hi2 rfl (.slice none 0 0) 0 [] (by rfl) (World.ownsRow_nil _ _ _ _) (some ⟨w3.heap.size, 0, none⟩) 1 1 [M] (by rfl) (ints_one w3 M _) (by omega) (by simp) ?_
               intro v' w4 hown hgrow hat)
  have hb4 : Below w3.heap.size w3 w4 := ((Below.refl _ _).alloc (Nat.le_refl _) _).trans (below_own (World.ownsRow_nil _ _ 3 1) hgrow (by simp))
  obtain ⟨gb, cap, rfl, hv2, hlt⟩ := hown.form (by omega)
  have q4 := hown.cells (g := gb) rfl 0 (.int .i64 M) (by simp)
  rw [Addr.add_lit] at q4
  have HW4 := Lib.hid (HW3.out.below hb4)
  have HG4 := Lib.hid (HG3.out.trans (grown_of hb4))
  have HM4 := Lib.hid (HM3.out.kept (row := none) (grown_of hb4) (by simp))
  obtain ⟨hr4, ⟨r0, r1, r2, r3⟩, _⟩ := wkL_out HW4.out.1
  clear hown hgrow hat hb4 HW3 HG3 HM3 HW2 HG2 HM2
  rw [rounds_succ]
  have hown4 := HM4.out
  have hh4 : Maps.has ((DataW.map (H := Nat) []).put (.int .i64 0) (.lit (.int .i64 0))) (.int .i64 0) = true := rfl
  go_wp2_with (at_lookup; refine wpList_lookup_own_ok_int _ rfl _ _ 41 rfl 3 3 .i64 lawInt Try.underlying41 Try.underlying3 (zeroInt _) w1.heap.size 1 _ rfl hown4 _ _ rfl keyInt0 ?_; intro cd hat hwc
               rw [at_zero] at hat
               cases hat
               clear hwc hown4)
  refine (union_one ⟨gb, 0, none⟩ _ M _ q4 rfl hMc).mono ?_
  rintro x w5 ⟨rfl, rfl⟩
  go_wp2_with fail
  go_ret2
  exact ⟨by rw [HM0.out]; rfl, HG4.out⟩

end Go.Proofs.Ytfblnadmbfhjiaa.Wd

namespace Go.Proofs.Ytfblnadmbfhjiaa.Wd
open Go.RowKit
set_option linter.unusedVariables false

/-- Does an edge have that letter? -/
def letB (l : Int) (e : Ed) : Bool := decide (bits .and .i64 l e.c = e.b)
/-- Of the first k edges those from s with the letter l. -/
def outL (es : List Ed) (s l : Int) (k : Nat) : List Int := ((List.range k).filter fun j => decide ((es.getD j ed0).f = s) && letB l (es.getD j ed0)).map fun (j : Nat) => (j : Int)
theorem outL_zero (es : List Ed) (s l : Int) : outL es s l 0 = [] := rfl
theorem outL_yes {es : List Ed} {s l : Int} {k : Nat} (h : (es.getD k ed0).f = s) (h2 : letB l (es.getD k ed0) = true) : outL es s l (k + 1) = outL es s l k ++ [(k : Int)] := by
  unfold outL
  rw [List.range_succ, List.filter_append, List.map_append]
  simp only [List.filter_cons, List.filter_nil, h, h2, decide_true, Bool.and_self, if_true, List.map_cons, List.map_nil]
theorem outL_far {es : List Ed} {s l : Int} {k : Nat} (h : ¬ (es.getD k ed0).f = s) : outL es s l (k + 1) = outL es s l k := by
  unfold outL
  rw [List.range_succ, List.filter_append, List.map_append]
  simp only [List.filter_cons, List.filter_nil, decide_eq_false h, Bool.false_and, Bool.false_eq_true, if_false, List.map_nil, List.append_nil]
theorem outL_no {es : List Ed} {s l : Int} {k : Nat} (h : letB l (es.getD k ed0) = false) : outL es s l (k + 1) = outL es s l k := by
  unfold outL
  rw [List.range_succ, List.filter_append, List.map_append]
  simp only [List.filter_cons, List.filter_nil, h, Bool.and_false, Bool.false_eq_true, if_false, List.map_nil, List.append_nil]
theorem outL_len (es : List Ed) (s l : Int) (k : Nat) : (outL es s l k).length ≤ k := by
  unfold outL
  rw [List.length_map]
  exact Nat.le_trans (List.length_filter_le _ _) (by simp)

theorem own_below' {B : Nat} {e : TypeId} {k : Nat} {v : Value} {n : Nat} {xs : List Value} {w w' : World} (h : w.ownsRow B e k v n xs) (hb : Below w.heap.size w w') : w'.ownsRow B e k v n xs :=
  h.kept (row := none) ⟨hb.os, hb.tape, hb.output, hb.size, fun j hj _ => hb.block j hj⟩ (by cases hv : v.ownBlock <;> simp)
theorem own_le' {W : World} {base base' size n : Nat} {e : TypeId} {v : Value} {xs : List Value} (h : W.ownsRow base e size v n xs) (hb : base' ≤ base) : W.ownsRow base' e size v n xs :=
  ⟨h.1, h.2.imp id fun ⟨g, cap, cur, hv, hB, r⟩ => ⟨g, cap, cur, hv, Nat.le_trans hb hB, r⟩⟩

theorem refReads_any (f t c b m l : Int) (w : World) : Calls Try.prog 55 #[.agg #[.int .i64 f, .int .i64 t, .int .i64 c, .int .i64 b, .int .i64 m], .int .i64 l] w fun r w' => r = .returned (.bool (letB l ⟨f, t, c, b, m⟩)) ∧ Below w.heap.size w w' := by
  go_enter Try.func55, Try.ntmps55
  go_wp2_with fail
  go_ret
  exact ⟨ret_bool (by first | rfl | simp [letB]), (Below.refl _ _).alloc (Nat.le_refl _) _⟩
theorem has_letB (f t c b m l : Int) (w : World) : Calls Try.prog 42 #[.agg #[.int .i64 f, .int .i64 t, .int .i64 c, .int .i64 b, .int .i64 m], .int .i64 l] w fun r w' => r = .returned (.bool (letB l ⟨f, t, c, b, m⟩)) ∧ Below w.heap.size w w' := has_any f t c b m l w

set_option maxRecDepth 100000 in
set_option maxHeartbeats 4000000 in
theorem refOut_any (P S K M s l : Int) (A E : Option Addr) (n c ne ce : Nat) (es : List Ed) (w : World) (hE : EdgesAt w E ne es) (hne : ne ≤ 40000) :
    Calls Try.prog 32 #[.agg #[.int .i64 P, .int .i64 S, .slice A n c, .int .i64 K, .int .i64 M, .slice E ne ce], .int .i64 s, .int .i64 l] w fun e w' => ∃ v, e = .returned v ∧ w'.ownsRow w.heap.size 3 1 v (outL es s l ne).length ((outL es s l ne).map (Value.int .i64)) ∧ Below w.heap.size w w' := by
  obtain ⟨i0, hi, hi0, hi1, hi2⟩ := info_parts int_row
  have HA := Lib.hid hE
  clear hE
  go_enter Try.func32, Try.ntmps32
  go_wp2_with fail
  obtain ⟨W0, hW0⟩ : ∃ W0, w.alloc (.cells #[.int .i64 P, .int .i64 S, .slice A n c, .int .i64 K, .int .i64 M, .slice E ne ce] 25) = W0 := ⟨_, rfl⟩
  have hz : w.heap.size < W0.heap.size := by rw [← hW0]; simp
  have HB0 := Lib.hid (show Below w.heap.size w W0 by rw [← hW0]; exact (Below.refl _ _).alloc (Nat.le_refl _) _)
  rw [hW0]
  clear hW0
  go_loopg [7, 13] ne (fun g v i wx => ∃ t : Nat, t + g = ne ∧ i = .int .i64 t ∧ Hid (wx.ownsRow W0.heap.size 3 1 v (outL es s l t).length ((outL es s l t).map (Value.int .i64))) ∧ Hid (Below W0.heap.size W0 wx))
  case atStart => exact ⟨0, by omega, rfl, World.ownsRow_nil _ _ _ _, Below.refl _ _⟩
  case round =>
    obtain ⟨t, htg, rfl, HO, HBx⟩ := hrel
    have hti : (0 : Int) ≤ (t : Int) := by omega
    have HBw := Lib.hid (HB0.out.trans (HBx.out.mono HB0.out.size))
    have hzr := Nat.lt_of_lt_of_le hz HBx.out.size
    cases gk with
    | zero =>
      obtain rfl : ne = t := by omega
      go_wp2_with fail
      go_ret
      exact ⟨_, rfl, own_le' HO.out (Nat.le_of_lt hz), HBw.out⟩
    | succ q =>
      have ht1 : t < ne := by omega
      have hti2 : (t : Int) < (ne : Int) := by omega
      obtain ⟨b, off, rfl, hlt, hcell⟩ := (HA.out.below HBw.out).2 (by omega)
      obtain ⟨c0, c1, c2, c3, c4⟩ := hcell t ht1
      have HY := Lib.hid (fun a b => outL_yes (es := es) (s := s) (l := l) (k := t) a b)
      have HF := Lib.hid (fun a => outL_far (es := es) (s := s) (l := l) (k := t) a)
      have HN := Lib.hid (fun a => outL_no (es := es) (s := s) (l := l) (k := t) a)
      have HLN := Lib.hid (outL_len es s l t)
      generalize es.getD t ed0 = x at *
      obtain ⟨ef, et, ec, eb, em⟩ := x
      simp only at c0 c1 c2 c3 c4
      clear hcell
      by_cases hs : ef = s
      · have HRD := Lib.hid (fun w => refReads_any ef et ec eb em l w)
        obtain ⟨rb, hrb, HRB⟩ : ∃ rb, letB l ⟨ef, et, ec, eb, em⟩ = rb ∧ Hid (letB l ⟨ef, et, ec, eb, em⟩ = rb) := ⟨_, rfl, rfl⟩
        rw [hrb] at HRD
        clear hrb
        have HS := Lib.hid hs
        subst hs
        go_wp2_with fail
        refine (HRD.out _).mono ?_
        rintro r w3 ⟨rfl, hb3⟩
        have HB3 := Lib.hid (((HBx.out.alloc HBx.out.size _).trans (hb3.mono (HBx.out.alloc HBx.out.size _).size)))
        have HO3 := Lib.hid (own_below' (HO.out.alloc _) hb3)
        clear hb3
        cases rb
        · have HN2 := Lib.hid (HN.out HRB.out)
          go_wp2_with fail
          go_roundg q
          case measure => omega
          case rel => exact ⟨t + 1, by omega, by go_num, (by rw [HN2.out]; exact HO3.out), HB3.out⟩
        · have HY2 := Lib.hid (HY.out (by trivial) HRB.out)
          go_wp2_with (at_builtin; refine wpList_append_ints _ (by rfl) _ _ 22 (by rfl) W0.heap.size 3 i0 _ Try.underlying22 hi hi0 hi1 hi2 rfl u7 (outL es ef l t).length ((outL es ef l t).map (Value.int .i64)) (by rfl) (by exact HO3.out.alloc _) (some ⟨w3.heap.size, 0, none⟩) 1 1 [(t : Int)] (by rfl) (ints_one w3 t _) (by have := HLN.out; omega) (by exact (HB3.out.alloc HB3.out.size _).size) ?_)
          intro v' w4 hown hgrow _
          have HB4 := Lib.hid ((HB3.out.alloc HB3.out.size (.cells #[.int .i64 t] 3)).trans (below_own (HO3.out.alloc _) hgrow (HB3.out.alloc HB3.out.size _).size))
          have HO4 := Lib.hid hown
          clear hown hgrow
          go_wp2_with fail
          go_roundg q
          case measure => omega
          case rel => exact ⟨t + 1, by omega, by go_num, (by rw [HY2.out]; have := HO4.out; rw [List.length_append, List.map_append]; exact this), HB4.out⟩
      · have HF2 := Lib.hid (HF.out hs)
        have hs2 : (ef == s) = false := by simpa using hs
        go_wp2_with fail
        go_roundg q
        case measure => omega
        case rel => exact ⟨t + 1, by omega, by go_num, (by rw [HF2.out]; exact HO.out.alloc _), HBx.out.alloc HBx.out.size _⟩

end Go.Proofs.Ytfblnadmbfhjiaa.Wd

namespace Go.Proofs.Ytfblnadmbfhjiaa.Wd
open Go.RowKit
set_option linter.unusedVariables false

theorem autB_true {P S K M : Int} {st : List Int} {es : List Ed} (h : autB P S K M st es = true) : headP P S K ∧ marksB K M = true ∧ startB S st = true ∧ es.length ≤ 40000 ∧ edgesB P.toNat S M.toNat es = true := by
  unfold autB listsB at h
  simp only [Bool.and_eq_true] at h
  exact ⟨of_decide_eq_true h.1, h.2.1, h.2.2.1, of_decide_eq_true h.2.2.2.1, h.2.2.2.2⟩

/-- What Step comes to: the list and the error. -/
def PickR (P S K M : Int) (st : List Int) (es : List Ed) (s l : Int) (L : List Int) (code : Int) : Prop :=
  (autB P S K M st es = false ∧ L = [] ∧ code = 1) ∨ (autB P S K M st es = true ∧ ¬ (0 ≤ s ∧ s < S ∧ 0 ≤ l ∧ l < 2 ^ P.toNat) ∧ L = [] ∧ code = 6) ∨
  (autB P S K M st es = true ∧ (0 ≤ s ∧ s < S ∧ 0 ≤ l ∧ l < 2 ^ P.toNat) ∧ L = outL es s l es.length ∧ code = 0)
theorem PickR.unique {P S K M : Int} {st : List Int} {es : List Ed} {s l : Int} {L L' : List Int} {c c' : Int} (h : PickR P S K M st es s l L c) (h' : PickR P S K M st es s l L' c') : L = L' ∧ c = c' := by
  rcases h with ⟨a1, rfl, rfl⟩ | ⟨a1, a2, rfl, rfl⟩ | ⟨a1, a2, rfl, rfl⟩ <;> rcases h' with ⟨b1, rfl, rfl⟩ | ⟨b1, b2, rfl, rfl⟩ | ⟨b1, b2, rfl, rfl⟩
  all_goals first | exact ⟨rfl, rfl⟩ | exact absurd b2 a2 | exact absurd a2 b2 | (rw [a1] at b1; cases b1)
def ResS (w w' : World) (P S K M : Int) (st : List Int) (es : List Ed) (s l : Int) (e : Ending) : Prop :=
  ∃ v L code, e = .returned (.tuple #[v, .int .i64 code]) ∧ w'.ownsRow w.heap.size 3 1 v L.length (L.map (Value.int .i64)) ∧ Hid (PickR P S K M st es s l L code) ∧ Below w.heap.size w w'
theorem boxB {w w1 : World} {cs : Array Value} {t : TypeId} (hb : Below (w.alloc (.cells cs t)).heap.size (w.alloc (.cells cs t)) w1) : Below w.heap.size w w1 := ((Below.refl _ _).alloc (Nat.le_refl _) _).trans (hb.mono (by simp))

set_option maxRecDepth 100000 in
set_option maxHeartbeats 2000000 in
theorem step_bad (P S K M s l : Int) (A E : Option Addr) (n c ne ce : Nat) (st : List Int) (es : List Ed) (w : World) (ha : Ints w A n st) (hn : n ≤ 17592186044416) (he : EdgesAt w E ne es) (hne : ne ≤ 17592186044416) (hv : autB P S K M st es = false) :
    Calls Try.prog 16 #[.agg #[.int .i64 P, .int .i64 S, .slice A n c, .int .i64 K, .int .i64 M, .slice E ne ce], .int .i64 s, .int .i64 l] w fun e w' => ResS w w' P S K M st es s l e := by
  have HV := Lib.hid (fun W (hW : Below w.heap.size w W) => autValid_any P S K M A E n c ne ce st es W (ha.below hW) hn (he.below hW) hne)
  have HF := Lib.hid hv
  rw [hv] at HV
  clear hv ha he
  go_enter Try.func16, Try.ntmps16
  go_wp2_with fail
  refine (HV.out _ ((Below.refl _ _).alloc (Nat.le_refl _) _)).mono ?_
  rintro r w1 ⟨rfl, hb1⟩
  have HB1 := Lib.hid (boxB hb1)
  clear hb1
  go_wp2_with fail
  go_ret2
  exact ⟨_, [], 1, rfl, World.ownsRow_nil _ _ _ _, .inl ⟨HF.out, rfl, rfl⟩, HB1.out⟩

set_option maxRecDepth 100000 in
set_option maxHeartbeats 4000000 in
theorem step_range (p : Nat) (S K M s l : Int) (A E : Option Addr) (n c ne ce : Nat) (st : List Int) (es : List Ed) (w : World) (ha : Ints w A n st) (hn : n ≤ 17592186044416) (he : EdgesAt w E ne es) (hne : ne ≤ 17592186044416) (hp : p ≤ 6) (hv : autB p S K M st es = true)
    (hr : ¬ (0 ≤ s ∧ s < S ∧ 0 ≤ l ∧ l < 2 ^ p)) :
    Calls Try.prog 16 #[.agg #[.int .i64 p, .int .i64 S, .slice A n c, .int .i64 K, .int .i64 M, .slice E ne ce], .int .i64 s, .int .i64 l] w fun e w' => ResS w w' p S K M st es s l e := by
  have HV := Lib.hid (fun W (hW : Below w.heap.size w W) => autValid_any p S K M A E n c ne ce st es W (ha.below hW) hn (he.below hW) hne)
  have HF := Lib.hid hv
  have HR := Lib.hid hr
  have HX := Lib.hid (Box6.new w p S A n c K M E ne ce 25)
  rw [hv] at HV
  obtain ⟨PP, hPP, HPP⟩ : ∃ X : Int, IntKind.i64.wrap ((2 : Int) ^ p) = X ∧ Hid ((2 : Int) ^ p = X) := ⟨_, pow_wrap6 hp, rfl⟩
  rw [HPP.out] at hr
  have hp0 : (0 : Int) ≤ (p : Int) := by omega
  have hp6 : (p : Int) ≤ 6 := by omega
  have hcase : s < 0 ∨ (0 ≤ s ∧ S ≤ s) ∨ (0 ≤ s ∧ s < S ∧ l < 0) ∨ (0 ≤ s ∧ s < S ∧ 0 ≤ l ∧ PP ≤ l) := by omega
  clear hv ha he hr
  rcases hcase with h | ⟨h, h2⟩ | ⟨h, h2, h3⟩ | ⟨h, h2, h3, h4⟩
  all_goals
    go_enter Try.func16, Try.ntmps16
    go_wp2_with fail
    refine (HV.out _ ((Below.refl _ _).alloc (Nat.le_refl _) _)).mono ?_
    rintro r w1 ⟨rfl, hb1⟩
    obtain ⟨hz, p0, p1, p2, p3, p4, p5⟩ := HX.out.below hb1
    have HB1 := Lib.hid (boxB hb1)
    clear hb1
    go_wp2_with fail
    go_ret2
    exact ⟨_, [], 6, rfl, World.ownsRow_nil _ _ _ _, .inr (.inl ⟨HF.out, HR.out, rfl, rfl⟩), HB1.out⟩

set_option maxRecDepth 100000 in
set_option maxHeartbeats 4000000 in
theorem step_good (p : Nat) (S K M s l : Int) (A E : Option Addr) (n c ne ce : Nat) (st : List Int) (es : List Ed) (w : World) (ha : Ints w A n st) (hn : n ≤ 17592186044416) (hE : EdgesAt w E ne es) (hne : ne ≤ 40000) (hp : p ≤ 6) (hv : autB p S K M st es = true)
    (hr : 0 ≤ s ∧ s < S ∧ 0 ≤ l ∧ l < 2 ^ p) :
    Calls Try.prog 16 #[.agg #[.int .i64 p, .int .i64 S, .slice A n c, .int .i64 K, .int .i64 M, .slice E ne ce], .int .i64 s, .int .i64 l] w fun e w' => ResS w w' p S K M st es s l e := by
  obtain ⟨i0, hi, hi0, hi1, hi2⟩ := info_parts int_row
  have HV := Lib.hid (fun W (hW : Below w.heap.size w W) => autValid_any p S K M A E n c ne ce st es W (ha.below hW) hn (hE.below hW) (by omega))
  have HV2 := Lib.hid hv
  have HR := Lib.hid hr
  have HX := Lib.hid (Box6.new w p S A n c K M E ne ce 25)
  have HA := Lib.hid hE
  have HL := Lib.hid hE.1
  rw [hv] at HV
  obtain ⟨PP, hPP, HPP⟩ : ∃ X : Int, IntKind.i64.wrap ((2 : Int) ^ p) = X ∧ Hid ((2 : Int) ^ p = X) := ⟨_, pow_wrap6 hp, rfl⟩
  rw [HPP.out] at hr
  have hp0 : (0 : Int) ≤ (p : Int) := by omega
  have hp6 : (p : Int) ≤ 6 := by omega
  obtain ⟨h, h2, h3, h4⟩ := hr
  clear hv ha hE
  go_enter Try.func16, Try.ntmps16
  go_wp2_with fail
  refine (HV.out _ ((Below.refl _ _).alloc (Nat.le_refl _) _)).mono ?_
  rintro r W0 ⟨rfl, hb1⟩
  obtain ⟨hz, p0, p1, p2, p3, p4, p5⟩ := HX.out.below hb1
  have HB0 := Lib.hid (boxB hb1)
  clear hb1 HX HV
  go_wp2_with fail
  clear p0 p1 p2 p3 p4 p5
  go_loopg [8, 36] ne (fun g v i wx => ∃ t : Nat, t + g = ne ∧ i = .int .i64 t ∧ Hid (wx.ownsRow W0.heap.size 3 1 v (outL es s l t).length ((outL es s l t).map (Value.int .i64))) ∧ Hid (Below W0.heap.size W0 wx))
  case atStart => exact ⟨0, by omega, rfl, World.ownsRow_nil _ _ _ _, Below.refl _ _⟩
  case round =>
    obtain ⟨t, htg, rfl, HO, HBx⟩ := hrel
    have hti : (0 : Int) ≤ (t : Int) := by omega
    have HBw := Lib.hid (HB0.out.trans (HBx.out.mono HB0.out.size))
    have hzr := Nat.lt_of_lt_of_le hz HBx.out.size
    cases gk with
    | zero =>
      obtain rfl : ne = t := by omega
      go_wp2_with fail
      go_ret2
      refine ⟨_, _, 0, rfl, own_le' HO.out HB0.out.size, .inr (.inr ⟨HV2.out, HR.out, ?_, rfl⟩), HBw.out⟩
      rw [HL.out]
    | succ q =>
      have ht1 : t < ne := by omega
      have hti2 : (t : Int) < (ne : Int) := by omega
      obtain ⟨b, off, rfl, hlt, hcell⟩ := (HA.out.below HBw.out).2 (by omega)
      obtain ⟨c0, c1, c2, c3, c4⟩ := hcell t ht1
      have HY := Lib.hid (fun a b => outL_yes (es := es) (s := s) (l := l) (k := t) a b)
      have HF := Lib.hid (fun a => outL_far (es := es) (s := s) (l := l) (k := t) a)
      have HN := Lib.hid (fun a => outL_no (es := es) (s := s) (l := l) (k := t) a)
      have HLN := Lib.hid (outL_len es s l t)
      generalize es.getD t ed0 = x at *
      obtain ⟨ef, et, ec, eb, em⟩ := x
      simp only at c0 c1 c2 c3 c4
      clear hcell
      by_cases hs : ef = s
      · have HRD := Lib.hid (fun w => has_letB ef et ec eb em l w)
        obtain ⟨rb, hrb, HRB⟩ : ∃ rb, letB l ⟨ef, et, ec, eb, em⟩ = rb ∧ Hid (letB l ⟨ef, et, ec, eb, em⟩ = rb) := ⟨_, rfl, rfl⟩
        rw [hrb] at HRD
        clear hrb
        subst hs
        go_wp2_with fail
        refine (HRD.out _).mono ?_
        rintro r w3 ⟨rfl, hb3⟩
        have HB3 := Lib.hid (((HBx.out.alloc HBx.out.size _).trans (hb3.mono (HBx.out.alloc HBx.out.size _).size)))
        have HO3 := Lib.hid (own_below' (HO.out.alloc _) hb3)
        clear hb3
        cases rb
        · have HN2 := Lib.hid (HN.out HRB.out)
          go_wp2_with fail
          go_roundg q
          case measure => omega
          case rel => exact ⟨t + 1, by omega, by go_num, (by rw [HN2.out]; exact HO3.out), HB3.out⟩
        · have HY2 := Lib.hid (HY.out (by trivial) HRB.out)
          go_wp2_with (at_builtin; refine wpList_append_ints _ (by rfl) _ _ 22 (by rfl) W0.heap.size 3 i0 _ Try.underlying22 hi hi0 hi1 hi2 rfl u8 (outL es ef l t).length ((outL es ef l t).map (Value.int .i64)) (by rfl) (by exact HO3.out.alloc _) (some ⟨w3.heap.size, 0, none⟩) 1 1 [(t : Int)] (by rfl) (ints_one w3 t _) (by have := HLN.out; omega) (by exact (HB3.out.alloc HB3.out.size _).size) ?_)
          intro v' w4 hown hgrow _
          have HB4 := Lib.hid ((HB3.out.alloc HB3.out.size (.cells #[.int .i64 t] 3)).trans (below_own (HO3.out.alloc _) hgrow (HB3.out.alloc HB3.out.size _).size))
          have HO4 := Lib.hid hown
          clear hown hgrow
          go_wp2_with fail
          go_roundg q
          case measure => omega
          case rel => exact ⟨t + 1, by omega, by go_num, (by rw [HY2.out]; have := HO4.out; rw [List.length_append, List.map_append]; exact this), HB4.out⟩
      · have HF2 := Lib.hid (HF.out hs)
        have hs2 : (ef == s) = false := by simpa using hs
        go_wp2_with fail
        go_roundg q
        case measure => omega
        case rel => exact ⟨t + 1, by omega, by go_num, (by rw [HF2.out]; exact HO.out.alloc _), HBx.out.alloc HBx.out.size _⟩

theorem step_any (P S K M s l : Int) (A E : Option Addr) (n c ne ce : Nat) (st : List Int) (es : List Ed) (w : World) (ha : Ints w A n st) (hn : n ≤ 17592186044416) (he : EdgesAt w E ne es) (hne : ne ≤ 17592186044416) :
    Calls Try.prog 16 #[.agg #[.int .i64 P, .int .i64 S, .slice A n c, .int .i64 K, .int .i64 M, .slice E ne ce], .int .i64 s, .int .i64 l] w fun e w' => ResS w w' P S K M st es s l e := by
  cases hv : autB P S K M st es
  · exact step_bad P S K M s l A E n c ne ce st es w ha hn he hne hv
  · obtain ⟨⟨h1, h2, _⟩, _, _, h4, _⟩ := autB_true hv
    obtain ⟨p, rfl⟩ := Int.eq_ofNat_of_zero_le h1
    have h3 := he.1
    by_cases hr : 0 ≤ s ∧ s < S ∧ 0 ≤ l ∧ l < 2 ^ p
    · exact step_good p S K M s l A E n c ne ce st es w ha hn he (by omega) (by omega) hv hr
    · exact step_range p S K M s l A E n c ne ce st es w ha hn he hne (by omega) hv hr

end Go.Proofs.Ytfblnadmbfhjiaa.Wd

namespace Go.Proofs.Ytfblnadmbfhjiaa.Wd
open Go.RowKit
set_option linter.unusedVariables false

/-- The numbers below k that f has, as a set of bits. -/
def setN (f : Nat → Bool) : Nat → Nat
  | 0 => 0
  | k + 1 => if f k = true then setN f k ||| 2 ^ k else setN f k
theorem setN_yes {f : Nat → Bool} {k : Nat} (h : f k = true) : setN f (k + 1) = setN f k ||| 2 ^ k := by rw [setN, if_pos h]
theorem setN_no {f : Nat → Bool} {k : Nat} (h : f k = false) : setN f (k + 1) = setN f k := by rw [setN, if_neg (by rw [h]; decide)]
theorem setN_lt (f : Nat → Bool) (k : Nat) : setN f k < 2 ^ k := by
  induction k with
  | zero => simp [setN]
  | succ k ih =>
    have h2 : 2 ^ k < 2 ^ (k + 1) := Nat.pow_lt_pow_right (by decide) (by omega)
    have h1 : setN f k < 2 ^ (k + 1) := Nat.lt_trans ih h2
    cases h : f k
    · rw [setN_no h]; exact h1
    · rw [setN_yes h]; exact Nat.or_lt_two_pow h1 h2
theorem setN_bit (f : Nat → Bool) (k j : Nat) : (setN f k).testBit j = (decide (j < k) && f j) := by
  induction k with
  | zero => simp [setN]
  | succ k ih =>
    cases h : f k
    · rw [setN_no h, ih]
      by_cases hj : j = k
      · subst hj; simp [h]
      · rw [show decide (j < k + 1) = decide (j < k) by rw [decide_eq_decide]; omega]
    · rw [setN_yes h, Nat.testBit_or, ih, Nat.testBit_two_pow]
      by_cases hj : j = k
      · subst hj; simp [h]
      · rw [show decide (j < k + 1) = decide (j < k) by rw [decide_eq_decide]; omega, decide_eq_false (show ¬ k = j by omega), Bool.or_false]

theorem shl_u64 {j : Nat} (hj : j < 64) : IntKind.u64.wrap ((2 : Int) ^ j) = ((2 ^ j : Nat) : Int) := by
  have h : ∀ k : Fin 64, IntKind.u64.wrap ((2 : Int) ^ k.val) = ((2 ^ k.val : Nat) : Int) := by decide +kernel
  exact h ⟨j, hj⟩
theorem pow_six {p : Nat} (hp : p ≤ 6) : IntKind.i64.wrap ((2 : Int) ^ p) = ((2 ^ p : Nat) : Int) ∧ 2 ^ p ≤ 64 := by
  have h : ∀ k : Fin 7, IntKind.i64.wrap ((2 : Int) ^ k.val) = ((2 ^ k.val : Nat) : Int) ∧ 2 ^ k.val ≤ 64 := by decide +kernel
  exact h ⟨p, by omega⟩

/-- The set of an edge's letters. -/
def fitN (p : Nat) (e : Ed) : Nat := setN (fun j => letB (j : Int) e) (2 ^ p)

set_option maxRecDepth 100000 in
set_option maxHeartbeats 4000000 in
theorem fitting_any (p : Nat) (ef et ec eb em : Int) (w : World) (hp : p ≤ 6) :
    Calls Try.prog 59 #[.agg #[.int .i64 ef, .int .i64 et, .int .i64 ec, .int .i64 eb, .int .i64 em], .int .i64 p] w fun r w' => r = .returned (.int .u64 (fitN p ⟨ef, et, ec, eb, em⟩)) ∧ Below w.heap.size w w' := by
  obtain ⟨N, hN, HN⟩ : ∃ N : Nat, IntKind.i64.wrap ((2 : Int) ^ p) = (N : Int) ∧ Hid (2 ^ p = N) := ⟨2 ^ p, (pow_six hp).1, rfl⟩
  have hN64 : N ≤ 64 := by rw [← HN.out]; exact (pow_six hp).2
  have hp0 : (0 : Int) ≤ (p : Int) := by omega
  have hp6 : (p : Int) ≤ 6 := by omega
  have HH := Lib.hid (fun (j : Nat) w => has_letB ef et ec eb em (j : Int) w)
  have HFN := Lib.hid (show fitN p ⟨ef, et, ec, eb, em⟩ = setN (fun j => letB (j : Int) ⟨ef, et, ec, eb, em⟩) N by unfold fitN; rw [HN.out])
  go_enter Try.func59, Try.ntmps59
  go_wp2_with fail
  obtain ⟨W0, hW0⟩ : ∃ W0, w.alloc (.cells #[.int .i64 ef, .int .i64 et, .int .i64 ec, .int .i64 eb, .int .i64 em] 54) = W0 := ⟨_, rfl⟩
  have q0 : W0.cell? ⟨w.heap.size, 0, none⟩ = some (.int .i64 ef) := by rw [← hW0, box_last]; rfl
  have q1 : W0.cell? ⟨w.heap.size, 1, none⟩ = some (.int .i64 et) := by rw [← hW0, box_last]; rfl
  have q2 : W0.cell? ⟨w.heap.size, 2, none⟩ = some (.int .i64 ec) := by rw [← hW0, box_last]; rfl
  have q3 : W0.cell? ⟨w.heap.size, 3, none⟩ = some (.int .i64 eb) := by rw [← hW0, box_last]; rfl
  have q4 : W0.cell? ⟨w.heap.size, 4, none⟩ = some (.int .i64 em) := by rw [← hW0, box_last]; rfl
  have hz : w.heap.size < W0.heap.size := by rw [← hW0]; simp
  have HB0 := Lib.hid (show Below w.heap.size w W0 by rw [← hW0]; exact (Below.refl _ _).alloc (Nat.le_refl _) _)
  rw [hW0]
  clear hW0
  go_loopg [5, 9] N (fun g v i wx => ∃ t : Nat, t + g = N ∧ i = .int .i64 t ∧ v = .int .u64 (setN (fun j => letB (j : Int) ⟨ef, et, ec, eb, em⟩) t) ∧ Hid (Below W0.heap.size W0 wx))
  case atStart => exact ⟨0, by omega, rfl, rfl, Below.refl _ _⟩
  case round =>
    obtain ⟨t, htg, rfl, rfl, HBx⟩ := hrel
    have hti : (0 : Int) ≤ (t : Int) := by omega
    have HBw := Lib.hid (HB0.out.trans (HBx.out.mono HB0.out.size))
    have r0 := (HBx.out.cell (p := ⟨w.heap.size, 0, none⟩) hz).trans q0
    have r1 := (HBx.out.cell (p := ⟨w.heap.size, 1, none⟩) hz).trans q1
    have r2 := (HBx.out.cell (p := ⟨w.heap.size, 2, none⟩) hz).trans q2
    have r3 := (HBx.out.cell (p := ⟨w.heap.size, 3, none⟩) hz).trans q3
    have r4 := (HBx.out.cell (p := ⟨w.heap.size, 4, none⟩) hz).trans q4
    have hzr := Nat.lt_of_lt_of_le hz HBx.out.size
    cases gk with
    | zero =>
      obtain rfl : N = t := by omega
      go_wp2_with fail
      go_ret
      exact ⟨by rw [HFN.out]; rfl, HBw.out⟩
    | succ q =>
      have ht1 : t < N := by omega
      have hti2 : (t : Int) < (N : Int) := by omega
      have ht64 : t < 64 := by omega
      have HY := Lib.hid (fun h => setN_yes (f := fun j => letB (j : Int) ⟨ef, et, ec, eb, em⟩) (k := t) h)
      have HNO := Lib.hid (fun h => setN_no (f := fun j => letB (j : Int) ⟨ef, et, ec, eb, em⟩) (k := t) h)
      have HLT := Lib.hid (setN_lt (fun j => letB (j : Int) ⟨ef, et, ec, eb, em⟩) t)
      generalize setN (fun j => letB (j : Int) ⟨ef, et, ec, eb, em⟩) t = x at *
      have hx64 : x < 18446744073709551616 := Nat.lt_of_lt_of_le HLT.out (Nat.le_trans (Nat.pow_le_pow_right (by decide) (show t ≤ 64 by omega)) (by decide))
      have ht64' : 2 ^ t < 18446744073709551616 := Nat.lt_of_lt_of_le (Nat.pow_lt_pow_right (by decide) ht64) (by decide)
      obtain ⟨Y, hY, hor⟩ : ∃ Y : Int, IntKind.u64.wrap ((2 : Int) ^ t) = Y ∧ bits .or .u64 (x : Int) Y = ((x ||| 2 ^ t : Nat) : Int) := ⟨_, shl_u64 ht64, bits_or_u64_nat x (2 ^ t) hx64 ht64'⟩
      clear hx64 ht64'
      obtain ⟨Z, hZ, HZ⟩ : ∃ Z : Nat, x ||| 2 ^ t = Z ∧ Hid (x ||| 2 ^ t = Z) := ⟨_, rfl, rfl⟩
      rw [hZ] at hor
      clear hZ
      have HT := Lib.hid (fun w => HH.out t w)
      obtain ⟨rb, hrb, HRB⟩ : ∃ rb, letB (t : Int) ⟨ef, et, ec, eb, em⟩ = rb ∧ Hid (letB (t : Int) ⟨ef, et, ec, eb, em⟩ = rb) := ⟨_, rfl, rfl⟩
      rw [hrb] at HT
      clear hrb
      have ht63 : (t : Int) < 64 := by omega
      go_wp2_with fail
      refine (HT.out _).mono ?_
      rintro r w3 ⟨rfl, hb3⟩
      have HB3 := Lib.hid (HBx.out.trans (hb3.mono HBx.out.size))
      clear hb3
      cases rb
      · have HN2 := Lib.hid (HNO.out HRB.out)
        go_wp2_with fail
        go_roundg q
        case measure => omega
        case rel => exact ⟨t + 1, by omega, by go_num, (by rw [HN2.out]), HB3.out⟩
      · have HN2 := Lib.hid (HY.out HRB.out)
        go_wp2_with fail
        go_roundg q
        case measure => omega
        case rel => exact ⟨t + 1, by omega, by go_num, (by rw [HN2.out, HZ.out]), HB3.out⟩

end Go.Proofs.Ytfblnadmbfhjiaa.Wd

namespace Go.Proofs.Ytfblnadmbfhjiaa.Wd
open Go.RowKit
set_option linter.unusedVariables false

theorem set_info : (Try.prog.info? 92).map (fun i => (i.zero, i.size, i.bytes)) = some (some (.int .u64 0), 1, 8) := by kernel_rfl

/-- The letters of the first k edges that leave s. -/
def setsN (p : Nat) (es : List Ed) : Nat → Nat → Nat
  | 0, _ => 0
  | k + 1, s => if (es.getD k ed0).f = (s : Int) then setsN p es k s ||| fitN p (es.getD k ed0) else setsN p es k s
/-- Have two of the first k edges a letter in common? -/
def clashB (p : Nat) (es : List Ed) : Nat → Bool
  | 0 => false
  | k + 1 => clashB p es k || decide (setsN p es k (es.getD k ed0).f.toNat &&& fitN p (es.getD k ed0) ≠ 0)
theorem fitN_lt {p : Nat} (hp : p ≤ 6) (e : Ed) : fitN p e < 18446744073709551616 :=
  Nat.lt_of_lt_of_le (setN_lt _ _) (Nat.le_trans (Nat.pow_le_pow_right (by decide) (pow_six hp).2) (by decide))
theorem setsN_lt {p : Nat} (hp : p ≤ 6) (es : List Ed) (k s : Nat) : setsN p es k s < 18446744073709551616 := by
  induction k with
  | zero => simp [setsN]
  | succ k ih =>
    unfold setsN
    split
    · exact Nat.or_lt_two_pow (n := 64) ih (fitN_lt hp _)
    · exact ih
theorem setsN_same {p : Nat} {es : List Ed} {k s : Nat} (h : (es.getD k ed0).f = (s : Int)) : setsN p es (k + 1) s = setsN p es k s ||| fitN p (es.getD k ed0) := by rw [setsN, if_pos h]
theorem setsN_other {p : Nat} {es : List Ed} {k s : Nat} (h : ¬ (es.getD k ed0).f = (s : Int)) : setsN p es (k + 1) s = setsN p es k s := by rw [setsN, if_neg h]
theorem clashB_step {p : Nat} {es : List Ed} {k f : Nat} (h : (es.getD k ed0).f = (f : Int)) : clashB p es (k + 1) = (clashB p es k || decide (setsN p es k f &&& fitN p (es.getD k ed0) ≠ 0)) := by
  rw [clashB, h, Int.toNat_natCast]

theorem boxA {w w1 : World} {cs : Array Value} {t : TypeId} (hb : Below (w.alloc (.cells cs t)).heap.size (w.alloc (.cells cs t)) w1) : Below w.heap.size w w1 := ((Below.refl _ _).alloc (Nat.le_refl _) _).trans (hb.mono (by simp))

set_option maxRecDepth 100000 in
set_option maxHeartbeats 8000000 in
theorem lettersOf_any (p S : Nat) (K M : Int) (A E : Option Addr) (n c ne ce : Nat) (es : List Ed) (w : World) (hE : EdgesAt w E ne es) (hp : p ≤ 6) (hS : S ≤ 3000) (hne : ne ≤ 40000)
    (hfr : ∀ j, j < ne → ∃ f : Nat, (es.getD j ed0).f = (f : Int) ∧ f < S) :
    Calls Try.prog 38 #[.agg #[.int .i64 p, .int .i64 S, .slice A n c, .int .i64 K, .int .i64 M, .slice E ne ce]] w fun r w' =>
      ∃ b, r = .returned (.tuple #[.slice (some ⟨b, 0, none⟩) S S, .bool (clashB p es ne)]) ∧ w'.rowIs b 92 S (fun s => .int .u64 (setsN p es ne s)) ∧ w.heap.size ≤ b ∧ Below w.heap.size w w' := by
  have hmk := run_make_row' (P := Try.prog) 62 92 (.int .u64 0) 8 Try.underlying62 set_info rfl .i64 .i64 S (by omega) (by omega)
  have HA := Lib.hid hE
  have HFR := Lib.hid hfr
  clear hE hfr
  go_enter Try.func38, Try.ntmps38
  go_wp2_with fail
  obtain ⟨W0, hW0⟩ : ∃ W0, w.alloc (.cells #[.int .i64 p, .int .i64 S, .slice A n c, .int .i64 K, .int .i64 M, .slice E ne ce] 25) = W0 := ⟨_, rfl⟩
  have q0 : W0.cell? ⟨w.heap.size, 0, none⟩ = some (.int .i64 p) := by rw [← hW0, box_last]; rfl
  have hz : W0.heap.size = w.heap.size + 1 := by rw [← hW0]; simp
  have HB0 := Lib.hid (show Below w.heap.size w W0 by rw [← hW0]; exact (Below.refl _ _).alloc (Nat.le_refl _) _)
  rw [hW0]
  clear hW0
  obtain ⟨W1, hW1⟩ : ∃ W1, W0.alloc (.cells (madeCells #[.int .u64 0] S) 92) = W1 := ⟨_, rfl⟩
  have HR0 := Lib.hid (show W1.rowIs (w.heap.size + 1) 92 S (fun _ => .int .u64 0) by rw [← hW1, ← hz]; exact World.rowIs_made W0 _ S _)
  have HB1 := Lib.hid (show Below (w.heap.size + 1) W0 W1 by rw [← hW1, ← hz]; exact (Below.refl _ _).alloc (Nat.le_refl _) _)
  have hz1 : W1.heap.size = w.heap.size + 2 := by rw [← hW1]; simp [hz]
  rw [hW1]
  clear hW1
  go_loopg [3, 13] ne (fun g cl i wx => ∃ t : Nat, t + g = ne ∧ i = .int .i64 t ∧ cl = .bool (clashB p es t) ∧ Hid (wx.rowIs (w.heap.size + 1) 92 S (fun s => .int .u64 (setsN p es t s))) ∧ Hid (Below (w.heap.size + 1) W0 wx))
  case atStart => exact ⟨0, by omega, rfl, rfl, HR0.out, HB1.out⟩
  case round =>
    obtain ⟨t, htg, rfl, rfl, HR, HBx⟩ := hrel
    have hti : (0 : Int) ≤ (t : Int) := by omega
    have HBw := Lib.hid (HB0.out.trans (HBx.out.mono (by omega)))
    have r0 := (HBx.out.cell (p := ⟨w.heap.size, 0, none⟩) (by simp)).trans q0
    have hzr : w.heap.size + 1 < wr.heap.size := HR.out.lt
    have hzr0 : w.heap.size < wr.heap.size := by omega
    cases gk with
    | zero =>
      obtain rfl : ne = t := by omega
      go_wp2_with fail
      go_ret2
      exact ⟨_, rfl, HR.out, by omega, HBw.out⟩
    | succ q =>
      have ht1 : t < ne := by omega
      have hti2 : (t : Int) < (ne : Int) := by omega
      obtain ⟨b, off, rfl, hlt, hcell⟩ := (HA.out.below HBw.out).2 (by omega)
      obtain ⟨c0, c1, c2, c3, c4⟩ := hcell t ht1
      obtain ⟨f, hf, hfS⟩ := HFR.out t ht1
      have HCL := Lib.hid (clashB_step (p := p) hf)
      have HSS := Lib.hid (setsN_same (p := p) hf)
      have HSO := Lib.hid (fun s (hs : ¬ s = f) => setsN_other (p := p) (es := es) (k := t) (s := s) (by rw [hf]; omega))
      have hx64 := setsN_lt hp es t f
      generalize es.getD t ed0 = x at *
      obtain ⟨ef, et, ec, eb, em⟩ := x
      simp only at c0 c1 c2 c3 c4 hf
      subst hf
      clear hcell
      have hf0 : (0 : Int) ≤ (f : Int) := by omega
      have hf1 : (f : Int) < (S : Int) := by omega
      have HFT := Lib.hid (fun w => fitting_any p f et ec eb em w hp)
      have hy64 := fitN_lt hp ⟨f, et, ec, eb, em⟩
      generalize fitN p ⟨f, et, ec, eb, em⟩ = y at *
      have hcx : wr.cell? ⟨w.heap.size + 1, f, none⟩ = some (.int .u64 (setsN p es t f)) := HR.out.cell hfS
      generalize hsx : setsN p es t f = x at *
      have hor := bits_or_u64_nat x y hx64 hy64
      have hand := bits_and_u64_nat x y hx64 hy64
      clear hx64 hy64
      go_wp2_with fail
      refine (HFT.out _).mono ?_
      rintro r w3 ⟨rfl, hb3⟩
      have hbx3 := box_at hb3
      have d0 : w3.cell? ⟨wr.heap.size, 0, none⟩ = some (.int .i64 f) := hbx3.2 0
      have hd0 := hbx3.1
      have HBB := Lib.hid (show Below wr.heap.size wr w3 from boxA hb3)
      have hcx3 : w3.cell? ⟨w.heap.size + 1, f, none⟩ = some (.int .u64 x) := (HBB.out.cell hzr).trans hcx
      have hfz3 : w3.frozen? ⟨w.heap.size + 1, f, none⟩ = false := (HBB.out.frozen hzr).trans (HR.out.frozen f)
      have HR3 := Lib.hid (HR.out.of_block (HBB.out.block _ hzr))
      have HB3 := Lib.hid (HBx.out.trans (HBB.out.mono (by omega)))
      have hz3 : w.heap.size + 1 < w3.heap.size := Nat.lt_of_lt_of_le hzr HBB.out.size
      clear hb3 hbx3 hcx
      obtain ⟨Z, hZ, HZ⟩ : ∃ Z : Nat, x ||| y = Z ∧ Hid (x ||| y = Z) := ⟨_, rfl, rfl⟩
      rw [hZ] at hor HSS
      clear hZ
      have HRN := Lib.hid ((HR3.out.set f (.int .u64 (Z : Int))).congr (g := fun s => .int .u64 (setsN p es (t + 1) s)) (by
        intro j hj
        by_cases h : j = f
        · subst h; simp only [if_true]; rw [HSS.out]
        · simp only [if_neg h]; rw [HSO.out j h]))
      have HBN := Lib.hid (HB3.out.setCell (p := ⟨w.heap.size + 1, f, none⟩) (by simp) (.int .u64 (Z : Int)))
      cases hcl : clashB p es t
      · rw [hcl, Bool.false_or] at HCL
        by_cases ha : x &&& y = 0
        · rw [ha] at hand
          rw [decide_eq_false (by simp [ha])] at HCL
          go_wp2_with fail
          go_roundg q
          case measure => omega
          case rel => exact ⟨t + 1, by omega, by go_num, (by rw [HCL.out]), HRN.out, HBN.out⟩
        · rw [decide_eq_true (show x &&& y ≠ 0 from ha)] at HCL
          obtain ⟨a, ha2, hane⟩ : ∃ a : Nat, x &&& y = a ∧ a ≠ 0 := ⟨_, rfl, ha⟩
          rw [ha2] at hand
          have hb1 : ((a : Int) == 0) = false := by simpa using hane
          have hb2 : ((a : Int) != 0) = true := by simpa using hane
          have hb3 : decide ((a : Int) = 0) = false := by simpa using hane
          clear ha ha2
          go_wp2_with fail
          go_roundg q
          case measure => omega
          case rel => exact ⟨t + 1, by omega, by go_num, (by rw [HCL.out]), HRN.out, HBN.out⟩
      · rw [hcl, Bool.true_or] at HCL
        go_wp2_with fail
        go_roundg q
        case measure => omega
        case rel => exact ⟨t + 1, by omega, by go_num, (by rw [HCL.out]), HRN.out, HBN.out⟩

end Go.Proofs.Ytfblnadmbfhjiaa.Wd

namespace Go.Proofs.Ytfblnadmbfhjiaa.Wd
open Go.RowKit
set_option linter.unusedVariables false

/-- The edges of a valid automaton start at states. -/
theorem from_state {P M : Nat} {S : Nat} {es : List Ed} (h : edgesB P S M es = true) : ∀ j, j < es.length → ∃ f : Nat, (es.getD j ed0).f = (f : Int) ∧ f < S := by
  intro j hj
  have h1 := List.all_eq_true.1 h es[j] (List.getElem_mem hj)
  have h2 := (of_decide_eq_true h1).1
  rw [List.getD_eq_getElem?_getD, List.getElem?_eq_getElem hj]
  simp only [Option.getD_some]
  exact ⟨es[j].f.toNat, by omega, by omega⟩

/-- Have all of the first k states all letters? -/
def fullB (p : Nat) (es : List Ed) (S : Nat) : Bool := (List.range S).all fun s => decide (setsN p es es.length s = fitN p ed0)
/-- Of the first k states. -/
theorem fullB_bad {p : Nat} {es : List Ed} {S s : Nat} (hs : s < S) (h : ¬ setsN p es es.length s = fitN p ed0) : fullB p es S = false := by
  unfold fullB
  rw [Bool.eq_false_iff]
  intro ht
  exact h (of_decide_eq_true (List.all_eq_true.1 ht s (List.mem_range.2 hs)))
theorem fullB_step {p : Nat} {es : List Ed} {s : Nat} (hp : fullB p es s = true) (h : setsN p es es.length s = fitN p ed0) : fullB p es (s + 1) = true := by
  unfold fullB at *
  rw [List.range_succ, List.all_append, hp]
  simpa using h

theorem full_any (p : Nat) (w : World) (hp : p ≤ 6) : Calls Try.prog 60 #[.int .i64 p] w fun r w' => r = .returned (.int .u64 (fitN p ed0)) ∧ Below w.heap.size w w' := by
  have HF := Lib.hid (fun w => fitting_any p 0 0 0 0 0 w hp)
  go_enter Try.func60, Try.ntmps60
  go_wp2_with fail
  refine (HF.out _).mono ?_
  rintro r w1 ⟨rfl, hb1⟩
  go_wp2_with fail
  go_ret
  exact ⟨rfl, hb1⟩

set_option maxRecDepth 100000 in
set_option maxHeartbeats 4000000 in
theorem allFull_any (p S b : Nat) (es : List Ed) (w : World) (hp : p ≤ 6) (hS : S ≤ 3000) (hr : w.rowIs b 92 S (fun s => .int .u64 (setsN p es es.length s))) :
    Calls Try.prog 39 #[.slice (some ⟨b, 0, none⟩) S S, .int .i64 p] w fun r w' => r = .returned (.bool (fullB p es S)) ∧ Below w.heap.size w w' := by
  have HR := Lib.hid hr
  have HF := Lib.hid (fun w => full_any p w hp)
  obtain ⟨F, hF, HFF⟩ : ∃ F, fitN p ed0 = F ∧ Hid (fitN p ed0 = F) := ⟨_, rfl, rfl⟩
  rw [hF] at HF
  clear hF hr
  go_enter Try.func39, Try.ntmps39
  go_wp2_with fail
  go_loopg [9] S (fun g i wx => ∃ t : Nat, t + g = S ∧ i = .int .i64 t ∧ Hid (fullB p es t = true) ∧ Hid (Below w.heap.size w wx))
  case atStart => exact ⟨0, by omega, rfl, rfl, Below.refl _ _⟩
  case round =>
    obtain ⟨t, htg, rfl, HP, HBx⟩ := hrel
    have hti : (0 : Int) ≤ (t : Int) := by omega
    cases gk with
    | zero =>
      obtain rfl : S = t := by omega
      go_wp2_with fail
      go_ret
      exact ⟨ret_bool HP.out.symm, HBx.out⟩
    | succ q =>
      have ht1 : t < S := by omega
      have hti2 : (t : Int) < (S : Int) := by omega
      have hbl := HR.out.lt
      have hbr : b < wr.heap.size := Nat.lt_of_lt_of_le hbl HBx.out.size
      have hc : wr.cell? ⟨b, t, none⟩ = some (.int .u64 (setsN p es es.length t)) := (HBx.out.cell hbl).trans (HR.out.cell ht1)
      have HBD := Lib.hid (fun h => fullB_bad (p := p) (es := es) (S := S) ht1 h)
      have HST := Lib.hid (fun h => fullB_step HP.out h)
      rw [HFF.out] at HBD HST
      generalize setsN p es es.length t = x at *
      go_wp2_with fail
      refine (HF.out _).mono ?_
      rintro r w1 ⟨rfl, hb1⟩
      have HB1 := Lib.hid (HBx.out.trans (hb1.mono HBx.out.size))
      clear hb1
      by_cases hx : x = F
      · have HN := Lib.hid (HST.out hx)
        subst hx
        go_wp2_with fail
        go_roundg q
        case measure => omega
        case rel => exact ⟨t + 1, by omega, by go_num, HN, HB1⟩
      · have HN := Lib.hid (HBD.out hx)
        have hx4 : ¬ (x : Int) = (F : Int) := by omega
        have hx1 : ((x : Int) == (F : Int)) = false := by rw [beq_eq_false_iff_ne]; exact hx4
        have hx2 : ((x : Int) != (F : Int)) = true := by rw [bne_iff_ne]; exact hx4
        have hx3 : decide ((x : Int) = (F : Int)) = false := decide_eq_false hx4
        go_wp2_with fail
        go_ret
        exact ⟨ret_bool HN.out.symm, HB1.out⟩

/-- What Deterministic comes to. -/
def DetR (P S K M : Int) (st : List Int) (es : List Ed) (r : Bool) (code : Int) : Prop :=
  (autB P S K M st es = false ∧ r = false ∧ code = 1) ∨ (autB P S K M st es = true ∧ r = (decide (st.length = 1) && !clashB P.toNat es es.length) ∧ code = 0)
/-- What Complete comes to. -/
def ComR (P S K M : Int) (st : List Int) (es : List Ed) (r : Bool) (code : Int) : Prop :=
  (autB P S K M st es = false ∧ r = false ∧ code = 1) ∨ (autB P S K M st es = true ∧ r = fullB P.toNat es S.toNat ∧ code = 0)
theorem DetR.unique {P S K M : Int} {st : List Int} {es : List Ed} {r r' : Bool} {c c' : Int} (h : DetR P S K M st es r c) (h' : DetR P S K M st es r' c') : r = r' ∧ c = c' := by
  rcases h with ⟨a1, rfl, rfl⟩ | ⟨a1, rfl, rfl⟩ <;> rcases h' with ⟨b1, rfl, rfl⟩ | ⟨b1, rfl, rfl⟩
  all_goals first | exact ⟨rfl, rfl⟩ | (rw [a1] at b1; cases b1)
theorem ComR.unique {P S K M : Int} {st : List Int} {es : List Ed} {r r' : Bool} {c c' : Int} (h : ComR P S K M st es r c) (h' : ComR P S K M st es r' c') : r = r' ∧ c = c' := by
  rcases h with ⟨a1, rfl, rfl⟩ | ⟨a1, rfl, rfl⟩ <;> rcases h' with ⟨b1, rfl, rfl⟩ | ⟨b1, rfl, rfl⟩
  all_goals first | exact ⟨rfl, rfl⟩ | (rw [a1] at b1; cases b1)
def ResB (R : Bool → Int → Prop) (w w' : World) (e : Ending) : Prop := ∃ r code, e = .returned (.tuple #[.bool r, .int .i64 code]) ∧ Hid (R r code) ∧ Below w.heap.size w w'

set_option maxRecDepth 100000 in
set_option maxHeartbeats 2000000 in
theorem det_bad (P S K M : Int) (A E : Option Addr) (n c ne ce : Nat) (st : List Int) (es : List Ed) (w : World) (ha : Ints w A n st) (hn : n ≤ 17592186044416) (he : EdgesAt w E ne es) (hne : ne ≤ 17592186044416) (hv : autB P S K M st es = false) :
    Calls Try.prog 10 #[.agg #[.int .i64 P, .int .i64 S, .slice A n c, .int .i64 K, .int .i64 M, .slice E ne ce]] w fun e w' => ResB (DetR P S K M st es) w w' e := by
  have HV := Lib.hid (fun W (hW : Below w.heap.size w W) => autValid_any P S K M A E n c ne ce st es W (ha.below hW) hn (he.below hW) hne)
  have HF := Lib.hid hv
  rw [hv] at HV
  clear hv ha he
  go_enter Try.func10, Try.ntmps10
  go_wp2_with fail
  refine (HV.out _ ((Below.refl _ _).alloc (Nat.le_refl _) _)).mono ?_
  rintro r w1 ⟨rfl, hb1⟩
  have HB1 := Lib.hid (boxB hb1)
  clear hb1
  go_wp2_with fail
  go_ret2
  exact ⟨_, _, rfl, .inl ⟨HF.out, rfl, rfl⟩, HB1.out⟩

set_option maxRecDepth 100000 in
set_option maxHeartbeats 2000000 in
theorem com_bad (P S K M : Int) (A E : Option Addr) (n c ne ce : Nat) (st : List Int) (es : List Ed) (w : World) (ha : Ints w A n st) (hn : n ≤ 17592186044416) (he : EdgesAt w E ne es) (hne : ne ≤ 17592186044416) (hv : autB P S K M st es = false) :
    Calls Try.prog 12 #[.agg #[.int .i64 P, .int .i64 S, .slice A n c, .int .i64 K, .int .i64 M, .slice E ne ce]] w fun e w' => ResB (ComR P S K M st es) w w' e := by
  have HV := Lib.hid (fun W (hW : Below w.heap.size w W) => autValid_any P S K M A E n c ne ce st es W (ha.below hW) hn (he.below hW) hne)
  have HF := Lib.hid hv
  rw [hv] at HV
  clear hv ha he
  go_enter Try.func12, Try.ntmps12
  go_wp2_with fail
  refine (HV.out _ ((Below.refl _ _).alloc (Nat.le_refl _) _)).mono ?_
  rintro r w1 ⟨rfl, hb1⟩
  have HB1 := Lib.hid (boxB hb1)
  clear hb1
  go_wp2_with fail
  go_ret2
  exact ⟨_, _, rfl, .inl ⟨HF.out, rfl, rfl⟩, HB1.out⟩

set_option maxRecDepth 100000 in
set_option maxHeartbeats 4000000 in
theorem det_good (p S : Nat) (K M : Int) (A E : Option Addr) (n c ne ce : Nat) (st : List Int) (es : List Ed) (w : World) (ha : Ints w A n st) (hn : n ≤ 17592186044416) (hE : EdgesAt w E ne es) (hne : ne ≤ 40000) (hp : p ≤ 6) (hS : S ≤ 3000) (hv : autB p S K M st es = true) (hes : edgesB p S M.toNat es = true) :
    Calls Try.prog 10 #[.agg #[.int .i64 p, .int .i64 S, .slice A n c, .int .i64 K, .int .i64 M, .slice E ne ce]] w fun e w' => ResB (DetR p S K M st es) w w' e := by
  have HV := Lib.hid (fun W (hW : Below w.heap.size w W) => autValid_any p S K M A E n c ne ce st es W (ha.below hW) hn (hE.below hW) (by omega))
  have HV2 := Lib.hid hv
  have hfr : ∀ j, j < ne → ∃ f : Nat, (es.getD j ed0).f = (f : Int) ∧ f < S := fun j hj => from_state hes j (by rw [hE.1]; exact hj)
  have HLT := Lib.hid (fun W (hW : Below w.heap.size w W) => lettersOf_any p S K M A E n c ne ce es W (hE.below hW) hp hS hne hfr)
  have HX := Lib.hid (Box6.new w p S A n c K M E ne ce 25)
  have HL := Lib.hid hE.1
  have HN := Lib.hid ha.1
  rw [hv] at HV
  obtain ⟨cl, hcl, HCL⟩ : ∃ cl, clashB p es ne = cl ∧ Hid (clashB p es ne = cl) := ⟨_, rfl, rfl⟩
  rw [hcl] at HLT
  clear hv ha hE hes hfr hcl
  go_enter Try.func10, Try.ntmps10
  go_wp2_with fail
  refine (HV.out _ ((Below.refl _ _).alloc (Nat.le_refl _) _)).mono ?_
  rintro r w1 ⟨rfl, hb1⟩
  have HX1 := Lib.hid (HX.out.below hb1)
  obtain ⟨hz, p0, p1, p2, p3, p4, p5⟩ := HX1.out
  have HB1 := Lib.hid (boxB hb1)
  clear hb1
  go_wp2_with fail
  refine (HLT.out _ HB1.out).mono ?_
  rintro r w2 ⟨b, rfl, _, _, hb2⟩
  have HX2 := Lib.hid (HX1.out.below hb2)
  have HB2 := Lib.hid (HB1.out.trans (hb2.mono HB1.out.size))
  clear hz p0 p1 p2 p3 p4 p5 hb2
  obtain ⟨hz, p0, p1, p2, p3, p4, p5⟩ := HX2.out
  have HR := Lib.hid (fun r (h : r = (decide (n = 1) && !cl)) => show DetR p S K M st es r 0 from .inr ⟨HV2.out, by rw [h, HL.out, HN.out, Int.toNat_natCast, HCL.out], rfl⟩)
  by_cases h1 : n = 1
  · subst h1
    cases cl
    · have HQ := Lib.hid (HR.out true rfl)
      go_wp2_with fail
      go_ret2
      exact ⟨_, _, rfl, HQ, HB2.out⟩
    · have HQ := Lib.hid (HR.out false rfl)
      go_wp2_with fail
      go_ret2
      exact ⟨_, _, rfl, HQ, HB2.out⟩
  · have HQ := Lib.hid (HR.out false (by rw [decide_eq_false h1]; rfl))
    have h2 : ((n : Int) == 1) = false := by simp; omega
    have h3 : ¬ (n : Int) = 1 := by omega
    have h4 : decide ((n : Int) = 1) = false := decide_eq_false h3
    go_wp2_with fail
    go_ret2
    exact ⟨_, _, rfl, HQ, HB2.out⟩

set_option maxRecDepth 100000 in
set_option maxHeartbeats 4000000 in
theorem com_good (p S : Nat) (K M : Int) (A E : Option Addr) (n c ne ce : Nat) (st : List Int) (es : List Ed) (w : World) (ha : Ints w A n st) (hn : n ≤ 17592186044416) (hE : EdgesAt w E ne es) (hne : ne ≤ 40000) (hp : p ≤ 6) (hS : S ≤ 3000) (hv : autB p S K M st es = true) (hes : edgesB p S M.toNat es = true) :
    Calls Try.prog 12 #[.agg #[.int .i64 p, .int .i64 S, .slice A n c, .int .i64 K, .int .i64 M, .slice E ne ce]] w fun e w' => ResB (ComR p S K M st es) w w' e := by
  have HV := Lib.hid (fun W (hW : Below w.heap.size w W) => autValid_any p S K M A E n c ne ce st es W (ha.below hW) hn (hE.below hW) (by omega))
  have HV2 := Lib.hid hv
  have hfr : ∀ j, j < ne → ∃ f : Nat, (es.getD j ed0).f = (f : Int) ∧ f < S := fun j hj => from_state hes j (by rw [hE.1]; exact hj)
  have HLT := Lib.hid (fun W (hW : Below w.heap.size w W) => lettersOf_any p S K M A E n c ne ce es W (hE.below hW) hp hS hne hfr)
  have HAF := Lib.hid (fun b W (h : World.rowIs W b 92 S (fun s => .int .u64 (setsN p es ne s))) => allFull_any p S b es W hp hS (by rw [hE.1]; exact h))
  have HX := Lib.hid (Box6.new w p S A n c K M E ne ce 25)
  rw [hv] at HV
  obtain ⟨cl, hcl, HCL⟩ : ∃ cl, clashB p es ne = cl ∧ Hid (clashB p es ne = cl) := ⟨_, rfl, rfl⟩
  rw [hcl] at HLT
  clear hv ha hE hes hfr hcl
  go_enter Try.func12, Try.ntmps12
  go_wp2_with fail
  refine (HV.out _ ((Below.refl _ _).alloc (Nat.le_refl _) _)).mono ?_
  rintro r w1 ⟨rfl, hb1⟩
  have HX1 := Lib.hid (HX.out.below hb1)
  obtain ⟨hz, p0, p1, p2, p3, p4, p5⟩ := HX1.out
  have HB1 := Lib.hid (boxB hb1)
  clear hb1
  go_wp2_with fail
  refine (HLT.out _ HB1.out).mono ?_
  rintro r w2 ⟨b, rfl, hrow, _, hb2⟩
  have HROW := Lib.hid hrow
  have HX2 := Lib.hid (HX1.out.below hb2)
  have HB2 := Lib.hid (HB1.out.trans (hb2.mono HB1.out.size))
  clear hz p0 p1 p2 p3 p4 p5 hb2 hrow
  obtain ⟨hz, p0, p1, p2, p3, p4, p5⟩ := HX2.out
  go_wp2_with fail
  refine (HAF.out b _ HROW.out).mono ?_
  rintro r w3 ⟨rfl, hb3⟩
  have HB3 := Lib.hid (HB2.out.trans (hb3.mono HB2.out.size))
  have HR := Lib.hid (show ComR p S K M st es (fullB p es S) 0 from .inr ⟨HV2.out, by rw [Int.toNat_natCast, Int.toNat_natCast], rfl⟩)
  generalize fullB p es S = fb at *
  clear hb3
  go_wp2_with fail
  go_ret2
  exact ⟨_, _, rfl, HR, HB3.out⟩

theorem det_any (P S K M : Int) (A E : Option Addr) (n c ne ce : Nat) (st : List Int) (es : List Ed) (w : World) (ha : Ints w A n st) (hn : n ≤ 17592186044416) (he : EdgesAt w E ne es) (hne : ne ≤ 17592186044416) :
    Calls Try.prog 10 #[.agg #[.int .i64 P, .int .i64 S, .slice A n c, .int .i64 K, .int .i64 M, .slice E ne ce]] w fun e w' => ResB (DetR P S K M st es) w w' e := by
  cases hv : autB P S K M st es
  · exact det_bad P S K M A E n c ne ce st es w ha hn he hne hv
  · obtain ⟨⟨h1, h2, h5, h6, _⟩, _, _, h4, h7⟩ := autB_true hv
    obtain ⟨p, rfl⟩ := Int.eq_ofNat_of_zero_le h1
    obtain ⟨s, rfl⟩ := Int.eq_ofNat_of_zero_le h5
    have h3 := he.1
    exact det_good p s K M A E n c ne ce st es w ha hn he (by omega) (by omega) (by omega) hv h7
theorem com_any (P S K M : Int) (A E : Option Addr) (n c ne ce : Nat) (st : List Int) (es : List Ed) (w : World) (ha : Ints w A n st) (hn : n ≤ 17592186044416) (he : EdgesAt w E ne es) (hne : ne ≤ 17592186044416) :
    Calls Try.prog 12 #[.agg #[.int .i64 P, .int .i64 S, .slice A n c, .int .i64 K, .int .i64 M, .slice E ne ce]] w fun e w' => ResB (ComR P S K M st es) w w' e := by
  cases hv : autB P S K M st es
  · exact com_bad P S K M A E n c ne ce st es w ha hn he hne hv
  · obtain ⟨⟨h1, h2, h5, h6, _⟩, _, _, h4, h7⟩ := autB_true hv
    obtain ⟨p, rfl⟩ := Int.eq_ofNat_of_zero_le h1
    obtain ⟨s, rfl⟩ := Int.eq_ofNat_of_zero_le h5
    have h3 := he.1
    exact com_good p s K M A E n c ne ce st es w ha hn he (by omega) (by omega) (by omega) hv h7

end Go.Proofs.Ytfblnadmbfhjiaa.Wd

namespace Go.Proofs.Ytfblnadmbfhjiaa.Wd
open Go Go.RowKit
set_option linter.unusedVariables false

theorem and_i64 (a b : Nat) (ha : a < 2 ^ 62) (hb : b < 2 ^ 62) : bits .and .i64 (a : Int) (b : Int) = ((a &&& b : Nat) : Int) :=
  (bits_nat .i64 62 (by decide) (fun n h0 h1 => by rw [IntKind.wrap_i64]; omega) a b ha hb).1

/-- Bits that are all among those of a small set are a small number. -/
theorem bits_among {b : Int} {c : Nat} (hr : -9223372036854775808 ≤ b ∧ b < 9223372036854775808) (hc : c < 64) (h : bits .andNot .i64 b (c : Int) = 0) : ∃ n : Nat, b = (n : Int) ∧ n ≤ c ∧ n &&& c = n := by
  have h1 : IntKind.i64.wrap (((BitVec.ofInt 64 b &&& ~~~ BitVec.ofInt 64 (c : Int)).toNat : Nat) : Int) = 0 := h
  generalize hB : BitVec.ofInt 64 b = B at h1
  generalize hC : BitVec.ofInt 64 (c : Int) = C at h1
  have h2 : (B &&& ~~~ C).toNat < 2 ^ 64 := (B &&& ~~~ C).isLt
  rw [IntKind.wrap_i64] at h1
  have h3 : (B &&& ~~~ C).toNat = 0 := by omega
  have h4 : B &&& ~~~ C = 0#64 := BitVec.eq_of_toNat_eq (by simpa using h3)
  have h5 : B &&& C = B := by
    apply BitVec.eq_of_getLsbD_eq
    intro i hi
    have h6 : (B &&& ~~~ C).getLsbD i = false := by rw [h4]; simp
    rw [BitVec.getLsbD_and, BitVec.getLsbD_not] at h6
    rw [BitVec.getLsbD_and]
    cases hb : B.getLsbD i <;> cases hc : C.getLsbD i <;> simp_all
  have h7 : C.toNat = c := by
    rw [← hC, BitVec.ofInt_natCast, BitVec.toNat_ofNat]
    omega
  have h8 : B.toNat &&& c = B.toNat := by rw [← h7, ← BitVec.toNat_and, h5]
  have h9 : B.toNat ≤ c := by rw [← h8]; exact Nat.and_le_right
  have h10 : B.toNat = (b % ((2 ^ 64 : Nat) : Int)).toNat := by rw [← hB, BitVec.toNat_ofInt]
  exact ⟨B.toNat, by omega, h9, h8⟩

/-- A letter in common. -/
theorem common_letter {p c c' b b' : Nat} (hc : c < 2 ^ p) (hc' : c' < 2 ^ p) (hb : b &&& c = b) (hb' : b' &&& c' = b') : (∃ l, l < 2 ^ p ∧ l &&& c = b ∧ l &&& c' = b') ↔ b' &&& c = b &&& c' := by
  constructor
  · rintro ⟨l, _, rfl, rfl⟩
    rw [Nat.and_assoc, Nat.and_assoc, Nat.and_comm c' c]
  · intro h
    have hbl : b < 2 ^ p := by rw [← hb]; exact Nat.and_lt_two_pow _ hc
    have hbl' : b' < 2 ^ p := by rw [← hb']; exact Nat.and_lt_two_pow _ hc'
    have key : ∀ i, (b.testBit i = true → c.testBit i = true) ∧ (b'.testBit i = true → c'.testBit i = true) ∧ ((b'.testBit i && c.testBit i) = (b.testBit i && c'.testBit i)) := by
      intro i
      have h1 := congrArg (fun n => Nat.testBit n i) hb
      have h2 := congrArg (fun n => Nat.testBit n i) hb'
      have h3 := congrArg (fun n => Nat.testBit n i) h
      simp only [Nat.testBit_and] at h1 h2 h3
      refine ⟨fun hx => ?_, fun hx => ?_, h3⟩
      · rw [hx] at h1; simpa using h1
      · rw [hx] at h2; simpa using h2
    refine ⟨b ||| b', Nat.or_lt_two_pow hbl hbl', ?_, ?_⟩
    · apply Nat.eq_of_testBit_eq
      intro i
      obtain ⟨k1, k2, k3⟩ := key i
      rw [Nat.testBit_and, Nat.testBit_or]
      cases h1 : b.testBit i <;> cases h2 : b'.testBit i <;> cases h3 : c.testBit i <;> cases h4 : c'.testBit i <;> simp_all
    · apply Nat.eq_of_testBit_eq
      intro i
      obtain ⟨k1, k2, k3⟩ := key i
      rw [Nat.testBit_and, Nat.testBit_or]
      cases h1 : b.testBit i <;> cases h2 : b'.testBit i <;> cases h3 : c.testBit i <;> cases h4 : c'.testBit i <;> simp_all

theorem fitN_bit (p : Nat) (e : Ed) (j : Nat) : (fitN p e).testBit j = (decide (j < 2 ^ p) && letB (j : Int) e) := setN_bit _ _ _
theorem setsN_bit (p : Nat) (es : List Ed) (k s j : Nat) : (setsN p es k s).testBit j = true ↔ ∃ i, i < k ∧ (es.getD i ed0).f = (s : Int) ∧ (fitN p (es.getD i ed0)).testBit j = true := by
  induction k with
  | zero => simp [setsN]
  | succ k ih =>
    by_cases h : (es.getD k ed0).f = (s : Int)
    · rw [setsN_same h, Nat.testBit_or, Bool.or_eq_true, ih]
      constructor
      · rintro (⟨i, h1, h2, h3⟩ | h1)
        · exact ⟨i, by omega, h2, h3⟩
        · exact ⟨k, by omega, h, h1⟩
      · rintro ⟨i, h1, h2, h3⟩
        by_cases e : i = k
        · subst e; exact .inr h3
        · exact .inl ⟨i, by omega, h2, h3⟩
    · rw [setsN_other h, ih]
      constructor
      · rintro ⟨i, h1, h2, h3⟩
        exact ⟨i, by omega, h2, h3⟩
      · rintro ⟨i, h1, h2, h3⟩
        by_cases e : i = k
        · subst e; exact absurd h2 h
        · exact ⟨i, by omega, h2, h3⟩
theorem and_ne_zero {a b : Nat} : a &&& b ≠ 0 ↔ ∃ j, a.testBit j = true ∧ b.testBit j = true := by
  constructor
  · intro h
    obtain ⟨j, hj⟩ := Nat.exists_testBit_of_ne_zero h
    rw [Nat.testBit_and, Bool.and_eq_true] at hj
    exact ⟨j, hj⟩
  · rintro ⟨j, h1, h2⟩ h
    have h3 : (a &&& b).testBit j = true := by rw [Nat.testBit_and, h1, h2]; rfl
    rw [h, Nat.zero_testBit] at h3
    cases h3
/-- Two edges with a letter in common. -/
def Meet (p : Nat) (e e' : Ed) : Prop := ∃ l : Nat, l < 2 ^ p ∧ letB (l : Int) e = true ∧ letB (l : Int) e' = true
theorem clashB_iff (p : Nat) (es : List Ed) (k : Nat) (hf : ∀ i, i < k → ∃ f : Nat, (es.getD i ed0).f = (f : Int)) : clashB p es k = true ↔ ∃ i j, i < j ∧ j < k ∧ (es.getD i ed0).f = (es.getD j ed0).f ∧ Meet p (es.getD i ed0) (es.getD j ed0) := by
  induction k with
  | zero => simp [clashB]
  | succ k ih =>
    obtain ⟨f, hfk⟩ := hf k (by omega)
    rw [clashB_step hfk, Bool.or_eq_true, ih (fun i hi => hf i (by omega)), decide_eq_true_eq, and_ne_zero]
    constructor
    · rintro (⟨i, j, h1, h2, h3⟩ | ⟨l, h1, h2⟩)
      · exact ⟨i, j, h1, by omega, h3⟩
      · obtain ⟨i, h3, h4, h5⟩ := (setsN_bit p es k f l).1 h1
        rw [fitN_bit, Bool.and_eq_true] at h2 h5
        exact ⟨i, k, h3, by omega, h4.trans hfk.symm, l, of_decide_eq_true h2.1, h5.2, h2.2⟩
    · rintro ⟨i, j, h1, h2, h3, l, h4, h5, h6⟩
      by_cases e : j = k
      · subst e
        refine .inr ⟨l, (setsN_bit p es j f l).2 ⟨i, h1, h3.trans hfk, ?_⟩, ?_⟩
        · rw [fitN_bit, decide_eq_true h4, h5]; rfl
        · rw [fitN_bit, decide_eq_true h4, h6]; rfl
      · exact .inl ⟨i, j, h1, by omega, h3, l, h4, h5, h6⟩
theorem fullB_iff {p S : Nat} (hp : p ≤ 6) (es : List Ed) : fullB p es S = true ↔ ∀ s, s < S → ∀ l : Nat, l < 2 ^ p → ∃ i, i < es.length ∧ (es.getD i ed0).f = (s : Int) ∧ letB (l : Int) (es.getD i ed0) = true := by
  have h0 : ∀ l : Nat, l < 2 ^ p → letB (l : Int) ed0 = true := fun l hl => by
    have h64 := (pow_six hp).2
    have h1 := and_i64 l 0 (by omega) (by omega)
    rw [Nat.and_zero] at h1
    exact decide_eq_true h1
  unfold fullB
  rw [List.all_eq_true]
  constructor
  · intro h s hs l hl
    have h1 := of_decide_eq_true (h s (List.mem_range.2 hs))
    have h2 : (setsN p es es.length s).testBit l = true := by rw [h1, fitN_bit, decide_eq_true hl, h0 l hl]; rfl
    obtain ⟨i, h3, h4, h5⟩ := (setsN_bit p es es.length s l).1 h2
    rw [fitN_bit, Bool.and_eq_true] at h5
    exact ⟨i, h3, h4, h5.2⟩
  · intro h s hs
    apply decide_eq_true
    apply Nat.eq_of_testBit_eq
    intro l
    rw [fitN_bit]
    by_cases hl : l < 2 ^ p
    · rw [decide_eq_true hl, h0 l hl]
      obtain ⟨i, h3, h4, h5⟩ := h s (List.mem_range.1 hs) l hl
      exact (setsN_bit p es es.length s l).2 ⟨i, h3, h4, by rw [fitN_bit, decide_eq_true hl, h5]; rfl⟩
    · rw [decide_eq_false hl, Bool.false_and, Bool.eq_false_iff]
      intro h1
      obtain ⟨i, h3, h4, h5⟩ := (setsN_bit p es es.length s l).1 h1
      rw [fitN_bit, decide_eq_false hl, Bool.false_and] at h5
      cases h5
/-- Two edges of a valid automaton meet if their bits agree where both care. -/
theorem meet_iff {p : Nat} {S : Int} {M : Nat} {e e' : Ed} (hp : p ≤ 6) (h : edB p S M e = true) (h' : edB p S M e' = true) (hr : -9223372036854775808 ≤ e.b ∧ e.b < 9223372036854775808) (hr' : -9223372036854775808 ≤ e'.b ∧ e'.b < 9223372036854775808) :
    Meet p e e' ↔ bits .and .i64 e'.b e.c = bits .and .i64 e.b e'.c := by
  have h64 := (pow_six hp).2
  have hpc : ((2 : Int) ^ p) = ((2 ^ p : Nat) : Int) := by simp
  obtain ⟨_, _, ⟨k1, k2⟩, k3, _⟩ := of_decide_eq_true h
  obtain ⟨_, _, ⟨m1, m2⟩, m3, _⟩ := of_decide_eq_true h'
  obtain ⟨ef, et, ec, eb, em⟩ := e
  obtain ⟨ef', et', ec', eb', em'⟩ := e'
  simp only at k1 k2 k3 m1 m2 m3 hr hr' ⊢
  obtain ⟨c, rfl⟩ := Int.eq_ofNat_of_zero_le k1
  obtain ⟨c', rfl⟩ := Int.eq_ofNat_of_zero_le m1
  rw [hpc] at k2 m2
  obtain ⟨b, rfl, n1, n2⟩ := bits_among hr (by omega) k3
  obtain ⟨b', rfl, n1', n2'⟩ := bits_among hr' (by omega) m3
  rw [and_i64 b' c (by omega) (by omega), and_i64 b c' (by omega) (by omega)]
  have hcl := common_letter (p := p) (c := c) (c' := c') (b := b) (b' := b') (by omega) (by omega) n2 n2'
  have hl : ∀ l : Nat, l < 2 ^ p → ((letB (l : Int) ⟨ef, et, c, b, em⟩ = true ∧ letB (l : Int) ⟨ef', et', c', b', em'⟩ = true) ↔ (l &&& c = b ∧ l &&& c' = b')) := fun l hl => by
    unfold letB
    rw [and_i64 l c (by omega) (by omega), and_i64 l c' (by omega) (by omega), decide_eq_true_eq, decide_eq_true_eq]
    exact and_congr Int.ofNat_inj Int.ofNat_inj
  constructor
  · rintro ⟨l, h1, h2⟩
    exact congrArg (fun n : Nat => (n : Int)) (hcl.1 ⟨l, h1, (hl l h1).1 h2⟩)
  · intro h3
    obtain ⟨l, h1, h2⟩ := hcl.2 (Int.ofNat.inj h3)
    exact ⟨l, h1, (hl l h1).2 h2⟩

end Go.Proofs.Ytfblnadmbfhjiaa.Wd

namespace Go.Proofs.Ytfblnadmbfhjiaa.Wd
open Go.RowKit
set_option linter.unusedVariables false

/-- Has one of the first t edges from i / 64 the letter i % 64? -/
def bitT (p : Nat) (es : List Ed) (t i : Nat) : Bool := (setsN p es t (i / 64)).testBit (i % 64)
/-- The same, with the first l letters of an edge e from f beside it. -/
def midT (p : Nat) (es : List Ed) (t f : Nat) (e : Ed) (l i : Nat) : Bool := bitT p es t i || (decide (i / 64 = f) && (decide (i % 64 < l) && letB ((i % 64 : Nat) : Int) e))
theorem bitT_zero (p : Nat) (es : List Ed) (i : Nat) : bitT p es 0 i = false := by simp [bitT, setsN]
theorem midT_zero (p : Nat) (es : List Ed) (t f : Nat) (e : Ed) (i : Nat) : midT p es t f e 0 i = bitT p es t i := by simp [midT]
theorem midT_all {p : Nat} {es : List Ed} {t f : Nat} (hf : (es.getD t ed0).f = (f : Int)) (i : Nat) : midT p es t f (es.getD t ed0) (2 ^ p) i = bitT p es (t + 1) i := by
  unfold midT bitT
  by_cases h : i / 64 = f
  · rw [h, setsN_same hf, Nat.testBit_or, fitN_bit]; simp
  · rw [setsN_other (by rw [hf]; omega), decide_eq_false h]; simp
theorem midT_here (p : Nat) (es : List Ed) (t f : Nat) (e : Ed) {l : Nat} (hl : l < 64) : midT p es t f e l (f * 64 + l) = bitT p es t (f * 64 + l) := by
  unfold midT
  rw [show (f * 64 + l) % 64 = l by omega, decide_eq_false (show ¬ l < l by omega)]
  simp
theorem midT_step (p : Nat) (es : List Ed) (t f : Nat) (e : Ed) {l : Nat} (hl : l < 64) (i : Nat) : midT p es t f e (l + 1) i = if i = f * 64 + l then (bitT p es t i || letB (l : Int) e) else midT p es t f e l i := by
  by_cases h : i = f * 64 + l
  · subst h
    rw [if_pos rfl]
    unfold midT
    rw [show (f * 64 + l) % 64 = l by omega, show (f * 64 + l) / 64 = f by omega, decide_eq_true (show l < l + 1 by omega)]
    simp
  · rw [if_neg h]
    unfold midT
    by_cases h1 : i / 64 = f
    · rw [show decide (i % 64 < l + 1) = decide (i % 64 < l) by rw [decide_eq_decide]; omega]
    · rw [decide_eq_false h1]; simp
theorem full_bits {p S : Nat} (hp : p ≤ 6) (es : List Ed) : fullB p es S = true ↔ ∀ s l : Nat, s < S → l < 2 ^ p → bitT p es es.length (s * 64 + l) = true := by
  have h64 := (pow_six hp).2
  rw [fullB_iff hp]
  have key : ∀ s l : Nat, l < 2 ^ p → (bitT p es es.length (s * 64 + l) = true ↔ ∃ i, i < es.length ∧ (es.getD i ed0).f = (s : Int) ∧ letB (l : Int) (es.getD i ed0) = true) := by
    intro s l hl
    unfold bitT
    rw [show (s * 64 + l) / 64 = s by omega, show (s * 64 + l) % 64 = l by omega, setsN_bit]
    constructor
    · rintro ⟨i, h1, h2, h3⟩
      rw [fitN_bit, Bool.and_eq_true] at h3
      exact ⟨i, h1, h2, h3.2⟩
    · rintro ⟨i, h1, h2, h3⟩
      exact ⟨i, h1, h2, by rw [fitN_bit, decide_eq_true hl, h3]; rfl⟩
  exact ⟨fun h s l hs hl => (key s l hl).2 (h s hs l hl), fun h s hs l hl => (key s l hl).1 (h s l hs hl)⟩

/-- Are the first k letters of a row there? -/
def rowB (p : Nat) (es : List Ed) (s : Nat) : Nat → Bool
  | 0 => true
  | l + 1 => rowB p es s l && bitT p es es.length (s * 64 + l)
theorem rowB_iff (p : Nat) (es : List Ed) (s k : Nat) : rowB p es s k = true ↔ ∀ l, l < k → bitT p es es.length (s * 64 + l) = true := by
  induction k with
  | zero => simp [rowB]
  | succ k ih =>
    rw [rowB, Bool.and_eq_true, ih]
    constructor
    · rintro ⟨h1, h2⟩ l hl
      by_cases e : l = k
      · subst e; exact h2
      · exact h1 l (by omega)
    · intro h
      exact ⟨fun l hl => h l (by omega), h k (by omega)⟩
/-- The first s states have all. -/
def RowsB (p : Nat) (es : List Ed) (s : Nat) : Prop := ∀ s' l : Nat, s' < s → l < 2 ^ p → bitT p es es.length (s' * 64 + l) = true
theorem RowsB.step {p : Nat} {es : List Ed} {s : Nat} (h : RowsB p es s) (h2 : rowB p es s (2 ^ p) = true) : RowsB p es (s + 1) := by
  intro s' l hs hl
  by_cases e : s' = s
  · subst e; exact (rowB_iff p es s' (2 ^ p)).1 h2 l hl
  · exact h s' l (by omega) hl
theorem full_no {p S s l : Nat} (hp : p ≤ 6) {es : List Ed} (hs : s < S) (hl : l < 2 ^ p) (h : bitT p es es.length (s * 64 + l) = false) : fullB p es S = false := by
  rw [Bool.eq_false_iff]
  intro h2
  rw [(full_bits hp es).1 h2 s l hs hl] at h
  cases h
end Go.Proofs.Ytfblnadmbfhjiaa.Wd
