/-
  The automaton of the chapter's first example: what its cells hold, and that it is valid.
-/
import Derived.Test.YtalgbcndifaaiaaAtAccepts
import Derived.Deep.LoopGhost
import Derived.LoopN
import Derived.Outline
namespace Go.Proofs.Ytalgbcndifaaiaa.Wd
open Go.RowKit
set_option linter.unusedVariables false

/-- The cells of L hold what L says. -/
def CellsAt (w : World) (L : List (Addr × Value)) : Prop := ∀ p ∈ L, p.1.block < w.heap.size ∧ w.cell? p.1 = some p.2
theorem CellsAt.below {w w' : World} {L : List (Addr × Value)} (h : CellsAt w L) (hb : Below w.heap.size w w') : CellsAt w' L := fun p hp =>
  ⟨Nat.lt_of_lt_of_le (h p hp).1 hb.size, (hb.cell (h p hp).1).trans (h p hp).2⟩

/-- The automaton as a value, and its cells. -/
def agV (s e : Nat) : Value := .agg #[.int .i64 1, .int .i64 1, .slice (some ⟨s, 0, none⟩) 1 1, .int .i64 0, .int .i64 1, .slice (some ⟨e, 0, none⟩) 2 2]
def agL (s e : Nat) : List (Addr × Value) :=
  [(⟨s, 0, none⟩, .int .i64 0), (⟨e, 0, none⟩, .int .i64 0), (⟨e, 1, none⟩, .int .i64 0), (⟨e, 2, none⟩, .int .i64 1), (⟨e, 3, none⟩, .int .i64 1), (⟨e, 4, none⟩, .int .i64 1),
   (⟨e, 5, none⟩, .int .i64 0), (⟨e, 6, none⟩, .int .i64 0), (⟨e, 7, none⟩, .int .i64 1), (⟨e, 8, none⟩, .int .i64 0), (⟨e, 9, none⟩, .int .i64 0)]
theorem agL_out {w : World} {s e : Nat} (h : CellsAt w (agL s e)) : (s < w.heap.size ∧ e < w.heap.size) ∧ w.cell? ⟨s, 0, none⟩ = some (.int .i64 0) ∧
    (w.cell? ⟨e, 0, none⟩ = some (.int .i64 0) ∧ w.cell? ⟨e, 1, none⟩ = some (.int .i64 0) ∧ w.cell? ⟨e, 2, none⟩ = some (.int .i64 1) ∧ w.cell? ⟨e, 3, none⟩ = some (.int .i64 1) ∧ w.cell? ⟨e, 4, none⟩ = some (.int .i64 1)) ∧
    (w.cell? ⟨e, 5, none⟩ = some (.int .i64 0) ∧ w.cell? ⟨e, 6, none⟩ = some (.int .i64 0) ∧ w.cell? ⟨e, 7, none⟩ = some (.int .i64 1) ∧ w.cell? ⟨e, 8, none⟩ = some (.int .i64 0) ∧ w.cell? ⟨e, 9, none⟩ = some (.int .i64 0)) :=
  ⟨⟨(h (⟨s, 0, none⟩, .int .i64 0) (by simp [agL])).1, (h (⟨e, 0, none⟩, .int .i64 0) (by simp [agL])).1⟩, (h (⟨s, 0, none⟩, .int .i64 0) (by simp [agL])).2,
   ⟨(h (⟨e, 0, none⟩, .int .i64 0) (by simp [agL])).2, (h (⟨e, 1, none⟩, .int .i64 0) (by simp [agL])).2, (h (⟨e, 2, none⟩, .int .i64 1) (by simp [agL])).2, (h (⟨e, 3, none⟩, .int .i64 1) (by simp [agL])).2, (h (⟨e, 4, none⟩, .int .i64 1) (by simp [agL])).2⟩,
   ⟨(h (⟨e, 5, none⟩, .int .i64 0) (by simp [agL])).2, (h (⟨e, 6, none⟩, .int .i64 0) (by simp [agL])).2, (h (⟨e, 7, none⟩, .int .i64 1) (by simp [agL])).2, (h (⟨e, 8, none⟩, .int .i64 0) (by simp [agL])).2, (h (⟨e, 9, none⟩, .int .i64 0) (by simp [agL])).2⟩⟩

/-- What a round of a walk over the edges needs. -/
theorem agL_at {w w' : World} {s e : Nat} (h : CellsAt w (agL s e)) (hb : Below w.heap.size w w') : (s < w'.heap.size ∧ e < w'.heap.size) ∧ w'.cell? ⟨s, 0, none⟩ = some (.int .i64 0) ∧
    (w'.cell? ⟨e, 0, none⟩ = some (.int .i64 0) ∧ w'.cell? ⟨e, 1, none⟩ = some (.int .i64 0) ∧ w'.cell? ⟨e, 2, none⟩ = some (.int .i64 1) ∧ w'.cell? ⟨e, 3, none⟩ = some (.int .i64 1) ∧ w'.cell? ⟨e, 4, none⟩ = some (.int .i64 1)) ∧
    (w'.cell? ⟨e, 5, none⟩ = some (.int .i64 0) ∧ w'.cell? ⟨e, 6, none⟩ = some (.int .i64 0) ∧ w'.cell? ⟨e, 7, none⟩ = some (.int .i64 1) ∧ w'.cell? ⟨e, 8, none⟩ = some (.int .i64 0) ∧ w'.cell? ⟨e, 9, none⟩ = some (.int .i64 0)) :=
  agL_out (h.below hb)

/-- The variable that holds the automaton. -/
def bxL (b s e : Nat) : List (Addr × Value) :=
  [(⟨b, 0, none⟩, .int .i64 1), (⟨b, 1, none⟩, .int .i64 1), (⟨b, 2, none⟩, .slice (some ⟨s, 0, none⟩) 1 1), (⟨b, 3, none⟩, .int .i64 0), (⟨b, 4, none⟩, .int .i64 1), (⟨b, 5, none⟩, .slice (some ⟨e, 0, none⟩) 2 2)]
theorem bxL_new (w : World) (s e : Nat) (t : TypeId) : CellsAt (w.alloc (.cells #[.int .i64 1, .int .i64 1, .slice (some ⟨s, 0, none⟩) 1 1, .int .i64 0, .int .i64 1, .slice (some ⟨e, 0, none⟩) 2 2] t)) (bxL w.heap.size s e) := by
  intro p hp
  simp only [bxL, List.mem_cons, List.not_mem_nil, or_false] at hp
  rcases hp with rfl | rfl | rfl | rfl | rfl | rfl
  all_goals exact ⟨by simp, by rw [box_last]; rfl⟩
theorem bxL_out {w : World} {b s e : Nat} (h : CellsAt w (bxL b s e)) : b < w.heap.size ∧ w.cell? ⟨b, 0, none⟩ = some (.int .i64 1) ∧ w.cell? ⟨b, 1, none⟩ = some (.int .i64 1) ∧ w.cell? ⟨b, 2, none⟩ = some (.slice (some ⟨s, 0, none⟩) 1 1) ∧
    w.cell? ⟨b, 3, none⟩ = some (.int .i64 0) ∧ w.cell? ⟨b, 4, none⟩ = some (.int .i64 1) ∧ w.cell? ⟨b, 5, none⟩ = some (.slice (some ⟨e, 0, none⟩) 2 2) :=
  ⟨(h (⟨b, 0, none⟩, .int .i64 1) (by simp [bxL])).1, (h (⟨b, 0, none⟩, .int .i64 1) (by simp [bxL])).2, (h (⟨b, 1, none⟩, .int .i64 1) (by simp [bxL])).2, (h (⟨b, 2, none⟩, .slice (some ⟨s, 0, none⟩) 1 1) (by simp [bxL])).2,
   (h (⟨b, 3, none⟩, .int .i64 0) (by simp [bxL])).2, (h (⟨b, 4, none⟩, .int .i64 1) (by simp [bxL])).2, (h (⟨b, 5, none⟩, .slice (some ⟨e, 0, none⟩) 2 2) (by simp [bxL])).2⟩

set_option maxRecDepth 100000 in
set_option maxHeartbeats 1000000 in
theorem validStart_ag (s e : Nat) (w : World) (h : CellsAt w (agL s e)) : Calls Try.prog 38 #[agV s e] w fun r w' => r = .returned (.bool true) ∧ Below w.heap.size w w' := by
  obtain ⟨⟨h1, h2⟩, c0, _, _⟩ := agL_out h
  clear h
  unfold agV
  go_enter Try.func38, Try.ntmps38
  go_wp2_with fail
  refine wp_loop_rounds 2 ?_
  rw [rounds_succ]
  go_wp2_with fail
  rw [rounds_succ]
  go_wp2_with fail
  go_ret
  exact ⟨rfl, (Below.refl _ _).alloc (Nat.le_refl _) _⟩

set_option maxRecDepth 100000 in
set_option maxHeartbeats 4000000 in
theorem validEdges_ag (s e : Nat) (w : World) (h : CellsAt w (agL s e)) : Calls Try.prog 39 #[agV s e] w fun r w' => r = .returned (.bool true) ∧ Below w.heap.size w w' := by
  obtain ⟨⟨h1, h2⟩, _, ⟨a0, a1, a2, a3, a4⟩, b0, b1, b2, b3, b4⟩ := agL_out h
  clear h
  unfold agV
  go_enter Try.func39, Try.ntmps39
  go_wp2_with fail
  refine wp_loop_rounds 3 ?_
  rw [rounds_succ]
  go_wp2_with fail
  go_quiet (fail)
  go_wp2_with fail
  go_quiet (fail)
  go_wp2_with fail
  rw [rounds_succ]
  go_wp2_with fail
  go_quiet (fail)
  go_wp2_with fail
  go_quiet (fail)
  go_wp2_with fail
  rw [rounds_succ]
  go_wp2_with fail
  go_ret
  refine ⟨rfl, ?_⟩
  (repeat first | apply below_drewN | refine Below.alloc ?_ (by first | exact Nat.le_refl _ | (simp <;> omega)) _)
  exact Below.refl _ _

set_option maxRecDepth 100000 in
set_option maxHeartbeats 4000000 in
theorem valid_ag (s e : Nat) (w : World) (h : CellsAt w (agL s e)) : Calls Try.prog 19 #[agV s e] w fun r w' => r = .returned (.bool true) ∧ Below w.heap.size w w' := by
  have HS := Lib.hid (fun W (hW : Below w.heap.size w W) => validStart_ag s e W (h.below hW))
  have HE := Lib.hid (fun W (hW : Below w.heap.size w W) => validEdges_ag s e W (h.below hW))
  have HX := Lib.hid (bxL_new w s e 25)
  clear h
  unfold agV at *
  go_enter Try.func19, Try.ntmps19
  go_wp2_with fail
  refine (of_kind0 _).mono ?_
  rintro r w1 ⟨rfl, hb1⟩
  have HX1 := Lib.hid (HX.out.below hb1)
  obtain ⟨hz, p0, p1, p2, p3, p4, p5⟩ := bxL_out HX1.out
  have HB1 := Lib.hid (show Below w.heap.size w w1 from ((Below.refl _ _).alloc (Nat.le_refl _) _).trans (hb1.mono (by simp)))
  clear hb1
  go_wp2_with fail
  refine (isOne_any 1 _).mono ?_
  rintro r w2 ⟨rfl, rfl⟩
  go_wp2_with fail
  refine (HS.out _ (HB1.out.alloc HB1.out.size _)).mono ?_
  rintro r w3 ⟨rfl, hb3⟩
  have HX3 := Lib.hid ((HX1.out.below ((Below.refl _ _).alloc (Nat.le_refl _) _)).below hb3)
  have HB3 := Lib.hid ((HB1.out.alloc HB1.out.size _).trans (hb3.mono (HB1.out.alloc HB1.out.size _).size))
  clear hz p0 p1 p2 p3 p4 p5 hb3
  obtain ⟨hz, p0, p1, p2, p3, p4, p5⟩ := bxL_out HX3.out
  go_wp2_with fail
  refine (HE.out _ HB3.out).mono ?_
  rintro r w4 ⟨rfl, hb4⟩
  go_wp2_with fail
  go_ret
  exact ⟨rfl, HB3.out.trans (hb4.mono HB3.out.size)⟩

theorem has_any (f t c b m l : Int) (w : World) : Calls Try.prog 68 #[.agg #[.int .i64 f, .int .i64 t, .int .i64 c, .int .i64 b, .int .i64 m], .int .i64 l] w fun r w' => r = .returned (.bool (decide (bits .and .i64 l c = b))) ∧ Below w.heap.size w w' := by
  go_enter Try.func68, Try.ntmps68
  go_wp2_with fail
  go_ret
  exact ⟨ret_bool (by first | rfl | simp), (Below.refl _ _).alloc (Nat.le_refl _) _⟩

theorem box_at {w w1 : World} {cs : Array Value} {t : TypeId} (hb : Below (w.alloc (.cells cs t)).heap.size (w.alloc (.cells cs t)) w1) : w.heap.size < w1.heap.size ∧ ∀ i, w1.cell? ⟨w.heap.size, i, none⟩ = cs[i]? :=
  ⟨by have := hb.size; simp at this; omega, fun i => (hb.cell (p := ⟨w.heap.size, i, none⟩) (by simp)).trans (box_last _ _ _ _)⟩

set_option maxRecDepth 100000 in
set_option maxHeartbeats 4000000 in
theorem fitting_ag1 (w : World) : Calls Try.prog 40 #[.agg #[.int .i64 0, .int .i64 0, .int .i64 1, .int .i64 1, .int .i64 1], .int .i64 1] w fun r w' => r = .returned (.int .u64 2) ∧ Below w.heap.size w w' := by
  have a0 : decide (bits .and .i64 0 1 = (1 : Int)) = false := by decide
  have a1 : decide (bits .and .i64 1 1 = (1 : Int)) = true := by decide
  have A0 := Lib.hid a0
  have A1 := Lib.hid a1
  clear a0 a1
  have a2 : bits .or .u64 0 2 = 2 := by decide
  have a3 : bits .or .u64 0 1 = 1 := by decide
  go_enter Try.func40, Try.ntmps40
  go_wp2_with fail
  refine wp_loop_rounds 3 ?_
  rw [rounds_succ]
  go_wp2_with fail
  refine (has_any 0 0 1 1 1 0 _).mono ?_
  rintro r w1 ⟨rfl, hb1⟩
  rw [A0.out]
  obtain ⟨hz, hq⟩ := box_at hb1
  have q0 : w1.cell? ⟨w.heap.size, 0, none⟩ = some (.int .i64 0) := hq 0
  have q1 : w1.cell? ⟨w.heap.size, 1, none⟩ = some (.int .i64 0) := hq 1
  have q2 : w1.cell? ⟨w.heap.size, 2, none⟩ = some (.int .i64 1) := hq 2
  have q3 : w1.cell? ⟨w.heap.size, 3, none⟩ = some (.int .i64 1) := hq 3
  have q4 : w1.cell? ⟨w.heap.size, 4, none⟩ = some (.int .i64 1) := hq 4
  have HB1 := Lib.hid (show Below w.heap.size w w1 from ((Below.refl _ _).alloc (Nat.le_refl _) _).trans (hb1.mono (by simp)))
  clear hq hb1
  go_wp2_with fail
  rw [rounds_succ]
  go_wp2_with fail
  refine (has_any 0 0 1 1 1 1 _).mono ?_
  rintro r w2 ⟨rfl, hb2⟩
  rw [A1.out]
  have HB2 := Lib.hid (HB1.out.trans (hb2.mono HB1.out.size))
  clear hb2 q0 q1 q2 q3 q4 hz
  go_wp2_with fail
  rw [rounds_succ]
  go_wp2_with fail
  go_ret
  exact ⟨rfl, HB2.out⟩

set_option maxRecDepth 100000 in
set_option maxHeartbeats 4000000 in
theorem fitting_ag2 (w : World) : Calls Try.prog 40 #[.agg #[.int .i64 0, .int .i64 0, .int .i64 1, .int .i64 0, .int .i64 0], .int .i64 1] w fun r w' => r = .returned (.int .u64 1) ∧ Below w.heap.size w w' := by
  have a0 : decide (bits .and .i64 0 1 = (0 : Int)) = true := by decide
  have a1 : decide (bits .and .i64 1 1 = (0 : Int)) = false := by decide
  have A0 := Lib.hid a0
  have A1 := Lib.hid a1
  clear a0 a1
  have a2 : bits .or .u64 0 2 = 2 := by decide
  have a3 : bits .or .u64 0 1 = 1 := by decide
  go_enter Try.func40, Try.ntmps40
  go_wp2_with fail
  refine wp_loop_rounds 3 ?_
  rw [rounds_succ]
  go_wp2_with fail
  refine (has_any 0 0 1 0 0 0 _).mono ?_
  rintro r w1 ⟨rfl, hb1⟩
  rw [A0.out]
  obtain ⟨hz, hq⟩ := box_at hb1
  have q0 : w1.cell? ⟨w.heap.size, 0, none⟩ = some (.int .i64 0) := hq 0
  have q1 : w1.cell? ⟨w.heap.size, 1, none⟩ = some (.int .i64 0) := hq 1
  have q2 : w1.cell? ⟨w.heap.size, 2, none⟩ = some (.int .i64 1) := hq 2
  have q3 : w1.cell? ⟨w.heap.size, 3, none⟩ = some (.int .i64 0) := hq 3
  have q4 : w1.cell? ⟨w.heap.size, 4, none⟩ = some (.int .i64 0) := hq 4
  have HB1 := Lib.hid (show Below w.heap.size w w1 from ((Below.refl _ _).alloc (Nat.le_refl _) _).trans (hb1.mono (by simp)))
  clear hq hb1
  go_wp2_with fail
  rw [rounds_succ]
  go_wp2_with fail
  refine (has_any 0 0 1 0 0 1 _).mono ?_
  rintro r w2 ⟨rfl, hb2⟩
  rw [A1.out]
  have HB2 := Lib.hid (HB1.out.trans (hb2.mono HB1.out.size))
  clear hb2 q0 q1 q2 q3 q4 hz
  go_wp2_with fail
  rw [rounds_succ]
  go_wp2_with fail
  go_ret
  exact ⟨rfl, HB2.out⟩

end Go.Proofs.Ytalgbcndifaaiaa.Wd
