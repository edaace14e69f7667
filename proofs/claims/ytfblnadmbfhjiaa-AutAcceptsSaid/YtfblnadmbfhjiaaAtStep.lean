/-
  The walker of the example automaton: newWalker and step.
-/
import Derived.Test.YtfblnadmbfhjiaaAtOut
import Derived.Deep.RegionHeld3
namespace Go.Proofs.Ytfblnadmbfhjiaa.Wd
open Go.RowKit
set_option linter.unusedVariables false

/-- The walker at block r, with all that it looks at. -/
def wkL (r s e o g c : Nat) : List (Addr × Value) :=
  [(⟨r, 0, none⟩, .slice (some ⟨e, 0, none⟩) 2 2), (⟨r, 1, none⟩, .slice (some ⟨o, 0, none⟩) 1 1), (⟨r, 2, none⟩, .int .i64 0), (⟨r, 3, none⟩, .bool false)] ++
  ([(⟨o, 0, none⟩, .slice (some ⟨g, 0, none⟩) 2 c), (⟨g, 0, none⟩, .int .i64 0), (⟨g, 1, none⟩, .int .i64 1)] ++ agL s e)

set_option maxRecDepth 100000 in
set_option maxHeartbeats 4000000 in
theorem newWalker_ag (s e : Nat) (w : World) (h : CellsAt w (agL s e)) : Calls Try.prog 49 #[agV s e] w fun x w' =>
    ∃ r o g c, x = .returned (.pointer (some ⟨r, 0, none⟩)) ∧ w.heap.size ≤ r ∧ CellsAt w' (wkL r s e o g c) ∧ w'.frozen? ⟨r, 2, none⟩ = false ∧ Below w.heap.size w w' := by
  have HX := Lib.hid (bxL_new w s e 25)
  have HL := Lib.hid h
  have HO := Lib.hid (fun W (hW : Below w.heap.size w W) => outgoing_ag s e W (h.below hW))
  have HBX := Lib.hid (show Below w.heap.size w (w.alloc (.cells #[.int .i64 1, .int .i64 1, .slice (some ⟨s, 0, none⟩) 1 1, .int .i64 0, .int .i64 1, .slice (some ⟨e, 0, none⟩) 2 2] 25)) from (Below.refl _ _).alloc (Nat.le_refl _) _)
  obtain ⟨⟨h1, h2⟩, c0, _, _⟩ := agL_out h
  have c0' : (w.alloc (.cells #[.int .i64 1, .int .i64 1, .slice (some ⟨s, 0, none⟩) 1 1, .int .i64 0, .int .i64 1, .slice (some ⟨e, 0, none⟩) 2 2] 25)).cell? ⟨s, 0, none⟩ = some (.int .i64 0) := (HBX.out.cell (p := ⟨s, 0, none⟩) h1).trans c0
  have HS := Lib.hid (show ∀ V, Below (w.alloc (.cells #[.int .i64 1, .int .i64 1, .slice (some ⟨s, 0, none⟩) 1 1, .int .i64 0, .int .i64 1, .slice (some ⟨e, 0, none⟩) 2 2] 25)).heap.size (w.alloc (.cells #[.int .i64 1, .int .i64 1, .slice (some ⟨s, 0, none⟩) 1 1, .int .i64 0, .int .i64 1, .slice (some ⟨e, 0, none⟩) 2 2] 25)) V →
      (V.cell? ⟨w.heap.size, 0, none⟩ = some (.int .i64 1) ∧ V.cell? ⟨w.heap.size, 1, none⟩ = some (.int .i64 1) ∧ V.cell? ⟨w.heap.size, 2, none⟩ = some (.slice (some ⟨s, 0, none⟩) 1 1) ∧ V.cell? ⟨w.heap.size, 3, none⟩ = some (.int .i64 0) ∧ V.cell? ⟨w.heap.size, 4, none⟩ = some (.int .i64 1) ∧ V.cell? ⟨w.heap.size, 5, none⟩ = some (.slice (some ⟨e, 0, none⟩) 2 2)) ∧ V.cell? ⟨s, 0, none⟩ = some (.int .i64 0) from
    fun V hV => ⟨(bxL_out (HX.out.below hV)).2, (hV.cell (p := ⟨s, 0, none⟩) (by simp; omega)).trans c0'⟩)
  clear h c0 c0'
  unfold agV at *
  go_enter Try.func49, Try.ntmps49
  go_wp2_with fail
  generalize w.alloc (.cells #[.int .i64 1, .int .i64 1, .slice (some ⟨s, 0, none⟩) 1 1, .int .i64 0, .int .i64 1, .slice (some ⟨e, 0, none⟩) 2 2] 25) = Z at *
  go_region_held3 (fun V => (V.cell? ⟨w.heap.size, 0, none⟩ = some (.int .i64 1) ∧ V.cell? ⟨w.heap.size, 1, none⟩ = some (.int .i64 1) ∧ V.cell? ⟨w.heap.size, 2, none⟩ = some (.slice (some ⟨s, 0, none⟩) 1 1) ∧ V.cell? ⟨w.heap.size, 3, none⟩ = some (.int .i64 0) ∧ V.cell? ⟨w.heap.size, 4, none⟩ = some (.int .i64 1) ∧ V.cell? ⟨w.heap.size, 5, none⟩ = some (.slice (some ⟨e, 0, none⟩) 2 2)) ∧ V.cell? ⟨s, 0, none⟩ = some (.int .i64 0))
    (first
      | exact HS.out _ k1
      | exact HS.out _ ((Below.refl Z.heap.size Z).drew)
      | exact HS.out _ (k1.alloc k1.size _))
    (first
      | (go_at_call 62; refine (HO.out _ HBX.out.drew).mono ?_; rintro x z1 ⟨o, g, c, rfl, ho, HC, b1⟩; have k1 : Below Z.heap.size Z z1 := ((Below.refl _ _).drew).trans b1)
      | fail)
  go_wp2_with fail
  go_ret
  have hw1 : Below w.heap.size w z1 := HBX.out.trans (k1.mono HBX.out.size)
  refine ⟨z1.heap.size, o, g, c, rfl, hw1.size, ?_, box_last_free _ _ _ _, hw1.alloc hw1.size _⟩
  refine CellsAt.append ?_ (CellsAt.append (HC.alloc _) (((HL.out.below hw1)).alloc _))
  intro p hp
  simp only [List.mem_cons, List.not_mem_nil, or_false] at hp
  rcases hp with rfl | rfl | rfl | rfl
  all_goals exact ⟨by simp, by rw [box_last]; rfl⟩

theorem wkL_out {w : World} {r s e o g c : Nat} (h : CellsAt w (wkL r s e o g c)) : r < w.heap.size ∧ (w.cell? ⟨r, 0, none⟩ = some (.slice (some ⟨e, 0, none⟩) 2 2) ∧ w.cell? ⟨r, 1, none⟩ = some (.slice (some ⟨o, 0, none⟩) 1 1) ∧ w.cell? ⟨r, 2, none⟩ = some (.int .i64 0) ∧ w.cell? ⟨r, 3, none⟩ = some (.bool false)) ∧
    (w.cell? ⟨o, 0, none⟩ = some (.slice (some ⟨g, 0, none⟩) 2 c) ∧ w.cell? ⟨g, 0, none⟩ = some (.int .i64 0) ∧ w.cell? ⟨g, 1, none⟩ = some (.int .i64 1)) ∧ (o < w.heap.size ∧ g < w.heap.size) ∧ CellsAt w (agL s e) :=
  ⟨h.left.lt, ⟨h.left.head, h.left.tail.head, h.left.tail.tail.head, h.left.tail.tail.tail.head⟩, ⟨h.right.left.head, h.right.left.tail.head, h.right.left.tail.tail.head⟩, ⟨h.right.left.lt, h.right.left.tail.lt⟩, h.right.right⟩

/-- The walker stands. -/
def Wk (w : World) (r s e o g c : Nat) : Prop := CellsAt w (wkL r s e o g c) ∧ w.frozen? ⟨r, 2, none⟩ = false
theorem Wk.below {w w' : World} {r s e o g c : Nat} (h : Wk w r s e o g c) (hb : Below w.heap.size w w') : Wk w' r s e o g c :=
  ⟨h.1.below hb, (hb.frozen (p := ⟨r, 2, none⟩) (wkL_out h.1).1).trans h.2⟩
theorem Wk.again {w : World} {r s e o g c : Nat} (h : Wk w r s e o g c) : Wk (w.setCell ⟨r, 2, none⟩ (.int .i64 0)) r s e o g c :=
  ⟨h.1.again (wkL_out h.1).2.1.2.2.1, by rw [World.frozen?_setCell]; exact h.2⟩

theorem grown_of {w w' : World} {row : Option Nat} (hb : Below w.heap.size w w') : w.grownBy w' row := ⟨hb.os, hb.tape, hb.output, hb.size, fun i hi _ => hb.block i hi⟩
theorem grown_set {w w' : World} {r : Nat} (h : w.grownBy w' (some r)) (o : Nat) (v : Value) : w.grownBy (w'.setCell ⟨r, o, none⟩ v) (some r) :=
  ⟨h.os, h.tape, h.output, by simpa using h.size, fun i hi hne => (Below.heap_setCell _ _ _ i (fun e => hne (by rw [e]))).trans (h.block i hi hne)⟩
theorem grown_below {w w' : World} {r B : Nat} (h : w.grownBy w' (some r)) (hB : B ≤ r) (hBw : B ≤ w.heap.size) : Below B w w' := (Below.refl _ _).grown h hBw (fun k hk => by cases hk; exact hB)

def StepR (w w' : World) (r s e o g c : Nat) (v : Int) (x : Ending) : Prop := x = .returned (.int .i64 v) ∧ Wk w' r s e o g c ∧ w.grownBy w' (some r)

set_option maxRecDepth 100000 in
set_option maxHeartbeats 4000000 in
theorem step_one (r s e o g c : Nat) (w : World) (h : Wk w r s e o g c) : Calls Try.prog 91 #[.pointer (some ⟨r, 0, none⟩), .int .i64 1] w fun x w' => StepR w w' r s e o g c 1 x := by
  have HW := Lib.hid h
  obtain ⟨hr, ⟨r0, r1, r2, r3⟩, ⟨o0, g0, g1⟩, ⟨ho, hg⟩, ha⟩ := wkL_out h.1
  have l1 := Lib.hid (show decide (bits .and .i64 1 1 = (1 : Int)) = true by decide)
  have l2 := Lib.hid (show decide (bits .and .i64 1 1 = (0 : Int)) = false by decide)
  clear h ha
  go_enter Try.func91, Try.ntmps91
  go_wp2_with fail
  go_quiet (fail)
  have HW2 := Lib.hid (show Wk (w.drewN nq) r s e o g c from HW.out)
  have HBl := Lib.hid (show w.grownBy (w.drewN nq) (some r) from grown_of (below_drewN (Below.refl _ _) _))
  clear hr r0 r1 r2 r3 o0 g0 g1 ho hg HW
  generalize w.drewN nq = W at *
  obtain ⟨hr, ⟨r0, r1, r2, r3⟩, ⟨o0, g0, g1⟩, ⟨ho, hg⟩, ha⟩ := wkL_out HW2.out.1
  obtain ⟨⟨h1, h2⟩, _, ⟨a0, a1, a2, a3, a4⟩, b0, b1, b2, b3, b4⟩ := agL_out ha
  have hf := HW2.out.2
  clear ha
  go_wp2_with fail
  refine wp_loop_rounds 3 ?_
  rw [rounds_succ]
  go_wp2_with fail
  refine (has_any 0 0 1 1 1 1 _).mono ?_
  rintro x w1 ⟨rfl, hb1⟩
  rw [l1.out]
  obtain ⟨hz, hq⟩ := box_at hb1
  have q0 : w1.cell? ⟨W.heap.size, 0, none⟩ = some (.int .i64 0) := hq 0
  have q1 : w1.cell? ⟨W.heap.size, 1, none⟩ = some (.int .i64 0) := hq 1
  have q4 : w1.cell? ⟨W.heap.size, 4, none⟩ = some (.int .i64 1) := hq 4
  have hw1 : Below W.heap.size W w1 := ((Below.refl _ _).alloc (Nat.le_refl _) _).trans (hb1.mono (by simp))
  have HW3 := Lib.hid (HW2.out.below hw1)
  have HB3 := Lib.hid (HBl.out.trans (grown_of hw1))
  clear hr r0 r1 r2 r3 o0 g0 g1 ho hg h1 h2 a0 a1 a2 a3 a4 b0 b1 b2 b3 b4 hf hq hb1 hw1 HW2
  obtain ⟨hr, ⟨r0, r1, r2, r3⟩, ⟨o0, g0, g1⟩, ⟨ho, hg⟩, ha⟩ := wkL_out HW3.out.1
  obtain ⟨⟨h1, h2⟩, _, ⟨a0, a1, a2, a3, a4⟩, b0, b1, b2, b3, b4⟩ := agL_out ha
  have hf := HW3.out.2
  clear ha
  go_wp2_with fail
  go_ret
  exact ⟨rfl, HW3.out.again, grown_set HB3.out _ _⟩

set_option maxRecDepth 100000 in
set_option maxHeartbeats 4000000 in
theorem step_zero (r s e o g c : Nat) (w : World) (h : Wk w r s e o g c) : Calls Try.prog 91 #[.pointer (some ⟨r, 0, none⟩), .int .i64 0] w fun x w' => StepR w w' r s e o g c 0 x := by
  have HW := Lib.hid h
  obtain ⟨hr, ⟨r0, r1, r2, r3⟩, ⟨o0, g0, g1⟩, ⟨ho, hg⟩, ha⟩ := wkL_out h.1
  have l1 := Lib.hid (show decide (bits .and .i64 0 1 = (1 : Int)) = false by decide)
  have l2 := Lib.hid (show decide (bits .and .i64 0 1 = (0 : Int)) = true by decide)
  clear h ha
  go_enter Try.func91, Try.ntmps91
  go_wp2_with fail
  go_quiet (fail)
  have HW2 := Lib.hid (show Wk (w.drewN nq) r s e o g c from HW.out)
  have HBl := Lib.hid (show w.grownBy (w.drewN nq) (some r) from grown_of (below_drewN (Below.refl _ _) _))
  clear hr r0 r1 r2 r3 o0 g0 g1 ho hg HW
  generalize w.drewN nq = W at *
  obtain ⟨hr, ⟨r0, r1, r2, r3⟩, ⟨o0, g0, g1⟩, ⟨ho, hg⟩, ha⟩ := wkL_out HW2.out.1
  obtain ⟨⟨h1, h2⟩, _, ⟨a0, a1, a2, a3, a4⟩, b0, b1, b2, b3, b4⟩ := agL_out ha
  have hf := HW2.out.2
  clear ha
  go_wp2_with fail
  refine wp_loop_rounds 3 ?_
  rw [rounds_succ]
  go_wp2_with fail
  refine (has_any 0 0 1 1 1 0 _).mono ?_
  rintro x w1 ⟨rfl, hb1⟩
  rw [l1.out]
  obtain ⟨hz, hq⟩ := box_at hb1
  have q0 : w1.cell? ⟨W.heap.size, 0, none⟩ = some (.int .i64 0) := hq 0
  have q1 : w1.cell? ⟨W.heap.size, 1, none⟩ = some (.int .i64 0) := hq 1
  have q4 : w1.cell? ⟨W.heap.size, 4, none⟩ = some (.int .i64 1) := hq 4
  have hw1 : Below W.heap.size W w1 := ((Below.refl _ _).alloc (Nat.le_refl _) _).trans (hb1.mono (by simp))
  have HW3 := Lib.hid (HW2.out.below hw1)
  have HB3 := Lib.hid (HBl.out.trans (grown_of hw1))
  clear hr r0 r1 r2 r3 o0 g0 g1 ho hg h1 h2 a0 a1 a2 a3 a4 b0 b1 b2 b3 b4 hf hq hb1 hw1 HW2
  obtain ⟨hr, ⟨r0, r1, r2, r3⟩, ⟨o0, g0, g1⟩, ⟨ho, hg⟩, ha⟩ := wkL_out HW3.out.1
  obtain ⟨⟨h1, h2⟩, _, ⟨a0, a1, a2, a3, a4⟩, b0, b1, b2, b3, b4⟩ := agL_out ha
  have hf := HW3.out.2
  clear ha
  go_wp2_with fail
  rw [rounds_succ]
  go_wp2_with fail
  refine (has_any 0 0 1 0 0 0 _).mono ?_
  rintro x w2 ⟨rfl, hb2⟩
  rw [l2.out]
  obtain ⟨hz', hq'⟩ := box_at hb2
  have p1 : w2.cell? ⟨w1.heap.size, 1, none⟩ = some (.int .i64 0) := hq' 1
  have p4 : w2.cell? ⟨w1.heap.size, 4, none⟩ = some (.int .i64 0) := hq' 4
  have hw2 : Below w1.heap.size w1 w2 := ((Below.refl _ _).alloc (Nat.le_refl _) _).trans (hb2.mono (by simp))
  have HW4 := Lib.hid (HW3.out.below hw2)
  have HB4 := Lib.hid (HB3.out.trans (grown_of hw2))
  clear hr r0 r1 r2 r3 o0 g0 g1 ho hg h1 h2 a0 a1 a2 a3 a4 b0 b1 b2 b3 b4 hf hq' hb2 hw2 q0 q1 q4 hz
  obtain ⟨hr, ⟨r0, r1, r2, r3⟩, ⟨o0, g0, g1⟩, ⟨ho, hg⟩, ha⟩ := wkL_out HW4.out.1
  have hf := HW4.out.2
  clear ha
  go_wp2_with fail
  go_ret
  exact ⟨rfl, HW4.out.again, grown_set HB4.out _ _⟩

end Go.Proofs.Ytfblnadmbfhjiaa.Wd
