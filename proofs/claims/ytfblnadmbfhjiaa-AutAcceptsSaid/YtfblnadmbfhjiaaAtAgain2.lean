/-
  The example automaton is deterministic.
-/
import Derived.Test.YtfblnadmbfhjiaaAtAgain
namespace Go.Proofs.Ytfblnadmbfhjiaa.Wd
open Go.RowKit
set_option linter.unusedVariables false

section
variable {w w' : World} {L : List (Addr × Value)}
theorem CellsAt.nil (w : World) : CellsAt w [] := fun p hp => by cases hp
theorem CellsAt.head {a : Addr} {v : Value} (h : CellsAt w ((a, v) :: L)) : w.cell? a = some v := (h (a, v) (by simp)).2
theorem CellsAt.lt {a : Addr} {v : Value} (h : CellsAt w ((a, v) :: L)) : a.block < w.heap.size := (h (a, v) (by simp)).1
theorem CellsAt.tail {p : Addr × Value} (h : CellsAt w (p :: L)) : CellsAt w L := fun q hq => h q (by simp [hq])
theorem CellsAt.append {L' : List (Addr × Value)} (h : CellsAt w L) (h' : CellsAt w L') : CellsAt w (L ++ L') := fun p hp => (List.mem_append.1 hp).elim (h p) (h' p)
theorem CellsAt.left {L' : List (Addr × Value)} (h : CellsAt w (L ++ L')) : CellsAt w L := fun p hp => h p (List.mem_append.2 (.inl hp))
theorem CellsAt.right {L' : List (Addr × Value)} (h : CellsAt w (L ++ L')) : CellsAt w L' := fun p hp => h p (List.mem_append.2 (.inr hp))
theorem CellsAt.alloc (h : CellsAt w L) (o : Obj) : CellsAt (w.alloc o) L := h.below ((Below.refl _ _).alloc (Nat.le_refl _) o)
theorem CellsAt.drewN (h : CellsAt w L) (n : Nat) : CellsAt (w.drewN n) L := h
theorem CellsAt.one (h : CellsAt w L) (x : Value) (t : TypeId) : CellsAt (w.alloc (.cells #[x] t)) ((⟨w.heap.size, 0, none⟩, x) :: L) := by
  intro p hp
  rcases List.mem_cons.1 hp with rfl | hp
  · exact ⟨by simp, by rw [box_last]; rfl⟩
  · exact h.alloc _ p hp
theorem CellsAt.five (h : CellsAt w L) (x0 x1 x2 x3 x4 : Value) (t : TypeId) : CellsAt (w.alloc (.cells #[x0, x1, x2, x3, x4] t))
    ((⟨w.heap.size, 0, none⟩, x0) :: (⟨w.heap.size, 1, none⟩, x1) :: (⟨w.heap.size, 2, none⟩, x2) :: (⟨w.heap.size, 3, none⟩, x3) :: (⟨w.heap.size, 4, none⟩, x4) :: L) := by
  intro p hp
  rcases List.mem_cons.1 hp with rfl | hp
  · exact ⟨by simp, by rw [box_last]; rfl⟩
  rcases List.mem_cons.1 hp with rfl | hp
  · exact ⟨by simp, by rw [box_last]; rfl⟩
  rcases List.mem_cons.1 hp with rfl | hp
  · exact ⟨by simp, by rw [box_last]; rfl⟩
  rcases List.mem_cons.1 hp with rfl | hp
  · exact ⟨by simp, by rw [box_last]; rfl⟩
  rcases List.mem_cons.1 hp with rfl | hp
  · exact ⟨by simp, by rw [box_last]; rfl⟩
  · exact h.alloc _ p hp
/-- A store into another cell. -/
theorem CellsAt.other (h : CellsAt w L) (a : Addr) (v : Value) (hne : ∀ p ∈ L, a ≠ p.1) : CellsAt (w.setCell a v) L := fun p hp =>
  ⟨by simpa using (h p hp).1, (World.cell?_setCell_other w a p.1 v (hne p hp)).trans (h p hp).2⟩
/-- A store of what was there. -/
theorem CellsAt.again (h : CellsAt w L) {a : Addr} {v : Value} (ha : w.cell? a = some v) : CellsAt (w.setCell a v) L := fun p hp =>
  ⟨by simpa using (h p hp).1, by
    by_cases he : a = p.1
    · subst he
      rw [World.cell?_setCell_same w p.1 v ha, ← ha]
      exact (h p hp).2
    · exact (World.cell?_setCell_other w a p.1 v he).trans (h p hp).2⟩
end

set_option maxRecDepth 100000 in
set_option maxHeartbeats 4000000 in
theorem lettersOf_ag (s e : Nat) (w : World) (h : CellsAt w (agL s e)) : Calls Try.prog 38 #[agV s e] w fun r w' => (∃ b, r = .returned (.tuple #[.slice (some b) 1 1, .bool false])) ∧ Below w.heap.size w w' := by
  have hmk : ∀ w : World, (Instr.makeSlice 62 (.int .i64 1) (.int .i64 1)).run Try.prog w = .ok (.slice (some ⟨w.heap.size, 0, none⟩) 1 1) (w.alloc (.cells #[.int .u64 0] 92)) := fun _ => by kernel_rfl
  have HX := Lib.hid (bxL_new w s e 25)
  have HL := Lib.hid h
  obtain ⟨⟨h1, h2⟩, _, ⟨a0, a1, a2, a3, a4⟩, b0, b1, b2, b3, b4⟩ := agL_out h
  clear h
  unfold agV
  go_enter Try.func38, Try.ntmps38
  go_wp2_with fail
  refine wp_loop_rounds 3 ?_
  rw [rounds_succ]
  go_wp2_with fail
  have HC0 := Lib.hid ((((CellsAt.append HX.out (HL.out.alloc _)).one (.int .u64 0) 92)).five (.int .i64 0) (.int .i64 0) (.int .i64 1) (.int .i64 1) (.int .i64 1) 54)
  refine (fitting_ag1 _).mono ?_
  rintro r w1 ⟨rfl, hb1⟩
  have HC1 := Lib.hid (HC0.out.below hb1)
  have q5 : w1.cell? ⟨w.heap.size + 1, 0, none⟩ = some (.int .u64 0) := by simpa using HC1.out.tail.tail.tail.tail.tail.head
  have f5 : w1.frozen? ⟨w.heap.size + 1, 0, none⟩ = false := by
    rw [hb1.frozen (p := ⟨w.heap.size + 1, 0, none⟩) (by simp)]
    have := box_first_free (w.alloc (.cells #[.int .i64 1, .int .i64 1, .slice (some ⟨s, 0, none⟩) 1 1, .int .i64 0, .int .i64 1, .slice (some ⟨e, 0, none⟩) 2 2] 25)) #[.int .u64 0] 92 (.cells #[.int .i64 0, .int .i64 0, .int .i64 1, .int .i64 1, .int .i64 1] 54) 0
    simpa using this
  have q0 : w1.cell? ⟨w.heap.size + 1 + 1, 0, none⟩ = some (.int .i64 0) := by simpa using HC1.out.head
  have hz1 : w.heap.size + 1 + 1 < w1.heap.size := by have := hb1.size; simp at this; omega
  have hz0 : w.heap.size + 1 < w1.heap.size := by omega
  have hz : w.heap.size < w1.heap.size := by omega
  obtain ⟨_, p0, p1, p2, p3, p4, p5⟩ := bxL_out HC1.out.tail.tail.tail.tail.tail.tail.left
  clear a0 a1 a2 a3 a4 b0 b1 b2 b3 b4
  obtain ⟨⟨h3, h4⟩, _, ⟨a0, a1, a2, a3, a4⟩, b0, b1, b2, b3, b4⟩ := agL_out HC1.out.tail.tail.tail.tail.tail.tail.right
  have HB1 := Lib.hid (show Below w.heap.size w w1 from ((((Below.refl _ _).alloc (Nat.le_refl _) _).alloc (by simp) _).alloc (by simp; omega) _).trans (hb1.mono (by simp; omega)))
  have o1 : bits .and .u64 0 2 = 0 := by decide
  have o2 : bits .or .u64 0 2 = 2 := by decide
  have o3 : bits .and .u64 2 1 = 0 := by decide
  have o4 : bits .or .u64 2 1 = 3 := by decide
  have n1 : ¬ w.heap.size + 1 = e := by omega
  have n2 : ¬ e = w.heap.size + 1 := by omega
  clear hb1
  go_wp2_with fail
  rw [rounds_succ]
  go_wp2_with fail
  refine (fitting_ag2 _).mono ?_
  rintro r w2 ⟨rfl, hb2⟩
  have hw : Below (w1.setCell ⟨w.heap.size + 1, 0, none⟩ (.int .u64 2)).heap.size (w1.setCell ⟨w.heap.size + 1, 0, none⟩ (.int .u64 2)) w2 := ((Below.refl _ _).alloc (Nat.le_refl _) _).trans (hb2.mono (by simp))
  have q5' : w2.cell? ⟨w.heap.size + 1, 0, none⟩ = some (.int .u64 2) := (hw.cell (by simpa using hz0)).trans (World.cell?_setCell_same w1 _ _ q5)
  have f5' : w2.frozen? ⟨w.heap.size + 1, 0, none⟩ = false := (hw.frozen (by simpa using hz0)).trans (by rw [World.frozen?_setCell]; exact f5)
  have q0' : w2.cell? ⟨w1.heap.size, 0, none⟩ = some (.int .i64 0) := by
    have := (box_at hb2).2 0
    simpa using this
  have hz3 : w1.heap.size < w2.heap.size := by have := (box_at hb2).1; simpa using this
  have hz4 : w.heap.size + 1 < w2.heap.size := by omega
  have HB2 := Lib.hid (show Below w.heap.size w w2 from (HB1.out.setCell (p := ⟨w.heap.size + 1, 0, none⟩) (by simp) (.int .u64 2)).trans (hw.mono (by simp; omega)))
  clear hw hb2 a0 a1 a2 a3 a4 b0 b1 b2 b3 b4 p0 p1 p2 p3 p4 p5 q0 q5 f5 hz1 hz0 hz h1 h2 h3 h4
  go_wp2_with fail
  rw [rounds_succ]
  go_wp2_with fail
  go_ret2
  exact ⟨⟨_, rfl⟩, HB2.out.setCell (p := ⟨w.heap.size + 1, 0, none⟩) (by simp) _⟩

set_option maxRecDepth 100000 in
theorem det_ag (s e : Nat) (w : World) (h : CellsAt w (agL s e)) : Calls Try.prog 10 #[agV s e] w fun r w' => r = .returned (.tuple #[.bool true, .int .i64 0]) ∧ Below w.heap.size w w' := by
  have HX := Lib.hid (bxL_new w s e 25)
  have HV := Lib.hid (fun W (hW : Below w.heap.size w W) => valid_ag s e W (h.below hW))
  have HL := Lib.hid (fun W (hW : Below w.heap.size w W) => lettersOf_ag s e W (h.below hW))
  clear h
  unfold agV at *
  go_enter Try.func10, Try.ntmps10
  go_wp2_with fail
  refine (HV.out _ ((Below.refl _ _).alloc (Nat.le_refl _) _)).mono ?_
  rintro r w1 ⟨rfl, hb1⟩
  have HX1 := Lib.hid (HX.out.below hb1)
  have HB1 := Lib.hid (show Below w.heap.size w w1 from ((Below.refl _ _).alloc (Nat.le_refl _) _).trans (hb1.mono (by simp)))
  obtain ⟨hz, p0, p1, p2, p3, p4, p5⟩ := bxL_out HX1.out
  clear hb1
  go_wp2_with fail
  refine (HL.out _ HB1.out).mono ?_
  rintro r w2 ⟨⟨b, rfl⟩, hb2⟩
  have HX2 := Lib.hid (HX1.out.below hb2)
  have HB2 := Lib.hid (HB1.out.trans (hb2.mono HB1.out.size))
  clear hz p0 p1 p2 p3 p4 p5 hb2
  obtain ⟨hz, p0, p1, p2, p3, p4, p5⟩ := bxL_out HX2.out
  go_wp2_with fail
  go_ret2
  exact ⟨rfl, HB2.out⟩

end Go.Proofs.Ytfblnadmbfhjiaa.Wd
