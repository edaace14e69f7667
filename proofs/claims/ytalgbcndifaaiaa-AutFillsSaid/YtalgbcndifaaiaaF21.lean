/-
  The example automaton is deterministic.
  Regions in a drawn order, with stores at their end: a condition S on the world that must hold only as long as none of the stores has come up. A load that every one of these stores waits for (by way of the operations that stand between) may be taken first, though the stores write the cell that it reads.
  append of a slice of ints, nil or not, onto a row of the call's own: as a step of a list of operations, and as a step of a region that draws its order.
  The edges of the example automaton, state by state.
  The walker of the example automaton: newWalker and step.
-/
import Derived.Test.YtalgbcndifaaiaaAtAgain
import Derived.OrdersHeld
import Derived.Deep.RegionHeld3
import Derived.Test.YtalgbcndifaaiaaWdKit
import Derived.Maps.AppendAt
import Derived.RegionTactic
import Derived.OwnWalk
namespace Go.Proofs.Ytalgbcndifaaiaa.Wd
open Go.RowKit
set_option linter.unusedVariables false

section
variable {w w' : World} {L : List (Addr × Value)}
theorem CellsAt.nil (w : World) : CellsAt w [] := fun p hp => by cases hp
theorem CellsAt.head {a : Addr} {v : Value} (h : CellsAt w ((a, v) :: L)) : w.cell? a = some v := (h (a, v) (by simp)).2
theorem CellsAt.lt {a : Addr} {v : Value} (h : CellsAt w ((a, v) :: L)) : a.block < w.heap.size := (h (a, v) (by simp)).1
theorem CellsAt.tail {p : Addr × Value} (h : CellsAt w (p :: L)) : CellsAt w L := fun q hq => h q (by simp [hq])
theorem CellsAt.append {L' : List (Addr × Value)} (h : CellsAt w L) (h' : CellsAt w L') : CellsAt w (L ++ L') := fun p hp => (List.mem_append.1 hp).elim (h p) (h' p)
theorem CellsAt.left {L' : List (Addr × Value)} (h : CellsAt w (L ++ L')) : CellsAt w L := fun p hp => h p (List.mem_append.2 (.inl hp))
theorem CellsAt.right {L' : List (Addr × Value)} (h : CellsAt w (L ++ L')) : CellsAt w L' := fun p hp => h p (List.mem_append.2 (.inr hp))
theorem CellsAt.alloc (h : CellsAt w L) (o : Obj) : CellsAt (w.alloc o) L := h.below ((Below.refl _ _).alloc (Nat.le_refl _) o)
theorem CellsAt.drewN (h : CellsAt w L) (n : Nat) : CellsAt (w.drewN n) L := h
theorem CellsAt.one (h : CellsAt w L) (x : Value) (t : TypeId) : CellsAt (w.alloc (.cells #[x] t)) ((⟨w.heap.size, 0, none⟩, x) :: L) := by
  intro p hp
  rcases List.mem_cons.1 hp with rfl | hp
  · exact ⟨by simp, by rw [box_last]; rfl⟩
  · exact h.alloc _ p hp
theorem CellsAt.five (h : CellsAt w L) (x0 x1 x2 x3 x4 : Value) (t : TypeId) : CellsAt (w.alloc (.cells #[x0, x1, x2, x3, x4] t))
    ((⟨w.heap.size, 0, none⟩, x0) :: (⟨w.heap.size, 1, none⟩, x1) :: (⟨w.heap.size, 2, none⟩, x2) :: (⟨w.heap.size, 3, none⟩, x3) :: (⟨w.heap.size, 4, none⟩, x4) :: L) := by
  intro p hp
  rcases List.mem_cons.1 hp with rfl | hp
  · exact ⟨by simp, by rw [box_last]; rfl⟩
  rcases List.mem_cons.1 hp with rfl | hp
  · exact ⟨by simp, by rw [box_last]; rfl⟩
  rcases List.mem_cons.1 hp with rfl | hp
  · exact ⟨by simp, by rw [box_last]; rfl⟩
  rcases List.mem_cons.1 hp with rfl | hp
  · exact ⟨by simp, by rw [box_last]; rfl⟩
  rcases List.mem_cons.1 hp with rfl | hp
  · exact ⟨by simp, by rw [box_last]; rfl⟩
  · exact h.alloc _ p hp
/-- A store into another cell. -/
theorem CellsAt.other (h : CellsAt w L) (a : Addr) (v : Value) (hne : ∀ p ∈ L, a ≠ p.1) : CellsAt (w.setCell a v) L := fun p hp =>
  ⟨by simpa using (h p hp).1, (World.cell?_setCell_other w a p.1 v (hne p hp)).trans (h p hp).2⟩
/-- A store of what was there. -/
theorem CellsAt.again (h : CellsAt w L) {a : Addr} {v : Value} (ha : w.cell? a = some v) : CellsAt (w.setCell a v) L := fun p hp =>
  ⟨by simpa using (h p hp).1, by
    by_cases he : a = p.1
    · subst he
      rw [World.cell?_setCell_same w p.1 v ha, ← ha]
      exact (h p hp).2
    · exact (World.cell?_setCell_other w a p.1 v he).trans (h p hp).2⟩
end

set_option maxRecDepth 100000 in
set_option maxHeartbeats 4000000 in
theorem lettersOf_ag (s e : Nat) (w : World) (h : CellsAt w (agL s e)) : Calls Try.prog 20 #[agV s e] w fun r w' => (∃ b, r = .returned (.tuple #[.slice (some b) 1 1, .bool false])) ∧ Below w.heap.size w w' := by
  have hmk : ∀ w : World, (Instr.makeSlice 48 (.int .i64 1) (.int .i64 1)).run Try.prog w = .ok (.slice (some ⟨w.heap.size, 0, none⟩) 1 1) (w.alloc (.cells #[.int .u64 0] 78)) := fun _ => by kernel_rfl
  have HX := Lib.hid (bxL_new w s e 25)
  have HL := Lib.hid h
  obtain ⟨⟨h1, h2⟩, _, ⟨a0, a1, a2, a3, a4⟩, b0, b1, b2, b3, b4⟩ := agL_out h
  clear h
  unfold agV
  go_enter Try.func20, Try.ntmps20
  go_wp2_with fail
  refine wp_loop_rounds 3 ?_
  rw [rounds_succ]
  go_wp2_with fail
  have HC0 := Lib.hid ((((CellsAt.append HX.out (HL.out.alloc _)).one (.int .u64 0) 78)).five (.int .i64 0) (.int .i64 0) (.int .i64 1) (.int .i64 1) (.int .i64 1) 37)
  refine (fitting_ag1 _).mono ?_
  rintro r w1 ⟨rfl, hb1⟩
  have HC1 := Lib.hid (HC0.out.below hb1)
  have q5 : w1.cell? ⟨w.heap.size + 1, 0, none⟩ = some (.int .u64 0) := by simpa using HC1.out.tail.tail.tail.tail.tail.head
  have f5 : w1.frozen? ⟨w.heap.size + 1, 0, none⟩ = false := by
    rw [hb1.frozen (p := ⟨w.heap.size + 1, 0, none⟩) (by simp)]
    have := box_first_free (w.alloc (.cells #[.int .i64 1, .int .i64 1, .slice (some ⟨s, 0, none⟩) 1 1, .int .i64 0, .int .i64 1, .slice (some ⟨e, 0, none⟩) 2 2] 25)) #[.int .u64 0] 78 (.cells #[.int .i64 0, .int .i64 0, .int .i64 1, .int .i64 1, .int .i64 1] 37) 0
    simpa using this
  have q0 : w1.cell? ⟨w.heap.size + 1 + 1, 0, none⟩ = some (.int .i64 0) := by simpa using HC1.out.head
  have hz1 : w.heap.size + 1 + 1 < w1.heap.size := by have := hb1.size; simp at this; omega
  have hz0 : w.heap.size + 1 < w1.heap.size := by omega
  have hz : w.heap.size < w1.heap.size := by omega
  obtain ⟨_, p0, p1, p2, p3, p4, p5⟩ := bxL_out HC1.out.tail.tail.tail.tail.tail.tail.left
  clear a0 a1 a2 a3 a4 b0 b1 b2 b3 b4
  obtain ⟨⟨h3, h4⟩, _, ⟨a0, a1, a2, a3, a4⟩, b0, b1, b2, b3, b4⟩ := agL_out HC1.out.tail.tail.tail.tail.tail.tail.right
  have HB1 := Lib.hid (show Below w.heap.size w w1 from ((((Below.refl _ _).alloc (Nat.le_refl _) _).alloc (by simp) _).alloc (by simp; omega) _).trans (hb1.mono (by simp; omega)))
  have o1 : bits .and .u64 0 2 = 0 := by decide
  have o2 : bits .or .u64 0 2 = 2 := by decide
  have o3 : bits .and .u64 2 1 = 0 := by decide
  have o4 : bits .or .u64 2 1 = 3 := by decide
  have n1 : ¬ w.heap.size + 1 = e := by omega
  have n2 : ¬ e = w.heap.size + 1 := by omega
  clear hb1
  go_wp2_with fail
  rw [rounds_succ]
  go_wp2_with fail
  refine (fitting_ag2 _).mono ?_
  rintro r w2 ⟨rfl, hb2⟩
  have hw : Below (w1.setCell ⟨w.heap.size + 1, 0, none⟩ (.int .u64 2)).heap.size (w1.setCell ⟨w.heap.size + 1, 0, none⟩ (.int .u64 2)) w2 := ((Below.refl _ _).alloc (Nat.le_refl _) _).trans (hb2.mono (by simp))
  have q5' : w2.cell? ⟨w.heap.size + 1, 0, none⟩ = some (.int .u64 2) := (hw.cell (by simpa using hz0)).trans (World.cell?_setCell_same w1 _ _ q5)
  have f5' : w2.frozen? ⟨w.heap.size + 1, 0, none⟩ = false := (hw.frozen (by simpa using hz0)).trans (by rw [World.frozen?_setCell]; exact f5)
  have q0' : w2.cell? ⟨w1.heap.size, 0, none⟩ = some (.int .i64 0) := by
    have := (box_at hb2).2 0
    simpa using this
  have hz3 : w1.heap.size < w2.heap.size := by have := (box_at hb2).1; simpa using this
  have hz4 : w.heap.size + 1 < w2.heap.size := by omega
  have HB2 := Lib.hid (show Below w.heap.size w w2 from (HB1.out.setCell (p := ⟨w.heap.size + 1, 0, none⟩) (by simp) (.int .u64 2)).trans (hw.mono (by simp; omega)))
  clear hw hb2 a0 a1 a2 a3 a4 b0 b1 b2 b3 b4 p0 p1 p2 p3 p4 p5 q0 q5 f5 hz1 hz0 hz h1 h2 h3 h4
  go_wp2_with fail
  rw [rounds_succ]
  go_wp2_with fail
  go_ret2
  exact ⟨⟨_, rfl⟩, HB2.out.setCell (p := ⟨w.heap.size + 1, 0, none⟩) (by simp) _⟩

set_option maxRecDepth 100000 in
theorem det_ag (s e : Nat) (w : World) (h : CellsAt w (agL s e)) : Calls Try.prog 33 #[agV s e] w fun r w' => r = .returned (.tuple #[.bool true, .int .i64 0]) ∧ Below w.heap.size w w' := by
  have HX := Lib.hid (bxL_new w s e 25)
  have HV := Lib.hid (fun W (hW : Below w.heap.size w W) => valid_ag s e W (h.below hW))
  have HL := Lib.hid (fun W (hW : Below w.heap.size w W) => lettersOf_ag s e W (h.below hW))
  clear h
  unfold agV at *
  go_enter Try.func33, Try.ntmps33
  go_wp2_with fail
  refine (HV.out _ ((Below.refl _ _).alloc (Nat.le_refl _) _)).mono ?_
  rintro r w1 ⟨rfl, hb1⟩
  have HX1 := Lib.hid (HX.out.below hb1)
  have HB1 := Lib.hid (show Below w.heap.size w w1 from ((Below.refl _ _).alloc (Nat.le_refl _) _).trans (hb1.mono (by simp)))
  obtain ⟨hz, p0, p1, p2, p3, p4, p5⟩ := bxL_out HX1.out
  clear hb1
  go_wp2_with fail
  refine (HL.out _ HB1.out).mono ?_
  rintro r w2 ⟨⟨b, rfl⟩, hb2⟩
  have HX2 := Lib.hid (HX1.out.below hb2)
  have HB2 := Lib.hid (HB1.out.trans (hb2.mono HB1.out.size))
  clear hz p0 p1 p2 p3 p4 p5 hb2
  obtain ⟨hz, p0, p1, p2, p3, p4, p5⟩ := bxL_out HX2.out
  go_wp2_with fail
  go_ret2
  exact ⟨rfl, HB2.out⟩

end Go.Proofs.Ytalgbcndifaaiaa.Wd

namespace Go.Proofs.Ytalgbcndifaaiaa.Wd
open Go

section
variable {P : Program} {ops : Array Oper} {Q : Exit → Act → World → Prop} {md : Region.Mode} {S : World → Prop} {st : List Nat}

/-- None of the operations `st` has come up. -/
def allOpen (st : List Nat) (listed : Array Bool) : Bool := st.all fun s => !(listed.getD s true)

theorem allOpen_iff {st : List Nat} {listed : Array Bool} : allOpen st listed = true ↔ ∀ s ∈ st, listed.getD s true = false := by
  simp only [allOpen, List.all_eq_true, Bool.not_eq_true']

/-- Any order from here on; S holds behind each operation as long as `st` is open. -/
def wpAnyU (P : Program) (md : Region.Mode) (ops : Array Oper) (Q : Exit → Act → World → Prop) (S : World → Prop) (st : List Nat) : Nat → Array Bool → Act → World → Prop
  | 0, listed, a, w => Region.ready md ops listed = [] ∧ Q .normal a w
  | fuel + 1, listed, a, w =>
    (Region.ready md ops listed = [] → Q .normal a w) ∧
    ∀ i ∈ Region.ready md ops listed, wpOp P ops Q i
      (fun a' w' => (allOpen st (listed.setIfInBounds i true) = true → S w') ∧ wpAnyU P md ops Q S st fuel (listed.setIfInBounds i true) a' w') a w

theorem wpAny_of_until : ∀ (fuel : Nat) (listed : Array Bool) (a : Act) (w : World), wpAnyU P md ops Q S st fuel listed a w → wpAny P md ops Q fuel listed a w
  | 0, _, _, _, h => h
  | fuel + 1, _, _, _, h => ⟨h.1, fun i hi => wpOp_mono (fun a' w' h' => wpAny_of_until fuel _ a' w' h'.2) (h.2 i hi)⟩

/-- Each of `U` is open and waits for `i` or for another one of `U`. -/
def Waits (md : Region.Mode) (ops : Array Oper) (listed : Array Bool) (i : Nat) (U : List Nat) : Prop :=
  ∀ k ∈ U, listed.getD k true = false ∧ ∃ o, ops[k]? = some o ∧ ∃ e ∈ o.after, Region.binds md e = true ∧ (e.on = i ∨ e.on ∈ U)

theorem open_not {listed : Array Bool} {k : Nat} (h0 : listed.getD k true = false) (h1 : listed.getD k false = true) : False := by
  rcases Nat.lt_or_ge k listed.size with h' | h'
  · simp [h'] at h0 h1; rw [h0] at h1; cases h1
  · simp [Array.getElem?_eq_none h'] at h1

/-- Who may come up is none of those that wait. -/
theorem Waits.out {listed : Array Bool} {i j : Nat} {U : List Nat} (hw : Waits md ops listed i U) (hi : listed.getD i true = false)
    (hj : j ∈ Region.ready md ops listed) : j ∉ U := fun hU => by
  obtain ⟨_, o, ho, e, he, hb, hon⟩ := hw j hU
  obtain ⟨_, oj, hoj, hall⟩ := mem_ready.1 hj
  rw [ho] at hoj
  cases hoj
  have h1 := hall e he hb
  rcases hon with hon | hon
  · rw [hon] at h1; exact open_not hi h1
  · exact open_not (hw _ hon).1 h1

theorem Waits.step {listed : Array Bool} {i j : Nat} {U : List Nat} (hw : Waits md ops listed i U) (hj : j ∉ U) :
    Waits md ops (listed.setIfInBounds j true) i U := fun k hk => by
  obtain ⟨h0, h1⟩ := hw k hk
  have hne : j ≠ k := fun h => hj (h ▸ hk)
  exact ⟨by rw [getD_set_ne true hne]; exact h0, h1⟩

theorem wpAnyU_first {i : Nat} {oi : Oper} {v : Value} {U : List Nat} (hi : ops[i]? = some oi) (hsel : ∀ (j : Nat) (o : Oper) cs b, ops[j]? = some o → o.op ≠ .select cs b)
    (hQ : ∀ c a w, Q (.panic c) (a.put oi.dst v) w → Q (.panic c) a w) (hst : ∀ s ∈ st, s ∈ U) :
    ∀ (fuel : Nat) (listed : Array Bool) (a : Act) (w : World),
      (∀ j oj, ops[j]? = some oj → j ≠ i → listed.getD j true = false → (∀ e ∈ oj.after, Region.binds md e = true → e.on ≠ i) → oi.apart ops oj = true) →
      i ∈ Region.ready md ops listed → Waits md ops listed i U → YieldsIf P ops S oi v a → S w →
      wpAnyU P md ops Q S st fuel (listed.setIfInBounds i true) (a.put oi.dst v) w → wpAnyU P md ops Q S st (fuel + 1) listed a w := by
  intro fuel
  induction fuel with
  | zero =>
    intro listed a w _ hr _ hy hS H
    refine ⟨fun h => (by rw [h] at hr; cases hr), fun j hj => ?_⟩
    by_cases hji : j = i
    · subst hji; exact hy.wpOp hi hS ⟨fun _ => hS, H⟩
    · have := ready_mono hj hji
      rw [H.1] at this
      cases this
  | succ fuel ih =>
    intro listed a w hfree hr hwt hy hS H
    refine ⟨fun h => (by rw [h] at hr; cases hr), fun j hj => ?_⟩
    by_cases hji : j = i
    · subst hji; exact hy.wpOp hi hS ⟨fun _ => hS, H⟩
    · have h1 := H.2 j (ready_mono hj hji)
      have hi0 := (mem_ready.1 hr).1
      obtain ⟨hjun, oj, hoj, hall⟩ := mem_ready.1 hj
      have hjU := hwt.out hi0 hj
      have hiU := hwt.out hi0 hr
      have hwt' := hwt.step hjU
      have hopen : allOpen st ((listed.setIfInBounds i true).setIfInBounds j true) = true :=
        allOpen_iff.2 fun s hs => ((hwt.step hiU).step hjU s (hst s hs)).1
      have hnot : ∀ e ∈ oj.after, Region.binds md e = true → e.on ≠ i := fun e he hb heq =>
        open_not hi0 (heq ▸ hall e he hb)
      have h2 := wpOp_putIf hoj (hfree j oj hoj hji hjun hnot) (fun cs b => hsel i oi cs b hi) (fun cs b => hsel j oj cs b hoj) hQ hy h1
      have hfree' : ∀ k ok, ops[k]? = some ok → k ≠ i → (listed.setIfInBounds j true).getD k true = false →
          (∀ e ∈ ok.after, Region.binds md e = true → e.on ≠ i) → oi.apart ops ok = true := fun k ok hk hki hun hno => by
        refine hfree k ok hk hki ?_ hno
        by_cases hjk : j = k
        · subst hjk; exact hjun
        · rw [getD_set_ne true hjk] at hun; exact hun
      refine wpOp_mono (fun a' w' h3 => ⟨fun _ => h3.2.1 hopen, ih (listed.setIfInBounds j true) a' w' hfree' (ready_mono hr (Ne.symm hji)) hwt' h3.1 (h3.2.1 hopen) ?_⟩) h2
      rw [Array.setIfInBounds_comm _ _ hji]
      exact h3.2.2

/-- The same, to be computed. -/
def waits (md : Region.Mode) (ops : Array Oper) (listed : Array Bool) (i : Nat) (U : List Nat) : Bool :=
  U.all fun k => !(listed.getD k true) && (match ops[k]? with
    | some o => o.after.any fun e => Region.binds md e && (e.on == i || U.contains e.on)
    | none => false)

theorem waits_spec {listed : Array Bool} {i : Nat} {U : List Nat} (h : waits md ops listed i U = true) : Waits md ops listed i U := fun k hk => by
  have h1 := List.all_eq_true.1 h k hk
  rw [Bool.and_eq_true, Bool.not_eq_true'] at h1
  obtain ⟨h0, h1⟩ := h1
  refine ⟨h0, ?_⟩
  cases ho : ops[k]? with
  | none => rw [ho] at h1; cases h1
  | some o =>
    rw [ho] at h1
    have h1 : (o.after.any fun e => Region.binds md e && (e.on == i || U.contains e.on)) = true := h1
    obtain ⟨e, he, h2⟩ := Array.any_eq_true'.1 h1
    rw [Bool.and_eq_true, Bool.or_eq_true] at h2
    exact ⟨o, rfl, e, he, h2.1, h2.2.imp (fun h => by simpa using h) (fun h => by simpa using h)⟩

/-- Take number i first: it yields v in every world that meets S, and all the stores wait for it. -/
theorem wpAnyU_take {i : Nat} {oi : Oper} {v : Value} {fuel : Nat} {listed : Array Bool} {a : Act} {w : World} (U : List Nat) (hi : ops[i]? = some oi)
    (hs : Region.noSelect ops = true) (hf : Region.free md ops listed i = true) (hr : (Region.ready md ops listed).contains i = true)
    (hu : waits md ops listed i U = true) (hst : (st.all fun s => U.contains s) = true)
    (hQ : ∀ c a w, Q (.panic c) (a.put oi.dst v) w → Q (.panic c) a w) (hy : YieldsIf P ops S oi v a) (hS : S w)
    (h : wpAnyU P md ops Q S st fuel (listed.setIfInBounds i true) (a.put oi.dst v) w) : wpAnyU P md ops Q S st (fuel + 1) listed a w :=
  wpAnyU_first hi (Region.noSelect_spec hs) hQ (fun s h' => by simpa using List.all_eq_true.1 hst s h') fuel listed a w (Region.free_spec hi hf) (by simpa using hr) (waits_spec hu) hy hS h

/-- Those that wait for i, by way of one another (the operations in their text order: one pass). -/
def waiters (md : Region.Mode) (ops : Array Oper) (listed : Array Bool) (i : Nat) : List Nat :=
  (List.range ops.size).foldl (fun acc k => if !(listed.getD k true) && (match ops[k]? with
    | some o => o.after.any fun e => Region.binds md e && (e.on == i || acc.contains e.on)
    | none => false) then k :: acc else acc) []

/-- A load: all the stores wait for it, and it yields v in every world that meets S. -/
theorem wpAnyU_load {i : Nat} {oi : Oper} {v : Value} {fuel : Nat} {listed : Array Bool} {a : Act} {w : World} (hi : ops[i]? = some oi)
    (hs : Region.noSelect ops = true) (hf : Region.free md ops listed i = true) (hr : (Region.ready md ops listed).contains i = true)
    (hu : (waits md ops listed i (waiters md ops listed i) && st.all fun s => (waiters md ops listed i).contains s) = true)
    (hQ : ∀ c a w, Q (.panic c) (a.put oi.dst v) w → Q (.panic c) a w) (hy : YieldsIf P ops S oi v a) (hS : S w)
    (h : wpAnyU P md ops Q S st fuel (listed.setIfInBounds i true) (a.put oi.dst v) w) : wpAnyU P md ops Q S st (fuel + 1) listed a w := by
  rw [Bool.and_eq_true] at hu
  exact wpAnyU_take (waiters md ops listed i) hi hs hf hr hu.1 hu.2 hQ hy hS h

theorem allOpen_pure {listed : Array Bool} {i : Nat} (hn : i ∉ st) (h : allOpen st listed = true) : allOpen st (listed.setIfInBounds i true) = true :=
  allOpen_iff.2 fun s hs => by
    rw [getD_set_ne true (show i ≠ s from fun h' => hn (h' ▸ hs))]
    exact allOpen_iff.1 h s hs

theorem wpAnyU_pure_first {i : Nat} {oi : Oper} {v : Value} (hi : ops[i]? = some oi) (hsel : ∀ (j : Nat) (o : Oper) cs b, ops[j]? = some o → o.op ≠ .select cs b)
    (hQ : ∀ c a w, Q (.panic c) (a.put oi.dst v) w → Q (.panic c) a w) (hn : i ∉ st) :
    ∀ (fuel : Nat) (listed : Array Bool) (a : Act) (w : World),
      (∀ j oj, ops[j]? = some oj → j ≠ i → listed.getD j true = false → (∀ e ∈ oj.after, Region.binds md e = true → e.on ≠ i) → oi.apart ops oj = true) →
      i ∈ Region.ready md ops listed → YieldsIf P ops (fun _ => True) oi v a → (allOpen st listed = true → S w) →
      wpAnyU P md ops Q S st fuel (listed.setIfInBounds i true) (a.put oi.dst v) w → wpAnyU P md ops Q S st (fuel + 1) listed a w := by
  have hback : ∀ listed : Array Bool, i ∈ Region.ready md ops listed → allOpen st (listed.setIfInBounds i true) = true → allOpen st listed = true :=
    fun listed _ h => allOpen_iff.2 fun s hs => by
      have h1 := allOpen_iff.1 h s hs
      rw [getD_set_ne true (show i ≠ s from fun h' => hn (h' ▸ hs))] at h1
      exact h1
  intro fuel
  induction fuel with
  | zero =>
    intro listed a w _ hr hy hS H
    refine ⟨fun h => (by rw [h] at hr; cases hr), fun j hj => ?_⟩
    by_cases hji : j = i
    · subst hji; exact hy.wpOp hi trivial ⟨fun h => hS (hback _ hr h), H⟩
    · have := ready_mono hj hji
      rw [H.1] at this
      cases this
  | succ fuel ih =>
    intro listed a w hfree hr hy hS H
    refine ⟨fun h => (by rw [h] at hr; cases hr), fun j hj => ?_⟩
    by_cases hji : j = i
    · subst hji; exact hy.wpOp hi trivial ⟨fun h => hS (hback _ hr h), H⟩
    · have h1 := H.2 j (ready_mono hj hji)
      have hi0 := (mem_ready.1 hr).1
      obtain ⟨hjun, oj, hoj, hall⟩ := mem_ready.1 hj
      have hnot : ∀ e ∈ oj.after, Region.binds md e = true → e.on ≠ i := fun e he hb heq =>
        open_not hi0 (heq ▸ hall e he hb)
      have h2 := wpOp_putIf hoj (hfree j oj hoj hji hjun hnot) (fun cs b => hsel i oi cs b hi) (fun cs b => hsel j oj cs b hoj) hQ hy h1
      have hfree' : ∀ k ok, ops[k]? = some ok → k ≠ i → (listed.setIfInBounds j true).getD k true = false →
          (∀ e ∈ ok.after, Region.binds md e = true → e.on ≠ i) → oi.apart ops ok = true := fun k ok hk hki hun hno => by
        refine hfree k ok hk hki ?_ hno
        by_cases hjk : j = k
        · subst hjk; exact hjun
        · rw [getD_set_ne true hjk] at hun; exact hun
      have hS' : ∀ {w' : World}, (allOpen st ((listed.setIfInBounds i true).setIfInBounds j true) = true → S w') → allOpen st (listed.setIfInBounds j true) = true → S w' := fun h1 h2 =>
        h1 (by rw [Array.setIfInBounds_comm _ _ (Ne.symm hji)]; exact allOpen_pure hn h2)
      refine wpOp_mono (fun a' w' h3 => ⟨hS' h3.2.1, ih (listed.setIfInBounds j true) a' w' hfree' (ready_mono hr (Ne.symm hji)) h3.1 (hS' h3.2.1) ?_⟩) h2
      rw [Array.setIfInBounds_comm _ _ hji]
      exact h3.2.2

/-- What yields in whatever world may be taken first at any time. -/
theorem wpAnyU_pure {i : Nat} {oi : Oper} {v : Value} {fuel : Nat} {listed : Array Bool} {a : Act} {w : World} (hi : ops[i]? = some oi)
    (hs : Region.noSelect ops = true) (hf : Region.free md ops listed i = true) (hr : (Region.ready md ops listed).contains i = true)
    (hn : (!(st.contains i)) = true)
    (hQ : ∀ c a w, Q (.panic c) (a.put oi.dst v) w → Q (.panic c) a w) (hy : YieldsIf P ops (fun _ => True) oi v a) (hS : allOpen st listed = true → S w)
    (h : wpAnyU P md ops Q S st fuel (listed.setIfInBounds i true) (a.put oi.dst v) w) : wpAnyU P md ops Q S st (fuel + 1) listed a w :=
  wpAnyU_pure_first hi (Region.noSelect_spec hs) hQ (by simpa using hn) fuel listed a w (Region.free_spec hi hf) (by simpa using hr) hy hS h

/-- Whichever comes up: one goal each, what follows kept behind a letter. -/
def AllU (P : Program) (md : Region.Mode) (ops : Array Oper) (Q : Exit → Act → World → Prop) (S : World → Prop) (st : List Nat) (fuel : Nat) (listed : Array Bool) (a : Act) (w : World) (rs : List Nat) : Prop :=
  ∀ i ∈ rs, wpOp P ops Q i (fun a' w' => (allOpen st (listed.setIfInBounds i true) = true → S w') ∧ wpAnyU P md ops Q S st fuel (listed.setIfInBounds i true) a' w') a w

theorem AllU.nil {fuel : Nat} {listed : Array Bool} {a : Act} {w : World} : AllU P md ops Q S st fuel listed a w [] := fun _ h => by cases h

theorem AllU.cons {fuel : Nat} {listed : Array Bool} {a : Act} {w : World} {i : Nat} {o : Oper} {rs : List Nat} (ho : ops[i]? = some o)
    (h : ∀ K : Act → World → Prop, Shut (∀ a w, (allOpen st (listed.setIfInBounds i true) = true → S w) → wpAnyU P md ops Q S st fuel (listed.setIfInBounds i true) a w → K a w) →
      if Region.wanted o (yielded ops a.tmps) = true then Oper.wp P o a w K Q else K (a.put o.dst undef) w)
    (hs : AllU P md ops Q S st fuel listed a w rs) : AllU P md ops Q S st fuel listed a w (i :: rs) := fun j hj => by
  rcases List.mem_cons.1 hj with rfl | hj
  · exact wpOp_step ho (fun K hK => h K (fun a w hS hW => hK a w ⟨hS, hW⟩))
  · exact hs j hj

theorem wpAnyU_ready {rs : List Nat} {fuel : Nat} {listed : Array Bool} {a : Act} {w : World} (hr : Region.ready md ops listed = rs) (hne : rs ≠ [])
    (h : AllU P md ops Q S st fuel listed a w rs) : wpAnyU P md ops Q S st (fuel + 1) listed a w := ⟨fun h0 => absurd (hr ▸ h0) hne, hr ▸ h⟩

/-- Whichever comes up. -/
theorem wpAnyU_all {rs : List Nat} {fuel : Nat} {listed : Array Bool} {a : Act} {w : World} (hr : Region.ready md ops listed = rs) (hne : rs ≠ [])
    (h : ∀ i ∈ rs, wpOp P ops Q i (fun a' w' => (allOpen st (listed.setIfInBounds i true) = true → S w') ∧ wpAnyU P md ops Q S st fuel (listed.setIfInBounds i true) a' w') a w) :
    wpAnyU P md ops Q S st (fuel + 1) listed a w :=
  ⟨fun h0 => absurd (hr ▸ h0) hne, hr ▸ h⟩

/-- All have come up. -/
theorem wpAnyU_done {listed : Array Bool} {a : Act} {w : World} (hr : Region.ready md ops listed = []) (h : Q .normal a w) :
    ∀ fuel, wpAnyU P md ops Q S st fuel listed a w
  | 0 => ⟨hr, h⟩
  | _ + 1 => ⟨fun _ => h, by rw [hr]; simp⟩

/-- The beginning, behind the draw. -/
theorem wp_region_until {id : Nat} {a : Act} {w : World} (hm : P.follows .mixedOrders = true)
    (h : wpAnyU P .any ops Q S st ops.size (Array.replicate ops.size false) a { w with drawn := w.drawn + 1 }) : (Code.region id ops true).wp P Q a w :=
  wp_region_any hm (wpAny_of_until _ _ _ _ h)

/-- S is shown of the world behind the draw, and handed on. -/
theorem wp_region_until_drew {id : Nat} {a : Act} {w : World} (hm : P.follows .mixedOrders = true) (hS : S w.drew)
    (h : S w.drew → wpAnyU P .any ops Q S st ops.size (Array.replicate ops.size false) a w.drew) : (Code.region id ops true).wp P Q a w :=
  wp_region_until hm (h hS)

end
end Go.Proofs.Ytalgbcndifaaiaa.Wd

namespace Go.Proofs.Ytalgbcndifaaiaa.Wd
open Go.RowKit

/-- The cells of a slice of ints, for an append law. -/
theorem Ints.news {w : World} {b off n : Nat} {xs : List Int} (hl : xs.length = n) (hc : ∀ j, j < n → w.cell? ⟨b, off + j, none⟩ = some (.int .i64 (xs.getD j 0))) :
    ∀ j u, (xs.map (Value.int .i64))[j]? = some u → w.cell? ((⟨b, off, none⟩ : Addr).add j) = some u := by
  intro j u hj
  have hjn : j < xs.length := by
    have := (List.getElem?_eq_some_iff.1 hj).1
    simpa using this
  rw [Addr.add_lit, hc j (by omega)]
  rw [← hj]
  simp [List.getD_eq_getElem?_getD, List.getElem?_eq_getElem hjn]
theorem ones (xs : List Int) : ∀ u ∈ xs.map (Value.int .i64), u.oneCell' = true := by
  intro u hu
  obtain ⟨x, _, rfl⟩ := List.mem_map.1 hu
  rfl

section
variable {P : Program} (w : World)

/-- append onto nil or onto a row of the call's own has the row at base or above; below base nothing turns. -/
theorem below_own {w w' : World} {base e size n : Nat} {v : Value} {xs : List Value} (hown : w.ownsRow base e size v n xs) (hg : w.grownBy w' v.ownBlock) (hbase : base ≤ w.heap.size) : Below base w w' :=
  (Below.refl _ _).grown hg hbase (fun q hq => by
    rcases hown.2 with ⟨rfl, _⟩ | ⟨g, cap, cur, rfl, hb, _⟩
    · simp [Value.ownBlock] at hq
    · simp [Value.ownBlock] at hq
      omega)

theorem run_append_ints (base t ty e : Nat) (i : TypeInfo) (z : Value) (ht : P.underlying t = some (.slice e)) (hi : P.info? e = some i) (hz : i.zero = some z)
    (hsize : i.size = 1) (hby : i.bytes = 8) (hzs : z.cells.size = 1)
    (v : Value) (n : Nat) (xs : List Value) (hown : w.ownsRow base e 1 v n xs)
    (A : Option Addr) (m c : Nat) (ys : List Int) (hr : Ints w A m ys) (hn : n + m ≤ 1000000) (hbase : base ≤ w.heap.size) :
    ∃ v' w', (Builtin.append_ #[t, t] ty #[v, .slice A m c]).run P w = .ok v' w' ∧ w'.ownsRow base e 1 v' (n + m) (xs ++ ys.map (Value.int .i64)) ∧ w.grownBy w' v.ownBlock ∧
      (v'.ownBlock = v.ownBlock ∨ v'.ownBlock = some w.heap.size) := by
  have hlen := hr.1
  rcases A with _ | ad
  · have hm : m = 0 := by
      rcases Nat.eq_zero_or_pos m with h0 | h0
      · exact h0
      · obtain ⟨b, off, h, _⟩ := hr.2 h0
        cases h
    subst hm
    have hy : ys = [] := List.eq_nil_of_length_eq_zero hlen
    subst hy
    refine ⟨v, w, ?_, by simpa using hown, World.grownBy.refl w _, .inl rfl⟩
    rcases hown.2 with ⟨rfl, rfl⟩ | ⟨g, cap, cur, rfl, _, _, hnc, _⟩
    · simp [Builtin.append_, run_underlying ht, sizeOf, typeInfo, hi, Builtin.lenOf, Builtin.firstCells]
    · simp [Builtin.append_, run_underlying ht, sizeOf, typeInfo, hi, Builtin.lenOf, Builtin.firstCells, hnc, storeCells]
  · have hcells : ∀ j u, (ys.map (Value.int .i64))[j]? = some u → w.cell? (ad.add j) = some u := by
      intro j u hu
      rcases Nat.eq_zero_or_pos m with h0 | h0
      · subst h0
        have hy : ys = [] := List.eq_nil_of_length_eq_zero hlen
        subst hy
        simp at hu
      · obtain ⟨b, off, h, _, hc⟩ := hr.2 h0
        injection h with h
        subst h
        exact Ints.news hlen hc j u hu
    obtain ⟨v', w', hrun, h2, h3, _, h5⟩ := run_append_own_at (P := P) w base t ty e i z 1 8 ht hi hz hsize hby hzs (by omega) v n xs hown ad m c (ys.map (Value.int .i64)) (by simp [hlen]) hcells (ones ys) (by unfold maxLen; omega) (by omega) hbase
    exact ⟨v', w', hrun, h2, h3, h5⟩

theorem wp_append_ints {o : Oper} {a : Act} {K : Act → World → Prop} {Q : Exit → Act → World → Prop} (s x : Operand) (t : TypeId)
    (ho : o.op = .call { callee := .builtin .append, args := #[s, x], argTypes := #[t, t] })
    (base : Nat) (e : TypeId) (i : TypeInfo) (z : Value) (ht : P.underlying t = some (.slice e)) (hi : P.info? e = some i) (hz : i.zero = some z)
    (hsize : i.size = 1) (hby : i.bytes = 8) (hzs : z.cells.size = 1)
    (v : Value) (n : Nat) (xs : List Value) (hs : a.eval s = v) (hown : w.ownsRow base e 1 v n xs)
    (A : Option Addr) (m c : Nat) (ys : List Int) (hx : a.eval x = .slice A m c) (hr : Ints w A m ys) (hn : n + m ≤ 1000000) (hbase : base ≤ w.heap.size)
    (h : ∀ v' w', w'.ownsRow base e 1 v' (n + m) (xs ++ ys.map (Value.int .i64)) → w.grownBy w' v.ownBlock → (v'.ownBlock = v.ownBlock ∨ v'.ownBlock = some w.heap.size) → K (a.put o.dst v') w') : o.wp P a w K Q := by
  obtain ⟨v', w', hrun, h2, h3, h4⟩ := run_append_ints (P := P) w base t o.type e i z ht hi hz hsize hby hzs v n xs hown A m c ys hr hn hbase
  unfold Oper.wp execOp
  simp only [ho, resolve, invoke, builtin, Sem.run_bind, Sem.run_pure, Result.andThen_ok, List.map_toArray, List.map_cons, List.map_nil, hs, hx, hrun]
  exact h v' w' h2 h3 h4

theorem wpList_append_ints {ops : Array Oper} {rest : List Oper} {o : Oper} {a : Act} {Q : Exit → Act → World → Prop} (hgd : o.guard = none) (s x : Operand) (t : TypeId)
    (ho : o.op = .call { callee := .builtin .append, args := #[s, x], argTypes := #[t, t] })
    (base : Nat) (e : TypeId) (i : TypeInfo) (z : Value) (ht : P.underlying t = some (.slice e)) (hi : P.info? e = some i) (hz : i.zero = some z)
    (hsize : i.size = 1) (hby : i.bytes = 8) (hzs : z.cells.size = 1)
    (v : Value) (n : Nat) (xs : List Value) (hs : a.eval s = v) (hown : w.ownsRow base e 1 v n xs)
    (A : Option Addr) (m c : Nat) (ys : List Int) (hx : a.eval x = .slice A m c) (hr : Ints w A m ys) (hn : n + m ≤ 1000000) (hbase : base ≤ w.heap.size)
    (h : ∀ v' w', w'.ownsRow base e 1 v' (n + m) (xs ++ ys.map (Value.int .i64)) → w.grownBy w' v.ownBlock → (v'.ownBlock = v.ownBlock ∨ v'.ownBlock = some w.heap.size) → wpList P ops Q rest (a.put o.dst v') w') : wpList P ops Q (o :: rest) a w :=
  wpList_plain hgd fun _ hK => wp_append_ints w s x t ho base e i z ht hi hz hsize hby hzs v n xs hs hown A m c ys hx hr hn hbase fun v' w' h2 h3 h4 => hK _ _ (h v' w' h2 h3 h4)

theorem step_append_ints {ops : Array Oper} {o : Oper} {a : Act} {K : Act → World → Prop} {Q : Exit → Act → World → Prop} {E : Prop} (hgd : o.guard = none) (s x : Operand) (t : TypeId)
    (ho : o.op = .call { callee := .builtin .append, args := #[s, x], argTypes := #[t, t] })
    (base : Nat) (e : TypeId) (i : TypeInfo) (z : Value) (ht : P.underlying t = some (.slice e)) (hi : P.info? e = some i) (hz : i.zero = some z)
    (hsize : i.size = 1) (hby : i.bytes = 8) (hzs : z.cells.size = 1)
    (v : Value) (n : Nat) (xs : List Value) (hs : a.eval s = v) (hown : w.ownsRow base e 1 v n xs)
    (A : Option Addr) (m c : Nat) (ys : List Int) (hx : a.eval x = .slice A m c) (hr : Ints w A m ys) (hn : n + m ≤ 1000000) (hbase : base ≤ w.heap.size)
    (h : ∀ v' w', w'.ownsRow base e 1 v' (n + m) (xs ++ ys.map (Value.int .i64)) → w.grownBy w' v.ownBlock → (v'.ownBlock = v.ownBlock ∨ v'.ownBlock = some w.heap.size) → K (a.put o.dst v') w') :
    if Region.wanted o (yielded ops a.tmps) = true then Oper.wp P o a w K Q else E := by
  have hw : Region.wanted o (yielded ops a.tmps) = true := by simp [Region.wanted, hgd]
  rw [if_pos hw]
  exact wp_append_ints w s x t ho base e i z ht hi hz hsize hby hzs v n xs hs hown A m c ys hx hr hn hbase h
end
end Go.Proofs.Ytalgbcndifaaiaa.Wd

namespace Go.Proofs.Ytalgbcndifaaiaa.Wd
open Go.RowKit
set_option linter.unusedVariables false
set_option linter.unusedSimpArgs false

theorem agL_edge {w : World} {s e : Nat} (h : CellsAt w (agL s e)) {t : Nat} (ht : t < 2) : ∃ y2 y3 y4 : Int, w.cell? ⟨e, t * 5, none⟩ = some (.int .i64 0) ∧ w.cell? ⟨e, t * 5 + 1, none⟩ = some (.int .i64 0) ∧ w.cell? ⟨e, t * 5 + 2, none⟩ = some (.int .i64 y2) ∧ w.cell? ⟨e, t * 5 + 3, none⟩ = some (.int .i64 y3) ∧ w.cell? ⟨e, t * 5 + 4, none⟩ = some (.int .i64 y4) := by
  obtain ⟨_, _, ⟨a0, a1, a2, a3, a4⟩, b0, b1, b2, b3, b4⟩ := agL_out h
  have h2 : t = 0 ∨ t = 1 := by omega
  rcases h2 with rfl | rfl
  · exact ⟨1, 1, 1, a0, a1, a2, a3, a4⟩
  · exact ⟨1, 0, 0, b0, b1, b2, b3, b4⟩

theorem int_row : (Try.prog.info? 3).map (fun i => (i.zero, i.size, i.bytes)) = some (some (.int .i64 0), 1, 8) := by kernel_rfl

theorem own_keep {w w' : World} {base e size n : Nat} {v : Value} {xs : List Value} (h : w.ownsRow base e size v n xs) (hb : Below w.heap.size w w') : w'.ownsRow base e size v n xs :=
  h.kept (row := none) ⟨hb.os, hb.tape, hb.output, hb.size, fun j hj _ => hb.block j hj⟩ (by cases hv : v.ownBlock <;> simp)
theorem own_apart0 {w : World} {B e n g : Nat} {v : Value} {xs : List Value} (h : w.ownsRow B e 1 v n xs) (hg : w.heap.size ≤ g) : some g ≠ v.ownBlock := by
  intro he
  rcases h.2 with ⟨rfl, _⟩ | ⟨b, cap, cur, rfl, h1, hgg, _⟩
  · cases he
  · cases he
    exact Nat.lt_irrefl _ (Nat.lt_of_lt_of_le (Array.getElem?_eq_some_iff.1 hgg).1 hg)
theorem one_new (w : World) (g : Nat) (hg : w.heap.size = g) (x : Int) (t : TypeId) : Ints (w.alloc (.cells #[.int .i64 x] t)).drew (some ⟨g, 0, none⟩) 1 [x] := by
  subst hg
  exact ⟨rfl, fun _ => ⟨w.heap.size, 0, rfl, by simp, fun j hj => by
    obtain rfl : j = 0 := by omega
    show World.cell? (w.alloc _) _ = _
    rw [box_last]
    rfl⟩⟩

def upL (k : Nat) : List Int := (List.range k).map fun (j : Nat) => (j : Int)
theorem upL_snoc (k : Nat) : upL (k + 1) = upL k ++ [(k : Int)] := by simp [upL, List.range_succ]

set_option maxRecDepth 100000 in
set_option maxHeartbeats 4000000 in
theorem outgoing_ag (s e : Nat) (w : World) (h : CellsAt w (agL s e)) : Calls Try.prog 53 #[agV s e] w fun r w' =>
    ∃ o g c, r = .returned (.slice (some ⟨o, 0, none⟩) 1 1) ∧ w.heap.size ≤ o ∧ CellsAt w' [(⟨o, 0, none⟩, .slice (some ⟨g, 0, none⟩) 2 c), (⟨g, 0, none⟩, .int .i64 0), (⟨g, 1, none⟩, .int .i64 1)] ∧ Below w.heap.size w w' := by
  obtain ⟨i0, hi, hi0, hi1, hi2⟩ := info_parts int_row
  have hmk : ∀ w : World, (Instr.makeSlice 103 (.int .i64 1) (.int .i64 1)).run Try.prog w = .ok (.slice (some ⟨w.heap.size, 0, none⟩) 1 1) (w.alloc (.cells #[.slice none 0 0] 22)) := fun _ => by kernel_rfl
  have HL := Lib.hid h
  clear h
  unfold agV
  go_enter Try.func53, Try.ntmps53
  go_wp2_with fail
  have hX0 : ∀ X : World, X.heap.size = w.heap.size + 1 → True := fun _ _ => trivial
  go_loopg [12] 2 (fun g i wx => ∃ (t : Nat) (v : Value), t + g = 2 ∧ i = .int .i64 t ∧ Hid (wx.ownsRow (w.heap.size + 2) 3 1 v t ((upL t).map (Value.int .i64))) ∧ Hid (wx.cell? ⟨w.heap.size + 1, 0, none⟩ = some v ∧ wx.frozen? ⟨w.heap.size + 1, 0, none⟩ = false ∧ w.heap.size + 2 ≤ wx.heap.size) ∧ Below w.heap.size w wx)
  case atStart =>
    refine ⟨0, .slice none 0 0, by omega, rfl, World.ownsRow_nil _ _ _ _, ⟨?_, ?_, ?_⟩, ((Below.refl _ _).alloc (Nat.le_refl _) _).alloc (by simp) _⟩
    · simp
    · simp
    · simp
  case round =>
    obtain ⟨t, v, htg, rfl, HO, HV, hbx⟩ := hrel
    cases gk with
    | zero =>
      obtain rfl : t = 2 := by omega
      obtain ⟨A, c, rfl, hcc⟩ := own_slice HO.out
      obtain ⟨g, cap, hv1, hv2, hlt⟩ := HO.out.form (by omega)
      have hA : A = some ⟨g, 0, none⟩ := by injection hv1
      subst hA
      have hq0 := HO.out.cells (g := g) rfl 0 (.int .i64 0) (by simp [upL])
      have hq1 := HO.out.cells (g := g) rfl 1 (.int .i64 1) (by simp [upL])
      rw [Addr.add_lit] at hq0 hq1
      have HCS := Lib.hid (show CellsAt wr [(⟨w.heap.size + 1, 0, none⟩, .slice (some ⟨g, 0, none⟩) 2 c), (⟨g, 0, none⟩, .int .i64 0), (⟨g, 1, none⟩, .int .i64 1)] by
        intro p hp
        simp only [List.mem_cons, List.not_mem_nil, or_false] at hp
        rcases hp with rfl | rfl | rfl
        · exact ⟨by have := HV.out.2.2; show w.heap.size + 1 < _; omega, HV.out.1⟩
        · exact ⟨hlt, by simpa using hq0⟩
        · exact ⟨hlt, by simpa using hq1⟩)
      clear hv1 hq0 hq1 hX0
      go_wp2_with fail
      go_ret
      exact ⟨w.heap.size + 1, rfl, by omega, ⟨g, c, HCS.out⟩, hbx⟩
    | succ g =>
      have hti : (0 : Int) ≤ (t : Int) := by omega
      have hti2 : (t : Int) < 2 := by omega
      have ht2 : t < 2 := by omega
      obtain ⟨y2, y3, y4, e0, e1, e2, e3, e4⟩ := agL_edge (HL.out.below hbx) ht2
      have hv := HV.out.1
      have hfz := HV.out.2.1
      have hzz := HV.out.2.2
      have hz0 : w.heap.size + 1 < wr.heap.size := by omega
      clear hX0
      go_wp2_with fail
      have HBA := Lib.hid (show Below wr.heap.size wr ((wr.alloc (.cells #[.int .i64 0, .int .i64 0, .int .i64 y2, .int .i64 y3, .int .i64 y4] 37)).alloc (.cells #[.int .i64 (t : Int)] 3)).drew from (((Below.refl _ _).alloc (Nat.le_refl _) _).alloc (by simp) _).drew)
      refine wp_region_until_drew (st := [12]) (S := fun V => V.cell? ⟨wr.heap.size, 0, none⟩ = some (.int .i64 0) ∧ V.cell? ⟨w.heap.size + 1, 0, none⟩ = some v) (by kernel_rfl) ⟨by show World.cell? (wr.alloc _) _ = _; rw [box_last]; rfl, by show World.cell? (wr.alloc _) _ = _; rw [Below.cell ((Below.refl wr.heap.size wr).alloc (Nat.le_refl _) _) hz0]; exact hv⟩ (fun hHeld => ?_)
      refine wpAnyU_pure (i := 0) (v := ?vo0) rfl (by kernel_rfl) (by kernel_rfl) (by kernel_rfl) (by kernel_rfl) (fun _ _ _ h => h) (Or.inl ⟨by rfl, fun V _ => ?hyo0⟩) (fun _ => hHeld) ?resto0
      case hyo0 => go_simp; try with_reducible rfl
      try simp only [Act.put, List.getElem_toArray, List.getElem_cons_zero, List.getElem_cons_succ, List.setIfInBounds_toArray, List.set_cons_zero, List.set_cons_succ]
      refine wpAnyU_pure (i := 1) (v := ?vo1) rfl (by kernel_rfl) (by kernel_rfl) (by kernel_rfl) (by kernel_rfl) (fun _ _ _ h => h) (Or.inl ⟨by rfl, fun V _ => ?hyo1⟩) (fun _ => hHeld) ?resto1
      case hyo1 => go_simp; try with_reducible rfl
      try simp only [Act.put, List.getElem_toArray, List.getElem_cons_zero, List.getElem_cons_succ, List.setIfInBounds_toArray, List.set_cons_zero, List.set_cons_succ]
      refine wpAnyU_load (i := 2) (v := ?vo2) rfl (by kernel_rfl) (by kernel_rfl) (by kernel_rfl) (by kernel_rfl) (fun _ _ _ h => h) (Or.inl ⟨by rfl, fun V hSw => ?hyo2⟩) hHeld ?resto2
      case hyo2 => (obtain ⟨hs1, hs2⟩ := hSw); go_simp; try with_reducible rfl
      try simp only [Act.put, List.getElem_toArray, List.getElem_cons_zero, List.getElem_cons_succ, List.setIfInBounds_toArray, List.set_cons_zero, List.set_cons_succ]
      refine wpAnyU_pure (i := 3) (v := ?vo3) rfl (by kernel_rfl) (by kernel_rfl) (by kernel_rfl) (by kernel_rfl) (fun _ _ _ h => h) (Or.inl ⟨by rfl, fun V _ => ?hyo3⟩) (fun _ => hHeld) ?resto3
      case hyo3 => go_simp; try with_reducible rfl
      try simp only [Act.put, List.getElem_toArray, List.getElem_cons_zero, List.getElem_cons_succ, List.setIfInBounds_toArray, List.set_cons_zero, List.set_cons_succ]
      refine wpAnyU_pure (i := 4) (v := ?vo4) rfl (by kernel_rfl) (by kernel_rfl) (by kernel_rfl) (by kernel_rfl) (fun _ _ _ h => h) (Or.inl ⟨by rfl, fun V _ => ?hyo4⟩) (fun _ => hHeld) ?resto4
      case hyo4 => go_simp; try with_reducible rfl
      try simp only [Act.put, List.getElem_toArray, List.getElem_cons_zero, List.getElem_cons_succ, List.setIfInBounds_toArray, List.set_cons_zero, List.set_cons_succ]
      refine wpAnyU_load (i := 5) (v := ?vo5) rfl (by kernel_rfl) (by kernel_rfl) (by kernel_rfl) (by kernel_rfl) (fun _ _ _ h => h) (Or.inl ⟨by rfl, fun V hSw => ?hyo5⟩) hHeld ?resto5
      case hyo5 => (obtain ⟨hs1, hs2⟩ := hSw); go_simp; try with_reducible rfl
      try simp only [Act.put, List.getElem_toArray, List.getElem_cons_zero, List.getElem_cons_succ, List.setIfInBounds_toArray, List.set_cons_zero, List.set_cons_succ]
      refine wpAnyU_pure (i := 6) (v := ?vo6) rfl (by kernel_rfl) (by kernel_rfl) (by kernel_rfl) (by kernel_rfl) (fun _ _ _ h => h) (Or.inl ⟨by rfl, fun V _ => ?hyo6⟩) (fun _ => hHeld) ?resto6
      case hyo6 => go_simp; try with_reducible rfl
      try simp only [Act.put, List.getElem_toArray, List.getElem_cons_zero, List.getElem_cons_succ, List.setIfInBounds_toArray, List.set_cons_zero, List.set_cons_succ]
      refine wpAnyU_load (i := 7) (v := ?vo7) rfl (by kernel_rfl) (by kernel_rfl) (by kernel_rfl) (by kernel_rfl) (fun _ _ _ h => h) (Or.inl ⟨by rfl, fun V hSw => ?hyo7⟩) hHeld ?resto7
      case hyo7 => (obtain ⟨hs1, hs2⟩ := hSw); go_simp; try with_reducible rfl
      try simp only [Act.put, List.getElem_toArray, List.getElem_cons_zero, List.getElem_cons_succ, List.setIfInBounds_toArray, List.set_cons_zero, List.set_cons_succ]
      refine wpAnyU_pure (i := 8) (v := ?vo8) rfl (by kernel_rfl) (by kernel_rfl) (by kernel_rfl) (by kernel_rfl) (fun _ _ _ h => h) (Or.inl ⟨by rfl, fun V _ => ?hyo8⟩) (fun _ => hHeld) ?resto8
      case hyo8 => go_simp; try with_reducible rfl
      try simp only [Act.put, List.getElem_toArray, List.getElem_cons_zero, List.getElem_cons_succ, List.setIfInBounds_toArray, List.set_cons_zero, List.set_cons_succ]
      refine wpAnyU_ready (rs := [9]) (by kernel_rfl) (by simp) (AllU.cons (i := 9) rfl (fun K hK => ?_) AllU.nil)
      simp only [List.getElem_toArray, List.getElem_cons_zero, List.getElem_cons_succ]
      go_simp
      refine hK.out _ _ (fun _ => ⟨?se, (HBA.out.cell (p := ⟨w.heap.size + 1, 0, none⟩) hz0).trans hv⟩) ?re
      case se => exact (box_first wr #[.int .i64 0, .int .i64 0, .int .i64 y2, .int .i64 y3, .int .i64 y4] 37 (.cells #[.int .i64 (t : Int)] 3) 0)
      clear hK K
      try simp only [Act.put, List.getElem_toArray, List.getElem_cons_zero, List.getElem_cons_succ, List.setIfInBounds_toArray, List.set_cons_zero, List.set_cons_succ]
      refine wpAnyU_ready (rs := [10]) (by kernel_rfl) (by simp) (AllU.cons (i := 10) rfl (fun K hK => ?_) AllU.nil)
      have hown0 := own_keep HO.out HBA.out
      have hbase : w.heap.size + 2 ≤ ((wr.alloc (.cells #[.int .i64 0, .int .i64 0, .int .i64 y2, .int .i64 y3, .int .i64 y4] 37)).alloc (.cells #[.int .i64 (t : Int)] 3)).drew.heap.size := Nat.le_trans hzz HBA.out.size
      refine step_append_ints _ (by rfl) _ _ _ (by rfl) (w.heap.size + 2) 3 i0 _ Try.underlying22 hi hi0 hi1 hi2 rfl v t ((upL t).map (Value.int .i64)) (by rfl) (by exact hown0) (some ⟨wr.heap.size + 1, 0, none⟩) 1 1 [(t : Int)] (by rfl) (by exact one_new (wr.alloc (.cells #[.int .i64 0, .int .i64 0, .int .i64 y2, .int .i64 y3, .int .i64 y4] 37)) (wr.heap.size + 1) (by simp) t _) (by omega) (by exact hbase) ?_
      intro v' w2 hown hgrow hat
      obtain ⟨A', c', hve, hcc⟩ := own_slice hown
      rw [hve] at hown hat ⊢
      have hb2 := below_own hown0 hgrow hbase
      have HB2 := Lib.hid hb2
      have HOW := Lib.hid hown
      have hc2 : w2.cell? ⟨w.heap.size + 1, 0, none⟩ = some v := (hb2.cell (p := ⟨w.heap.size + 1, 0, none⟩) (by simp)).trans ((HBA.out.cell (p := ⟨w.heap.size + 1, 0, none⟩) hz0).trans hv)
      have hf2 : w2.frozen? ⟨w.heap.size + 1, 0, none⟩ = false := (hb2.frozen (p := ⟨w.heap.size + 1, 0, none⟩) (by simp)).trans ((HBA.out.frozen (p := ⟨w.heap.size + 1, 0, none⟩) hz0).trans hfz)
      have he2 : w2.cell? ⟨wr.heap.size, 0, none⟩ = some (.int .i64 0) := (hgrow.cell_far ⟨wr.heap.size, 0, none⟩ (by simp; omega) (own_apart0 HO.out (Nat.le_refl _))).trans (box_first wr #[.int .i64 0, .int .i64 0, .int .i64 y2, .int .i64 y3, .int .i64 y4] 37 (.cells #[.int .i64 (t : Int)] 3) 0)
      clear hve hown0 hown hgrow hat hb2 hHeld
      have hHeld := And.intro he2 hc2
      refine hK.out _ _ (fun _ => hHeld) ?_
      clear hK K
      try simp only [Act.put, List.getElem_toArray, List.getElem_cons_zero, List.getElem_cons_succ, List.setIfInBounds_toArray, List.set_cons_zero, List.set_cons_succ]
      refine wpAnyU_pure (i := 11) (v := ?vq11) rfl (by kernel_rfl) (by kernel_rfl) (by kernel_rfl) (by kernel_rfl) (fun _ _ _ h => h) (Or.inl ⟨by rfl, fun V _ => ?hyq11⟩) (fun _ => hHeld) ?restq11
      case hyq11 => go_simp; try with_reducible rfl
      try simp only [Act.put, List.getElem_toArray, List.getElem_cons_zero, List.getElem_cons_succ, List.setIfInBounds_toArray, List.set_cons_zero, List.set_cons_succ]
      refine wpAnyU_ready (rs := [12]) (by kernel_rfl) (by simp) (AllU.cons (i := 12) rfl (fun K hK => ?_) AllU.nil)
      simp only [List.getElem_toArray, List.getElem_cons_zero, List.getElem_cons_succ]
      go_simp
      refine hK.out _ _ (fun h => by have h2 : false = true := h; cases h2) ?_
      clear hK K
      try simp only [Act.put, List.getElem_toArray, List.getElem_cons_zero, List.getElem_cons_succ, List.setIfInBounds_toArray, List.set_cons_zero, List.set_cons_succ]
      refine wpAnyU_done (by kernel_rfl) ?_ _
      clear hHeld
      go_wp2_with fail
      go_roundg g
      case measure => omega
      case rel =>
        refine ⟨t + 1, .slice A' (t + 1) c', by omega, by go_num, ?_, ⟨?_, ?_, ?_⟩, ?_⟩
        · show World.ownsRow _ _ _ _ _ _ _
          rw [upL_snoc, List.map_append]
          exact ownsRow_setCell_below HOW.out (by show w.heap.size + 1 < w.heap.size + 2; omega) _
        · exact World.cell?_setCell_same w2 _ _ hc2
        · rw [World.frozen?_setCell]; exact hf2
        · have := Nat.le_trans hbase HB2.out.size; simpa using this
        · exact ((hbx.trans (HBA.out.mono hbx.size)).trans (HB2.out.mono (by omega))).setCell (p := ⟨w.heap.size + 1, 0, none⟩) (by simp) _

end Go.Proofs.Ytalgbcndifaaiaa.Wd

namespace Go.Proofs.Ytalgbcndifaaiaa.Wd
open Go.RowKit
set_option linter.unusedVariables false

/-- The walker at block r, with all that it looks at. -/
def wkL (r s e o g c : Nat) : List (Addr × Value) :=
  [(⟨r, 0, none⟩, .slice (some ⟨e, 0, none⟩) 2 2), (⟨r, 1, none⟩, .slice (some ⟨o, 0, none⟩) 1 1), (⟨r, 2, none⟩, .int .i64 0), (⟨r, 3, none⟩, .bool false)] ++
  ([(⟨o, 0, none⟩, .slice (some ⟨g, 0, none⟩) 2 c), (⟨g, 0, none⟩, .int .i64 0), (⟨g, 1, none⟩, .int .i64 1)] ++ agL s e)

set_option maxRecDepth 100000 in
set_option maxHeartbeats 4000000 in
theorem newWalker_ag (s e : Nat) (w : World) (h : CellsAt w (agL s e)) : Calls Try.prog 35 #[agV s e] w fun x w' =>
    ∃ r o g c, x = .returned (.pointer (some ⟨r, 0, none⟩)) ∧ w.heap.size ≤ r ∧ CellsAt w' (wkL r s e o g c) ∧ w'.frozen? ⟨r, 2, none⟩ = false ∧ Below w.heap.size w w' := by
  have HX := Lib.hid (bxL_new w s e 25)
  have HL := Lib.hid h
  have HO := Lib.hid (fun W (hW : Below w.heap.size w W) => outgoing_ag s e W (h.below hW))
  have HBX := Lib.hid (show Below w.heap.size w (w.alloc (.cells #[.int .i64 1, .int .i64 1, .slice (some ⟨s, 0, none⟩) 1 1, .int .i64 0, .int .i64 1, .slice (some ⟨e, 0, none⟩) 2 2] 25)) from (Below.refl _ _).alloc (Nat.le_refl _) _)
  obtain ⟨⟨h1, h2⟩, c0, _, _⟩ := agL_out h
  have c0' : (w.alloc (.cells #[.int .i64 1, .int .i64 1, .slice (some ⟨s, 0, none⟩) 1 1, .int .i64 0, .int .i64 1, .slice (some ⟨e, 0, none⟩) 2 2] 25)).cell? ⟨s, 0, none⟩ = some (.int .i64 0) := (HBX.out.cell (p := ⟨s, 0, none⟩) h1).trans c0
  have HS := Lib.hid (show ∀ V, Below (w.alloc (.cells #[.int .i64 1, .int .i64 1, .slice (some ⟨s, 0, none⟩) 1 1, .int .i64 0, .int .i64 1, .slice (some ⟨e, 0, none⟩) 2 2] 25)).heap.size (w.alloc (.cells #[.int .i64 1, .int .i64 1, .slice (some ⟨s, 0, none⟩) 1 1, .int .i64 0, .int .i64 1, .slice (some ⟨e, 0, none⟩) 2 2] 25)) V →
      (V.cell? ⟨w.heap.size, 0, none⟩ = some (.int .i64 1) ∧ V.cell? ⟨w.heap.size, 1, none⟩ = some (.int .i64 1) ∧ V.cell? ⟨w.heap.size, 2, none⟩ = some (.slice (some ⟨s, 0, none⟩) 1 1) ∧ V.cell? ⟨w.heap.size, 3, none⟩ = some (.int .i64 0) ∧ V.cell? ⟨w.heap.size, 4, none⟩ = some (.int .i64 1) ∧ V.cell? ⟨w.heap.size, 5, none⟩ = some (.slice (some ⟨e, 0, none⟩) 2 2)) ∧ V.cell? ⟨s, 0, none⟩ = some (.int .i64 0) from
    fun V hV => ⟨(bxL_out (HX.out.below hV)).2, (hV.cell (p := ⟨s, 0, none⟩) (by simp; omega)).trans c0'⟩)
  clear h c0 c0'
  unfold agV at *
  go_enter Try.func35, Try.ntmps35
  go_wp2_with fail
  generalize w.alloc (.cells #[.int .i64 1, .int .i64 1, .slice (some ⟨s, 0, none⟩) 1 1, .int .i64 0, .int .i64 1, .slice (some ⟨e, 0, none⟩) 2 2] 25) = Z at *
  go_region_held3 (fun V => (V.cell? ⟨w.heap.size, 0, none⟩ = some (.int .i64 1) ∧ V.cell? ⟨w.heap.size, 1, none⟩ = some (.int .i64 1) ∧ V.cell? ⟨w.heap.size, 2, none⟩ = some (.slice (some ⟨s, 0, none⟩) 1 1) ∧ V.cell? ⟨w.heap.size, 3, none⟩ = some (.int .i64 0) ∧ V.cell? ⟨w.heap.size, 4, none⟩ = some (.int .i64 1) ∧ V.cell? ⟨w.heap.size, 5, none⟩ = some (.slice (some ⟨e, 0, none⟩) 2 2)) ∧ V.cell? ⟨s, 0, none⟩ = some (.int .i64 0))
    (first
      | exact HS.out _ k1
      | exact HS.out _ ((Below.refl Z.heap.size Z).drew)
      | exact HS.out _ (k1.alloc k1.size _))
    (first
      | (go_at_call 53; refine (HO.out _ HBX.out.drew).mono ?_; rintro x z1 ⟨o, g, c, rfl, ho, HC, b1⟩; have k1 : Below Z.heap.size Z z1 := ((Below.refl _ _).drew).trans b1)
      | fail)
  go_wp2_with fail
  go_ret
  have hw1 : Below w.heap.size w z1 := HBX.out.trans (k1.mono HBX.out.size)
  refine ⟨z1.heap.size, o, g, c, rfl, hw1.size, ?_, box_last_free _ _ _ _, hw1.alloc hw1.size _⟩
  refine CellsAt.append ?_ (CellsAt.append (HC.alloc _) (((HL.out.below hw1)).alloc _))
  intro p hp
  simp only [List.mem_cons, List.not_mem_nil, or_false] at hp
  rcases hp with rfl | rfl | rfl | rfl
  all_goals exact ⟨by simp, by rw [box_last]; rfl⟩

theorem wkL_out {w : World} {r s e o g c : Nat} (h : CellsAt w (wkL r s e o g c)) : r < w.heap.size ∧ (w.cell? ⟨r, 0, none⟩ = some (.slice (some ⟨e, 0, none⟩) 2 2) ∧ w.cell? ⟨r, 1, none⟩ = some (.slice (some ⟨o, 0, none⟩) 1 1) ∧ w.cell? ⟨r, 2, none⟩ = some (.int .i64 0) ∧ w.cell? ⟨r, 3, none⟩ = some (.bool false)) ∧
    (w.cell? ⟨o, 0, none⟩ = some (.slice (some ⟨g, 0, none⟩) 2 c) ∧ w.cell? ⟨g, 0, none⟩ = some (.int .i64 0) ∧ w.cell? ⟨g, 1, none⟩ = some (.int .i64 1)) ∧ (o < w.heap.size ∧ g < w.heap.size) ∧ CellsAt w (agL s e) :=
  ⟨h.left.lt, ⟨h.left.head, h.left.tail.head, h.left.tail.tail.head, h.left.tail.tail.tail.head⟩, ⟨h.right.left.head, h.right.left.tail.head, h.right.left.tail.tail.head⟩, ⟨h.right.left.lt, h.right.left.tail.lt⟩, h.right.right⟩

/-- The walker stands. -/
def Wk (w : World) (r s e o g c : Nat) : Prop := CellsAt w (wkL r s e o g c) ∧ w.frozen? ⟨r, 2, none⟩ = false
theorem Wk.below {w w' : World} {r s e o g c : Nat} (h : Wk w r s e o g c) (hb : Below w.heap.size w w') : Wk w' r s e o g c :=
  ⟨h.1.below hb, (hb.frozen (p := ⟨r, 2, none⟩) (wkL_out h.1).1).trans h.2⟩
theorem Wk.again {w : World} {r s e o g c : Nat} (h : Wk w r s e o g c) : Wk (w.setCell ⟨r, 2, none⟩ (.int .i64 0)) r s e o g c :=
  ⟨h.1.again (wkL_out h.1).2.1.2.2.1, by rw [World.frozen?_setCell]; exact h.2⟩

theorem grown_of {w w' : World} {row : Option Nat} (hb : Below w.heap.size w w') : w.grownBy w' row := ⟨hb.os, hb.tape, hb.output, hb.size, fun i hi _ => hb.block i hi⟩
theorem grown_set {w w' : World} {r : Nat} (h : w.grownBy w' (some r)) (o : Nat) (v : Value) : w.grownBy (w'.setCell ⟨r, o, none⟩ v) (some r) :=
  ⟨h.os, h.tape, h.output, by simpa using h.size, fun i hi hne => (Below.heap_setCell _ _ _ i (fun e => hne (by rw [e]))).trans (h.block i hi hne)⟩
theorem grown_below {w w' : World} {r B : Nat} (h : w.grownBy w' (some r)) (hB : B ≤ r) (hBw : B ≤ w.heap.size) : Below B w w' := (Below.refl _ _).grown h hBw (fun k hk => by cases hk; exact hB)

def StepR (w w' : World) (r s e o g c : Nat) (v : Int) (x : Ending) : Prop := x = .returned (.int .i64 v) ∧ Wk w' r s e o g c ∧ w.grownBy w' (some r)

set_option maxRecDepth 100000 in
set_option maxHeartbeats 4000000 in
theorem step_one (r s e o g c : Nat) (w : World) (h : Wk w r s e o g c) : Calls Try.prog 76 #[.pointer (some ⟨r, 0, none⟩), .int .i64 1] w fun x w' => StepR w w' r s e o g c 1 x := by
  have HW := Lib.hid h
  obtain ⟨hr, ⟨r0, r1, r2, r3⟩, ⟨o0, g0, g1⟩, ⟨ho, hg⟩, ha⟩ := wkL_out h.1
  have l1 := Lib.hid (show decide (bits .and .i64 1 1 = (1 : Int)) = true by decide)
  have l2 := Lib.hid (show decide (bits .and .i64 1 1 = (0 : Int)) = false by decide)
  clear h ha
  go_enter Try.func76, Try.ntmps76
  go_wp2_with fail
  go_quiet (fail)
  have HW2 := Lib.hid (show Wk (w.drewN nq) r s e o g c from HW.out)
  have HBl := Lib.hid (show w.grownBy (w.drewN nq) (some r) from grown_of (below_drewN (Below.refl _ _) _))
  clear hr r0 r1 r2 r3 o0 g0 g1 ho hg HW
  generalize w.drewN nq = W at *
  obtain ⟨hr, ⟨r0, r1, r2, r3⟩, ⟨o0, g0, g1⟩, ⟨ho, hg⟩, ha⟩ := wkL_out HW2.out.1
  obtain ⟨⟨h1, h2⟩, _, ⟨a0, a1, a2, a3, a4⟩, b0, b1, b2, b3, b4⟩ := agL_out ha
  have hf := HW2.out.2
  clear ha
  go_wp2_with fail
  refine wp_loop_rounds 3 ?_
  rw [rounds_succ]
  go_wp2_with fail
  refine (has_any 0 0 1 1 1 1 _).mono ?_
  rintro x w1 ⟨rfl, hb1⟩
  rw [l1.out]
  obtain ⟨hz, hq⟩ := box_at hb1
  have q0 : w1.cell? ⟨W.heap.size, 0, none⟩ = some (.int .i64 0) := hq 0
  have q1 : w1.cell? ⟨W.heap.size, 1, none⟩ = some (.int .i64 0) := hq 1
  have q4 : w1.cell? ⟨W.heap.size, 4, none⟩ = some (.int .i64 1) := hq 4
  have hw1 : Below W.heap.size W w1 := ((Below.refl _ _).alloc (Nat.le_refl _) _).trans (hb1.mono (by simp))
  have HW3 := Lib.hid (HW2.out.below hw1)
  have HB3 := Lib.hid (HBl.out.trans (grown_of hw1))
  clear hr r0 r1 r2 r3 o0 g0 g1 ho hg h1 h2 a0 a1 a2 a3 a4 b0 b1 b2 b3 b4 hf hq hb1 hw1 HW2
  obtain ⟨hr, ⟨r0, r1, r2, r3⟩, ⟨o0, g0, g1⟩, ⟨ho, hg⟩, ha⟩ := wkL_out HW3.out.1
  obtain ⟨⟨h1, h2⟩, _, ⟨a0, a1, a2, a3, a4⟩, b0, b1, b2, b3, b4⟩ := agL_out ha
  have hf := HW3.out.2
  clear ha
  go_wp2_with fail
  go_ret
  exact ⟨rfl, HW3.out.again, grown_set HB3.out _ _⟩

set_option maxRecDepth 100000 in
set_option maxHeartbeats 4000000 in
theorem step_zero (r s e o g c : Nat) (w : World) (h : Wk w r s e o g c) : Calls Try.prog 76 #[.pointer (some ⟨r, 0, none⟩), .int .i64 0] w fun x w' => StepR w w' r s e o g c 0 x := by
  have HW := Lib.hid h
  obtain ⟨hr, ⟨r0, r1, r2, r3⟩, ⟨o0, g0, g1⟩, ⟨ho, hg⟩, ha⟩ := wkL_out h.1
  have l1 := Lib.hid (show decide (bits .and .i64 0 1 = (1 : Int)) = false by decide)
  have l2 := Lib.hid (show decide (bits .and .i64 0 1 = (0 : Int)) = true by decide)
  clear h ha
  go_enter Try.func76, Try.ntmps76
  go_wp2_with fail
  go_quiet (fail)
  have HW2 := Lib.hid (show Wk (w.drewN nq) r s e o g c from HW.out)
  have HBl := Lib.hid (show w.grownBy (w.drewN nq) (some r) from grown_of (below_drewN (Below.refl _ _) _))
  clear hr r0 r1 r2 r3 o0 g0 g1 ho hg HW
  generalize w.drewN nq = W at *
  obtain ⟨hr, ⟨r0, r1, r2, r3⟩, ⟨o0, g0, g1⟩, ⟨ho, hg⟩, ha⟩ := wkL_out HW2.out.1
  obtain ⟨⟨h1, h2⟩, _, ⟨a0, a1, a2, a3, a4⟩, b0, b1, b2, b3, b4⟩ := agL_out ha
  have hf := HW2.out.2
  clear ha
  go_wp2_with fail
  refine wp_loop_rounds 3 ?_
  rw [rounds_succ]
  go_wp2_with fail
  refine (has_any 0 0 1 1 1 0 _).mono ?_
  rintro x w1 ⟨rfl, hb1⟩
  rw [l1.out]
  obtain ⟨hz, hq⟩ := box_at hb1
  have q0 : w1.cell? ⟨W.heap.size, 0, none⟩ = some (.int .i64 0) := hq 0
  have q1 : w1.cell? ⟨W.heap.size, 1, none⟩ = some (.int .i64 0) := hq 1
  have q4 : w1.cell? ⟨W.heap.size, 4, none⟩ = some (.int .i64 1) := hq 4
  have hw1 : Below W.heap.size W w1 := ((Below.refl _ _).alloc (Nat.le_refl _) _).trans (hb1.mono (by simp))
  have HW3 := Lib.hid (HW2.out.below hw1)
  have HB3 := Lib.hid (HBl.out.trans (grown_of hw1))
  clear hr r0 r1 r2 r3 o0 g0 g1 ho hg h1 h2 a0 a1 a2 a3 a4 b0 b1 b2 b3 b4 hf hq hb1 hw1 HW2
  obtain ⟨hr, ⟨r0, r1, r2, r3⟩, ⟨o0, g0, g1⟩, ⟨ho, hg⟩, ha⟩ := wkL_out HW3.out.1
  obtain ⟨⟨h1, h2⟩, _, ⟨a0, a1, a2, a3, a4⟩, b0, b1, b2, b3, b4⟩ := agL_out ha
  have hf := HW3.out.2
  clear ha
  go_wp2_with fail
  rw [rounds_succ]
  go_wp2_with fail
  refine (has_any 0 0 1 0 0 0 _).mono ?_
  rintro x w2 ⟨rfl, hb2⟩
  rw [l2.out]
  obtain ⟨hz', hq'⟩ := box_at hb2
  have p1 : w2.cell? ⟨w1.heap.size, 1, none⟩ = some (.int .i64 0) := hq' 1
  have p4 : w2.cell? ⟨w1.heap.size, 4, none⟩ = some (.int .i64 0) := hq' 4
  have hw2 : Below w1.heap.size w1 w2 := ((Below.refl _ _).alloc (Nat.le_refl _) _).trans (hb2.mono (by simp))
  have HW4 := Lib.hid (HW3.out.below hw2)
  have HB4 := Lib.hid (HB3.out.trans (grown_of hw2))
  clear hr r0 r1 r2 r3 o0 g0 g1 ho hg h1 h2 a0 a1 a2 a3 a4 b0 b1 b2 b3 b4 hf hq' hb2 hw2 q0 q1 q4 hz
  obtain ⟨hr, ⟨r0, r1, r2, r3⟩, ⟨o0, g0, g1⟩, ⟨ho, hg⟩, ha⟩ := wkL_out HW4.out.1
  have hf := HW4.out.2
  clear ha
  go_wp2_with fail
  go_ret
  exact ⟨rfl, HW4.out.again, grown_set HB4.out _ _⟩

end Go.Proofs.Ytalgbcndifaaiaa.Wd
