/-
  is of lodesmanlaw01, at equal results; and what a long walk keeps: its boxes and its words.
-/
import Derived.Test.YteidikkeoaolgaaDoorWdRefLoops
import Derived.Test.YteidikkeoaolgaaDoorWdAwake
import Derived.Test.YteidikkeoaolgaaDoorWdFew
namespace Go.Proofs.YteidikkeoaolgaaDoor.Wd
open Go.RowKit
set_option linter.unusedVariables false

/-- The cells of L hold what L says. -/
def Cells (W : World) (L : List (Addr × Value)) : Prop := ∀ p ∈ L, p.1.block < W.heap.size ∧ W.cell? p.1 = some p.2
theorem Cells.below {W W' : World} {L : List (Addr × Value)} (h : Cells W L) (hb : Below W.heap.size W W') : Cells W' L := fun p hp =>
  ⟨Nat.lt_of_lt_of_le (h p hp).1 hb.size, (hb.cell (h p hp).1).trans (h p hp).2⟩
theorem Cells.box {W : World} {L : List (Addr × Value)} (h : Cells W L) (x y : Value) (t : TypeId) :
    Cells (W.alloc (.cells #[x, y] t)) ((⟨W.heap.size, 0, none⟩, x) :: (⟨W.heap.size, 1, none⟩, y) :: L) := by
  intro p hp
  rcases List.mem_cons.1 hp with rfl | hp
  · exact ⟨by simp, by rw [box_last]; rfl⟩
  rcases List.mem_cons.1 hp with rfl | hp
  · exact ⟨by simp, by rw [box_last]; rfl⟩
  · exact h.below ((Below.refl _ _).alloc (Nat.le_refl _) _) p hp
theorem Cells.head {W : World} {L : List (Addr × Value)} {a : Addr} {v : Value} (h : Cells W ((a, v) :: L)) : W.cell? a = some v := (h (a, v) (by simp)).2
theorem Cells.tail {W : World} {L : List (Addr × Value)} {p : Addr × Value} (h : Cells W (p :: L)) : Cells W L := fun q hq => h q (by simp [hq])

theorem eqB_same (s : List Int) : eqB s s = true := by simp [eqB]

theorem written_each (v u : Value) (s l : List Int) (w : World) (h : IsWord w v s l) (h' : IsWord w u s l) (h1 : s.length ≤ 100000) (h2 : l.length ≤ 100000) :
    Calls Tryd.prog 49 #[v, u] w fun e w' => e = .returned (.bool true) ∧ Below w.heap.size w w' := by
  obtain ⟨A, n, c, B, m, d, rfl, ha, hb, _, _⟩ := h
  obtain ⟨A', n', c', B', m', d', rfl, ha', hb', _, _⟩ := h'
  have e1 := ha.1
  have e2 := hb.1
  have e3 := ha'.1
  have e4 := hb'.1
  have HE := Lib.hid (show n ≤ 100000 ∧ m ≤ 100000 ∧ n' ≤ 100000 ∧ m' ≤ 100000 by omega)
  clear e1 e2 e3 e4 h1 h2
  go_enter Tryd.func49, Tryd.ntmps49
  go_wp2_with fail
  refine (list_any A A' n c n' c' s s _ ((ha.alloc _).alloc _) ((ha'.alloc _).alloc _) (by have := HE.out; omega) (by have := HE.out; omega)).mono ?_
  rintro e w1 ⟨k, rfl, rfl⟩
  rw [eqB_same]
  go_wp2_with fail
  refine (list_any B B' m d m' d' l l _ (((hb.alloc _).alloc _).drewN _) (((hb'.alloc _).alloc _).drewN _) (by have := HE.out; omega) (by have := HE.out; omega)).mono ?_
  rintro e w1 ⟨k2, rfl, rfl⟩
  rw [eqB_same]
  go_wp2_with fail
  go_ret
  refine ⟨rfl, ?_⟩
  first
    | exact below_drewN (((Below.refl _ _).alloc (Nat.le_refl _) _).alloc (by simp) _) _
    | exact below_drewN (below_drewN (((Below.refl _ _).alloc (Nat.le_refl _) _).alloc (by simp) _) _) _

set_option maxRecDepth 100000 in
set_option maxHeartbeats 800000 in
theorem is_same (A B A' B' : Option Addr) (n c m d n' c' m' d' : Nat) (s l : List Int) (code : Int) (w : World) (ha : Ints w A n s) (hb : Ints w B m l) (ha' : Ints w A' n' s) (hb' : Ints w B' m' l)
    (hnc : n ≤ c) (hmd : m ≤ d) (hnc' : n' ≤ c') (hmd' : m' ≤ d') (h1 : s.length ≤ 100000) (h2 : l.length ≤ 100000) :
    Calls Tryd.prog 19 #[.agg #[.slice A n c, .slice B m d], .int .i64 code, .agg #[.slice A' n' c', .slice B' m' d'], .int .i64 code] w fun e w' => e = .returned (.bool true) ∧ Below w.heap.size w w' := by
  have HWr := Lib.hid (fun W (hW : Below w.heap.size w W) => written_each (.agg #[.slice A n c, .slice B m d]) (.agg #[.slice A' n' c', .slice B' m' d']) s l W ⟨A, n, c, B, m, d, rfl, ha.below hW, hb.below hW, hnc, hmd⟩ ⟨A', n', c', B', m', d', rfl, ha'.below hW, hb'.below hW, hnc', hmd'⟩ h1 h2)
  clear ha hb ha' hb'
  go_enter Tryd.func19, Tryd.ntmps19
  go_wp2_with fail
  refine (HWr.out _ (((Below.refl _ _).alloc (Nat.le_refl _) _).alloc (by simp) _)).mono ?_
  rintro e w1 ⟨rfl, hb1⟩
  go_wp2_with fail
  go_ret
  exact ⟨rfl, (((Below.refl _ _).alloc (Nat.le_refl _) _).alloc (by simp) _).trans (hb1.mono (by simp; omega))⟩

/-- The variadic call of Few with one word. -/
theorem few_one (A B : Option Addr) (n c m d most g : Nat) (w : World) (t : TypeId) (hg : w.heap.size = g) (h1 : n ≤ 17592186044416 ∧ m ≤ 17592186044416) (hm : most ≤ 1000) :
    Calls Tryd.prog 9 #[.int .i64 most, .slice (some ⟨g, 0, none⟩) 1 1] (w.alloc (.cells #[.slice A n c, .slice B m d] t))
      fun e w' => e = .returned (.bool (decide (n + m ≤ most))) ∧ Below w.heap.size w w' := by
  subst hg
  refine (Few_any w.heap.size 1 1 most (fun _ => A) (fun _ => B) (fun _ => n) (fun _ => c) (fun _ => m) (fun _ => d) (w.alloc (.cells #[.slice A n c, .slice B m d] t)) (by simp) (by omega) hm ?_ ?_).mono ?_
  · intro i hi
    exact h1
  · intro i hi
    obtain rfl : i = 0 := by omega
    exact ⟨box_last _ _ _ _, box_last _ _ _ _⟩
  · rintro e w1 ⟨rfl, hb⟩
    exact ⟨ret_bool (by simp [fewB, List.range_succ]), ((Below.refl _ _).alloc (Nat.le_refl _) _).trans (hb.mono (by simp))⟩

end Go.Proofs.YteidikkeoaolgaaDoor.Wd
