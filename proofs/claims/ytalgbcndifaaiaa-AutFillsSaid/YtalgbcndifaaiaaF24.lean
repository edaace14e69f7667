/-
  copied of package aut.
  cubesOf, Cubes and OnesCount.
  OnesCount of math/bits, for numbers below 64.
  Cubes and Cover of package letters.
  Cover of package letters.
  What withSink holds: its boxes and its rows.
  withSink's state under stores and appends.
-/
import Derived.Test.YtalgbcndifaaiaaF23
import Derived.Test.YtalgbcndifaaiaaAuValid
import Derived.Test.YtalgbcndifaaiaaF08
import Derived.OneCell
namespace Go.Proofs.Ytalgbcndifaaiaa.Wd
open Go.RowKit
set_option linter.unusedVariables false
set_option linter.unusedSimpArgs false

/-- What was laid later lies apart. -/
theorem apt_later {w z : World} {B e k n e' k' n' : Nat} {v v' : Value} {xs xs' : List Value} (h : w.ownsRow B e k v n xs) (h' : z.ownsRow w.heap.size e' k' v' n' xs') : Apt v v' := by
  cases hv : v.ownBlock with
  | none => exact .inl hv
  | some g =>
    refine .inr fun he => ?_
    have h1 := (h.lt g hv).2
    have h2 := (h'.lt g (he.symm.trans hv)).1
    omega

theorem own8 {z : World} {g e k n : Nat} {v : Value} {xs : List Value} (h : z.ownsRow (g + 2) e k v n xs) (a b x0 x1 x2 x3 x4 x5 : Value) :
    World.ownsRow ((((((((z.setCell ⟨g, 2, none⟩ a).setCell ⟨g, 5, none⟩ b).setCell ⟨g + 1, 0, none⟩ x0).setCell ⟨g + 1, 1, none⟩ x1).setCell ⟨g + 1, 2, none⟩ x2).setCell ⟨g + 1, 3, none⟩ x3).setCell ⟨g + 1, 4, none⟩ x4).setCell ⟨g + 1, 5, none⟩ x5) g e k v n xs := by
  have k0 : g < g + 2 := by omega
  have k1 : g + 1 < g + 2 := by omega
  exact own_le' (ownsRow_setCell_below (ownsRow_setCell_below (ownsRow_setCell_below (ownsRow_setCell_below (ownsRow_setCell_below (ownsRow_setCell_below (ownsRow_setCell_below (ownsRow_setCell_below h (a := ⟨g, 2, none⟩) k0 a) (a := ⟨g, 5, none⟩) k0 b) (a := ⟨g + 1, 0, none⟩) k1 x0) (a := ⟨g + 1, 1, none⟩) k1 x1) (a := ⟨g + 1, 2, none⟩) k1 x2) (a := ⟨g + 1, 3, none⟩) k1 x3) (a := ⟨g + 1, 4, none⟩) k1 x4) (a := ⟨g + 1, 5, none⟩) k1 x5) (by omega)
theorem below8 {w z : World} {g : Nat} (h : Below g w z) (a b x0 x1 x2 x3 x4 x5 : Value) :
    Below g w ((((((((z.setCell ⟨g, 2, none⟩ a).setCell ⟨g, 5, none⟩ b).setCell ⟨g + 1, 0, none⟩ x0).setCell ⟨g + 1, 1, none⟩ x1).setCell ⟨g + 1, 2, none⟩ x2).setCell ⟨g + 1, 3, none⟩ x3).setCell ⟨g + 1, 4, none⟩ x4).setCell ⟨g + 1, 5, none⟩ x5) := by
  have k0 : g ≤ g := Nat.le_refl g
  have k1 : g ≤ g + 1 := by omega
  exact (((((((h.setCell (p := ⟨g, 2, none⟩) k0 a).setCell (p := ⟨g, 5, none⟩) k0 b).setCell (p := ⟨g + 1, 0, none⟩) k1 x0).setCell (p := ⟨g + 1, 1, none⟩) k1 x1).setCell (p := ⟨g + 1, 2, none⟩) k1 x2).setCell (p := ⟨g + 1, 3, none⟩) k1 x3).setCell (p := ⟨g + 1, 4, none⟩) k1 x4).setCell (p := ⟨g + 1, 5, none⟩) k1 x5

/-- Six cells of a block are written, one behind the other. -/
theorem cells6 {z : World} {h : Nat} {o0 o1 o2 o3 o4 o5 : Value} (n0 : z.cell? ⟨h, 0, none⟩ = some o0) (n1 : z.cell? ⟨h, 1, none⟩ = some o1) (n2 : z.cell? ⟨h, 2, none⟩ = some o2) (n3 : z.cell? ⟨h, 3, none⟩ = some o3) (n4 : z.cell? ⟨h, 4, none⟩ = some o4) (n5 : z.cell? ⟨h, 5, none⟩ = some o5) (x0 x1 x2 x3 x4 x5 : Value) :
    World.cell? ((((((z.setCell ⟨h, 0, none⟩ x0).setCell ⟨h, 1, none⟩ x1).setCell ⟨h, 2, none⟩ x2).setCell ⟨h, 3, none⟩ x3).setCell ⟨h, 4, none⟩ x4).setCell ⟨h, 5, none⟩ x5) ⟨h, 0, none⟩ = some x0 ∧ World.cell? ((((((z.setCell ⟨h, 0, none⟩ x0).setCell ⟨h, 1, none⟩ x1).setCell ⟨h, 2, none⟩ x2).setCell ⟨h, 3, none⟩ x3).setCell ⟨h, 4, none⟩ x4).setCell ⟨h, 5, none⟩ x5) ⟨h, 1, none⟩ = some x1 ∧ World.cell? ((((((z.setCell ⟨h, 0, none⟩ x0).setCell ⟨h, 1, none⟩ x1).setCell ⟨h, 2, none⟩ x2).setCell ⟨h, 3, none⟩ x3).setCell ⟨h, 4, none⟩ x4).setCell ⟨h, 5, none⟩ x5) ⟨h, 2, none⟩ = some x2 ∧ World.cell? ((((((z.setCell ⟨h, 0, none⟩ x0).setCell ⟨h, 1, none⟩ x1).setCell ⟨h, 2, none⟩ x2).setCell ⟨h, 3, none⟩ x3).setCell ⟨h, 4, none⟩ x4).setCell ⟨h, 5, none⟩ x5) ⟨h, 3, none⟩ = some x3 ∧ World.cell? ((((((z.setCell ⟨h, 0, none⟩ x0).setCell ⟨h, 1, none⟩ x1).setCell ⟨h, 2, none⟩ x2).setCell ⟨h, 3, none⟩ x3).setCell ⟨h, 4, none⟩ x4).setCell ⟨h, 5, none⟩ x5) ⟨h, 4, none⟩ = some x4 ∧ World.cell? ((((((z.setCell ⟨h, 0, none⟩ x0).setCell ⟨h, 1, none⟩ x1).setCell ⟨h, 2, none⟩ x2).setCell ⟨h, 3, none⟩ x3).setCell ⟨h, 4, none⟩ x4).setCell ⟨h, 5, none⟩ x5) ⟨h, 5, none⟩ = some x5 := by
  have oth : ∀ (V : World) (o : Nat) (x : Value) (j : Nat), o ≠ j → (V.setCell ⟨h, o, none⟩ x).cell? ⟨h, j, none⟩ = V.cell? ⟨h, j, none⟩ := fun V o x j hh => World.cell?_setCell_other _ _ _ _ (by intro h2; injection h2 with _ h3; exact hh h3)
  refine ⟨?_, ?_, ?_, ?_, ?_, ?_⟩
  · rw [oth _ 5 x5 0 (by decide), oth _ 4 x4 0 (by decide), oth _ 3 x3 0 (by decide), oth _ 2 x2 0 (by decide), oth _ 1 x1 0 (by decide)]; exact World.cell?_setCell_same _ _ _ (by exact n0)
  · rw [oth _ 5 x5 1 (by decide), oth _ 4 x4 1 (by decide), oth _ 3 x3 1 (by decide), oth _ 2 x2 1 (by decide)]; exact World.cell?_setCell_same _ _ _ (by rw [oth _ 0 x0 1 (by decide)]; exact n1)
  · rw [oth _ 5 x5 2 (by decide), oth _ 4 x4 2 (by decide), oth _ 3 x3 2 (by decide)]; exact World.cell?_setCell_same _ _ _ (by rw [oth _ 1 x1 2 (by decide), oth _ 0 x0 2 (by decide)]; exact n2)
  · rw [oth _ 5 x5 3 (by decide), oth _ 4 x4 3 (by decide)]; exact World.cell?_setCell_same _ _ _ (by rw [oth _ 2 x2 3 (by decide), oth _ 1 x1 3 (by decide), oth _ 0 x0 3 (by decide)]; exact n3)
  · rw [oth _ 5 x5 4 (by decide)]; exact World.cell?_setCell_same _ _ _ (by rw [oth _ 3 x3 4 (by decide), oth _ 2 x2 4 (by decide), oth _ 1 x1 4 (by decide), oth _ 0 x0 4 (by decide)]; exact n4)
  · exact World.cell?_setCell_same _ _ _ (by rw [oth _ 4 x4 5 (by decide), oth _ 3 x3 5 (by decide), oth _ 2 x2 5 (by decide), oth _ 1 x1 5 (by decide), oth _ 0 x0 5 (by decide)]; exact n5)
theorem cells8 {z : World} {g : Nat} {o0 o1 o2 o3 o4 o5 : Value} (n0 : z.cell? ⟨g + 1, 0, none⟩ = some o0) (n1 : z.cell? ⟨g + 1, 1, none⟩ = some o1) (n2 : z.cell? ⟨g + 1, 2, none⟩ = some o2) (n3 : z.cell? ⟨g + 1, 3, none⟩ = some o3) (n4 : z.cell? ⟨g + 1, 4, none⟩ = some o4) (n5 : z.cell? ⟨g + 1, 5, none⟩ = some o5) (a b x0 x1 x2 x3 x4 x5 : Value) :
    World.cell? ((((((((z.setCell ⟨g, 2, none⟩ a).setCell ⟨g, 5, none⟩ b).setCell ⟨g + 1, 0, none⟩ x0).setCell ⟨g + 1, 1, none⟩ x1).setCell ⟨g + 1, 2, none⟩ x2).setCell ⟨g + 1, 3, none⟩ x3).setCell ⟨g + 1, 4, none⟩ x4).setCell ⟨g + 1, 5, none⟩ x5) ⟨g + 1, 0, none⟩ = some x0 ∧ World.cell? ((((((((z.setCell ⟨g, 2, none⟩ a).setCell ⟨g, 5, none⟩ b).setCell ⟨g + 1, 0, none⟩ x0).setCell ⟨g + 1, 1, none⟩ x1).setCell ⟨g + 1, 2, none⟩ x2).setCell ⟨g + 1, 3, none⟩ x3).setCell ⟨g + 1, 4, none⟩ x4).setCell ⟨g + 1, 5, none⟩ x5) ⟨g + 1, 1, none⟩ = some x1 ∧ World.cell? ((((((((z.setCell ⟨g, 2, none⟩ a).setCell ⟨g, 5, none⟩ b).setCell ⟨g + 1, 0, none⟩ x0).setCell ⟨g + 1, 1, none⟩ x1).setCell ⟨g + 1, 2, none⟩ x2).setCell ⟨g + 1, 3, none⟩ x3).setCell ⟨g + 1, 4, none⟩ x4).setCell ⟨g + 1, 5, none⟩ x5) ⟨g + 1, 2, none⟩ = some x2 ∧ World.cell? ((((((((z.setCell ⟨g, 2, none⟩ a).setCell ⟨g, 5, none⟩ b).setCell ⟨g + 1, 0, none⟩ x0).setCell ⟨g + 1, 1, none⟩ x1).setCell ⟨g + 1, 2, none⟩ x2).setCell ⟨g + 1, 3, none⟩ x3).setCell ⟨g + 1, 4, none⟩ x4).setCell ⟨g + 1, 5, none⟩ x5) ⟨g + 1, 3, none⟩ = some x3 ∧ World.cell? ((((((((z.setCell ⟨g, 2, none⟩ a).setCell ⟨g, 5, none⟩ b).setCell ⟨g + 1, 0, none⟩ x0).setCell ⟨g + 1, 1, none⟩ x1).setCell ⟨g + 1, 2, none⟩ x2).setCell ⟨g + 1, 3, none⟩ x3).setCell ⟨g + 1, 4, none⟩ x4).setCell ⟨g + 1, 5, none⟩ x5) ⟨g + 1, 4, none⟩ = some x4 ∧ World.cell? ((((((((z.setCell ⟨g, 2, none⟩ a).setCell ⟨g, 5, none⟩ b).setCell ⟨g + 1, 0, none⟩ x0).setCell ⟨g + 1, 1, none⟩ x1).setCell ⟨g + 1, 2, none⟩ x2).setCell ⟨g + 1, 3, none⟩ x3).setCell ⟨g + 1, 4, none⟩ x4).setCell ⟨g + 1, 5, none⟩ x5) ⟨g + 1, 5, none⟩ = some x5 := by
  have far : ∀ (V : World) (o : Nat) (x : Value) (j : Nat), (V.setCell ⟨g, o, none⟩ x).cell? ⟨g + 1, j, none⟩ = V.cell? ⟨g + 1, j, none⟩ := fun V o x j => World.cell?_setCell_other _ _ _ _ (by intro h; injection h with h; omega)
  exact cells6 (by rw [far _ 5 b 0, far _ 2 a 0]; exact n0) (by rw [far _ 5 b 1, far _ 2 a 1]; exact n1) (by rw [far _ 5 b 2, far _ 2 a 2]; exact n2) (by rw [far _ 5 b 3, far _ 2 a 3]; exact n3) (by rw [far _ 5 b 4, far _ 2 a 4]; exact n4) (by rw [far _ 5 b 5, far _ 2 a 5]; exact n5) x0 x1 x2 x3 x4 x5

set_option maxRecDepth 100000 in
set_option maxHeartbeats 4000000 in
theorem copied_any (P S Kd M : Int) (A E : Option Addr) (n c ne ce : Nat) (st : List Int) (es : List Ed) (w : World) (ha : Ints w A n st) (hn : n ≤ 100000) (he : EdgesAt w E ne es) (hne : ne ≤ 100000) :
    Calls Try.prog 22 #[.agg #[.int .i64 P, .int .i64 S, .slice A n c, .int .i64 Kd, .int .i64 M, .slice E ne ce]] w fun e w' =>
      ∃ A1 c1 A2 c2, e = .returned (.agg #[.int .i64 P, .int .i64 S, .slice A1 n c1, .int .i64 Kd, .int .i64 M, .slice A2 ne c2]) ∧ w'.ownsRow w.heap.size 3 1 (.slice A1 n c1) n (st.map (Value.int .i64)) ∧
        w'.ownsRow w.heap.size 37 5 (.slice A2 ne c2) ne (edsV es) ∧ Apt (.slice A1 n c1) (.slice A2 ne c2) ∧ Below w.heap.size w w' := by
  obtain ⟨W0, hW0⟩ : ∃ W0, ((w.alloc (.cells #[.int .i64 P, .int .i64 S, .slice A n c, .int .i64 Kd, .int .i64 M, .slice E ne ce] 25)).alloc (.cells #[.int .i64 0, .int .i64 0, .slice none 0 0, .int .i64 0, .int .i64 0, .slice none 0 0] 25)) = W0 := ⟨_, rfl⟩
  have HBw := Lib.hid (show Below w.heap.size w W0 by rw [← hW0]; exact ((Below.refl _ _).alloc (Nat.le_refl _) _).alloc (by simp) _)
  have HC1 := Lib.hid (fun W (hW : Below W0.heap.size W0 W) => clone_slice A n c st W ((ha.below HBw.out).below hW) hn)
  have HC2 := Lib.hid (fun W (hW : Below W0.heap.size W0 W) => cloneE_any E ne ce es W ((he.below HBw.out).below hW) hne)
  have hzz : W0.heap.size = w.heap.size + 2 := by rw [← hW0]; simp
  have hz0 : w.heap.size < W0.heap.size := by omega
  have HFR := Lib.hid (show ∀ i, W0.frozen? ⟨w.heap.size, i, none⟩ = false by intro i; rw [← hW0]; simp)
  have HRF := Lib.hid (show ∀ i, W0.frozen? ⟨w.heap.size + 1, i, none⟩ = false by intro i; rw [← hW0]; simp)
  have HRC := Lib.hid (show ∀ i, W0.cell? ⟨w.heap.size + 1, i, none⟩ = #[Value.int .i64 0, .int .i64 0, .slice none 0 0, .int .i64 0, .int .i64 0, .slice none 0 0][i]? by intro i; rw [← hW0]; have h := box_last (w.alloc (.cells #[.int .i64 P, .int .i64 S, .slice A n c, .int .i64 Kd, .int .i64 M, .slice E ne ce] 25)) #[.int .i64 0, .int .i64 0, .slice none 0 0, .int .i64 0, .int .i64 0, .slice none 0 0] 25 i; rw [World.size_alloc] at h; exact h)
  have q0 : W0.cell? ⟨w.heap.size, 0, none⟩ = some (.int .i64 P) := by rw [← hW0, box_first]; rfl
  have q1 : W0.cell? ⟨w.heap.size, 1, none⟩ = some (.int .i64 S) := by rw [← hW0, box_first]; rfl
  have q2 : W0.cell? ⟨w.heap.size, 2, none⟩ = some (.slice A n c) := by rw [← hW0, box_first]; rfl
  have q3 : W0.cell? ⟨w.heap.size, 3, none⟩ = some (.int .i64 Kd) := by rw [← hW0, box_first]; rfl
  have q4 : W0.cell? ⟨w.heap.size, 4, none⟩ = some (.int .i64 M) := by rw [← hW0, box_first]; rfl
  have q5 : W0.cell? ⟨w.heap.size, 5, none⟩ = some (.slice E ne ce) := by rw [← hW0, box_first]; rfl
  clear ha he
  go_enter Try.func22, Try.ntmps22
  go_wp2_with fail
  clear hW0
  refine wp_region_until_drew (st := [7, 9]) (S := fun V => V.cell? ⟨w.heap.size, 2, none⟩ = some (.slice A n c) ∧ V.cell? ⟨w.heap.size, 5, none⟩ = some (.slice E ne ce)) (by kernel_rfl) ⟨q2, q5⟩ (fun hHeld => ?_)
  refine wpAnyU_pure (i := 0) (v := ?vq0) rfl (by kernel_rfl) (by kernel_rfl) (by kernel_rfl) (by kernel_rfl) (fun _ _ _ h => h) (Or.inl ⟨by rfl, fun V _ => ?hq0⟩) (fun _ => hHeld) ?rq0
  case hq0 => go_simp; try with_reducible rfl
  try simp only [Act.put, List.getElem_toArray, List.getElem_cons_zero, List.getElem_cons_succ, List.setIfInBounds_toArray, List.set_cons_zero, List.set_cons_succ]
  refine wpAnyU_load (i := 1) (v := ?vq1) rfl (by kernel_rfl) (by kernel_rfl) (by kernel_rfl) (by kernel_rfl) (fun _ _ _ h => h) (Or.inl ⟨by rfl, fun V hSw => ?hq1⟩) hHeld ?rq1
  case hq1 => (obtain ⟨hs1, hs2⟩ := hSw); go_simp; try with_reducible rfl
  try simp only [Act.put, List.getElem_toArray, List.getElem_cons_zero, List.getElem_cons_succ, List.setIfInBounds_toArray, List.set_cons_zero, List.set_cons_succ]
  refine wpAnyU_pure (i := 3) (v := ?vq3) rfl (by kernel_rfl) (by kernel_rfl) (by kernel_rfl) (by kernel_rfl) (fun _ _ _ h => h) (Or.inl ⟨by rfl, fun V _ => ?hq3⟩) (fun _ => hHeld) ?rq3
  case hq3 => go_simp; try with_reducible rfl
  try simp only [Act.put, List.getElem_toArray, List.getElem_cons_zero, List.getElem_cons_succ, List.setIfInBounds_toArray, List.set_cons_zero, List.set_cons_succ]
  refine wpAnyU_load (i := 4) (v := ?vq4) rfl (by kernel_rfl) (by kernel_rfl) (by kernel_rfl) (by kernel_rfl) (fun _ _ _ h => h) (Or.inl ⟨by rfl, fun V hSw => ?hq4⟩) hHeld ?rq4
  case hq4 => (obtain ⟨hs1, hs2⟩ := hSw); go_simp; try with_reducible rfl
  try simp only [Act.put, List.getElem_toArray, List.getElem_cons_zero, List.getElem_cons_succ, List.setIfInBounds_toArray, List.set_cons_zero, List.set_cons_succ]
  refine wpAnyU_ready (rs := [2]) (by kernel_rfl) (by simp) (AllU.cons (i := 2) rfl (fun K hK => ?_) AllU.nil)
  simp only [List.getElem_toArray, List.getElem_cons_zero, List.getElem_cons_succ]
  go_simp
  go_at_call 42
  refine (HC1.out _ ?hw1).mono ?_
  case hw1 => exact ((Below.refl _ _).drew)
  rintro x z1 ⟨A1, c1, rfl, ho1, hcc1, hb1⟩
  have HO1 := Lib.hid ho1
  have HB1 := Lib.hid (show Below W0.heap.size W0 z1 from ((Below.refl _ _).drew).trans hb1)
  have k2 : z1.cell? ⟨w.heap.size, 2, none⟩ = some (.slice A n c) := (HB1.out.cell (p := ⟨w.heap.size, 2, none⟩) hz0).trans q2
  have k5 : z1.cell? ⟨w.heap.size, 5, none⟩ = some (.slice E ne ce) := (HB1.out.cell (p := ⟨w.heap.size, 5, none⟩) hz0).trans q5
  clear ho1 hb1 hHeld
  have hHeld := And.intro k2 k5
  refine hK.out _ _ (fun _ => ⟨k2, k5⟩) ?_
  clear hK K
  try simp only [Act.put, List.getElem_toArray, List.getElem_cons_zero, List.getElem_cons_succ, List.setIfInBounds_toArray, List.set_cons_zero, List.set_cons_succ]
  refine wpAnyU_pure (i := 6) (v := ?vq6) rfl (by kernel_rfl) (by kernel_rfl) (by kernel_rfl) (by kernel_rfl) (fun _ _ _ h => h) (Or.inl ⟨by rfl, fun V _ => ?hq6⟩) (fun _ => hHeld) ?rq6
  case hq6 => go_simp; try with_reducible rfl
  try simp only [Act.put, List.getElem_toArray, List.getElem_cons_zero, List.getElem_cons_succ, List.setIfInBounds_toArray, List.set_cons_zero, List.set_cons_succ]
  refine wpAnyU_ready (rs := [5]) (by kernel_rfl) (by simp) (AllU.cons (i := 5) rfl (fun K hK => ?_) AllU.nil)
  simp only [List.getElem_toArray, List.getElem_cons_zero, List.getElem_cons_succ]
  go_simp
  go_at_call 43
  refine (HC2.out _ HB1.out).mono ?_
  rintro x z2 ⟨v2, rfl, ho2, hb2⟩
  obtain ⟨A2, c2, rfl, hcc2⟩ := own_edges ho2
  have HO2 := Lib.hid ho2
  have HO1' := Lib.hid (own_keep HO1.out hb2)
  have HB2 := Lib.hid (show Below W0.heap.size W0 z2 from HB1.out.trans (hb2.mono HB1.out.size))
  have HAP := Lib.hid (show Apt (.slice A1 n c1) (.slice A2 ne c2) from apt_later HO1.out ho2)
  have m0 : z2.cell? ⟨w.heap.size, 0, none⟩ = some (.int .i64 P) := (HB2.out.cell (p := ⟨w.heap.size, 0, none⟩) hz0).trans q0
  have m1 : z2.cell? ⟨w.heap.size, 1, none⟩ = some (.int .i64 S) := (HB2.out.cell (p := ⟨w.heap.size, 1, none⟩) hz0).trans q1
  have m2 : z2.cell? ⟨w.heap.size, 2, none⟩ = some (.slice A n c) := (HB2.out.cell (p := ⟨w.heap.size, 2, none⟩) hz0).trans q2
  have m3 : z2.cell? ⟨w.heap.size, 3, none⟩ = some (.int .i64 Kd) := (HB2.out.cell (p := ⟨w.heap.size, 3, none⟩) hz0).trans q3
  have m4 : z2.cell? ⟨w.heap.size, 4, none⟩ = some (.int .i64 M) := (HB2.out.cell (p := ⟨w.heap.size, 4, none⟩) hz0).trans q4
  have m5 : z2.cell? ⟨w.heap.size, 5, none⟩ = some (.slice E ne ce) := (HB2.out.cell (p := ⟨w.heap.size, 5, none⟩) hz0).trans q5
  have f2 : z2.frozen? ⟨w.heap.size, 2, none⟩ = false := (HB2.out.frozen (p := ⟨w.heap.size, 2, none⟩) hz0).trans (HFR.out 2)
  have f5 : z2.frozen? ⟨w.heap.size, 5, none⟩ = false := (HB2.out.frozen (p := ⟨w.heap.size, 5, none⟩) hz0).trans (HFR.out 5)
  have hz2 : w.heap.size < z2.heap.size := Nat.lt_of_lt_of_le hz0 HB2.out.size
  have hz3 : w.heap.size + 1 < z2.heap.size := by have := HB2.out.size; omega
  have n0 : z2.cell? ⟨w.heap.size + 1, 0, none⟩ = some (.int .i64 0) := (HB2.out.cell (p := ⟨w.heap.size + 1, 0, none⟩) (by show w.heap.size + 1 < _; omega)).trans (HRC.out 0)
  have n1 : z2.cell? ⟨w.heap.size + 1, 1, none⟩ = some (.int .i64 0) := (HB2.out.cell (p := ⟨w.heap.size + 1, 1, none⟩) (by show w.heap.size + 1 < _; omega)).trans (HRC.out 1)
  have n2 : z2.cell? ⟨w.heap.size + 1, 2, none⟩ = some (.slice none 0 0) := (HB2.out.cell (p := ⟨w.heap.size + 1, 2, none⟩) (by show w.heap.size + 1 < _; omega)).trans (HRC.out 2)
  have n3 : z2.cell? ⟨w.heap.size + 1, 3, none⟩ = some (.int .i64 0) := (HB2.out.cell (p := ⟨w.heap.size + 1, 3, none⟩) (by show w.heap.size + 1 < _; omega)).trans (HRC.out 3)
  have n4 : z2.cell? ⟨w.heap.size + 1, 4, none⟩ = some (.int .i64 0) := (HB2.out.cell (p := ⟨w.heap.size + 1, 4, none⟩) (by show w.heap.size + 1 < _; omega)).trans (HRC.out 4)
  have n5 : z2.cell? ⟨w.heap.size + 1, 5, none⟩ = some (.slice none 0 0) := (HB2.out.cell (p := ⟨w.heap.size + 1, 5, none⟩) (by show w.heap.size + 1 < _; omega)).trans (HRC.out 5)
  have g0 := fun i => (HB2.out.frozen (p := ⟨w.heap.size + 1, i, none⟩) (by show w.heap.size + 1 < _; omega)).trans (HRF.out i)
  have g0 := Lib.hid g0
  have r0 := g0.out 0
  have r1 := g0.out 1
  have r2 := g0.out 2
  have r3 := g0.out 3
  have r4 := g0.out 4
  have r5 := g0.out 5
  clear ho2 hb2 hHeld k2 k5
  have hHeld := And.intro m2 m5
  refine hK.out _ _ (fun _ => ⟨m2, m5⟩) ?_
  clear hK K
  try simp only [Act.put, List.getElem_toArray, List.getElem_cons_zero, List.getElem_cons_succ, List.setIfInBounds_toArray, List.set_cons_zero, List.set_cons_succ]
  refine wpAnyU_ready (rs := [7]) (by kernel_rfl) (by simp) (AllU.cons (i := 7) rfl (fun K hK => ?_) AllU.nil)
  simp only [List.getElem_toArray, List.getElem_cons_zero, List.getElem_cons_succ]
  go_simp
  refine hK.out _ _ (fun h => by have h2 : false = true := h; cases h2) ?_
  clear hK K
  try simp only [Act.put, List.getElem_toArray, List.getElem_cons_zero, List.getElem_cons_succ, List.setIfInBounds_toArray, List.set_cons_zero, List.set_cons_succ]
  refine wpAnyU_pure (i := 8) (v := ?vq8) rfl (by kernel_rfl) (by kernel_rfl) (by kernel_rfl) (by kernel_rfl) (fun _ _ _ h => h) (Or.inl ⟨by rfl, fun V _ => ?hq8⟩) (fun h => by have h2 : false = true := h; cases h2) ?rq8
  case hq8 => go_simp; try with_reducible rfl
  try simp only [Act.put, List.getElem_toArray, List.getElem_cons_zero, List.getElem_cons_succ, List.setIfInBounds_toArray, List.set_cons_zero, List.set_cons_succ]
  refine wpAnyU_ready (rs := [9]) (by kernel_rfl) (by simp) (AllU.cons (i := 9) rfl (fun K hK => ?_) AllU.nil)
  simp only [List.getElem_toArray, List.getElem_cons_zero, List.getElem_cons_succ]
  go_simp
  refine hK.out _ _ (fun h => by have h2 : false = true := h; cases h2) ?_
  clear hK K
  try simp only [Act.put, List.getElem_toArray, List.getElem_cons_zero, List.getElem_cons_succ, List.setIfInBounds_toArray, List.set_cons_zero, List.set_cons_succ]
  refine wpAnyU_done (by kernel_rfl) ?_ _
  clear hHeld
  go_wp2_with fail
  obtain ⟨x0, x1, x2, x3, x4, x5⟩ := cells8 n0 n1 n2 n3 n4 n5 (.slice A1 n c1) (.slice A2 ne c2) (.int .i64 P) (.int .i64 S) (.slice A1 n c1) (.int .i64 Kd) (.int .i64 M) (.slice A2 ne c2)
  exact bodyPost_ret (v := .agg #[.int .i64 P, .int .i64 S, .slice A1 n c1, .int .i64 Kd, .int .i64 M, .slice A2 ne c2]) (by simp [results, Try.results22, go_sem, x0, x1, x2, x3, x4, x5]) rfl ⟨A1, c1, A2, c2, rfl, own8 (own_le' HO1'.out (show w.heap.size + 2 ≤ W0.heap.size by omega)) _ _ _ _ _ _ _ _, own8 (own_le' HO2.out (show w.heap.size + 2 ≤ z1.heap.size by have := HB1.out.size; omega)) _ _ _ _ _ _ _ _, HAP.out, below8 (HBw.out.trans (HB2.out.mono HBw.out.size)) _ _ _ _ _ _ _ _⟩

end Go.Proofs.Ytalgbcndifaaiaa.Wd

namespace Go.Proofs.Ytalgbcndifaaiaa.Wd
open Go.RowKit
set_option linter.unusedVariables false

theorem cuV_one (x : Cu) : ∀ u ∈ cuV x, u.oneCell' = true := by
  intro u hu
  simp only [cuV, List.mem_cons, List.not_mem_nil, or_false] at hu
  rcases hu with rfl | rfl | rfl <;> rfl
theorem one_cube (w : World) (x : Cu) (t : TypeId) : ∀ j u, (cuV x)[j]? = some u → (w.alloc (.cells #[.int .i64 x.c, .int .i64 x.b, .int .u64 x.l] t)).cell? ((⟨w.heap.size, 0, none⟩ : Addr).add j) = some u := by
  intro j u hu
  rw [Addr.add_lit, Nat.zero_add, box_last]
  simpa [cuV] using hu

set_option maxRecDepth 100000 in
set_option maxHeartbeats 8000000 in
theorem cubesOf_any (p c : Nat) (w : World) (hp : p ≤ 6) (hc : c < 64) :
    Calls Try.prog 70 #[.int .i64 c, .int .i64 p] w fun e w' => ∃ v, e = .returned v ∧ w'.ownsRow w.heap.size 89 3 v (cubesOfL p c (2 ^ p)).length (cusV (cubesOfL p c (2 ^ p))) ∧ Below w.heap.size w w' := by
  obtain ⟨i0, hi, hi0, hi1, hi2⟩ := info_parts cube_info
  obtain ⟨N, hN, HN⟩ : ∃ N : Nat, IntKind.i64.wrap ((2 : Int) ^ p) = (N : Int) ∧ Hid (2 ^ p = N) := ⟨2 ^ p, (pow_six hp).1, rfl⟩
  have hN64 : N ≤ 64 := by rw [← HN.out]; exact (pow_six hp).2
  have hp0 : (0 : Int) ≤ (p : Int) := by omega
  have hp6 : (p : Int) ≤ 6 := by omega
  have HF := Lib.hid (fun (b : Nat) w => fitting_any p 0 0 c b 0 w hp)
  go_enter Try.func70, Try.ntmps70
  go_wp2_with fail
  go_loopg [5, 9] N (fun g v i wx => ∃ t : Nat, t + g = N ∧ i = .int .i64 t ∧ Hid (wx.ownsRow w.heap.size 89 3 v (cubesOfL p c t).length (cusV (cubesOfL p c t))) ∧ Hid (Below w.heap.size w wx))
  case atStart => exact ⟨0, by omega, rfl, World.ownsRow_nil _ _ _ _, Below.refl _ _⟩
  case round =>
    obtain ⟨t, htg, rfl, HR, HBx⟩ := hrel
    have hti : (0 : Int) ≤ (t : Int) := by omega
    cases gk with
    | zero =>
      obtain rfl : N = t := by omega
      go_wp2_with fail
      go_ret
      exact ⟨_, rfl, by rw [HN.out]; exact HR.out, HBx.out⟩
    | succ q =>
      have ht1 : t < N := by omega
      have hti2 : (t : Int) < (N : Int) := by omega
      have HAN := Lib.hid (andNot_small (x := t) (c := c) (by omega) hc)
      obtain ⟨r, hr, HRR⟩ : ∃ r : Int, bits .andNot .i64 (t : Int) (c : Int) = r ∧ Hid (bits .andNot .i64 (t : Int) (c : Int) = r) := ⟨_, rfl, rfl⟩
      by_cases h : t &&& c = t
      · have hr0 : r = 0 := by rw [← hr]; exact HAN.out.2 h
        subst hr0
        have HX := Lib.hid (show cubesOfL p c (t + 1) = cubesOfL p c t ++ [⟨c, t, cubeN p c t⟩] by rw [cubesOfL, if_pos h])
        have HFT := Lib.hid (show ∀ w, Calls Try.prog 40 #[.agg #[.int .i64 0, .int .i64 0, .int .i64 c, .int .i64 t, .int .i64 0], .int .i64 p] w fun r w' => r = .returned (.int .u64 (cubeN p c t : Nat)) ∧ Below w.heap.size w w' from fun w => HF.out t w)
        generalize cubeN p c t = L at *
        clear h
        go_wp2_with fail
        refine (HFT.out _).mono ?_
        rintro x w3 ⟨rfl, hb3⟩
        have HB3 := Lib.hid (HBx.out.trans (hb3.mono HBx.out.size))
        have HO3 := Lib.hid (own_below' HR.out hb3)
        clear hb3
        go_wp2_with (at_builtin; refine wpList_append_cells _ (by rfl) _ _ 85 (by rfl) w.heap.size 89 3 24 i0 _ Try.underlying85 hi hi0 hi1 hi2 rfl (by decide) u5 (cubesOfL p c t).length (cusV (cubesOfL p c t)) (by rfl) (by exact HO3.out.alloc _) ⟨w3.heap.size, 0, none⟩ 1 1 (cuV ⟨c, t, L⟩) (by rfl) (by rfl) (by exact one_cube w3 ⟨c, t, L⟩ _) (by exact cuV_one _) (by have := cubesOfL_len p c t; omega) (by decide) (by exact (HB3.out.alloc HB3.out.size _).size) ?_)
        intro v' w4 hown hgrow _
        have HB4 := Lib.hid ((HB3.out.alloc HB3.out.size (.cells #[.int .i64 c, .int .i64 t, .int .u64 L] 89)).trans (below_own (HO3.out.alloc _) hgrow (HB3.out.alloc HB3.out.size _).size))
        have HO4 := Lib.hid hown
        clear hown hgrow
        go_wp2_with fail
        go_roundg q
        case measure => omega
        case rel => exact ⟨t + 1, by omega, by go_num, (by rw [HX.out, cusV_snoc, List.length_append]; exact HO4.out), HB4.out⟩
      · have hr0 : ¬ r = 0 := by rw [← hr]; exact fun e => h (HAN.out.1 e)
        have hr1 : (r == 0) = false := by simpa using hr0
        have HX := Lib.hid (show cubesOfL p c (t + 1) = cubesOfL p c t by rw [cubesOfL, if_neg h])
        clear h hr0
        go_wp2_with fail
        go_roundg q
        case measure => omega
        case rel => exact ⟨t + 1, by omega, by go_num, by rw [HX.out]; exact HR.out, HBx.out⟩

end Go.Proofs.Ytalgbcndifaaiaa.Wd

namespace Go.Proofs.Ytalgbcndifaaiaa.Wd
open Go.RowKit
set_option linter.unusedVariables false

set_option maxRecDepth 100000 in
set_option maxHeartbeats 4000000 in
theorem ones64_any (c : Nat) (w : World) (hc : c < 64) :
    Calls Try.prog 79 #[.int .u64 c] w fun e w' => e = .returned (.int .i64 (bitsN 6 c)) ∧ w = w' := by
  have hc0 : (0 : Int) ≤ (c : Int) := by omega
  have hc1 : (c : Int) < 64 := by omega
  go_enter Try.func79, Try.ntmps79
  go_wp2_with fail
  go_ret
  refine ⟨ret_int ?_, rfl⟩
  clear hc0 hc1 w
  obtain ⟨k, rfl⟩ : ∃ k : Fin 64, c = k.val := ⟨⟨c, hc⟩, rfl⟩
  clear hc
  revert k
  decide +kernel

theorem ones_any (c : Nat) (w : World) (hc : c < 64) :
    Calls Try.prog 69 #[.int .u64 c] w fun e w' => e = .returned (.int .i64 (bitsN 6 c)) ∧ w = w' := by
  have HO := Lib.hid (fun w => ones64_any c w hc)
  have hc0 : (0 : Int) ≤ (c : Int) := by omega
  have hc1 : (c : Int) < 64 := by omega
  go_enter Try.func69, Try.ntmps69
  go_wp2_with fail
  refine (HO.out _).mono ?_
  rintro e w1 ⟨rfl, rfl⟩
  go_wp2_with fail
  go_ret
  exact ⟨rfl, rfl⟩

end Go.Proofs.Ytalgbcndifaaiaa.Wd

namespace Go.Proofs.Ytalgbcndifaaiaa.Wd
open Go.RowKit
set_option linter.unusedVariables false

/-- The cells of an own row that is not nil. -/
theorem own_head {w : World} {B n cap sz : Nat} {e : TypeId} {A : Option Addr} {xs : List Value} (h : w.ownsRow B e sz (.slice A n cap) n xs) (hn : 0 < n) : ∃ g, A = some ⟨g, 0, none⟩ ∧ ∀ j u, xs[j]? = some u → w.cell? ((⟨g, 0, none⟩ : Addr).add j) = some u := by
  rcases h.2 with ⟨_, h0⟩ | ⟨g, cap', cur, hv, hb, _⟩
  · omega
  · injection hv with hv _ _
    subst hv
    have hg : Value.ownBlock (.slice (some ⟨g, 0, none⟩) n cap) = some g := by simp [Value.ownBlock]
    exact ⟨g, rfl, fun j u hu => h.cells hg j u hu⟩
theorem cusV_eq_one (l : List Cu) : (cusV l).length = l.length * 3 := cusV_len l

set_option maxRecDepth 100000 in
set_option maxHeartbeats 8000000 in
theorem cubes_any (p : Nat) (w : World) (hp : p ≤ 6) :
    Calls Try.prog 44 #[.int .i64 p] w fun e w' => ∃ v, e = .returned v ∧ w'.ownsRow w.heap.size 89 3 v (allCubes p).length (cusV (allCubes p)) ∧ Below w.heap.size w w' := by
  obtain ⟨i0, hi, hi0, hi1, hi2⟩ := info_parts cube_info
  obtain ⟨N, hN, HN⟩ : ∃ N : Nat, IntKind.i64.wrap ((2 : Int) ^ p) = (N : Int) ∧ Hid (2 ^ p = N) := ⟨2 ^ p, (pow_six hp).1, rfl⟩
  have hN64 : N ≤ 64 := by rw [← HN.out]; exact (pow_six hp).2
  have hp0 : (0 : Int) ≤ (p : Int) := by omega
  have hp6 : (p : Int) ≤ 6 := by omega
  have HC := Lib.hid (fun (c : Nat) (hc : c < 64) w => cubesOf_any p c w hp hc)
  have HO := Lib.hid (fun (c : Nat) (hc : c < 64) w => ones_any c w hc)
  have HLEN := Lib.hid (fun q => cubesL_len hp q)
  have HLEN2 := Lib.hid (fun q k => cubesAtL_len p q k)
  have HLEN3 := Lib.hid (fun c => cubesOfL_len p c (2 ^ p))
  have HNE := Lib.hid (fun c => cubesOfL_ne p c (k := 2 ^ p) (by have := Nat.two_pow_pos p; omega))
  have HALL := Lib.hid (show allCubes p = cubesL p (p + 1) from rfl)
  go_enter Try.func44, Try.ntmps44
  go_wp2_with fail
  go_loopg [3, 8] (p + 1) (fun g v i wx => ∃ t : Nat, t + g = p + 1 ∧ i = .int .i64 t ∧ Hid (wx.ownsRow w.heap.size 89 3 v (cubesL p t).length (cusV (cubesL p t))) ∧ Hid (Below w.heap.size w wx))
  case atStart => exact ⟨0, by omega, rfl, World.ownsRow_nil _ _ _ _, Below.refl _ _⟩
  case round =>
    obtain ⟨t, htg, rfl, HR, HBx⟩ := hrel
    have hti : (0 : Int) ≤ (t : Int) := by omega
    cases gk with
    | zero =>
      obtain rfl : t = p + 1 := by omega
      go_wp2_with fail
      go_ret
      exact ⟨_, rfl, by rw [HALL.out]; exact HR.out, HBx.out⟩
    | succ q =>
      have ht1 : t < p + 1 := by omega
      have hti2 : (t : Int) < (p : Int) + 1 := by omega
      have ht6 : t ≤ 6 := by omega
      obtain ⟨wo, rfl⟩ : ∃ wo : World, wo = wr := ⟨_, rfl⟩
      go_wp2_with fail
      go_loopg [3, 13] N (fun g v i wx => ∃ c : Nat, c + g = N ∧ i = .int .i64 c ∧ Hid (wx.ownsRow w.heap.size 89 3 v (cubesL p t ++ cubesAtL p t c).length (cusV (cubesL p t ++ cubesAtL p t c))) ∧ Hid (Below w.heap.size w wx))
      case atStart => exact ⟨0, by omega, rfl, (by show World.ownsRow _ _ _ _ _ _ _; rw [show cubesL p t ++ cubesAtL p t 0 = cubesL p t by simp [cubesAtL]]; exact HR.out), HBx.out⟩
      case round =>
        clear HR HBx
        obtain ⟨c, hcg, rfl, HR, HBx⟩ := hrel
        have hci : (0 : Int) ≤ (c : Int) := by omega
        cases gk with
        | zero =>
          obtain rfl : N = c := by omega
          have HX := Lib.hid (show cubesL p (t + 1) = cubesL p t ++ cubesAtL p t N by rw [cubesL, HN.out])
          go_wp2_with fail
          go_roundg q
          case measure => omega
          case rel => exact ⟨t + 1, by omega, by go_num, (by rw [HX.out]; exact HR.out), HBx.out⟩
        | succ q2 =>
          have hc1 : c < N := by omega
          have hci2 : (c : Int) < (N : Int) := by omega
          have hc64 : (c : Int) < 64 := by omega
          have hcN : c < 64 := by omega
          have HOC := Lib.hid (HO.out c hcN)
          have HCC := Lib.hid (HC.out c hcN)
          have HL := Lib.hid (show (cubesL p t ++ cubesAtL p t c).length ≤ 40000 by
            have h1 := HLEN.out t
            have h2 := HLEN2.out t c
            rw [HN.out] at h2
            have h3 : c * N ≤ 64 * 64 := Nat.mul_le_mul (by omega) hN64
            rw [List.length_append]; omega)
          have HL3 := Lib.hid (show (cubesOfL p c (2 ^ p)).length ≤ 64 by have := HLEN3.out c; rw [HN.out] at this ⊢; omega)
          have HNC := Lib.hid (HNE.out c)
          by_cases hb : bitsN 6 c = t
          · have HX := Lib.hid (show cubesL p t ++ cubesAtL p t (c + 1) = (cubesL p t ++ cubesAtL p t c) ++ cubesOfL p c (2 ^ p) by rw [cubesAtL, if_pos hb, List.append_assoc])
            rw [hb] at HOC
            clear hb
            go_wp2_with fail
            refine (HOC.out _).mono ?_
            rintro x w2 ⟨rfl, rfl⟩
            go_wp2_with fail
            refine (HCC.out _).mono ?_
            rintro x w3 ⟨v3, rfl, ho3, hb3⟩
            obtain ⟨A3, k3, rfl, _⟩ := own_any ho3
            obtain ⟨g3, rfl, hcells⟩ := own_head ho3 HNC.out
            have HB3 := Lib.hid (HBx.out.trans (hb3.mono HBx.out.size))
            have HO3 := Lib.hid (own_below' HR.out hb3)
            have HCE := Lib.hid hcells
            clear hb3 ho3 hcells
            generalize cubesL p t ++ cubesAtL p t c = L at *
            generalize cubesOfL p c (2 ^ p) = M at *
            go_wp2_with (at_builtin; refine wpList_append_cells _ (by rfl) _ _ 85 (by rfl) w.heap.size 89 3 24 i0 _ Try.underlying85 hi hi0 hi1 hi2 rfl (by decide) u3 L.length (cusV L) (by rfl) (by exact HO3.out) ⟨g3, 0, none⟩ M.length k3 (cusV M) (by rfl) (by exact cusV_len M) (by exact HCE.out) (by exact cusV_one M) (by have := HL.out; have := HL3.out; omega) (by decide) (by exact HB3.out.size) ?_)
            intro v' w4 hown hgrow _
            have HB4 := Lib.hid (HB3.out.trans (below_own HO3.out hgrow HB3.out.size))
            have HO4 := Lib.hid hown
            clear hown hgrow
            go_wp2_with fail
            go_roundg q2
            case measure => omega
            case rel => exact ⟨c + 1, by omega, by go_num, (by rw [HX.out, cusV_app, List.length_append]; exact HO4.out), HB4.out⟩
          · have HX := Lib.hid (show cubesAtL p t (c + 1) = cubesAtL p t c by rw [cubesAtL, if_neg hb])
            have hb2 : ((bitsN 6 c : Int) == (t : Int)) = false := by simp; omega
            clear hb
            generalize bitsN 6 c = bc at *
            go_wp2_with fail
            refine (HOC.out _).mono ?_
            rintro x w2 ⟨rfl, rfl⟩
            go_wp2_with fail
            go_roundg q2
            case measure => omega
            case rel => exact ⟨c + 1, by omega, by go_num, (by rw [HX.out]; exact HR.out), HBx.out⟩

end Go.Proofs.Ytalgbcndifaaiaa.Wd

namespace Go.Proofs.Ytalgbcndifaaiaa.Wd
open Go.RowKit
set_option linter.unusedVariables false

/-- The elements of a that are not among those of b. -/
def diffN (a b : Nat) : Nat := a ^^^ (a &&& b)
theorem diffN_bit (a b i : Nat) : (diffN a b).testBit i = (a.testBit i && !b.testBit i) := by
  unfold diffN
  rw [Nat.testBit_xor, Nat.testBit_and]
  cases a.testBit i <;> cases b.testBit i <;> rfl
theorem diffN_lt {a b k : Nat} (h : a < 2 ^ k) : diffN a b < 2 ^ k := by
  unfold diffN
  exact Nat.xor_lt_two_pow h (Nat.lt_of_le_of_lt Nat.and_le_left h)
theorem andNot_u64 (a b : Nat) (ha : a < 18446744073709551616) (hb : b < 18446744073709551616) : bits .andNot .u64 (a : Int) (b : Int) = ((diffN a b : Nat) : Int) := by
  have e : bits .andNot .u64 (a : Int) (b : Int) = IntKind.u64.wrap (((BitVec.ofInt 64 (a : Int) &&& ~~~ BitVec.ofInt 64 (b : Int)).toNat : Nat) : Int) := rfl
  have h1 : (BitVec.ofInt 64 (a : Int) &&& ~~~ BitVec.ofInt 64 (b : Int)).toNat = diffN a b := by
    apply Nat.eq_of_testBit_eq
    intro i
    rw [diffN_bit, BitVec.testBit_toNat, BitVec.getLsbD_and, BitVec.getLsbD_not, BitVec.ofInt_natCast, BitVec.ofInt_natCast, BitVec.getLsbD_ofNat, BitVec.getLsbD_ofNat]
    by_cases hi : i < 64
    · simp [hi]
    · have h2 : a.testBit i = false := Nat.testBit_lt_two_pow (Nat.lt_of_lt_of_le ha (by
        have : (2 : Nat) ^ 64 ≤ 2 ^ i := Nat.pow_le_pow_right (by decide) (by omega)
        omega))
      simp [hi, h2]
  rw [e, h1]
  have h3 : diffN a b < 2 ^ 64 := diffN_lt (k := 64) ha
  rw [IntKind.wrap_u64]
  omega

def coverL : Nat → List Cu → List Cu
  | _, [] => []
  | s, x :: r => if s = 0 then [] else if diffN x.l s = 0 then x :: coverL (diffN s x.l) r else coverL s r
theorem coverL_none (r : List Cu) : coverL 0 r = [] := by cases r <;> simp [coverL]
theorem coverL_take {s : Nat} {x : Cu} {r : List Cu} (h0 : ¬ s = 0) (h : diffN x.l s = 0) : coverL s (x :: r) = x :: coverL (diffN s x.l) r := by rw [coverL, if_neg h0, if_pos h]
theorem coverL_skip {s : Nat} {x : Cu} {r : List Cu} (h0 : ¬ s = 0) (h : ¬ diffN x.l s = 0) : coverL s (x :: r) = coverL s r := by rw [coverL, if_neg h0, if_neg h]
theorem coverL_len (r : List Cu) : ∀ s, (coverL s r).length ≤ r.length := by
  induction r with
  | nil => intro s; simp [coverL]
  | cons x r ih =>
    intro s
    unfold coverL
    split
    · simp
    · split
      · have := ih (diffN s x.l); simp; omega
      · have := ih s; simp; omega
theorem drop_at {l : List Cu} {t : Nat} (h : t < l.length) : l.drop t = l.getD t cu0 :: l.drop (t + 1) := by
  rw [List.drop_eq_getElem_cons h, List.getD_eq_getElem?_getD, List.getElem?_eq_getElem h]; rfl

theorem own_apart0' {w : World} {B e n sz g : Nat} {v : Value} {xs : List Value} (h : w.ownsRow B e sz v n xs) (hg : w.heap.size ≤ g) : some g ≠ v.ownBlock := by
  intro he
  rcases h.2 with ⟨rfl, _⟩ | ⟨b, cap, cur, rfl, h1, hgg, _⟩
  · cases he
  · cases he
    exact Nat.lt_irrefl _ (Nat.lt_of_lt_of_le (Array.getElem?_eq_some_iff.1 hgg).1 hg)
theorem one_cube2 (w : World) (x : Cu) (t t' : TypeId) : ∀ j u, (cuV x)[j]? = some u → ((w.alloc (.cells #[.int .i64 x.c, .int .i64 x.b, .int .u64 x.l] t')).alloc (.cells #[.int .i64 x.c, .int .i64 x.b, .int .u64 x.l] t)).cell? ((⟨w.heap.size + 1, 0, none⟩ : Addr).add j) = some u := by
  have h := one_cube (w.alloc (.cells #[.int .i64 x.c, .int .i64 x.b, .int .u64 x.l] t')) x t
  rw [World.size_alloc] at h
  exact h

set_option maxRecDepth 100000 in
set_option maxHeartbeats 8000000 in
theorem cover_any (s0 : Nat) (A : Option Addr) (n k : Nat) (all : List Cu) (w : World) (h : CusAt w A n all) (hn : n ≤ 40000) (hs : s0 < 18446744073709551616) (hl : ∀ j, j < n → (all.getD j cu0).l < 18446744073709551616) :
    Calls Try.prog 45 #[.int .u64 s0, .slice A n k] w fun e w' => ∃ v, e = .returned v ∧ w'.ownsRow w.heap.size 89 3 v (coverL s0 all).length (cusV (coverL s0 all)) ∧ Below w.heap.size w w' := by
  obtain ⟨i0, hi, hi0, hi1, hi2⟩ := info_parts cube_info
  have HA := Lib.hid h
  have HLL := Lib.hid hl
  have HAL := Lib.hid h.1
  clear h hl
  go_enter Try.func45, Try.ntmps45
  go_wp2_with fail
  go_loopg [0, 5, 10] n (fun g sv v i wx => ∃ t s : Nat, ∃ L : List Cu, t + g = n ∧ i = .int .i64 t ∧ sv = .int .u64 s ∧ s < 18446744073709551616 ∧ L.length ≤ t ∧ Hid (coverL s0 all = L ++ coverL s (all.drop t)) ∧ Hid (wx.ownsRow w.heap.size 89 3 v L.length (cusV L)) ∧ Hid (Below w.heap.size w wx))
  case atStart => exact ⟨0, s0, [], by omega, rfl, rfl, hs, by simp, rfl, World.ownsRow_nil _ _ _ _, Below.refl _ _⟩
  case round =>
    obtain ⟨t, s, L, htg, rfl, rfl, hss, hLt, HC, HR, HBx⟩ := hrel
    have hti : (0 : Int) ≤ (t : Int) := by omega
    cases gk with
    | zero =>
      obtain rfl : n = t := by omega
      have HF := Lib.hid (show coverL s0 all = L by
        have h := HC.out
        rw [List.drop_of_length_le (by rw [HAL.out]; omega)] at h
        rw [h]; simp [coverL])
      go_wp2_with fail
      go_ret
      exact ⟨_, rfl, by rw [HF.out]; exact HR.out, HBx.out⟩
    | succ q =>
      have ht1 : t < n := by omega
      have hti2 : (t : Int) < (n : Int) := by omega
      obtain ⟨b, rfl, hlt, hcell⟩ := (HA.out.below HBx.out).2 (by omega)
      obtain ⟨c0, c1, c2⟩ := hcell t ht1
      have hl64 := HLL.out t ht1
      have HD := Lib.hid (drop_at (l := all) (t := t) (by rw [HAL.out]; exact ht1))
      generalize all.getD t cu0 = x at *
      obtain ⟨xc, xb, xl⟩ := x
      simp only at c0 c1 c2 hl64
      clear hcell
      by_cases hs0 : s = 0
      · subst hs0
        have HF := Lib.hid (show coverL s0 all = L by rw [HC.out, coverL_none]; simp)
        go_wp2_with fail
        go_ret
        exact ⟨_, rfl, by rw [HF.out]; exact HR.out.alloc _, HBx.out.alloc HBx.out.size _⟩
      · have hse : ((s : Int) == 0) = false := by simpa using hs0
        have han := andNot_u64 xl s hl64 hss
        have han2 := andNot_u64 s xl hss hl64
        have HDL := Lib.hid (show diffN s xl < 18446744073709551616 from diffN_lt (k := 64) hss)
        by_cases hd : diffN xl s = 0
        · have HX := Lib.hid (show coverL s0 all = (L ++ [⟨xc, xb, xl⟩]) ++ coverL (diffN s xl) (all.drop (t + 1)) by rw [HC.out, HD.out, coverL_take hs0 hd]; simp)
          rw [hd] at han
          generalize diffN s xl = s2 at *
          clear hs0 hd
          go_wp2_with (at_builtin; refine wpList_append_cells _ (by rfl) _ _ 85 (by rfl) w.heap.size 89 3 24 i0 _ Try.underlying85 hi hi0 hi1 hi2 rfl (by decide) u5 L.length (cusV L) (by rfl) (by exact (HR.out.alloc _).alloc _) ⟨wr.heap.size + 1, 0, none⟩ 1 1 (cuV ⟨xc, xb, xl⟩) (by rfl) (by rfl) (by exact one_cube2 wr ⟨xc, xb, xl⟩ _ _) (by exact cuV_one _) (by omega) (by decide) (by have := HBx.out.size; simp; omega) ?_)
          intro v' w4 hown hgrow _
          have HB4 := Lib.hid (((HBx.out.alloc HBx.out.size (.cells #[.int .i64 xc, .int .i64 xb, .int .u64 xl] 89)).alloc (by have := HBx.out.size; simp; omega) (.cells #[.int .i64 xc, .int .i64 xb, .int .u64 xl] 89)).trans (below_own ((HR.out.alloc _).alloc _) hgrow (by have := HBx.out.size; simp; omega)))
          have HO4 := Lib.hid hown
          have hx2 : w4.cell? ⟨wr.heap.size, 2, none⟩ = some (.int .u64 xl) := (hgrow.cell_far ⟨wr.heap.size, 2, none⟩ (by simp; omega) (own_apart0' HR.out (Nat.le_refl _))).trans (box_first wr #[.int .i64 xc, .int .i64 xb, .int .u64 xl] 89 (.cells #[.int .i64 xc, .int .i64 xb, .int .u64 xl] 89) 2)
          have hz4 : wr.heap.size < w4.heap.size := by have := hgrow.size; simp at this; omega
          clear hown hgrow
          go_wp2_with fail
          go_roundg q
          case measure => omega
          case rel => exact ⟨t + 1, s2, L ++ [⟨xc, xb, xl⟩], by omega, by go_num, rfl, HDL.out, by simp; omega, HX, (by rw [cusV_snoc, List.length_append]; exact HO4.out), HB4.out⟩
        · have HX := Lib.hid (show coverL s0 all = L ++ coverL s (all.drop (t + 1)) by rw [HC.out, HD.out, coverL_skip hs0 hd])
          have hd2 : ((diffN xl s : Int) == 0) = false := by simpa using hd
          generalize diffN xl s = dd at *
          clear hs0 hd han2
          go_wp2_with fail
          go_roundg q
          case measure => omega
          case rel => exact ⟨t + 1, s, L, by omega, by go_num, rfl, hss, by omega, HX, HR.out.alloc _, HBx.out.alloc HBx.out.size _⟩

end Go.Proofs.Ytalgbcndifaaiaa.Wd

namespace Go.Proofs.Ytalgbcndifaaiaa.Wd
open Go.RowKit
set_option linter.unusedVariables false

/-- An edge with more marks. -/
def orE (o : Int) (e : Ed) : Ed := ⟨e.f, e.t, e.c, e.b, bits .or .i64 e.m o⟩
/-- The first t edges have them already. -/
def orL (o : Int) (t : Nat) (es : List Ed) : List Ed := (es.take t).map (orE o) ++ es.drop t
theorem orL_zero (o : Int) (es : List Ed) : orL o 0 es = es := by simp [orL]
theorem orL_all (o : Int) (es : List Ed) : orL o es.length es = es.map (orE o) := by simp [orL]
theorem orL_len (o : Int) (t : Nat) (es : List Ed) : (orL o t es).length = es.length := by
  unfold orL
  rw [List.length_append, List.length_map, List.length_take, List.length_drop]
  omega
theorem orL_at (o : Int) {t : Nat} {es : List Ed} (h : t < es.length) : (orL o t es).getD t ed0 = es.getD t ed0 := by
  unfold orL
  rw [List.getD_eq_getElem?_getD, List.getElem?_append_right (by simp; omega), List.getD_eq_getElem?_getD, List.getElem?_drop]
  congr 2
  simp
  omega
theorem orL_step (o : Int) {t : Nat} {es : List Ed} (h : t < es.length) : orL o (t + 1) es = (orL o t es).set t (orE o (es.getD t ed0)) := by
  unfold orL
  rw [List.set_append, List.length_map, List.length_take, if_neg (by omega), show t - min t es.length = 0 by omega, List.drop_eq_getElem_cons h, List.set_cons_zero, List.take_succ_eq_append_getElem h, List.map_append, List.append_assoc]
  congr 1
  rw [List.getD_eq_getElem?_getD, List.getElem?_eq_getElem h]
  rfl
theorem edsV_setm (m : Int) : ∀ (l : List Ed) (t : Nat), t < l.length → (edsV l).set (t * 5 + 4) (.int .i64 m) = edsV (l.set t ⟨(l.getD t ed0).f, (l.getD t ed0).t, (l.getD t ed0).c, (l.getD t ed0).b, m⟩) := by
  intro l
  induction l with
  | nil => intro t h; simp at h
  | cons e l ih =>
    intro t h
    cases t with
    | zero => rfl
    | succ t =>
      rw [edsV_cons, List.set_append, if_neg (by show ¬ _ < 5; omega), List.set_cons_succ, edsV_cons]
      congr 1
      rw [show (t + 1) * 5 + 4 - (edV e).length = t * 5 + 4 by show _ - 5 = _; omega, ih t (by simpa using h)]
      rfl

/-- A made row is an own one. -/
theorem own_of_rowIs {w : World} {b B S : Nat} {e : TypeId} {f : Nat → Value} (h : w.rowIs b e S f) (hb : B ≤ b) (hS : S ≤ 100000) : w.ownsRow B e 1 (.slice (some ⟨b, 0, none⟩) S S) S ((List.range S).map f) := by
  obtain ⟨c, h1, h2, h3⟩ := h
  refine ⟨by simp, .inr ⟨b, S, c, rfl, hb, h1, Nat.le_refl _, by unfold maxLen; omega, by omega, ?_⟩⟩
  apply List.ext_getElem?
  intro i
  rw [List.getElem?_take, List.getElem?_map]
  by_cases hi : i < S
  · rw [if_pos (by omega), Array.getElem?_toList, h3 i hi, List.getElem?_range hi]; rfl
  · rw [if_neg (by omega), List.getElem?_eq_none (by simpa using hi)]; rfl

/-- The state of withSink behind its third region. -/
structure SkS (g r q B p : Nat) (S Kd M i1 i2 i3 : Int) (vS vE : Value) (n1 : Nat) (st1 : List Int) (L : List Ed) (W : World) : Prop where
  bs : g + 1 < B ∧ r < B ∧ B ≤ q ∧ q < W.heap.size
  pc : W.cell? ⟨g, 0, none⟩ = some (.int .i64 p)
  zs : W.cell? ⟨g + 1, 0, none⟩ = some (.int .i64 0) ∧ W.cell? ⟨g + 1, 1, none⟩ = some (.int .i64 0) ∧ W.cell? ⟨g + 1, 2, none⟩ = some (.slice none 0 0) ∧ W.cell? ⟨g + 1, 3, none⟩ = some (.int .i64 0) ∧ W.cell? ⟨g + 1, 4, none⟩ = some (.int .i64 0) ∧ W.cell? ⟨g + 1, 5, none⟩ = some (.slice none 0 0)
  zf : ∀ i, W.frozen? ⟨g + 1, i, none⟩ = false
  rc : W.cell? ⟨r, 0, none⟩ = some (.int .i64 i1) ∧ W.cell? ⟨r, 1, none⟩ = some (.int .i64 i2) ∧ W.cell? ⟨r, 2, none⟩ = some (.int .i64 i3)
  qc : W.cell? ⟨q, 0, none⟩ = some (.int .i64 p) ∧ W.cell? ⟨q, 1, none⟩ = some (.int .i64 S) ∧ W.cell? ⟨q, 2, none⟩ = some vS ∧ W.cell? ⟨q, 3, none⟩ = some (.int .i64 Kd) ∧ W.cell? ⟨q, 4, none⟩ = some (.int .i64 M) ∧ W.cell? ⟨q, 5, none⟩ = some vE
  qf : ∀ i, W.frozen? ⟨q, i, none⟩ = false
  oS : W.ownsRow B 3 1 vS n1 (st1.map (Value.int .i64))
  oE : W.ownsRow B 37 5 vE L.length (edsV L)
  nS : vS.ownBlock ≠ some q
  nE : vE.ownBlock ≠ some q
  ap : Apt vS vE

end Go.Proofs.Ytalgbcndifaaiaa.Wd

namespace Go.Proofs.Ytalgbcndifaaiaa.Wd
open Go.RowKit
set_option linter.unusedVariables false

theorem SkS.below {g r q B p : Nat} {S Kd M i1 i2 i3 : Int} {vS vE : Value} {n1 : Nat} {st1 : List Int} {L : List Ed} {W : World} {W' : World} (h : SkS g r q B p S Kd M i1 i2 i3 vS vE n1 st1 L W) (hb : Below W.heap.size W W') : SkS g r q B p S Kd M i1 i2 i3 vS vE n1 st1 L W' := by
  obtain ⟨hg, hr, hBq, hq⟩ := h.bs
  have cg := fun i => hb.cell (p := ⟨g, i, none⟩) (show g < W.heap.size by omega)
  have cz := fun i => hb.cell (p := ⟨g + 1, i, none⟩) (show g + 1 < W.heap.size by omega)
  have cr := fun i => hb.cell (p := ⟨r, i, none⟩) (show r < W.heap.size by omega)
  have cq := fun i => hb.cell (p := ⟨q, i, none⟩) (show q < W.heap.size by omega)
  obtain ⟨z0, z1, z2, z3, z4, z5⟩ := h.zs
  obtain ⟨r0, r1, r2⟩ := h.rc
  obtain ⟨q0, q1, q2, q3, q4, q5⟩ := h.qc
  exact ⟨⟨hg, hr, hBq, Nat.lt_of_lt_of_le hq hb.size⟩, (cg 0).trans h.pc, ⟨(cz 0).trans z0, (cz 1).trans z1, (cz 2).trans z2, (cz 3).trans z3, (cz 4).trans z4, (cz 5).trans z5⟩,
    fun i => (hb.frozen (p := ⟨g + 1, i, none⟩) (show g + 1 < W.heap.size by omega)).trans (h.zf i), ⟨(cr 0).trans r0, (cr 1).trans r1, (cr 2).trans r2⟩,
    ⟨(cq 0).trans q0, (cq 1).trans q1, (cq 2).trans q2, (cq 3).trans q3, (cq 4).trans q4, (cq 5).trans q5⟩, fun i => (hb.frozen (p := ⟨q, i, none⟩) hq).trans (h.qf i),
    own_keep h.oS hb, own_keep h.oE hb, h.nS, h.nE, h.ap⟩
theorem set_far {W : World} {a b : Nat} (h : a ≠ b) (k i : Nat) (x : Value) : (W.setCell ⟨a, k, none⟩ x).cell? ⟨b, i, none⟩ = W.cell? ⟨b, i, none⟩ := World.cell?_setCell_other _ _ _ _ (by intro h2; injection h2 with h3; exact h h3)
theorem set_oth {W : World} {a k i : Nat} (h : k ≠ i) (x : Value) : (W.setCell ⟨a, k, none⟩ x).cell? ⟨a, i, none⟩ = W.cell? ⟨a, i, none⟩ := World.cell?_setCell_other _ _ _ _ (by intro h2; injection h2 with _ h3; exact h h3)
/-- A store into the box q; what it holds then is told. -/
theorem SkS.put {g r q B p : Nat} {S Kd M i1 i2 i3 : Int} {vS vE : Value} {n1 : Nat} {st1 : List Int} {L : List Ed} {W : World} (h : SkS g r q B p S Kd M i1 i2 i3 vS vE n1 st1 L W) (k : Nat) (x : Value) {S' M' : Int} {vS' vE' : Value} {n2 : Nat} {st2 : List Int} {L' : List Ed}
    (hq : World.cell? (W.setCell ⟨q, k, none⟩ x) ⟨q, 0, none⟩ = some (.int .i64 p) ∧ World.cell? (W.setCell ⟨q, k, none⟩ x) ⟨q, 1, none⟩ = some (.int .i64 S') ∧ World.cell? (W.setCell ⟨q, k, none⟩ x) ⟨q, 2, none⟩ = some vS' ∧ World.cell? (W.setCell ⟨q, k, none⟩ x) ⟨q, 3, none⟩ = some (.int .i64 Kd) ∧ World.cell? (W.setCell ⟨q, k, none⟩ x) ⟨q, 4, none⟩ = some (.int .i64 M') ∧ World.cell? (W.setCell ⟨q, k, none⟩ x) ⟨q, 5, none⟩ = some vE')
    (oS : W.ownsRow B 3 1 vS' n2 (st2.map (Value.int .i64))) (oE : W.ownsRow B 37 5 vE' L'.length (edsV L')) (nS : vS'.ownBlock ≠ some q) (nE : vE'.ownBlock ≠ some q) (ap : Apt vS' vE') :
    SkS g r q B p S' Kd M' i1 i2 i3 vS' vE' n2 st2 L' (W.setCell ⟨q, k, none⟩ x) := by
  obtain ⟨hg, hr, hBq, hq0⟩ := h.bs
  have cg := fun i => set_far (W := W) (a := q) (b := g) (by omega) k i x
  have cz := fun i => set_far (W := W) (a := q) (b := g + 1) (by omega) k i x
  have cr := fun i => set_far (W := W) (a := q) (b := r) (by omega) k i x
  obtain ⟨z0, z1, z2, z3, z4, z5⟩ := h.zs
  obtain ⟨r0, r1, r2⟩ := h.rc
  exact ⟨⟨hg, hr, hBq, by simpa using hq0⟩, (cg 0).trans h.pc, ⟨(cz 0).trans z0, (cz 1).trans z1, (cz 2).trans z2, (cz 3).trans z3, (cz 4).trans z4, (cz 5).trans z5⟩,
    fun i => by rw [World.frozen?_setCell]; exact h.zf i, ⟨(cr 0).trans r0, (cr 1).trans r1, (cr 2).trans r2⟩, hq,
    fun i => by rw [World.frozen?_setCell]; exact h.qf i, ownsRow_setCell_other oS (a := ⟨q, k, none⟩) nS x, ownsRow_setCell_other oE (a := ⟨q, k, none⟩) nE x, nS, nE, ap⟩
theorem SkS.putS {g r q B p : Nat} {S Kd M i1 i2 i3 : Int} {vS vE : Value} {n1 : Nat} {st1 : List Int} {L : List Ed} {W : World} (h : SkS g r q B p S Kd M i1 i2 i3 vS vE n1 st1 L W) (x : Int) : SkS g r q B p x Kd M i1 i2 i3 vS vE n1 st1 L (W.setCell ⟨q, 1, none⟩ (.int .i64 x)) := by
  obtain ⟨q0, q1, q2, q3, q4, q5⟩ := h.qc
  exact h.put 1 _ ⟨(set_oth (by decide) _).trans q0, World.cell?_setCell_same _ _ _ q1, (set_oth (by decide) _).trans q2, (set_oth (by decide) _).trans q3, (set_oth (by decide) _).trans q4, (set_oth (by decide) _).trans q5⟩ h.oS h.oE h.nS h.nE h.ap
theorem SkS.putM {g r q B p : Nat} {S Kd M i1 i2 i3 : Int} {vS vE : Value} {n1 : Nat} {st1 : List Int} {L : List Ed} {W : World} (h : SkS g r q B p S Kd M i1 i2 i3 vS vE n1 st1 L W) (x : Int) : SkS g r q B p S Kd x i1 i2 i3 vS vE n1 st1 L (W.setCell ⟨q, 4, none⟩ (.int .i64 x)) := by
  obtain ⟨q0, q1, q2, q3, q4, q5⟩ := h.qc
  exact h.put 4 _ ⟨(set_oth (by decide) _).trans q0, (set_oth (by decide) _).trans q1, (set_oth (by decide) _).trans q2, (set_oth (by decide) _).trans q3, World.cell?_setCell_same _ _ _ q4, (set_oth (by decide) _).trans q5⟩ h.oS h.oE h.nS h.nE h.ap
theorem SkS.putStart {g r q B p : Nat} {S Kd M i1 i2 i3 : Int} {vS vE : Value} {n1 : Nat} {st1 : List Int} {L : List Ed} {W : World} (h : SkS g r q B p S Kd M i1 i2 i3 vS vE n1 st1 L W) {v : Value} {n2 : Nat} {st2 : List Int} (oS : W.ownsRow B 3 1 v n2 (st2.map (Value.int .i64))) (nS : v.ownBlock ≠ some q) (ap : Apt v vE) : SkS g r q B p S Kd M i1 i2 i3 v vE n2 st2 L (W.setCell ⟨q, 2, none⟩ v) := by
  obtain ⟨q0, q1, q2, q3, q4, q5⟩ := h.qc
  exact h.put 2 _ ⟨(set_oth (by decide) _).trans q0, (set_oth (by decide) _).trans q1, World.cell?_setCell_same _ _ _ q2, (set_oth (by decide) _).trans q3, (set_oth (by decide) _).trans q4, (set_oth (by decide) _).trans q5⟩ oS h.oE nS h.nE ap
/-- An edge is written into the row. -/
theorem SkS.mark {g r q B p e : Nat} {S Kd M i1 i2 i3 : Int} {vS : Value} {n1 cap n : Nat} {st1 : List Int} {L : List Ed} {W : World} (h : SkS g r q B p S Kd M i1 i2 i3 vS (.slice (some ⟨e, 0, none⟩) n cap) n1 st1 L W) (hn : n = L.length) {t : Nat} (ht : t < L.length) (m : Int) :
    SkS g r q B p S Kd M i1 i2 i3 vS (.slice (some ⟨e, 0, none⟩) n cap) n1 st1 (L.set t ⟨(L.getD t ed0).f, (L.getD t ed0).t, (L.getD t ed0).c, (L.getD t ed0).b, m⟩) (W.setCell ⟨e, t * 5 + 4, none⟩ (.int .i64 m)) := by
  subst hn
  obtain ⟨hg, hr, hBq, hq0⟩ := h.bs
  have hoe := h.oE
  have he : Value.ownBlock (.slice (some ⟨e, 0, none⟩) L.length cap) = some e := by simp [Value.ownBlock]
  have hlt := hoe.lt e he
  have hne : e ≠ q := fun h2 => h.nE (by rw [he, h2])
  have cg := fun i x => set_far (W := W) (a := e) (b := g) (by omega) (t * 5 + 4) i x
  have cz := fun i x => set_far (W := W) (a := e) (b := g + 1) (by omega) (t * 5 + 4) i x
  have cr := fun i x => set_far (W := W) (a := e) (b := r) (by omega) (t * 5 + 4) i x
  have cq := fun i x => set_far (W := W) (a := e) (b := q) hne (t * 5 + 4) i x
  obtain ⟨z0, z1, z2, z3, z4, z5⟩ := h.zs
  obtain ⟨r0, r1, r2⟩ := h.rc
  obtain ⟨q0, q1, q2, q3, q4, q5⟩ := h.qc
  have hst := (hoe.stored (t * 5 + 4) (.int .i64 m)).1
  rw [edsV_setm m L t ht] at hst
  exact ⟨⟨hg, hr, hBq, by simpa using hq0⟩, (cg 0 _).trans h.pc, ⟨(cz 0 _).trans z0, (cz 1 _).trans z1, (cz 2 _).trans z2, (cz 3 _).trans z3, (cz 4 _).trans z4, (cz 5 _).trans z5⟩,
    fun i => by rw [World.frozen?_setCell]; exact h.zf i, ⟨(cr 0 _).trans r0, (cr 1 _).trans r1, (cr 2 _).trans r2⟩, ⟨(cq 0 _).trans q0, (cq 1 _).trans q1, (cq 2 _).trans q2, (cq 3 _).trans q3, (cq 4 _).trans q4, (cq 5 _).trans q5⟩,
    fun i => by rw [World.frozen?_setCell]; exact h.qf i, ownsRow_setCell_other h.oS (a := ⟨e, t * 5 + 4, none⟩) (by
      rcases h.ap with h2 | h2
      · rw [h2]; simp
      · rw [he] at h2; exact h2) _, by rw [List.length_set]; exact hst, h.nS, h.nE, h.ap⟩
/-- The row of edges grows by one; the box holds it then. -/
theorem SkS.grow {g r q B p : Nat} {S Kd M i1 i2 i3 : Int} {vS vE : Value} {n1 : Nat} {st1 : List Int} {L : List Ed} {W : World} {v' : Value} {W2 : World} {x : Ed} (h : SkS g r q B p S Kd M i1 i2 i3 vS vE n1 st1 L W) (ho : W2.ownsRow B 37 5 v' (L.length + 1) (edsV L ++ edV x)) (hg2 : W.grownBy W2 vE.ownBlock) (hat : v'.ownBlock = vE.ownBlock ∨ v'.ownBlock = some W.heap.size) :
    SkS g r q B p S Kd M i1 i2 i3 vS v' n1 st1 (L ++ [x]) (W2.setCell ⟨q, 5, none⟩ v') ∧ Below B W W2 := by
  obtain ⟨hg, hr, hBq, hq0⟩ := h.bs
  have hb : Below B W W2 := below_own h.oE hg2 (by omega)
  have hap := apt_grow h.oS h.ap hg2 hat
  have hne : v'.ownBlock ≠ some q := by
    rcases hat with h2 | h2
    · rw [h2]; exact h.nE
    · rw [h2]; intro h3; injection h3 with h3; omega
  have cg := fun i => hb.cell (p := ⟨g, i, none⟩) (show g < B by omega)
  have cz := fun i => hb.cell (p := ⟨g + 1, i, none⟩) (show g + 1 < B by omega)
  have cr := fun i => hb.cell (p := ⟨r, i, none⟩) (show r < B by omega)
  have cq := fun i => hg2.cell_far ⟨q, i, none⟩ hq0 (fun h2 => h.nE h2.symm)
  have fq := fun i => hg2.frozen_far ⟨q, i, none⟩ hq0 (fun h2 => h.nE h2.symm)
  obtain ⟨z0, z1, z2, z3, z4, z5⟩ := h.zs
  obtain ⟨r0, r1, r2⟩ := h.rc
  obtain ⟨q0, q1, q2, q3, q4, q5⟩ := h.qc
  have hl : (L ++ [x]).length = L.length + 1 := by simp
  have ho2 : W2.ownsRow B 37 5 v' (L ++ [x]).length (edsV (L ++ [x])) := by rw [hl, edsV_snoc]; exact ho
  have dg := fun i => set_far (W := W2) (a := q) (b := g) (by omega) 5 i v'
  have dz := fun i => set_far (W := W2) (a := q) (b := g + 1) (by omega) 5 i v'
  have dr := fun i => set_far (W := W2) (a := q) (b := r) (by omega) 5 i v'
  refine ⟨⟨⟨hg, hr, hBq, by have := hg2.size; simp; omega⟩, (dg 0).trans ((cg 0).trans h.pc), ⟨(dz 0).trans ((cz 0).trans z0), (dz 1).trans ((cz 1).trans z1), (dz 2).trans ((cz 2).trans z2), (dz 3).trans ((cz 3).trans z3), (dz 4).trans ((cz 4).trans z4), (dz 5).trans ((cz 5).trans z5)⟩,
    fun i => by rw [World.frozen?_setCell]; exact (hb.frozen (p := ⟨g + 1, i, none⟩) (show g + 1 < B by omega)).trans (h.zf i), ⟨(dr 0).trans ((cr 0).trans r0), (dr 1).trans ((cr 1).trans r1), (dr 2).trans ((cr 2).trans r2)⟩,
    ⟨(set_oth (by decide) _).trans ((cq 0).trans q0), (set_oth (by decide) _).trans ((cq 1).trans q1), (set_oth (by decide) _).trans ((cq 2).trans q2), (set_oth (by decide) _).trans ((cq 3).trans q3), (set_oth (by decide) _).trans ((cq 4).trans q4), World.cell?_setCell_same _ _ _ ((cq 5).trans q5)⟩,
    fun i => by rw [World.frozen?_setCell]; exact (fq i).trans (h.qf i), ownsRow_setCell_other hap.1 (a := ⟨q, 5, none⟩) h.nS _, ownsRow_setCell_other ho2 (a := ⟨q, 5, none⟩) hne _, h.nS, hne, hap.2⟩, hb⟩

end Go.Proofs.Ytalgbcndifaaiaa.Wd
