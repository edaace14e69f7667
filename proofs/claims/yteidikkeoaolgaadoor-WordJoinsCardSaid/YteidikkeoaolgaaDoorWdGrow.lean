/-
  Small words for the walk of the reference's Split where the word is valid: boxes that are written, rows that grow, slices below a block.
-/
import Derived.Test.YteidikkeoaolgaaDoorWdRefSplit
import Derived.OneCell
import Derived.Deep.AppendLies
namespace Go.Proofs.YteidikkeoaolgaaDoor.Wd
open Go.RowKit
set_option linter.unusedVariables false

theorem Two.setCell {B n : Nat} {w : World} {v v' : Value} {S S' : List Int} (h : Two B w v v' n S S') {a : Addr} (ha : a.block < B) (x : Value) : Two B (w.setCell a x) v v' n S S' :=
  ⟨by simpa using h.base, ownsRow_setCell_below h.own ha x, ownsRow_setCell_below h.own' ha x, h.apart⟩

/-- Ints in blocks below B. -/
def IntsIn (B : Nat) (w : World) (A : Option Addr) (n : Nat) (xs : List Int) : Prop :=
  xs.length = n ∧ (0 < n → ∃ b off, A = some ⟨b, off, none⟩ ∧ b < B ∧ ∀ j, j < n → w.cell? ⟨b, off + j, none⟩ = some (.int .i64 (xs.getD j 0)))
section
variable {B n : Nat} {w w' : World} {A : Option Addr} {xs : List Int}
theorem IntsIn.of (h : Ints w A n xs) (hB : w.heap.size ≤ B) : IntsIn B w A n xs := ⟨h.1, fun hn => by
  obtain ⟨b, off, e, hb, hc⟩ := h.2 hn
  exact ⟨b, off, e, by omega, hc⟩⟩
theorem IntsIn.ints (h : IntsIn B w A n xs) (hB : B ≤ w.heap.size) : Ints w A n xs := ⟨h.1, fun hn => by
  obtain ⟨b, off, e, hb, hc⟩ := h.2 hn
  exact ⟨b, off, e, by omega, hc⟩⟩
theorem IntsIn.below (h : IntsIn B w A n xs) (hb : Below B w w') : IntsIn B w' A n xs := ⟨h.1, fun hn => by
  obtain ⟨b, off, e, hlt, hc⟩ := h.2 hn
  exact ⟨b, off, e, hlt, fun j hj => (hb.cell (p := ⟨b, off + j, none⟩) hlt).trans (hc j hj)⟩⟩
theorem IntsIn.set (h : IntsIn B w A n xs) {p : Addr} {v : Value} (hv : w.cell? p = some v) (hne : ∀ z, v ≠ .int .i64 z) (u : Value) : IntsIn B (w.setCell p u) A n xs :=
  ⟨h.1, fun hn => by
    obtain ⟨b, off, e, hb, hc⟩ := h.2 hn
    refine ⟨b, off, e, hb, fun j hj => (World.cell?_setCell_other w p _ u ?_).trans (hc j hj)⟩
    rintro rfl
    have := hv.symm.trans (hc j hj)
    injection this with this
    exact hne _ this⟩
end

/-- Both boxes are written at their first cell, or at their second. -/
theorem Boxes.set0 {b : Nat} {w : World} {x0 x1 y0 y1 : Value} (h : Boxes b w x0 x1 y0 y1) (u v : Value) : Boxes b ((w.setCell ⟨b, 0, none⟩ u).setCell ⟨b + 1, 0, none⟩ v) u x1 v y1 where
  size := by simpa using h.size
  c0 := (World.cell?_setCell_other _ _ _ v (by simp)).trans (World.cell?_setCell_same w _ u h.c0)
  c1 := (World.cell?_setCell_other _ _ _ v (by simp)).trans ((World.cell?_setCell_other w _ _ u (by simp)).trans h.c1)
  d0 := World.cell?_setCell_same _ _ v ((World.cell?_setCell_other w _ _ u (by simp)).trans h.d0)
  d1 := (World.cell?_setCell_other _ _ _ v (by simp)).trans ((World.cell?_setCell_other w _ _ u (by simp)).trans h.d1)
  f0 := by rw [World.frozen?_setCell, World.frozen?_setCell]; exact h.f0
  f1 := by rw [World.frozen?_setCell, World.frozen?_setCell]; exact h.f1
  g0 := by rw [World.frozen?_setCell, World.frozen?_setCell]; exact h.g0
  g1 := by rw [World.frozen?_setCell, World.frozen?_setCell]; exact h.g1
theorem Boxes.set1 {b : Nat} {w : World} {x0 x1 y0 y1 : Value} (h : Boxes b w x0 x1 y0 y1) (u v : Value) : Boxes b ((w.setCell ⟨b, 1, none⟩ u).setCell ⟨b + 1, 1, none⟩ v) x0 u y0 v where
  size := by simpa using h.size
  c0 := (World.cell?_setCell_other _ _ _ v (by simp)).trans ((World.cell?_setCell_other w _ _ u (by simp)).trans h.c0)
  c1 := (World.cell?_setCell_other _ _ _ v (by simp)).trans (World.cell?_setCell_same w _ u h.c1)
  d0 := (World.cell?_setCell_other _ _ _ v (by simp)).trans ((World.cell?_setCell_other w _ _ u (by simp)).trans h.d0)
  d1 := World.cell?_setCell_same _ _ v ((World.cell?_setCell_other w _ _ u (by simp)).trans h.d1)
  f0 := by rw [World.frozen?_setCell, World.frozen?_setCell]; exact h.f0
  f1 := by rw [World.frozen?_setCell, World.frozen?_setCell]; exact h.f1
  g0 := by rw [World.frozen?_setCell, World.frozen?_setCell]; exact h.g0
  g1 := by rw [World.frozen?_setCell, World.frozen?_setCell]; exact h.g1

theorem ints_box (w : World) (g : Nat) (hg : w.heap.size = g) (x : Int) (t : TypeId) : Ints (w.alloc (.cells #[.int .i64 x] t)) (some ⟨g, 0, none⟩) 1 [x] := by
  subst hg
  exact ints_new w [x] t

/-- The values of the two boxes are no ints. -/
theorem slice_ne (A : Option Addr) (n c : Nat) : ∀ z : Int, Value.slice A n c ≠ .int .i64 z := by simp

theorem low_snoc {s : List Int} {k t : Nat} {x P : Int} (ht : t < s.length) (hx : s.getD t 0 = x) (h0 : 0 ≤ x) (hP : P = (2 : Int) ^ k) : lowL (s.take t) k ++ [x.tmod P] = lowL (s.take (t + 1)) k := by
  rw [List.take_succ_eq_append_getElem ht]
  simp only [lowL, List.map_append, List.map_cons, List.map_nil]
  rw [Int.tmod_eq_emod_of_nonneg h0, hP, ← hx]
  simp [List.getD_eq_getElem?_getD, List.getElem?_eq_getElem ht]
theorem high_snoc {s : List Int} {k t : Nat} {x : Int} (ht : t < s.length) (hx : s.getD t 0 = x) : highL (s.take t) k ++ [x / (2 : Int) ^ k] = highL (s.take (t + 1)) k := by
  rw [List.take_succ_eq_append_getElem ht]
  simp only [highL, List.map_append, List.map_cons, List.map_nil]
  rw [← hx]
  simp [List.getD_eq_getElem?_getD, List.getElem?_eq_getElem ht]

theorem at_map {s l : List Int} (f : Int → Int) (hl : 0 < l.length) : at_ (s.map f) (l.map f) = fun j => f (at_ s l j) := by
  funext j
  by_cases h : j < s.length
  · rw [at_lt (by simpa using h), at_lt h]
    simp [List.getD_eq_getElem?_getD, h]
  · have hr : (j - s.length) % l.length < l.length := Nat.mod_lt _ hl
    rw [at_ge (by simpa using h), at_ge (by omega)]
    simp [List.getD_eq_getElem?_getD, hr]
theorem at_low {s l : List Int} {k : Nat} (hl : 0 < l.length) : at_ (lowL s k) (lowL l k) = lowF s l k := at_map _ hl
theorem at_high {s l : List Int} {k : Nat} (hl : 0 < l.length) : at_ (highL s k) (highL l k) = highF s l k := at_map _ hl

/-- A letter of the loop. -/
theorem loop_at {s l : List Int} {t : Nat} (ht : t < l.length) : at_ s l (s.length + t) = l.getD t 0 := by
  rw [at_ge (by omega), Nat.add_sub_cancel_left, Nat.mod_eq_of_lt ht]

/-- One round of both rows, in the order: a fresh cell, the first append, a fresh cell, the second append. -/
theorem Two.roundA {B t : Nat} {w w2 w4 : World} {v v' u u' : Value} {S S' : List Int} {x y : Int} (h : Two B w v v' t S S') (o : Obj) (o' : Obj)
    (h1 : w2.ownsRow B 3 1 u (t + 1) (S.map (Value.int .i64) ++ [x].map (Value.int .i64))) (g1 : (w.drew.alloc o).grownBy w2 v.ownBlock) (e1 : u.ownBlock = v.ownBlock ∨ u.ownBlock = some (w.drew.alloc o).heap.size)
    (h3 : w4.ownsRow B 3 1 u' (t + 1) (S'.map (Value.int .i64) ++ [y].map (Value.int .i64))) (g3 : (w2.alloc o').grownBy w4 v'.ownBlock) (e3 : u'.ownBlock = v'.ownBlock ∨ u'.ownBlock = some (w2.alloc o').heap.size) :
    Two B w4 u u' (t + 1) (S ++ [x]) (S' ++ [y]) ∧ Below B w w4 :=
  h.grow ((Below.refl w.heap.size w).drew.alloc (Nat.le_refl _) o) h1 g1 e1 ((Below.refl _ _).alloc (Nat.le_refl _) o') h3 g3 e3
/-- .. in the orders that make both cells first. -/
theorem Two.roundB {B t : Nat} {w w2 w4 : World} {v v' u u' : Value} {S S' : List Int} {x y : Int} (h : Two B w v v' t S S') (o : Obj) (o' : Obj)
    (h1 : w2.ownsRow B 3 1 u (t + 1) (S.map (Value.int .i64) ++ [x].map (Value.int .i64))) (g1 : ((w.drew.alloc o).alloc o').grownBy w2 v.ownBlock) (e1 : u.ownBlock = v.ownBlock ∨ u.ownBlock = some ((w.drew.alloc o).alloc o').heap.size)
    (h3 : w4.ownsRow B 3 1 u' (t + 1) (S'.map (Value.int .i64) ++ [y].map (Value.int .i64))) (g3 : w2.grownBy w4 v'.ownBlock) (e3 : u'.ownBlock = v'.ownBlock ∨ u'.ownBlock = some w2.heap.size) :
    Two B w4 u u' (t + 1) (S ++ [x]) (S' ++ [y]) ∧ Below B w w4 :=
  h.grow (((Below.refl w.heap.size w).drew.alloc (Nat.le_refl _) o).alloc (by simp) o') h1 g1 e1 (Below.refl _ _) h3 g3 e3

theorem box_grown {w w' : World} {row : Option Nat} (hg : w.grownBy w' row) {g : Nat} (hlt : g < w.heap.size) (hne : some g ≠ row) {x : Int} (h : Ints w (some ⟨g, 0, none⟩) 1 [x]) : Ints w' (some ⟨g, 0, none⟩) 1 [x] :=
  ⟨rfl, fun h1 => by
    obtain ⟨b, off, e, _, hc⟩ := h.2 h1
    injection e with e
    injection e with e1 e2 e3
    subst e1 e2
    exact ⟨g, 0, rfl, Nat.lt_of_lt_of_le hlt hg.size, fun j hj => (hg.cell_far ⟨g, 0 + j, none⟩ hlt hne).trans (hc j hj)⟩⟩
theorem own_ne {w : World} {B e n g : Nat} {v : Value} {xs : List Value} (h : w.ownsRow B e 1 v n xs) (hg : w.heap.size ≤ g) : some g ≠ v.ownBlock := fun he => by
  have := (own_old h he.symm).2
  omega

theorem Two.caps {B n c1 c2 : Nat} {A1 A2 : Option Addr} {w : World} {S S' : List Int} (h : Two B w (.slice A1 n c1) (.slice A2 n c2) n S S') : n ≤ c1 ∧ n ≤ c2 := by
  obtain ⟨_, _, h1, h1'⟩ := own_slice h.own
  obtain ⟨_, _, h2, h2'⟩ := own_slice h.own'
  cases h1
  cases h2
  exact ⟨h1', h2'⟩

theorem IntsIn.set2 {B n b n3 c3 n4 c4 : Nat} {A A3 A4 : Option Addr} {w : World} {xs : List Int} {x0 y0 : Value} (h : IntsIn B w A n xs) (hX : Boxes b w x0 (.slice A3 n3 c3) y0 (.slice A4 n4 c4)) (u v : Value) :
    IntsIn B ((w.setCell ⟨b, 1, none⟩ u).setCell ⟨b + 1, 1, none⟩ v) A n xs :=
  (h.set hX.c1 (slice_ne _ _ _) u).set ((World.cell?_setCell_other w _ _ u (by simp)).trans hX.d1) (slice_ne _ _ _) v

end Go.Proofs.YteidikkeoaolgaaDoor.Wd
