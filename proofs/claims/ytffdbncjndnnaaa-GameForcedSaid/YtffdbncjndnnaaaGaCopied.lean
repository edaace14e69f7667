/-
  copied of package game: a game with lists of its own.
-/
import Derived.Test.YtffdbncjndnnaaaGaValid
import Derived.Test.YtffdbncjndnnaaaWdAppend
import Derived.Laws.CopyOwn
import Derived.Deep.OwnRows
import Derived.RegionTactic
import Derived.Deep.DeepCutAuto
namespace Go.Proofs.Ytffdbncjndnnaaa.Wd
open Go.RowKit
set_option linter.unusedVariables false
set_option linter.unusedSimpArgs false

theorem g_ints_info : (Try.prog.info? 3).map (fun i => (i.zero, i.size, i.bytes)) = some (some (.int .i64 0), 1, 8) := by kernel_rfl
theorem g_rows_info : (Try.prog.info? 22).map (fun i => (i.zero, i.size, i.bytes)) = some (some (.slice none 0 0), 1, 24) := by kernel_rfl

theorem al_at (w : World) (o : Obj) (k : Nat) : (w.alloc o).heap[k]? = if k = w.heap.size then some o else w.heap[k]? := by
  show (w.heap.push o)[k]? = _
  rw [Array.getElem?_push]
theorem set_far (w : World) (a : Addr) (v : Value) {k : Nat} (h : k ≠ a.block) : (w.setCell a v).heap[k]? = w.heap[k]? := by simp [World.setCell, Array.getElem?_modify, Ne.symm h]
theorem drew_at (w : World) (k : Nat) : w.drew.heap[k]? = w.heap[k]? := rfl

theorem cell_of_heap {w : World} {b : Nat} {c : Array Value} {t : TypeId} (h : w.heap[b]? = some (.cells c t (0, 0))) (i : Nat) : w.cell? ⟨b, i, none⟩ = c[i]? := by simp [World.cell?, h]
theorem frozen_of_heap {w : World} {b : Nat} {c : Array Value} {t : TypeId} (h : w.heap[b]? = some (.cells c t (0, 0))) (i : Nat) : w.frozen? ⟨b, i, none⟩ = false := by simp [World.frozen?, h]
theorem lt_of_heap {w : World} {b : Nat} {o : Obj} (h : w.heap[b]? = some o) : b < w.heap.size := (Array.getElem?_eq_some_iff.1 h).1
theorem Ints.of_heap {w : World} {b : Nat} {t : TypeId} {xs : List Int} (h : w.heap[b]? = some (.cells (xs.map (Value.int .i64)).toArray t (0, 0))) : Ints w (some ⟨b, 0, none⟩) xs.length xs :=
  ⟨rfl, fun hn => ⟨b, 0, rfl, lt_of_heap h, fun j hj => by
    rw [cell_of_heap h, Nat.zero_add]
    simp [List.getD_eq_getElem?_getD, hj]⟩⟩
theorem row_of_heap {w : World} {b : Nat} {t : TypeId} {xs : List Int} (h : w.heap[b]? = some (.cells (xs.map (Value.int .i64)).toArray t (0, 0))) : w.rowIs b t xs.length (fun i => .int .i64 (xs.getD i 0)) :=
  ⟨_, h, by simp, fun i hi => by simp [List.getD_eq_getElem?_getD, hi]⟩
theorem Ints.of_row {w : World} {b n : Nat} {t : TypeId} {xs : List Int} (h : w.rowIs b t n (fun i => .int .i64 (xs.getD i 0))) (hn : xs.length = n) : Ints w (some ⟨b, 0, none⟩) n xs :=
  ⟨hn, fun h0 => ⟨b, 0, rfl, h.lt, fun j hj => by rw [Nat.zero_add]; exact h.cell hj⟩⟩

section
variable {P : Program}
/-- copy over a whole row of one's own, from a slice of ints, nil or not. -/
theorem wpList_copy_whole {w : World} {ops : Array Oper} {rest : List Oper} {o : Oper} {a : Act} {Q : Exit → Act → World → Prop} (hgd : o.guard = none) (d s : Operand) (dT sT : TypeId)
    (ho : o.op = .call { callee := .builtin .copy, args := #[d, s], argTypes := #[dT, sT] }) (elem : TypeId) (hu : P.underlying dT = some (.slice elem)) (hsz : (P.info? elem).map (·.size) = some 1)
    (g n dCap : Nat) (sp : Option Addr) (sCap : Nat) (hd : a.eval d = .slice (some ⟨g, 0, none⟩) n dCap) (hs : a.eval s = .slice sp n sCap)
    (cur : Array Value) (t : TypeId) (hg : w.heap[g]? = some (.cells cur t (0, 0))) (hcur : cur.size = n) (xs : List Int) (hx : Ints w sp n xs)
    (h : ∀ w', w'.heap[g]? = some (.cells (xs.map (Value.int .i64)).toArray t (0, 0)) → (∀ k, k ≠ g → w'.heap[k]? = w.heap[k]?) → w'.heap.size = w.heap.size → Below g w w' → wpList P ops Q rest (a.put o.dst (goInt n)) w') :
    wpList P ops Q (o :: rest) a w := by
  have hl := hx.1
  by_cases h0 : n = 0
  · subst h0
    have hxs : xs = [] := List.eq_nil_of_length_eq_zero hl
    subst hxs
    have hc : cur = #[] := by simpa using hcur
    subst hc
    exact wpList_copy_nothing hgd d s dT sT ho elem hu hsz _ sp 0 dCap 0 sCap hd hs (by simp) (h w (by simpa using hg) (fun _ _ => rfl) rfl (Below.refl _ _))
  · obtain ⟨b, off, rfl, hb, hc⟩ := hx.2 (by omega)
    refine wpList_copy_own hgd d s dT sT ho elem hu hsz g 0 n dCap ⟨b, off, none⟩ n sCap hd hs cur t hg (xs.map (Value.int .i64)) (by simp [hl]) (Ints.news hl hc) (by simp [hl, hcur]) (ones xs) ?_
    have e : (cur.toList.take 0 ++ (xs.map (Value.int .i64) ++ cur.toList.drop (0 + (xs.map (Value.int .i64)).length))) = xs.map (Value.int .i64) := by
      rw [List.drop_eq_nil_of_le (by simp [hl, hcur])]
      simp
    rw [e]
    have e2 : (xs.map (Value.int .i64)).length = n := by simp [hl]
    rw [e2]
    exact h _ (setRow_heap w g _ _ t _ hg) (fun k hk => setRow_other w g k _ hk) (by simp [World.setRow]) (below_setRow (Below.refl _ _) (Nat.le_refl _) _)
end

theorem cells3g {w : World} {b : Nat} {v0 v1 v2 : Value} (h0 : w.cell? ⟨b, 0, none⟩ = some v0) (h1 : w.cell? ⟨b, 1, none⟩ = some v1) (h2 : w.cell? ⟨b, 2, none⟩ = some v2) (u0 u1 u2 : Value) :
    (((w.setCell ⟨b, 0, none⟩ u0).setCell ⟨b, 1, none⟩ u1).setCell ⟨b, 2, none⟩ u2).cell? ⟨b, 0, none⟩ = some u0 ∧ (((w.setCell ⟨b, 0, none⟩ u0).setCell ⟨b, 1, none⟩ u1).setCell ⟨b, 2, none⟩ u2).cell? ⟨b, 1, none⟩ = some u1 ∧ (((w.setCell ⟨b, 0, none⟩ u0).setCell ⟨b, 1, none⟩ u1).setCell ⟨b, 2, none⟩ u2).cell? ⟨b, 2, none⟩ = some u2 := by
  have oth : ∀ (V : World) (o : Nat) (x : Value) (j : Nat), o ≠ j → (V.setCell ⟨b, o, none⟩ x).cell? ⟨b, j, none⟩ = V.cell? ⟨b, j, none⟩ := fun V o x j hh => World.cell?_setCell_other _ _ _ _ (by intro h2; injection h2 with _ h3; exact hh h3)
  refine ⟨?_, ?_, ?_⟩
  · rw [oth _ 2 u2 0 (by decide), oth _ 1 u1 0 (by decide)]; exact World.cell?_setCell_same _ _ _ (by exact h0)
  · rw [oth _ 2 u2 1 (by decide)]; exact World.cell?_setCell_same _ _ _ (by rw [oth _ 0 u0 1 (by decide)]; exact h1)
  · exact World.cell?_setCell_same _ _ _ (by rw [oth _ 1 u1 2 (by decide), oth _ 0 u0 2 (by decide)]; exact h2)

/-- The box of a game and the cell of a result. -/
def two (w : World) (g : Array Value) : World := (w.alloc (.cells g 25)).alloc (.cells #[.slice none 0 0, .slice none 0 0, .slice none 0 0] 25)
theorem two_size (w : World) (g : Array Value) : (two w g).heap.size = w.heap.size + 2 := by simp [two]
theorem two_below (w : World) (g : Array Value) : Below w.heap.size w (two w g) := ((Below.refl _ _).alloc (Nat.le_refl _) _).alloc (by simp) _
theorem two_first (w : World) (g : Array Value) (i : Nat) : (two w g).cell? ⟨w.heap.size, i, none⟩ = g[i]? := box_first _ _ _ _ _
theorem two_last (w : World) (g : Array Value) (i : Nat) : (two w g).cell? ⟨w.heap.size + 1, i, none⟩ = #[Value.slice none 0 0, .slice none 0 0, .slice none 0 0][i]? := by
  have h := box_last (w.alloc (.cells g 25)) #[Value.slice none 0 0, .slice none 0 0, .slice none 0 0] 25 i
  rw [World.size_alloc] at h
  exact h
theorem two_free (w : World) (g : Array Value) (i : Nat) : (two w g).frozen? ⟨w.heap.size + 1, i, none⟩ = false := by
  have h := box_last_free (w.alloc (.cells g 25)) #[Value.slice none 0 0, .slice none 0 0, .slice none 0 0] 25 i
  rw [World.size_alloc] at h
  exact h
theorem two_later {w W : World} {g : Array Value} (h : Below (w.heap.size + 2) (two w g) W) : Below (two w g).heap.size (two w g) W := by rw [two_size]; exact h
/-- Behind the makes of copied: the box of the new game, its three lists. -/
structure Made (s n : Nat) (W2 w : World) (b0 b1 b2 b3 : Nat) : Prop where
  size : w.heap.size = s + 6
  below : Below (s + 2) W2 w
  h0 : w.heap[b0]? = some (.cells #[.slice (some ⟨b1, 0, none⟩) n n, .slice (some ⟨b2, 0, none⟩) n n, .slice (some ⟨b3, 0, none⟩) n n] 25 (0, 0))
  h1 : w.heap[b1]? = some (.cells (madeCells #[.int .i64 0] n) 3 (0, 0))
  h2 : w.heap[b2]? = some (.cells (madeCells #[.int .i64 0] n) 3 (0, 0))
  h3 : w.heap[b3]? = some (.cells (madeCells #[.slice none 0 0] n) 22 (0, 0))
  ne : b0 ≠ b1 ∧ b0 ≠ b2 ∧ b0 ≠ b3 ∧ b1 ≠ b2 ∧ b1 ≠ b3 ∧ b2 ≠ b3
  ge : s + 2 ≤ b0 ∧ s + 2 ≤ b1 ∧ s + 2 ≤ b2 ∧ s + 2 ≤ b3
  lt : b0 < s + 6 ∧ b1 < s + 6 ∧ b2 < s + 6 ∧ b3 < s + 6

/-- Row j of the copy of X: the rows before are there. -/
def rowV (s : Nat) (X : List (List Int)) (j i : Nat) : Value := if i < j then .slice (some ⟨s + 6 + i, 0, none⟩) (X.getD i []).length (X.getD i []).length else .slice none 0 0

/-- While copied runs: the box of the new game, its lists, the rows that are there. -/
structure Cps (s n j z : Nat) (X : List (List Int)) (W2 w : World) (b0 b1 b2 b3 : Nat) (c1 c2 : Array Value) (V : Nat → Value) : Prop where
  size : w.heap.size = z
  big : s + 6 + j ≤ z
  below : Below (s + 2) W2 w
  h0 : w.heap[b0]? = some (.cells #[.slice (some ⟨b1, 0, none⟩) n n, .slice (some ⟨b2, 0, none⟩) n n, .slice (some ⟨b3, 0, none⟩) n n] 25 (0, 0))
  h1 : w.heap[b1]? = some (.cells c1 3 (0, 0))
  h2 : w.heap[b2]? = some (.cells c2 3 (0, 0))
  h3 : w.rowIs b3 22 n V
  rows : ∀ i, i < j → w.heap[s + 6 + i]? = some (.cells ((X.getD i []).map (Value.int .i64)).toArray 3 (0, 0))
  ne : b0 ≠ b1 ∧ b0 ≠ b2 ∧ b0 ≠ b3 ∧ b1 ≠ b2 ∧ b1 ≠ b3 ∧ b2 ≠ b3
  ge : s + 2 ≤ b0 ∧ s + 2 ≤ b1 ∧ s + 2 ≤ b2 ∧ s + 2 ≤ b3
  lt : b0 < s + 6 ∧ b1 < s + 6 ∧ b2 < s + 6 ∧ b3 < s + 6

section
variable {s n j z : Nat} {X : List (List Int)} {W2 w w' : World} {b0 b1 b2 b3 : Nat} {c1 c2 : Array Value} {V : Nat → Value}
theorem Made.cps (h : Made s n W2 w b0 b1 b2 b3) : Cps s n 0 (s + 6) X W2 w b0 b1 b2 b3 (madeCells #[.int .i64 0] n) (madeCells #[.int .i64 0] n) (fun _ => .slice none 0 0) :=
  ⟨h.size, Nat.le_refl _, h.below, h.h0, h.h1, h.h2, ⟨_, h.h3, size_madeCells _ _, fun i hi => by simp [madeCells, hi, Nat.mod_one]⟩, fun i hi => absurd hi (by omega), h.ne, h.ge, h.lt⟩
theorem Cps.congr (h : Cps s n j z X W2 w b0 b1 b2 b3 c1 c2 V) {V' : Nat → Value} {z' : Nat} (hz : z = z') (e : ∀ i, i < n → V i = V' i) : Cps s n j z' X W2 w b0 b1 b2 b3 c1 c2 V' := by
  subst hz
  exact ⟨h.size, h.big, h.below, h.h0, h.h1, h.h2, h.h3.congr e, h.rows, h.ne, h.ge, h.lt⟩
theorem rowV_next (s : Nat) (X : List (List Int)) (j k : Nat) : (if k = j then .slice (some ⟨s + 6 + j, 0, none⟩) (X.getD j []).length (X.getD j []).length else rowV s X j k) = rowV s X (j + 1) k := by
  unfold rowV
  by_cases e : k = j
  · subst e; rw [if_pos rfl, if_pos (by omega)]
  · rw [if_neg e]
    by_cases e2 : k < j
    · rw [if_pos e2, if_pos (by omega)]
    · rw [if_neg e2, if_neg (by omega)]
/-- Block g alone was written. -/
theorem Cps.turn (h : Cps s n j z X W2 w b0 b1 b2 b3 c1 c2 V) {g : Nat} (hg : s + 2 ≤ g) (hk : ∀ k, k ≠ g → w'.heap[k]? = w.heap[k]?) (hs : w'.heap.size = w.heap.size) (hb : Below g w w') : Below (s + 2) W2 w' := h.below.trans (hb.mono hg)
theorem Cps.one (h : Cps s n j z X W2 w b0 b1 b2 b3 c1 c2 V) {c : Array Value} (h1 : w'.heap[b1]? = some (.cells c 3 (0, 0))) (hk : ∀ k, k ≠ b1 → w'.heap[k]? = w.heap[k]?) (hs : w'.heap.size = w.heap.size) (hb : Below b1 w w') :
    Cps s n j z X W2 w' b0 b1 b2 b3 c c2 V := by
  obtain ⟨e1, e2, e3, e4, e5, e6⟩ := h.ne
  obtain ⟨l0, l1, l2, l3⟩ := h.lt
  exact ⟨hs.trans h.size, h.big, h.turn h.ge.2.1 hk hs hb, (hk _ e1).trans h.h0, h1, (hk _ (Ne.symm e4)).trans h.h2, h.h3.of_block (hk _ (Ne.symm e5)), fun i hi => (hk _ (by omega)).trans (h.rows i hi), h.ne, h.ge, h.lt⟩
theorem Cps.two (h : Cps s n j z X W2 w b0 b1 b2 b3 c1 c2 V) {c : Array Value} (h1 : w'.heap[b2]? = some (.cells c 3 (0, 0))) (hk : ∀ k, k ≠ b2 → w'.heap[k]? = w.heap[k]?) (hs : w'.heap.size = w.heap.size) (hb : Below b2 w w') :
    Cps s n j z X W2 w' b0 b1 b2 b3 c1 c V := by
  obtain ⟨e1, e2, e3, e4, e5, e6⟩ := h.ne
  obtain ⟨l0, l1, l2, l3⟩ := h.lt
  exact ⟨hs.trans h.size, h.big, h.turn h.ge.2.2.1 hk hs hb, (hk _ e2).trans h.h0, (hk _ e4).trans h.h1, h1, h.h3.of_block (hk _ (Ne.symm e6)), fun i hi => (hk _ (by omega)).trans (h.rows i hi), h.ne, h.ge, h.lt⟩
/-- A new block is written whole: it is the next row. -/
theorem Cps.next (h : Cps s n j z X W2 w b0 b1 b2 b3 c1 c2 V) (hz : z = s + 6 + j + 1) (h1 : w'.heap[s + 6 + j]? = some (.cells ((X.getD j []).map (Value.int .i64)).toArray 3 (0, 0))) (hk : ∀ k, k ≠ s + 6 + j → w'.heap[k]? = w.heap[k]?) (hs : w'.heap.size = w.heap.size) (hb : Below (s + 6 + j) w w') :
    Cps s n (j + 1) z X W2 w' b0 b1 b2 b3 c1 c2 V := by
  obtain ⟨l0, l1, l2, l3⟩ := h.lt
  refine ⟨hs.trans h.size, by omega, h.turn (by omega) hk hs hb, (hk _ (by omega)).trans h.h0, (hk _ (by omega)).trans h.h1, (hk _ (by omega)).trans h.h2, h.h3.of_block (hk _ (by omega)), fun i hi => ?_, h.ne, h.ge, h.lt⟩
  by_cases e : i = j
  · subst e; exact h1
  · exact (hk _ (by omega)).trans (h.rows i (by omega))
/-- A store into row b3, and a new block. -/
theorem Cps.put (h : Cps s n j z X W2 w b0 b1 b2 b3 c1 c2 V) (o : Obj) (i : Nat) (v : Value) :
    Cps s n j (z + 1) X W2 ((w.setCell ⟨b3, i, none⟩ v).alloc o).drew b0 b1 b2 b3 c1 c2 (fun k => if k = i then v else V k) := by
  obtain ⟨e1, e2, e3, e4, e5, e6⟩ := h.ne
  have key : ∀ k, k ≠ b3 → k < w.heap.size → ((w.setCell ⟨b3, i, none⟩ v).alloc o).drew.heap[k]? = w.heap[k]? := fun k hk hlt => by
    rw [drew_at, al_at, if_neg (by simp [World.setCell]; omega), set_far _ _ _ hk]
  obtain ⟨l0, l1, l2, l3⟩ := h.lt
  obtain ⟨g0, g1, g2, g3⟩ := h.ge
  have hz := h.size
  have hbig := h.big
  have hb : Below (s + 2) w ((w.setCell ⟨b3, i, none⟩ v).alloc o).drew := (((Below.refl _ _).setCell (by show s + 2 ≤ b3; omega) v).alloc (by simp [World.setCell]; omega) o).drew
  refine ⟨by simp [World.setCell, hz, World.drew], by omega, h.below.trans hb, (key _ e3 (by omega)).trans h.h0, (key _ e5 (by omega)).trans h.h1, (key _ e6 (by omega)).trans h.h2, ?_, fun i hi => (key _ (by omega) (by omega)).trans (h.rows i hi), h.ne, h.ge, h.lt⟩
  exact ((h.h3.set i v).alloc o).drew
end

/-- The copy, whole. -/
structure Cop (s n : Nat) (G : Gm) (w : World) (b1 b2 b3 : Nat) : Prop where
  size : w.heap.size = s + 6 + n
  o : w.rowIs b1 3 n (fun i => .int .i64 (G.O.getD i 0))
  p : w.rowIs b2 3 n (fun i => .int .i64 (G.P.getD i 0))
  x : w.rowIs b3 22 n (rowV s G.X n)
  rows : ∀ i, i < n → w.heap[s + 6 + i]? = some (.cells ((G.X.getD i []).map (Value.int .i64)).toArray 3 (0, 0))
  ne : b1 ≠ b2 ∧ b1 ≠ b3 ∧ b2 ≠ b3
  ge : s + 2 ≤ b1 ∧ s + 2 ≤ b2 ∧ s + 2 ≤ b3
  lt : b1 < s + 6 ∧ b2 < s + 6 ∧ b3 < s + 6
theorem Cps.cop {s n z : Nat} {G : Gm} {W2 w w' : World} {b0 b1 b2 b3 : Nat} (h : Cps s n n z G.X W2 w b0 b1 b2 b3 (G.O.map (Value.int .i64)).toArray (G.P.map (Value.int .i64)).toArray (rowV s G.X n)) (hz : z = s + 6 + n) (ho : G.O.length = n) (hp : G.P.length = n)
    (hk : ∀ k, k ≠ s + 1 → w'.heap[k]? = w.heap[k]?) (hs : w'.heap.size = w.heap.size) : Cop s n G w' b1 b2 b3 := by
  obtain ⟨e1, e2, e3, e4, e5, e6⟩ := h.ne
  obtain ⟨l0, l1, l2, l3⟩ := h.lt
  obtain ⟨g0, g1, g2, g3⟩ := h.ge
  subst ho
  refine ⟨by rw [hs, h.size, hz], (row_of_heap h.h1).of_block (hk _ (by omega)), by rw [← hp]; exact (row_of_heap h.h2).of_block (hk _ (by omega)), h.h3.of_block (hk _ (by omega)), fun i hi => (hk _ (by omega)).trans (h.rows i hi), ⟨e4, e5, e6⟩, ⟨g1, g2, g3⟩, ⟨l1, l2, l3⟩⟩

set_option maxRecDepth 100000 in
set_option maxHeartbeats 8000000 in
theorem copied_game (a p x : Option Addr) (n c d e : Nat) (G : Gm) (w : World) (h : GameIn w a n p n x n G) (hn : n ≤ 20000) (hl : ∀ v, (G.X.getD v []).length ≤ 1000000) :
    Calls Try.prog 38 #[.agg #[.slice a n c, .slice p n d, .slice x n e]] w fun r w' => ∃ b1 b2 b3, r = .returned (.agg #[.slice (some ⟨b1, 0, none⟩) n n, .slice (some ⟨b2, 0, none⟩) n n, .slice (some ⟨b3, 0, none⟩) n n]) ∧ Cop w.heap.size n G w' b1 b2 b3 ∧ Below w.heap.size w w' := by
  have hn0 : (0 : Int) ≤ (n : Int) := by omega
  have HOL := Lib.hid h.o.1
  have HPL := Lib.hid h.p.1
  have hmk := run_make_row' (P := Try.prog) 22 3 (.int .i64 0) 8 Try.underlying22 g_ints_info rfl .i64 .i64 n (by omega) (by omega)
  have hmx := run_make_row' (P := Try.prog) 23 22 (.slice none 0 0) 24 Try.underlying23 g_rows_info rfl .i64 .i64 n (by omega) (by omega)
  go_enter Try.func38, Try.ntmps38
  go_upto_region 1 with fail
  go_cut [3, 9, 13, 17] from 6 (fun s3 s9 s13 s17 wc => Hid (∃ b0 b1 b2 b3, s3 = .pointer (some ⟨b0, 0, none⟩) ∧ s9 = .slice (some ⟨b1, 0, none⟩) n n ∧ s13 = .slice (some ⟨b2, 0, none⟩) n n ∧ s17 = .slice (some ⟨b3, 0, none⟩) n n ∧ Made w.heap.size n (two w #[.slice a n c, .slice p n d, .slice x n e]) wc b0 b1 b2 b3))
  case first =>
    go_region
    all_goals (go_wp2_with fail; go_meet)
    all_goals
      case rel =>
        refine ⟨_, _, _, _, rfl, rfl, rfl, rfl, ⟨?_, ?_, ?_, ?_, ?_, ?_, ?_, ?_, ?_⟩⟩
        · simp [drew_at]
        · unfold two
          repeat' (first | exact Below.refl _ _ | refine Below.drew ?_ | refine Below.alloc ?_ (by simp; try omega) _)
        iterate 4
          · simp only [drew_at, al_at, World.size_alloc, if_true, if_false]
            repeat (first | with_reducible rfl | rw [if_neg (by omega)] | rw [if_pos (by omega)])
        · omega
        · omega
        · omega
  case rest =>
    obtain ⟨b0, b1, b2, b3, rfl, -, -, -, hm⟩ := hcut.out
    have HC := Lib.hid (hm.cps (X := G.X))
    have HBW := Lib.hid (show Below w.heap.size w wc from (show Below w.heap.size w (two w #[.slice a n c, .slice p n d, .slice x n e]) from ((Below.refl _ _).alloc (Nat.le_refl _) _).alloc (by simp) _).trans (hm.below.mono (by omega)))
    have HG := Lib.hid (h.below HBW.out)
    have HLEN := Lib.hid hl
    have HIN := Lib.hid (fun W (hW : Below (w.heap.size + 2) (two w #[.slice a n c, .slice p n d, .slice x n e]) W) => (h.below (two_below w _)).below (two_later hW))
    have H0 := Lib.hid h
    clear hcut h hl
    have g0 : wc.cell? ⟨b0, 0, none⟩ = some (.slice (some ⟨b1, 0, none⟩) n n) := cell_of_heap hm.h0 0
    have g1 : wc.cell? ⟨b0, 1, none⟩ = some (.slice (some ⟨b2, 0, none⟩) n n) := cell_of_heap hm.h0 1
    have hq : ∀ W, Below (w.heap.size + 2) (two w #[.slice a n c, .slice p n d, .slice x n e]) W → W.cell? ⟨w.heap.size, 0, none⟩ = some (.slice a n c) ∧ W.cell? ⟨w.heap.size, 1, none⟩ = some (.slice p n d) ∧ W.cell? ⟨w.heap.size, 2, none⟩ = some (.slice x n e) := fun W hW =>
      ⟨(hW.cell (p := ⟨w.heap.size, 0, none⟩) (by show w.heap.size < w.heap.size + 2; omega)).trans (box_first _ _ _ _ 0), (hW.cell (p := ⟨w.heap.size, 1, none⟩) (by show w.heap.size < w.heap.size + 2; omega)).trans (box_first _ _ _ _ 1), (hW.cell (p := ⟨w.heap.size, 2, none⟩) (by show w.heap.size < w.heap.size + 2; omega)).trans (box_first _ _ _ _ 2)⟩
    obtain ⟨q0, q1, q2⟩ := hq _ hm.below
    have HQ := Lib.hid hq
    clear hm hq
    go_wp2_with (first
      | (refine wpList_copy_whole rfl _ _ 22 22 rfl 3 Try.underlying22 (by kernel_rfl) b1 n n a c (by rfl) (by rfl) _ 3 HC.out.h1 (size_madeCells _ _) G.O HG.out.o ?_; intro w3 k1 k2 k3 k4; have HC3 := Lib.hid (HC.out.one k1 k2 k3 k4); clear k1 k2 k3 k4 g0 g1 q0 q1 q2; have g1 : w3.cell? ⟨b0, 1, none⟩ = some (.slice (some ⟨b2, 0, none⟩) n n) := cell_of_heap HC3.out.h0 1; obtain ⟨q0, q1, q2⟩ := HQ.out _ HC3.out.below)
      | (refine wpList_copy_whole rfl _ _ 22 22 rfl 3 Try.underlying22 (by kernel_rfl) b2 n n p d (by rfl) (by rfl) _ 3 HC3.out.h2 (size_madeCells _ _) G.P (HIN.out _ HC3.out.below).p ?_; intro w4 k1 k2 k3 k4; have HC4 := Lib.hid (HC3.out.two k1 k2 k3 k4); clear k1 k2 k3 k4 g1 q0 q1 q2; obtain ⟨q0, q1, q2⟩ := HQ.out _ HC4.out.below))
    have HW := Lib.hid (show Below (w.heap.size + 2) (two w #[.slice a n c, .slice p n d, .slice x n e]) w4 from HC4.out.below)
    go_loopg [32] n (fun g i wx => ∃ j : Nat, j + g = n ∧ i = .int .i64 j ∧ Hid (Cps w.heap.size n j (w.heap.size + 6 + j) G.X (two w #[.slice a n c, .slice p n d, .slice x n e]) wx b0 b1 b2 b3 (G.O.map (Value.int .i64)).toArray (G.P.map (Value.int .i64)).toArray (rowV w.heap.size G.X j)))
    case atStart => exact ⟨0, by omega, rfl, HC4.out⟩
    case round =>
      obtain ⟨j, hjg, rfl, HX⟩ := hrel
      have hj0 : (0 : Int) ≤ (j : Int) := by omega
      have g0 : wr.cell? ⟨b0, 0, none⟩ = some (.slice (some ⟨b1, 0, none⟩) n n) := cell_of_heap HX.out.h0 0
      have g1 : wr.cell? ⟨b0, 1, none⟩ = some (.slice (some ⟨b2, 0, none⟩) n n) := cell_of_heap HX.out.h0 1
      have g2 : wr.cell? ⟨b0, 2, none⟩ = some (.slice (some ⟨b3, 0, none⟩) n n) := cell_of_heap HX.out.h0 2
      obtain ⟨q0, q1, q2⟩ := HQ.out _ HX.out.below
      have HZR := Lib.hid HX.out.size
      cases gk with
      | zero =>
        obtain rfl : n = j := by omega
        have r0 : wr.cell? ⟨w.heap.size + 1, 0, none⟩ = some (.slice none 0 0) := (HX.out.below.cell (p := ⟨w.heap.size + 1, 0, none⟩) (by show w.heap.size + 1 < w.heap.size + 2; omega)).trans (two_last _ _ 0)
        have r1 : wr.cell? ⟨w.heap.size + 1, 1, none⟩ = some (.slice none 0 0) := (HX.out.below.cell (p := ⟨w.heap.size + 1, 1, none⟩) (by show w.heap.size + 1 < w.heap.size + 2; omega)).trans (two_last _ _ 1)
        have r2 : wr.cell? ⟨w.heap.size + 1, 2, none⟩ = some (.slice none 0 0) := (HX.out.below.cell (p := ⟨w.heap.size + 1, 2, none⟩) (by show w.heap.size + 1 < w.heap.size + 2; omega)).trans (two_last _ _ 2)
        have f0 := (HX.out.below.frozen (p := ⟨w.heap.size + 1, 0, none⟩) (by show w.heap.size + 1 < w.heap.size + 2; omega)).trans (two_free _ _ 0)
        have f1 := (HX.out.below.frozen (p := ⟨w.heap.size + 1, 1, none⟩) (by show w.heap.size + 1 < w.heap.size + 2; omega)).trans (two_free _ _ 1)
        have f2 := (HX.out.below.frozen (p := ⟨w.heap.size + 1, 2, none⟩) (by show w.heap.size + 1 < w.heap.size + 2; omega)).trans (two_free _ _ 2)
        go_wp2_with fail
        obtain ⟨x0, x1, x2⟩ := cells3g r0 r1 r2 (.slice (some ⟨b1, 0, none⟩) n n) (.slice (some ⟨b2, 0, none⟩) n n) (.slice (some ⟨b3, 0, none⟩) n n)
        refine bodyPost_ret (v := .agg #[.slice (some ⟨b1, 0, none⟩) n n, .slice (some ⟨b2, 0, none⟩) n n, .slice (some ⟨b3, 0, none⟩) n n]) (by simp [results, Try.results38, go_sem, x0, x1, x2]) rfl ⟨b1, b2, b3, rfl, HX.out.cop rfl HOL.out HPL.out (fun k hk => ?_) (by simp [World.setCell]), ?_⟩
        · rw [set_far _ _ _ hk, set_far _ _ _ hk, set_far _ _ _ hk]
        · exact ((((two_below w _).trans (HX.out.below.mono (by omega))).setCell (by show w.heap.size ≤ w.heap.size + 1; omega) _).setCell (by show w.heap.size ≤ w.heap.size + 1; omega) _).setCell (by show w.heap.size ≤ w.heap.size + 1; omega) _
      | succ g =>
        have hjl : j < n := by omega
        have hjl2 : (j : Int) < (n : Int) := by omega
        obtain ⟨bx, ox, rfl, hbx, hcx⟩ := H0.out.x.2 (by omega)
        obtain ⟨bl, cl, kl0, il⟩ := hcx j hjl
        have HIL := Lib.hid il
        have HWR := Lib.hid (show Below w.heap.size w wr from (two_below w _).trans (HX.out.below.mono (by omega)))
        have kl := (HWR.out.cell (p := ⟨bx, ox + j, none⟩) hbx).trans kl0
        clear kl0
        have hlen := HLEN.out j
        have hrj := HX.out.h3.cell hjl
        have hfj := HX.out.h3.frozen j
        have hb0 : b0 < wr.heap.size := by have := HX.out.lt.1; have := HZR.out; omega
        have hb3 : b3 < wr.heap.size := by have := HX.out.lt.2.2.2; have := HZR.out; omega
        clear hcx il
        generalize hll : (G.X.getD j []).length = ll at *
        have hmk := run_make_row' (P := Try.prog) 22 3 (.int .i64 0) 8 Try.underlying22 g_ints_info rfl .i64 .i64 ll (by omega) (by omega)
        go_upto_region 7 with fail
        go_region
        obtain ⟨W5, hW5⟩ : ∃ W5, ((wr.setCell ⟨b3, j, none⟩ (.slice (some ⟨wr.heap.size, 0, none⟩) ll ll)).alloc (.cells (madeCells #[.int .i64 0] ll) 3)).drew = W5 := ⟨_, rfl⟩
        have HC5 := Lib.hid (show Cps w.heap.size n j (w.heap.size + 6 + j + 1) G.X (two w #[.slice a n c, .slice p n d, .slice (some ⟨bx, ox, none⟩) n e]) W5 b0 b1 b2 b3 (G.O.map (Value.int .i64)).toArray (G.P.map (Value.int .i64)).toArray (fun k => if k = j then (.slice (some ⟨wr.heap.size, 0, none⟩) ll ll) else rowV w.heap.size G.X j k) from hW5 ▸ HX.out.put (.cells (madeCells #[.int .i64 0] ll) 3) j (.slice (some ⟨wr.heap.size, 0, none⟩) ll ll))
        have HNB := Lib.hid (show W5.heap[wr.heap.size]? = some (.cells (madeCells #[.int .i64 0] ll) 3 (0, 0)) by rw [← hW5, drew_at, al_at, if_pos (by simp [World.setCell])])
        rw [hW5]
        clear hW5 g0 g1 g2 q0 q1 q2 hrj hfj hmk hb0 hb3
        have g2 : W5.cell? ⟨b0, 2, none⟩ = some (.slice (some ⟨b3, 0, none⟩) n n) := cell_of_heap HC5.out.h0 2
        have hrj : W5.cell? ⟨b3, j, none⟩ = some (.slice (some ⟨wr.heap.size, 0, none⟩) ll ll) := (HC5.out.h3.cell hjl).trans (by rw [if_pos rfl])
        have HI5 := Lib.hid (show Ints W5 bl ll (G.X.getD j []) from HIL.out.below ((two_below w _).trans (HC5.out.below.mono (by omega))))
        go_wp2_with (refine wpList_copy_whole rfl _ _ 22 22 rfl 3 Try.underlying22 (by kernel_rfl) wr.heap.size ll ll bl cl (by rfl) (by rfl) _ 3 HNB.out (size_madeCells _ _) (G.X.getD j []) HI5.out ?_; intro w6 k1 k2 k3 k4; have HC6 := Lib.hid (HC5.out.next rfl (by rw [← HZR.out]; exact k1) (by rw [← HZR.out]; exact k2) k3 (by rw [← HZR.out]; exact k4)); clear k1 k2 k3 k4 g2 hrj)
        go_roundg g
        case measure => omega
        case rel =>
          exact ⟨j + 1, by omega, by go_num, HC6.out.congr (by omega) (fun k hk => by rw [← rowV_next, ← hll, ← HZR.out])⟩

end Go.Proofs.Ytffdbncjndnnaaa.Wd
