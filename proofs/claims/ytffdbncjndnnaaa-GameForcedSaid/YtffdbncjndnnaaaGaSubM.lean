/-
  What Sub of a game is: the kept positions, their numbers, their successors.
-/
import Derived.Test.YtffdbncjndnnaaaGaFam
namespace Go.Proofs.Ytffdbncjndnnaaa.Wd
open Go.RowKit
set_option linter.unusedVariables false
set_option linter.unusedSimpArgs false

/-- A list of bools, as it lies in memory. -/
def BoolsIn (w : World) (A : Option Addr) (n : Nat) (F : Nat → Bool) : Prop := 0 < n → ∃ b off, A = some ⟨b, off, none⟩ ∧ b < w.heap.size ∧ ∀ j, j < n → w.cell? ⟨b, off + j, none⟩ = some (.bool (F j))
theorem BoolsIn.below {w w' : World} {A : Option Addr} {n : Nat} {F : Nat → Bool} (h : BoolsIn w A n F) (hb : Below w.heap.size w w') : BoolsIn w' A n F := fun hn => by
  obtain ⟨b, off, e, hlt, hc⟩ := h hn
  have := hb.size
  exact ⟨b, off, e, by omega, fun j hj => (hb.cell hlt).trans (hc j hj)⟩

/-- The positions below n that are kept. -/
def ofK (K : Nat → Bool) (n : Nat) : List Nat := (List.range n).filter K
def numK (K : Nat → Bool) (v : Nat) : Nat := (ofK K v).length
theorem ofK_yes {K : Nat → Bool} {j : Nat} (h : K j = true) : ofK K (j + 1) = ofK K j ++ [j] := by
  unfold ofK
  rw [List.range_succ, List.filter_append]
  simp [h]
theorem ofK_no {K : Nat → Bool} {j : Nat} (h : K j = false) : ofK K (j + 1) = ofK K j := by
  unfold ofK
  rw [List.range_succ, List.filter_append]
  simp [h]
theorem numK_le (K : Nat → Bool) (n : Nat) : numK K n ≤ n := by
  unfold numK ofK
  exact Nat.le_trans (List.length_filter_le _ _) (by simp)
theorem ofK_lt {K : Nat → Bool} {n t : Nat} (h : t < (ofK K n).length) : (ofK K n).getD t 0 < n := by
  have hm : (ofK K n).getD t 0 ∈ ofK K n := by
    rw [List.getD_eq_getElem?_getD, List.getElem?_eq_getElem h]
    exact List.getElem_mem h
  unfold ofK at hm
  exact List.mem_range.1 (List.mem_filter.1 hm).1
def castL (l : List Nat) : List Int := l.map fun (v : Nat) => (v : Int)
theorem castL_app (l r : List Nat) : castL (l ++ r) = castL l ++ castL r := by unfold castL; exact List.map_append
theorem castL_at (l : List Nat) {t : Nat} (h : t < l.length) : (castL l).getD t 0 = (l.getD t 0 : Int) := by
  unfold castL
  simp [List.getD_eq_getElem?_getD, h]
/-- The kept successors, by their new numbers. -/
def nextK (K : Nat → Bool) (l : List Int) : List Int := (l.filter fun x => K x.toNat).map fun x => (numK K x.toNat : Int)
theorem nextK_len (K : Nat → Bool) (l : List Int) : (nextK K l).length ≤ l.length := by
  unfold nextK
  rw [List.length_map]
  exact List.length_filter_le _ _
theorem nextK_yes {K : Nat → Bool} {l : List Int} {r : Nat} (h : r < l.length) (hk : K (l.getD r 0).toNat = true) : nextK K (l.take (r + 1)) = nextK K (l.take r) ++ [(numK K (l.getD r 0).toNat : Int)] := by
  have e : l.take (r + 1) = l.take r ++ [l.getD r 0] := by
    rw [List.take_succ_eq_append_getElem h]
    simp [List.getD_eq_getElem?_getD, List.getElem?_eq_getElem h]
  unfold nextK
  rw [e, List.filter_append, List.map_append]
  simp only [List.filter_cons, List.filter_nil, hk, if_true, Bool.false_eq_true, if_false, List.map_cons, List.map_nil, List.append_nil]
theorem nextK_no {K : Nat → Bool} {l : List Int} {r : Nat} (h : r < l.length) (hk : K (l.getD r 0).toNat = false) : nextK K (l.take (r + 1)) = nextK K (l.take r) := by
  have e : l.take (r + 1) = l.take r ++ [l.getD r 0] := by
    rw [List.take_succ_eq_append_getElem h]
    simp [List.getD_eq_getElem?_getD, List.getElem?_eq_getElem h]
  unfold nextK
  rw [e, List.filter_append, List.map_append]
  simp only [List.filter_cons, List.filter_nil, hk, if_true, Bool.false_eq_true, if_false, List.map_cons, List.map_nil, List.append_nil]
/-- Of the kept positions the first t. -/
def subP (G : Gm) (K : Nat → Bool) (n t : Nat) : Gm :=
  ⟨((ofK K n).take t).map fun v => G.O.getD v 0, ((ofK K n).take t).map fun v => G.P.getD v 0, ((ofK K n).take t).map fun v => nextK K (G.X.getD v [])⟩
theorem subP_zero (G : Gm) (K : Nat → Bool) (n : Nat) : subP G K n 0 = gm0 := by simp [subP, gm0]
theorem subP_next {G : Gm} {K : Nat → Bool} {n t : Nat} (h : t < (ofK K n).length) :
    subP G K n (t + 1) = ⟨(subP G K n t).O ++ [G.O.getD ((ofK K n).getD t 0) 0], (subP G K n t).P ++ [G.P.getD ((ofK K n).getD t 0) 0], (subP G K n t).X ++ [nextK K (G.X.getD ((ofK K n).getD t 0) [])]⟩ := by
  have e : (ofK K n).take (t + 1) = (ofK K n).take t ++ [(ofK K n).getD t 0] := by
    rw [List.take_succ_eq_append_getElem h]
    simp [List.getD_eq_getElem?_getD, List.getElem?_eq_getElem h]
  unfold subP
  rw [e, List.map_append, List.map_append, List.map_append]
  rfl
theorem subP_len {G : Gm} {K : Nat → Bool} {n t : Nat} (h : t ≤ (ofK K n).length) : (subP G K n t).O.length = t ∧ (subP G K n t).P.length = t ∧ (subP G K n t).X.length = t := by
  unfold subP
  simp
  omega
/-- Has each kept position a kept successor? -/
def subOK (G : Gm) (K : Nat → Bool) (n : Nat) : Bool := allB (ofK K n).length fun t => decide (¬ (nextK K (G.X.getD ((ofK K n).getD t 0) [])).length = 0)
def subG (G : Gm) (K : Nat → Bool) (nk : Nat) : Gm := if gmB G then (if nk = G.X.length then (if subOK G K nk then subP G K nk (ofK K nk).length else gm0) else gm0) else gm0
def subL (G : Gm) (K : Nat → Bool) (nk : Nat) : List Int := if gmB G then (if nk = G.X.length then (if subOK G K nk then castL (ofK K nk) else []) else []) else []
def subC (G : Gm) (K : Nat → Bool) (nk : Nat) : Int := if gmB G then (if nk = G.X.length then (if subOK G K nk then 0 else 5) else 2) else 1
theorem sub_bad {G : Gm} {K : Nat → Bool} {nk : Nat} (h : gmB G = false) : subG G K nk = gm0 ∧ subL G K nk = [] ∧ subC G K nk = 1 := by unfold subG subL subC; rw [h]; exact ⟨rfl, rfl, rfl⟩
theorem sub_dim {G : Gm} {K : Nat → Bool} {nk : Nat} (h : gmB G = true) (h2 : ¬ nk = G.X.length) : subG G K nk = gm0 ∧ subL G K nk = [] ∧ subC G K nk = 2 := by
  unfold subG subL subC
  rw [h, if_pos rfl, if_pos rfl, if_pos rfl, if_neg h2, if_neg h2, if_neg h2]
  exact ⟨rfl, rfl, rfl⟩
theorem sub_none {G : Gm} {K : Nat → Bool} {nk : Nat} (h : gmB G = true) (h2 : nk = G.X.length) (h3 : subOK G K nk = false) : subG G K nk = gm0 ∧ subL G K nk = [] ∧ subC G K nk = 5 := by
  unfold subG subL subC
  rw [h, if_pos rfl, if_pos rfl, if_pos rfl, if_pos h2, if_pos h2, if_pos h2, h3]
  exact ⟨rfl, rfl, rfl⟩
theorem sub_good {G : Gm} {K : Nat → Bool} {nk : Nat} (h : gmB G = true) (h2 : nk = G.X.length) (h3 : subOK G K nk = true) : subG G K nk = subP G K nk (ofK K nk).length ∧ subL G K nk = castL (ofK K nk) ∧ subC G K nk = 0 := by
  unfold subG subL subC
  rw [h, if_pos rfl, if_pos rfl, if_pos rfl, if_pos h2, if_pos h2, if_pos h2, h3]
  exact ⟨rfl, rfl, rfl⟩
/-- A game, a list and an error code come back. -/
def OutS (w w' : World) (H : Gm) (l : List Int) (code : Int) (e : Ending) : Prop := ∃ v A c, e = .returned (.tuple #[v, .slice A l.length c, .int .i64 code]) ∧ GameAt w' v H ∧ Ints w' A l.length l ∧ Below w.heap.size w w'

/-- Below B nothing was written but block bd. -/
structure Keep (B bd : Nat) (W w : World) : Prop where
  size : B ≤ w.heap.size
  block : ∀ k, k < B → k ≠ bd → w.heap[k]? = W.heap[k]?
  low : Below bd W w
theorem Keep.refl (bd : Nat) (W : World) : Keep W.heap.size bd W W := ⟨Nat.le_refl _, fun _ _ _ => rfl, Below.refl _ _⟩
theorem Keep.step {B bd i : Nat} {W w w2 : World} (h : Keep B bd W w) (hb : Below B w w2) (hB : bd ≤ B) (v : Value) : Keep B bd W (w2.setCell ⟨bd, i, none⟩ v) :=
  ⟨set_le (Nat.le_trans h.size hb.size) _ _, fun k hk hne => (set_far _ _ _ hne).trans ((hb.block k hk).trans (h.block k hk hne)), (h.low.trans (hb.mono hB)).setCell (by show bd ≤ bd; omega) _⟩
theorem Keep.below {B bd : Nat} {W w w2 : World} (h : Keep B bd W w) (hb : Below w.heap.size w w2) (hB : bd ≤ B) : Keep B bd W w2 :=
  ⟨Nat.le_trans h.size hb.size, fun k hk hne => (hb.block k (Nat.lt_of_lt_of_le hk h.size)).trans (h.block k hk hne), h.low.trans (hb.mono (Nat.le_trans hB h.size))⟩
theorem Keep.cell {B bd : Nat} {W w : World} (h : Keep B bd W w) {k i : Nat} (hk : k < B) (hne : k ≠ bd) : w.cell? ⟨k, i, none⟩ = W.cell? ⟨k, i, none⟩ := World.cell?_of_block (a := ⟨k, i, none⟩) (h.block k hk hne)

/-- A row of one's own beside the rows of the game that is built. -/
structure Bes (B bd : Nat) (w : World) (V : Nat → Value) (N : Nat) (v3 : Value) (l : List Int) : Prop where
  own : w.ownsRow B 3 1 v3 l.length (l.map (Value.int .i64))
  ap : ∀ s, s < N → Apt (V s) v3
  nb : v3.ownBlock ≠ some bd
theorem Bes.below {B bd N : Nat} {w w2 : World} {V : Nat → Value} {v3 : Value} {l : List Int} (h : Bes B bd w V N v3 l) (hb : Below w.heap.size w w2) : Bes B bd w2 V N v3 l := ⟨own_keep h.own hb, h.ap, h.nb⟩
/-- Row f grows, the box is written: the row beside stands. -/
theorem Bes.push {B bd N f i : Nat} {w wa w2 : World} {V : Nat → Value} {v3 v' : Value} {l : List Int} (h : Bes B bd w V N v3 l) (hf : f < N) (hw : Below w.heap.size w wa) (hg : wa.grownBy w2 (V f).ownBlock) (hat : v'.ownBlock = (V f).ownBlock ∨ v'.ownBlock = some wa.heap.size) :
    Bes B bd (w2.setCell ⟨bd, i, none⟩ v') (atV V f v') N v3 l := by
  have h1 := own_keep h.own hw
  obtain ⟨h2, h3⟩ := apt_grow h1 (h.ap f hf).symm hg hat
  refine ⟨own_put' h2 h.nb _, fun s hs => ?_, h.nb⟩
  by_cases e : s = f
  · subst e; rw [atV_same]; exact h3.symm
  · rw [atV_other _ _ e]; exact h.ap s hs
/-- The list of rows takes the row beside. -/
theorem Bld.take {B bd : Nat} {w w4 : World} {V : Nat → Value} {H : Gm} {l : List Int} {v3 v4 : Value} {o : Obj} (h : Bld B bd w V H) (hz : B ≤ w.heap.size) (h3 : Bes B bd w V (3 + H.X.length) v3 l)
    (hown : w4.ownsRow B 22 1 v4 (H.X.length + 1) ((List.range H.X.length).map (fun j => V (3 + j)) ++ [v3])) (hg : (w.alloc o).grownBy w4 (V 2).ownBlock) (hat : v4.ownBlock = (V 2).ownBlock ∨ v4.ownBlock = some (w.alloc o).heap.size) :
    ∃ A4 c4, v4 = .slice A4 (H.X.length + 1) c4 ∧ Below B w w4 ∧ w4.cell? ⟨bd, 2, none⟩ = some (V 2) ∧ w4.frozen? ⟨bd, 2, none⟩ = false ∧ (∃ V', Bld B bd (w4.setCell ⟨bd, 2, none⟩ v4) V' ⟨H.O, H.P, H.X ++ [l]⟩) ∧ B ≤ w4.heap.size :=
  h.rowin hz h3.own h3.ap h3.nb hown hg hat

theorem two_heap (w : World) (g : Array Value) : (two w g).heap[w.heap.size + 1]? = some (.cells #[.slice none 0 0, .slice none 0 0, .slice none 0 0] 25 (0, 0)) := by
  unfold two
  rw [al_at, if_pos (by rw [World.size_alloc])]
theorem size_set (w : World) (a : Addr) (v : Value) : (w.setCell a v).heap.size = w.heap.size := by simp [World.setCell]
theorem int_new' (w : World) {s : Nat} (h : w.heap.size = s) (x : Int) (t : TypeId) : Ints (w.alloc (.cells #[.int .i64 x] t)) (some ⟨s, 0, none⟩) 1 [x] := by
  subst h
  exact Ints.of_heap (xs := [x]) (t := t) (by rw [al_at, if_pos rfl]; rfl)
/-- Nothing was appended yet: the box of zero values. -/
theorem Bld.start {B bd : Nat} {w : World} (h : w.heap[bd]? = some (.cells #[.slice none 0 0, .slice none 0 0, .slice none 0 0] 25 (0, 0))) : Bld B bd w (fun _ => .slice none 0 0) gm0 :=
  ⟨⟨fun s hs => by
      have hl : gL (fun _ => .slice none 0 0) gm0 s = [] := by
        unfold gL gm0
        split
        · rfl
        · split
          · rfl
          · split
            · rfl
            · rfl
      rw [hl]
      exact World.ownsRow_nil _ _ _ _, fun _ _ _ _ _ => .inl rfl⟩, ⟨_, h, rfl, rfl, rfl⟩, fun s _ e => by cases e⟩

end Go.Proofs.Ytffdbncjndnnaaa.Wd
