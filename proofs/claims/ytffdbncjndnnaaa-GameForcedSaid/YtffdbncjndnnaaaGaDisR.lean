/-
  distances of package game: what holds between two rounds of the search.
-/
import Derived.Test.YtffdbncjndnnaaaGaDis
import Derived.Test.YtffdbncjndnnaaaGaDist
namespace Go.Proofs.Ytffdbncjndnnaaa.Wd
open Go.RowKit
set_option linter.unusedVariables false
set_option linter.unusedSimpArgs false

theorem own_block {w w' : World} {B e k n : Nat} {v : Value} {xs : List Value} (h : w.ownsRow B e k v n xs) (hk : ∀ b, v.ownBlock = some b → w'.heap[b]? = w.heap[b]?) : w'.ownsRow B e k v n xs := by
  refine ⟨h.1, h.2.imp id ?_⟩
  rintro ⟨g, cap, cur, rfl, h1, h2, h3, h4, h5, h6⟩
  exact ⟨g, cap, cur, rfl, h1, (hk g rfl).trans h2, h3, h4, h5, h6⟩
theorem QuV.kept {B bq : Nat} {w w' : World} {L : List Int} {v : Value} (h : QuV B bq w L v) (h1 : w'.heap[bq]? = w.heap[bq]?) (hk : ∀ b, v.ownBlock = some b → w'.heap[b]? = w.heap[b]?) : QuV B bq w' L v := ⟨h1.trans h.box, own_block h.own hk⟩
theorem QuV.unique {B bq : Nat} {w : World} {L L' : List Int} {v v' : Value} (h : QuV B bq w L v) (h' : QuV B bq w L' v') : L = L' ∧ v = v' := by
  have e := h.box.symm.trans h'.box
  injection e with e
  injection e with e
  injection e with e
  injection e with e _
  subst e
  have o1 := h.own
  have o2 := h'.own
  obtain ⟨A, c, hv, _⟩ := own_slice o1
  obtain ⟨A2, c2, hv2, _⟩ := own_slice o2
  have e2 := hv.symm.trans hv2
  injection e2 with _ hl _
  rw [hv] at o1 o2
  have i1 := Ints.of_own o1
  rw [← hl] at o2
  have i2 := Ints.of_own (xs := L') o2
  refine ⟨List.ext_getElem hl fun i h1 h2 => ?_, rfl⟩
  obtain ⟨b, off, e3, _, c1⟩ := i1.2 (by omega)
  obtain ⟨b', off', e4, _, c2⟩ := i2.2 (by omega)
  have e5 := e3.symm.trans e4
  injection e5 with e5
  injection e5 with e6 e7
  subst e6 e7
  have := (c1 i h1).symm.trans (c2 i (by omega))
  injection this with this
  injection this with _ this
  simpa [List.getD_eq_getElem?_getD, h1, h2] using this
theorem map_int_inj {L L' : List Nat} (h : (L.map fun x => ((x : Nat) : Int)) = L'.map fun x => ((x : Nat) : Int)) : L = L' := by
  exact (List.map_inj_right (f := fun x : Nat => (x : Int)) (fun a b h => Int.ofNat.inj h)).1 h

/-- The slice lies in none of the blocks. -/
def NoB (v : Value) (bp bl : Nat) : Prop := ∀ b, v.ownBlock = some b → b ≠ bp ∧ b ≠ bl ∧ b ≠ bl + 1

def ownB (G : Gm) (q : Int) (v : Nat) : Bool := decide (G.O.getD v 0 = q)
abbrev natL (L : List Nat) : List Int := L.map fun x => ((x : Nat) : Int)

/-- The search, with its memory: h positions have been looked at, k with the one at hand. -/
structure Sea (s0 top n : Nat) (G : Gm) (W0 : World) (b7 b8 b9 bs bm bb bp bl : Nat) (V : Nat → Value) (q : Int) (T : Nat → Bool) (E : Nat → Nat → Bool) (h k : Nat) (D M : Nat → Int) (L : List Nat) (v : Value) (w : World) : Prop where
  mem : DiM s0 top n G W0 b7 b8 b9 bs bm bb V D M w
  que : QuV (top + 1) top w (natL L) v
  low : s0 ≤ top ∧ top < bp ∧ bp < bl ∧ bl ≤ w.heap.size
  ptr : w.cell? ⟨bp, 0, none⟩ = some (.pointer (some ⟨top, 0, none⟩))
  nob : NoB v bp bl
  sea : Srch (ownB G q) (fun v => G.X.getD v []) T n E h k D M L

section
variable {s0 top n : Nat} {G : Gm} {W0 w w' : World} {b7 b8 b9 bs bm bb bp bl : Nat} {V : Nat → Value} {q : Int} {T : Nat → Bool} {E : Nat → Nat → Bool} {h k : Nat} {D M : Nat → Int} {L : List Nat} {v : Value}
theorem Sea.turned (s : Sea s0 top n G W0 b7 b8 b9 bs bm bb bp bl V q T E h k D M L v w) (ht : Turned bl w w') : Sea s0 top n G W0 b7 b8 b9 bs bm bb bp bl V q T E h k D M L v w' := by
  obtain ⟨l1, l2, l3, l4⟩ := s.low
  have hz := ht.size
  have hl : ∀ b, b < bl → w'.heap[b]? = w.heap[b]? := fun b hb => ht.block b (by omega) (by omega) (by omega)
  exact ⟨s.mem.kept ⟨ht.os, ht.tape, ht.output, ht.size, fun k hk => hl k (by omega)⟩ (fun k _ hk => hl k (by omega)), s.que.kept (hl top (by omega)) (fun b hb => ht.block b (s.nob b hb).2.1 (s.nob b hb).2.2 (s.que.own.lt b hb).2), ⟨l1, l2, l3, by omega⟩, (World.cell?_of_block (a := ⟨bp, 0, none⟩) (hl bp l3)).trans s.ptr, s.nob, s.sea⟩
/-- What is found is added to the queue. -/
theorem Sea.added {v' : Value} {E' : Nat → Nat → Bool} {D' M' : Nat → Int} {x : Nat} (hm : DiM s0 top n G W0 b7 b8 b9 bs bm bb V D' M' w) (hlow : s0 ≤ top ∧ top < bp ∧ bp < bl ∧ bl + 2 ≤ w.heap.size) (hnob : NoB v bp bl) (hptr : w.cell? ⟨bp, 0, none⟩ = some (.pointer (some ⟨top, 0, none⟩)))
    (hq : QuV (top + 1) top w' (natL L ++ [(x : Int)]) v') (hown : w.ownsRow (top + 1) 3 1 v (natL L).length ((natL L).map (Value.int .i64)))
    (hb : Below top w w') (hk : ∀ k, k < w.heap.size → k ≠ top → v.ownBlock ≠ some k → w'.heap[k]? = w.heap[k]?) (hv : v'.ownBlock = v.ownBlock ∨ ∃ b, v'.ownBlock = some b ∧ w.heap.size ≤ b)
    (hs : Srch (ownB G q) (fun v => G.X.getD v []) T n E' h k D' M' (L ++ [x])) : Sea s0 top n G W0 b7 b8 b9 bs bm bb bp bl V q T E' h k D' M' (L ++ [x]) v' w' ∧ w'.heap[bl]? = w.heap[bl]? ∧ w'.heap[bl + 1]? = w.heap[bl + 1]? := by
  obtain ⟨l1, l2, l3, l4⟩ := hlow
  have hz := hb.size
  have hge : ∀ b, v.ownBlock = some b → top + 1 ≤ b := fun b e => (hown.lt b e).1
  refine ⟨⟨hm.kept (hb.mono l1) (fun k _ hk2 => hb.block k hk2), by unfold natL at *; rw [List.map_append]; exact hq, ⟨l1, l2, l3, by omega⟩, (World.cell?_of_block (a := ⟨bp, 0, none⟩) (hk bp (by omega) (by omega) (fun e => (hnob bp e).1 rfl))).trans hptr, fun b e => ?_, hs⟩, hk bl (by omega) (by omega) (fun e => (hnob bl e).2.1 rfl), hk (bl + 1) (by omega) (by omega) (fun e => (hnob (bl + 1) e).2.2 rfl)⟩
  rcases hv with e2 | ⟨b', e2, hb'⟩
  · exact hnob b (e2 ▸ e)
  · rw [e2] at e
    injection e with e
    omega
end

/-- The numbers that a whole search leaves behind. -/
theorem Srch.dist {G : Gm} {q : Int} {T : Nat → Bool} {n : Nat} {E : Nat → Nat → Bool} {h k : Nat} {D M : Nat → Int} {L : List Nat} (s : Srch (ownB G q) (fun v => G.X.getD v []) T n E h k D M L) (hX : Rows1 (fun v => G.X.getD v []) n) (hh : L.length ≤ h) : Dist G q T n D := by
  obtain ⟨h1, h2, h3⟩ := s.over hX hh
  have ho : ∀ v, G.O.getD v 0 = q → ownB G q v = true := fun v e => decide_eq_true e
  have hn : ∀ v, G.O.getD v 0 ≠ q → ownB G q v = false := fun v e => decide_eq_false e
  exact ⟨s.zero, fun v hv => ⟨s.rng v hv, h1 v hv⟩, fun v hv e hd => s.own1 v hv (ho v e) hd, fun v hv e hd => h2 v hv (ho v e) hd, fun v hv e hd => s.oth1 v hv (hn v e) hd, fun v hv e hd => h3 v hv (hn v e) hd⟩

/-- The memory of the search and its queue. -/
structure DiQ (s0 top n : Nat) (G : Gm) (W0 : World) (b7 b8 b9 bs bm bb : Nat) (V : Nat → Value) (D M : Nat → Int) (L : List Int) (v : Value) (w : World) : Prop where
  mem : DiM s0 top n G W0 b7 b8 b9 bs bm bb V D M w
  que : QuV (top + 1) top w L v
  siz : top + 1 ≤ w.heap.size
section
variable {s0 top n : Nat} {G : Gm} {W0 w w' : World} {b7 b8 b9 bs bm bb : Nat} {V : Nat → Value} {D M : Nat → Int} {L : List Int} {v : Value}
theorem DiQ.drew (h : DiQ s0 top n G W0 b7 b8 b9 bs bm bb V D M L v w) : DiQ s0 top n G W0 b7 b8 b9 bs bm bb V D M L v w.drew :=
  ⟨h.mem.kept (Below.refl _ _).drew (fun _ _ _ => rfl), h.que.kept rfl (fun _ _ => rfl), h.siz⟩
theorem DiQ.setD (h : DiQ s0 top n G W0 b7 b8 b9 bs bm bb V D M L v w) (u : Nat) (x : Int) : DiQ s0 top n G W0 b7 b8 b9 bs bm bb V (updN D u x) M L v (w.setCell ⟨bs, u, none⟩ (.int .i64 x)) :=
  ⟨h.mem.setD u x, h.que.kept (set_far _ _ _ (by have := h.mem.hi.2.2.2.1; show top ≠ bs; omega)) (fun b e => set_far _ _ _ (by have := (h.que.own.lt b e).1; have := h.mem.hi.2.2.2.1; show b ≠ bs; omega)), by rw [size_set]; exact h.siz⟩
theorem DiQ.setM (h : DiQ s0 top n G W0 b7 b8 b9 bs bm bb V D M L v w) (u : Nat) (x : Int) : DiQ s0 top n G W0 b7 b8 b9 bs bm bb V D (updN M u x) L v (w.setCell ⟨bm, u, none⟩ (.int .i64 x)) :=
  ⟨h.mem.setM u x, h.que.kept (set_far _ _ _ (by have := h.mem.hi.2.2.2.2.1; show top ≠ bm; omega)) (fun b e => set_far _ _ _ (by have := (h.que.own.lt b e).1; have := h.mem.hi.2.2.2.2.1; show b ≠ bm; omega)), by rw [size_set]; exact h.siz⟩
theorem DiQ.added {v' : Value} {x : Int} (h : DiQ s0 top n G W0 b7 b8 b9 bs bm bb V D M L v w) (hq : QuV (top + 1) top w' (L ++ [x]) v') (hb : Below top w w') : DiQ s0 top n G W0 b7 b8 b9 bs bm bb V D M (L ++ [x]) v' w' := by
  obtain ⟨l7, l8, l9, ls, lm, lb⟩ := h.mem.lo
  have := h.mem.hi.1
  exact ⟨h.mem.kept (hb.mono (by omega)) (fun k _ hk => hb.block k hk), hq, Nat.le_trans h.siz hb.size⟩
end
/-- The first j positions are ready. -/
def DiL (s0 top n : Nat) (G : Gm) (W0 : World) (b7 b8 b9 bs bm bb : Nat) (V : Nat → Value) (q : Int) (T : Nat → Bool) (j : Nat) (w : World) : Prop :=
  ∃ D M v, DiQ s0 top n G W0 b7 b8 b9 bs bm bb V D M (natL ((List.range j).filter T)) v w ∧ ∀ u, u < j → D u = (if T u then 0 else -1) ∧ M u = if ownB G q u then 1 else ((G.X.getD u []).length : Int)
theorem DiL.next {s0 top n : Nat} {G : Gm} {W0 w : World} {b7 b8 b9 bs bm bb : Nat} {V : Nat → Value} {q : Int} {T : Nat → Bool} {j : Nat} {D M : Nat → Int} {L : List Int} {v : Value} {x y : Int}
    (h : DiQ s0 top n G W0 b7 b8 b9 bs bm bb V (updN D j x) (updN M j y) L v w) (hL : L = natL ((List.range (j + 1)).filter T)) (h0 : ∀ u, u < j → D u = (if T u then 0 else -1) ∧ M u = if ownB G q u then 1 else ((G.X.getD u []).length : Int))
    (hx : x = if T j then 0 else -1) (hy : y = if ownB G q j then 1 else ((G.X.getD j []).length : Int)) : DiL s0 top n G W0 b7 b8 b9 bs bm bb V q T (j + 1) w := by
  subst hL
  refine ⟨_, _, v, h, fun u hu => ?_⟩
  by_cases e : u = j
  · subst e; rw [updN_same, updN_same]; exact ⟨hx, hy⟩
  · rw [updN_other _ _ e, updN_other _ _ e]; exact h0 u (by omega)
theorem natL_yes {T : Nat → Bool} {j : Nat} (h : T j = true) : natL ((List.range j).filter T) ++ [(j : Int)] = natL ((List.range (j + 1)).filter T) := by
  unfold natL
  rw [List.range_succ, List.filter_append, List.map_append]
  simp [h]
theorem natL_no {T : Nat → Bool} {j : Nat} (h : T j = false) : natL ((List.range j).filter T) = natL ((List.range (j + 1)).filter T) := by
  unfold natL
  rw [List.range_succ, List.filter_append, List.map_append]
  simp [h]
theorem natL_len (T : Nat → Bool) (j : Nat) : (natL ((List.range j).filter T)).length ≤ j := by
  unfold natL
  rw [List.length_map]
  exact Nat.le_trans (List.length_filter_le _ _) (by simp)
theorem updN_twice {α : Type} (f : Nat → α) (v : Nat) (x y : α) : updN (updN f v x) v y = updN f v y := by
  funext u
  unfold updN
  split <;> rfl

section
variable {s0 top n : Nat} {G : Gm} {W0 w w' : World} {b7 b8 b9 bs bm bb bp bl : Nat} {V : Nat → Value} {q : Int} {T : Nat → Bool} {E E' : Nat → Nat → Bool} {h k : Nat} {D M : Nat → Int} {L : List Nat} {v : Value}
theorem Sea.dq (s : Sea s0 top n G W0 b7 b8 b9 bs bm bb bp bl V q T E h k D M L v w) : DiQ s0 top n G W0 b7 b8 b9 bs bm bb V D M (natL L) v w := ⟨s.mem, s.que, by have := s.low; omega⟩
/-- A number of the missing is lowered. -/
theorem Sea.setM (s : Sea s0 top n G W0 b7 b8 b9 bs bm bb bp bl V q T E h k D M L v w) {x : Nat} {y : Int} (hs : Srch (ownB G q) (fun v => G.X.getD v []) T n E' h k D (updN M x y) L) :
    Sea s0 top n G W0 b7 b8 b9 bs bm bb bp bl V q T E' h k D (updN M x y) L v (w.setCell ⟨bm, x, none⟩ (.int .i64 y)) ∧ (w.setCell ⟨bm, x, none⟩ (.int .i64 y)).heap[bl]? = w.heap[bl]? ∧ (w.setCell ⟨bm, x, none⟩ (.int .i64 y)).heap[bl + 1]? = w.heap[bl + 1]? := by
  obtain ⟨l1, l2, l3, l4⟩ := s.low
  have hm := s.mem.hi.2.2.2.2.1
  have hk : ∀ k, top ≤ k → (w.setCell ⟨bm, x, none⟩ (.int .i64 y)).heap[k]? = w.heap[k]? := fun k hk => set_far _ _ _ (by show k ≠ bm; omega)
  exact ⟨⟨s.mem.setM x y, (s.dq.setM x y).que, ⟨l1, l2, l3, by rw [size_set]; exact l4⟩, (World.cell?_of_block (a := ⟨bp, 0, none⟩) (hk bp (by omega))).trans s.ptr, s.nob, hs⟩, hk bl (by omega), hk (bl + 1) (by omega)⟩
/-- A position is found. -/
theorem Sea.found {w2 w3 : World} {v' : Value} {x : Nat} {y z : Int} (s : Sea s0 top n G W0 b7 b8 b9 bs bm bb bp bl V q T E h k D M L v w) (hsz : bl + 2 ≤ w.heap.size) (hw2 : w2 = (w.setCell ⟨bm, x, none⟩ (.int .i64 y)).setCell ⟨bs, x, none⟩ (.int .i64 z) ∨ w2 = ((w.setCell ⟨bm, x, none⟩ (.int .i64 y)).setCell ⟨bs, x, none⟩ (.int .i64 z)).drew)
    (hq : QuV (top + 1) top w3 (natL L ++ [(x : Int)]) v') (hb : Below top w2 w3) (hk : ∀ k, k < w2.heap.size → k ≠ top → v.ownBlock ≠ some k → w3.heap[k]? = w2.heap[k]?) (hv : v'.ownBlock = v.ownBlock ∨ ∃ b, v'.ownBlock = some b ∧ w2.heap.size ≤ b)
    (hs : Srch (ownB G q) (fun v => G.X.getD v []) T n E' h k (updN D x z) (updN M x y) (L ++ [x])) :
    Sea s0 top n G W0 b7 b8 b9 bs bm bb bp bl V q T E' h k (updN D x z) (updN M x y) (L ++ [x]) v' w3 ∧ w3.heap[bl]? = w.heap[bl]? ∧ w3.heap[bl + 1]? = w.heap[bl + 1]? := by
  obtain ⟨l1, l2, l3, l4⟩ := s.low
  have hm := s.mem.hi.2.2.2.2.1
  have hs' := s.mem.hi.2.2.2.1
  have hk2 : ∀ k, top ≤ k → w2.heap[k]? = w.heap[k]? := fun k hk => by
    rcases hw2 with rfl | rfl
    · rw [set_far _ _ _ (by show k ≠ bs; omega), set_far _ _ _ (by show k ≠ bm; omega)]
    · rw [drew_at, set_far _ _ _ (by show k ≠ bs; omega), set_far _ _ _ (by show k ≠ bm; omega)]
  have hd : DiQ s0 top n G W0 b7 b8 b9 bs bm bb V (updN D x z) (updN M x y) (natL L) v w2 := by
    rcases hw2 with rfl | rfl
    · exact (s.dq.setM x y).setD x z
    · exact ((s.dq.setM x y).setD x z).drew
  have hz : w2.heap.size = w.heap.size := by
    rcases hw2 with rfl | rfl
    · rw [size_set, size_set]
    · show (World.setCell _ _ _).heap.size = _
      rw [size_set, size_set]
  obtain ⟨h1, h2, h3⟩ := Sea.added hd.mem ⟨l1, l2, l3, by omega⟩ s.nob ((World.cell?_of_block (a := ⟨bp, 0, none⟩) (hk2 bp (by omega))).trans s.ptr) hq hd.que.own hb hk hv hs
  exact ⟨h1, h2.trans (hk2 _ (by omega)), h3.trans (hk2 _ (by omega))⟩
theorem Sea.bound (s : Sea s0 top n G W0 b7 b8 b9 bs bm bb bp bl V q T E h k D M L v w) (hl : ∀ v, (G.X.getD v []).length ≤ 64) {x : Nat} (hx : x < n) : -64 ≤ M x ∧ M x ≤ 64 ∧ -1 ≤ D x ∧ D x ≤ n := by
  have h1 := s.sea.mis x hx
  have h2 : cntE (fun v => G.X.getD v []) E x ≤ (G.X.getD x []).length := List.countP_le_length
  have h3 := hl x
  have h4 := s.sea.rng x hx
  have h5 : D x ≤ n := by
    by_cases h0 : 0 ≤ D x
    · obtain ⟨i, hi, e⟩ := in_getD ((s.sea.mem x hx).1 h0)
      have h6 := s.sea.top i hi
      have := s.sea.len
      rw [e] at h6
      omega
    · omega
  split at h1 <;> omega
end
/-- The round of y: the first u of its predecessors are done. -/
def DiB (s0 top n : Nat) (G : Gm) (W0 : World) (b7 b8 b9 bs bm bb bp bl : Nat) (V : Nat → Value) (q : Int) (T : Nat → Bool) (K : List Nat) (y : Nat) (W : World) (u : Nat) (w : World) : Prop :=
  ∃ E D M L v, Sea s0 top n G W0 b7 b8 b9 bs bm bb bp bl V q T E K.length (K.length + 1) D M L v w ∧ L.take (K.length + 1) = K ++ [y] ∧ K.length < L.length ∧ L.getD K.length 0 = y ∧
    (∀ i, i < u → E y ((preL G n y).getD i 0) = true) ∧ (∀ i, u ≤ i → i < (preL G n y).length → E y ((preL G n y).getD i 0) = false) ∧ bl + 2 ≤ w.heap.size ∧ w.heap[bl]? = W.heap[bl]? ∧ w.heap[bl + 1]? = W.heap[bl + 1]?
theorem preL_at {G : Gm} {n y u : Nat} (hu : u < (preL G n y).length) : (preL G n y).getD u 0 < n ∧ (y : Int) ∈ G.X.getD ((preL G n y).getD u 0) [] := preL_mem.1 (getD_in hu)
theorem preL_len (G : Gm) (n y : Nat) : (preL G n y).length ≤ n := nodup_len n _ (preL_nodup G n y) fun v hv => (preL_mem.1 hv).1
theorem updE_here (E : Nat → Nat → Bool) (w v : Nat) : updE E w v w v = true := by unfold updE; rw [if_pos ⟨rfl, rfl⟩]
theorem updE_keep {E : Nat → Nat → Bool} {w v u : Nat} (h : u ≠ v) : updE E w v w u = E w u := by unfold updE; rw [if_neg fun hh => h hh.2]
theorem take_snoc {L K : List Nat} {y : Nat} (hlt : K.length < L.length) (ht : L.take K.length = K) (hy : L.getD K.length 0 = y) : L.take (K.length + 1) = K ++ [y] := by
  rw [List.take_succ_eq_append_getElem hlt, ht]
  simp only [List.getD_eq_getElem?_getD, List.getElem?_eq_getElem hlt, Option.getD_some] at hy
  rw [hy]
theorem take_app {L : List Nat} {k x : Nat} (h : k ≤ L.length) : (L ++ [x]).take k = L.take k := List.take_append_of_le_length h

section
variable {s0 top n : Nat} {G : Gm} {W0 W w : World} {b7 b8 b9 bs bm bb bp bl : Nat} {V : Nat → Value} {q : Int} {T : Nat → Bool} {E : Nat → Nat → Bool} {D M : Nat → Int} {L K : List Nat} {v : Value} {y u x : Nat}
theorem upd_all (hu : u < (preL G n y).length) (hx : (preL G n y).getD u 0 = x) (h1 : ∀ i, i < u → E y ((preL G n y).getD i 0) = true) (h2 : ∀ i, u ≤ i → i < (preL G n y).length → E y ((preL G n y).getD i 0) = false) :
    (∀ i, i < u + 1 → updE E y x y ((preL G n y).getD i 0) = true) ∧ ∀ i, u + 1 ≤ i → i < (preL G n y).length → updE E y x y ((preL G n y).getD i 0) = false := by
  refine ⟨fun i hi => ?_, fun i hi hl => ?_⟩
  · by_cases e : i = u
    · subst e; rw [hx]; exact updE_here _ _ _
    · exact updE_mono (h1 i (by omega))
  · rw [updE_keep (fun e => ?_)]
    · exact h2 i (by omega) hl
    · have := getD_inj (preL_nodup G n y) hl hu (e.trans hx.symm)
      omega
theorem DiB.skip (hX : Rows1 (fun v => G.X.getD v []) n) (hs : Sea s0 top n G W0 b7 b8 b9 bs bm bb bp bl V q T E K.length (K.length + 1) D M L v w) (htk : L.take (K.length + 1) = K ++ [y]) (hlt : K.length < L.length) (hgt : L.getD K.length 0 = y)
    (h1 : ∀ i, i < u → E y ((preL G n y).getD i 0) = true) (h2 : ∀ i, u ≤ i → i < (preL G n y).length → E y ((preL G n y).getD i 0) = false) (hsz : bl + 2 ≤ w.heap.size) (l1 : w.heap[bl]? = W.heap[bl]?) (l2 : w.heap[bl + 1]? = W.heap[bl + 1]?)
    (hu : u < (preL G n y).length) (hx : (preL G n y).getD u 0 = x) (hno : M x - 1 ≠ 0 ∨ D x ≠ -1) : DiB s0 top n G W0 b7 b8 b9 bs bm bb bp bl V q T K y W (u + 1) (w.setCell ⟨bm, x, none⟩ (.int .i64 (M x - 1))) := by
  have hp := preL_at hu
  rw [hx] at hp
  have he := h2 u (Nat.le_refl _) hu
  rw [hx] at he
  obtain ⟨g1, g2, g3⟩ := hs.setM (hs.sea.skip hX hlt hgt hp.1 hp.2 he hno)
  obtain ⟨a1, a2⟩ := upd_all hu hx h1 h2
  exact ⟨_, D, _, L, v, g1, htk, hlt, hgt, a1, a2, by rw [size_set]; exact hsz, g2.trans l1, g3.trans l2⟩
theorem DiB.found {w2 w3 : World} {v' : Value} (hX : Rows1 (fun v => G.X.getD v []) n) (hs : Sea s0 top n G W0 b7 b8 b9 bs bm bb bp bl V q T E K.length (K.length + 1) D M L v w) (htk : L.take (K.length + 1) = K ++ [y]) (hlt : K.length < L.length) (hgt : L.getD K.length 0 = y)
    (h1 : ∀ i, i < u → E y ((preL G n y).getD i 0) = true) (h2 : ∀ i, u ≤ i → i < (preL G n y).length → E y ((preL G n y).getD i 0) = false) (hsz : bl + 2 ≤ w.heap.size) (l1 : w.heap[bl]? = W.heap[bl]?) (l2 : w.heap[bl + 1]? = W.heap[bl + 1]?)
    (hu : u < (preL G n y).length) (hx : (preL G n y).getD u 0 = x) (h0 : M x - 1 = 0) (hd : D x = -1)
    (hw2 : w2 = (w.setCell ⟨bm, x, none⟩ (.int .i64 (M x - 1))).setCell ⟨bs, x, none⟩ (.int .i64 (D y + 1)) ∨ w2 = ((w.setCell ⟨bm, x, none⟩ (.int .i64 (M x - 1))).setCell ⟨bs, x, none⟩ (.int .i64 (D y + 1))).drew)
    (hq : QuV (top + 1) top w3 (natL L ++ [(x : Int)]) v') (hb : Below top w2 w3) (hk : ∀ k, k < w2.heap.size → k ≠ top → v.ownBlock ≠ some k → w3.heap[k]? = w2.heap[k]?) (hv : v'.ownBlock = v.ownBlock ∨ ∃ b, v'.ownBlock = some b ∧ w2.heap.size ≤ b) :
    DiB s0 top n G W0 b7 b8 b9 bs bm bb bp bl V q T K y W (u + 1) w3 := by
  have hp := preL_at hu
  rw [hx] at hp
  have he := h2 u (Nat.le_refl _) hu
  rw [hx] at he
  obtain ⟨g1, g2, g3⟩ := hs.found hsz hw2 hq hb hk hv (hs.sea.find hX hlt hgt hp.1 hp.2 he h0 hd)
  obtain ⟨a1, a2⟩ := upd_all hu hx h1 h2
  have hz : w.heap.size ≤ w3.heap.size := by
    have := hb.size
    rcases hw2 with rfl | rfl
    · rwa [size_set, size_set] at this
    · have h3 : (World.setCell (w.setCell ⟨bm, x, none⟩ (.int .i64 (M x - 1))) ⟨bs, x, none⟩ (.int .i64 (D y + 1))).heap.size ≤ w3.heap.size := this
      rwa [size_set, size_set] at h3
  exact ⟨_, _, _, _, v', g1, by rw [take_app (by omega)]; exact htk, by rw [List.length_append]; omega, by rw [getD_app hlt]; exact hgt, a1, a2, by omega, g2.trans l1, g3.trans l2⟩
theorem DiB.whole (h : DiB s0 top n G W0 b7 b8 b9 bs bm bb bp bl V q T K y W (preL G n y).length w) : w.heap[bl]? = W.heap[bl]? ∧ w.heap[bl + 1]? = W.heap[bl + 1]? ∧
    ∃ E D M L v, Sea s0 top n G W0 b7 b8 b9 bs bm bb bp bl V q T E (K ++ [y]).length (K ++ [y]).length D M L v w ∧ L.take (K ++ [y]).length = K ++ [y] := by
  obtain ⟨E, D, M, L, v, hs, htk, hlt, hgt, h1, h2, hsz, l1, l2⟩ := h
  have hl : (K ++ [y]).length = K.length + 1 := by simp
  refine ⟨l1, l2, E, D, M, L, v, ?_, by rw [hl]; exact htk⟩
  rw [hl]
  have hall : ∀ x, x < n → ((L.getD K.length 0 : Nat) : Int) ∈ G.X.getD x [] → E (L.getD K.length 0) x = true := fun x hx hy => by
    rw [hgt] at hy ⊢
    obtain ⟨i, hi, e⟩ := in_getD (preL_mem.2 ⟨hx, hy⟩)
    rw [← e]
    exact h1 i hi
  exact { hs with sea := hs.sea.turn hall }
end

end Go.Proofs.Ytffdbncjndnnaaa.Wd
