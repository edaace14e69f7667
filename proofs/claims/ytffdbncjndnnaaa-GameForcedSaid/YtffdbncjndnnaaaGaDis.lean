/-
  distances of package game: the memory of the search, and what holds while the region that makes it runs.
-/
import Derived.Test.YtffdbncjndnnaaaGaQueue
import Derived.Test.YtffdbncjndnnaaaGaDrawn
namespace Go.Proofs.Ytffdbncjndnnaaa.Wd
open Go.RowKit
set_option linter.unusedVariables false
set_option linter.unusedSimpArgs false

/-- The rows of predecessors, in blocks from lo to hi that are none of no. -/
def PreAt (w : World) (lo hi : Nat) (no : Nat → Prop) (G : Gm) (n : Nat) (V : Nat → Value) : Prop :=
  ∀ s, s < n → ∃ A c, V s = .slice A (preL G n s).length c ∧
    (0 < (preL G n s).length → ∃ b off, A = some ⟨b, off, none⟩ ∧ lo ≤ b ∧ b < hi ∧ ¬ no b ∧ ∀ u, u < (preL G n s).length → w.cell? ⟨b, off + u, none⟩ = some (.int .i64 ((preL G n s).getD u 0 : Nat)))
theorem PreAt.kept {w w' : World} {lo hi hi' : Nat} {no no' : Nat → Prop} {G : Gm} {n : Nat} {V : Nat → Value} (h : PreAt w lo hi no G n V) (hh : hi ≤ hi') (hno : ∀ b, lo ≤ b → b < hi → ¬ no b → ¬ no' b) (hk : ∀ k, lo ≤ k → k < hi → ¬ no k → w'.heap[k]? = w.heap[k]?) : PreAt w' lo hi' no' G n V := fun s hs => by
  obtain ⟨A, c, hv, hx⟩ := h s hs
  refine ⟨A, c, hv, fun hp => ?_⟩
  obtain ⟨b, off, e, h1, h2, h3, h4⟩ := hx hp
  exact ⟨b, off, e, h1, by omega, hno b h1 h2 h3, fun u hu => (World.cell?_of_block (a := ⟨b, off + u, none⟩) (hk b h1 h2 h3)).trans (h4 u hu)⟩
theorem PreAt.of_fam {w : World} {B n : Nat} {G : Gm} {V : Nat → Value} (hnd : ∀ v, v < n → (G.X.getD v []).Nodup) (h : Fam B n w V (fun _ => 3) (fun s => (preT G n 0 s).map (Value.int .i64))) : PreAt w B w.heap.size (fun _ => False) G n V := fun s hs => by
  have hown := h.own s hs
  rw [preT_list hnd s] at hown
  rw [List.length_map, List.length_map] at hown
  obtain ⟨A, c, hv, _⟩ := own_slice hown
  refine ⟨A, c, hv, fun hp => ?_⟩
  rw [hv] at hown
  obtain ⟨g, cap, hg, h1, h2⟩ := hown.form hp
  obtain ⟨b, off, e, _, hc⟩ := (Ints.of_own hown).2 hp
  have hb : b = g := by injection hg with hg; rw [e] at hg; injection hg with hg; injection hg
  refine ⟨b, off, e, by omega, by omega, fun h => h, fun u hu => ?_⟩
  rw [hc u hu]
  simp [List.getD_eq_getElem?_getD, hu]

/-- A box, where its row is. -/
def boxOf (i j : Nat) (t : TypeId) : Prop := (i = 9 ∧ j = 2 ∧ t = 22) ∨ (i = 10 ∧ j = 5 ∧ t = 22) ∨ (i = 11 ∧ j = 8 ∧ t = 23)
/-- What has come up of the region: the two rows (2, 5), the predecessors (8), the boxes (9, 10, 11), the stores into them (12, 13, 14). -/
structure Bx (s0 n : Nat) (G : Gm) (W0 : World) (on : Nat → Bool) (val : Nat → Value) (w : World) (blk : Nat → Nat) : Prop where
  below : Below s0 W0 w
  size : s0 ≤ w.heap.size
  dist : ∀ i j, i < 12 → j < 12 → on i = true → on j = true → i ≠ j → blk i ≠ blk j
  rng : ∀ i, i < 12 → on i = true → s0 ≤ blk i ∧ blk i < w.heap.size
  row : ∀ i, i = 2 ∨ i = 5 → on i = true → val i = .slice (some ⟨blk i, 0, none⟩) n n ∧ w.rowIs (blk i) 3 n (fun _ => .int .i64 0)
  pre : on 8 = true → val 8 = .slice (some ⟨blk 8, 0, none⟩) n n ∧ ∃ V, w.rowIs (blk 8) 22 n V ∧ PreAt w s0 w.heap.size (fun b => ∃ i, i < 12 ∧ on i = true ∧ b = blk i) G n V
  box : ∀ i j t, boxOf i j t → on i = true → val i = .pointer (some ⟨blk i, 0, none⟩) ∧ w.heap[blk i]? = some (.cells #[if on (i + 3) = true then val j else .slice none 0 0] t (0, 0))
  ord : ∀ i j t, boxOf i j t → on (i + 3) = true → on i = true ∧ on j = true

section
variable {s0 n : Nat} {G : Gm} {W0 w w' : World} {on : Nat → Bool} {val : Nat → Value} {blk : Nat → Nat}
theorem Bx.zero (w : World) (val : Nat → Value) : Bx w.heap.size n G w (fun _ => false) val w (fun _ => 0) :=
  ⟨Below.refl _ _, Nat.le_refl _, fun _ _ _ _ h => Bool.noConfusion h, fun _ _ h => Bool.noConfusion h, fun _ _ h => Bool.noConfusion h, fun h => Bool.noConfusion h, fun _ _ _ _ h => Bool.noConfusion h, fun _ _ _ _ h => Bool.noConfusion h⟩
/-- One of those that lay memory comes up. -/
theorem Bx.more (h : Bx s0 n G W0 on val w blk) (hb : Below w.heap.size w w') (hlt : w.heap.size < w'.heap.size) {i : Nat} {v : Value} (hi : i < 12) (hoff : on i = false)
    (hrow : i = 2 ∨ i = 5 → v = .slice (some ⟨w.heap.size, 0, none⟩) n n ∧ w'.rowIs w.heap.size 3 n (fun _ => .int .i64 0))
    (hpre : i = 8 → v = .slice (some ⟨w.heap.size, 0, none⟩) n n ∧ ∃ V, w'.rowIs w.heap.size 22 n V ∧ PreAt w' (w.heap.size + 1) w'.heap.size (fun _ => False) G n V)
    (hbox : ∀ j t, boxOf i j t → v = .pointer (some ⟨w.heap.size, 0, none⟩) ∧ w'.heap[w.heap.size]? = some (.cells #[.slice none 0 0] t (0, 0))) :
    Bx s0 n G W0 (updN on i true) (updN val i v) w' (updN blk i w.heap.size) := by
  have hs := h.size
  have hne : ∀ {j}, on j = true → j ≠ i := fun hj e => by rw [e, hoff] at hj; cases hj
  have hon : ∀ {j}, j ≠ i → updN on i true j = true → on j = true := fun hj h => by rwa [updN_other _ _ hj] at h
  refine ⟨h.below.trans (hb.mono hs), by omega, fun k j hk hj ok oj hkj => ?_, fun k hk ok => ?_, fun k hk ok => ?_, fun o8 => ?_, fun k j t hk ok => ?_, fun k j t hk ok => ?_⟩
  · by_cases e : k = i
    · subst e
      rw [updN_same, updN_other _ _ (Ne.symm hkj)]
      have := h.rng j hj (hon (Ne.symm hkj) oj)
      omega
    · by_cases e2 : j = i
      · subst e2
        rw [updN_same, updN_other _ _ e]
        have := h.rng k hk (hon e ok)
        omega
      · rw [updN_other _ _ e, updN_other _ _ e2]
        exact h.dist k j hk hj (hon e ok) (hon e2 oj) hkj
  · by_cases e : k = i
    · subst e; rw [updN_same]; omega
    · rw [updN_other _ _ e]
      have := h.rng k hk (hon e ok)
      omega
  · by_cases e : k = i
    · subst e; rw [updN_same, updN_same]; exact hrow hk
    · rw [updN_other _ _ e, updN_other _ _ e]
      obtain ⟨h1, h2⟩ := h.row k hk (hon e ok)
      exact ⟨h1, h2.of_block (hb.block _ (h.rng k (by omega) (hon e ok)).2)⟩
  · by_cases e : 8 = i
    · subst e
      rw [updN_same, updN_same]
      obtain ⟨h1, V, h2, h3⟩ := hpre rfl
      refine ⟨h1, V, h2, fun s hsn => ?_⟩
      obtain ⟨A, c, hv, hx⟩ := h3 s hsn
      refine ⟨A, c, hv, fun hp => ?_⟩
      obtain ⟨b, off, e, g1, g2, _, g4⟩ := hx hp
      refine ⟨b, off, e, by omega, g2, ?_, g4⟩
      rintro ⟨k, hk, ok, rfl⟩
      by_cases e2 : k = 8
      · subst e2; rw [updN_same] at g1; omega
      · rw [updN_other _ _ e2] at g1
        have := h.rng k hk (hon e2 ok)
        omega
    · rw [updN_other _ _ e, updN_other _ _ e]
      obtain ⟨h1, V, h2, h3⟩ := h.pre (hon e o8)
      refine ⟨h1, V, h2.of_block (hb.block _ (h.rng 8 (by omega) (hon e o8)).2), h3.kept (by omega) (fun b hb1 hb2 hb3 => ?_) (fun k _ h2 _ => hb.block k h2)⟩
      rintro ⟨k, hk, ok, rfl⟩
      by_cases e2 : k = i
      · subst e2; rw [updN_same] at hb2; omega
      · rw [updN_other _ _ e2] at hb3
        exact hb3 ⟨k, hk, hon e2 ok, rfl⟩
  · have hk3 : updN on i true (k + 3) = on (k + 3) := updN_other _ _ (by unfold boxOf at hk; omega)
    rw [hk3]
    by_cases e : k = i
    · subst e
      have hno : ¬ on (k + 3) = true := fun h3 => by rw [(h.ord k j t hk h3).1] at hoff; cases hoff
      rw [if_neg hno, updN_same, updN_same]
      exact hbox j t hk
    · rw [updN_other _ _ e, updN_other _ _ e]
      obtain ⟨h1, h2⟩ := h.box k j t hk (hon e ok)
      refine ⟨h1, (hb.block _ (h.rng k (by unfold boxOf at hk; omega) (hon e ok)).2).trans (h2.trans ?_)⟩
      by_cases h3 : on (k + 3) = true
      · rw [if_pos h3, if_pos h3, updN_other _ _ (hne (h.ord k j t hk h3).2)]
      · rw [if_neg h3, if_neg h3]
  · have hk3 : updN on i true (k + 3) = on (k + 3) := updN_other _ _ (by unfold boxOf at hk; omega)
    rw [hk3] at ok
    obtain ⟨h1, h2⟩ := h.ord k j t hk ok
    rw [updN_other _ _ (hne h1), updN_other _ _ (hne h2)]
    exact ⟨h1, h2⟩

/-- A row is stored into its box. -/
theorem Bx.put (h : Bx s0 n G W0 on val w blk) {i j : Nat} {t : TypeId} (hi : boxOf i j t) (h1 : on i = true) (h2 : on j = true) : Bx s0 n G W0 (updN on (i + 3) true) val (w.setCell ⟨blk i, 0, none⟩ (val j)) blk := by
  have hi12 : i < 12 ∧ 9 ≤ i := by unfold boxOf at hi; omega
  have hlow : ∀ k, k < 12 → updN on (i + 3) true k = on k := fun k hk => updN_other _ _ (by omega)
  have hr := h.rng i hi12.1 h1
  have hfar : ∀ k, k ≠ blk i → (w.setCell ⟨blk i, 0, none⟩ (val j)).heap[k]? = w.heap[k]? := fun k hk => set_far _ _ _ hk
  have hapart : ∀ k, k < 12 → on k = true → k ≠ i → blk k ≠ blk i := fun k hk ok hki => h.dist k i hk hi12.1 ok h1 hki
  refine ⟨h.below.setCell (by exact hr.1) _, by rw [size_set]; exact h.size, fun k l hk hl ok ol hkl => ?_, fun k hk ok => ?_, fun k hk ok => ?_, fun o8 => ?_, fun k l t' hk ok => ?_, fun k l t' hk ok => ?_⟩
  · rw [hlow k hk] at ok; rw [hlow l hl] at ol; exact h.dist k l hk hl ok ol hkl
  · rw [hlow k hk] at ok; rw [size_set]; exact h.rng k hk ok
  · rw [hlow k (by omega)] at ok
    obtain ⟨g1, g2⟩ := h.row k hk ok
    exact ⟨g1, g2.of_block (hfar _ (hapart k (by omega) ok (by omega)))⟩
  · rw [hlow 8 (by omega)] at o8
    obtain ⟨g1, V, g2, g3⟩ := h.pre o8
    refine ⟨g1, V, g2.of_block (hfar _ (hapart 8 (by omega) o8 (by omega))), g3.kept (by rw [size_set]; exact Nat.le_refl _) (fun b _ _ hb => ?_) (fun k _ _ hk => hfar k (fun e => hk ⟨i, hi12.1, h1, e⟩))⟩
    rintro ⟨k, hk, ok, rfl⟩
    rw [hlow k hk] at ok
    exact hb ⟨k, hk, ok, rfl⟩
  · have hk12 : k < 12 ∧ 9 ≤ k := by unfold boxOf at hk; omega
    rw [hlow k hk12.1] at ok
    obtain ⟨g1, g2⟩ := h.box k l t' hk ok
    refine ⟨g1, ?_⟩
    by_cases e : k = i
    · subst e
      have hl : l = j := by unfold boxOf at hk hi; omega
      subst hl
      rw [updN_same, if_pos rfl]
      simp [World.setCell, Array.getElem?_modify, g2]
    · rw [updN_other _ _ (show k + 3 ≠ i + 3 by omega)]
      exact (hfar _ (hapart k hk12.1 ok e)).trans g2
  · by_cases e : k = i
    · subst e
      have hl : l = j := by unfold boxOf at hk hi; omega
      subst hl
      rw [hlow k hi12.1, hlow l (by unfold boxOf at hk; omega)]
      exact ⟨h1, h2⟩
    · rw [updN_other _ _ (show k + 3 ≠ i + 3 by omega)] at ok
      have := h.ord k l t' hk ok
      rw [hlow k (by unfold boxOf at hk; omega), hlow l (by unfold boxOf at hk; omega)]
      exact this
end

/-- The memory of the search. -/
structure DiM (s0 top n : Nat) (G : Gm) (W0 : World) (b7 b8 b9 bs bm bb : Nat) (V : Nat → Value) (D M : Nat → Int) (w : World) : Prop where
  below : Below s0 W0 w
  lo : s0 ≤ b7 ∧ s0 ≤ b8 ∧ s0 ≤ b9 ∧ s0 ≤ bs ∧ s0 ≤ bm ∧ s0 ≤ bb
  hi : b7 < top ∧ b8 < top ∧ b9 < top ∧ bs < top ∧ bm < top ∧ bb < top
  ne : bs ≠ bm ∧ b7 ≠ bs ∧ b7 ≠ bm ∧ b8 ≠ bs ∧ b8 ≠ bm ∧ b9 ≠ bs ∧ b9 ≠ bm ∧ bb ≠ bs ∧ bb ≠ bm
  c7 : w.heap[b7]? = some (.cells #[.slice (some ⟨bs, 0, none⟩) n n] 22 (0, 0))
  c8 : w.heap[b8]? = some (.cells #[.slice (some ⟨bm, 0, none⟩) n n] 22 (0, 0))
  c9 : w.heap[b9]? = some (.cells #[.slice (some ⟨bb, 0, none⟩) n n] 23 (0, 0))
  rs : w.rowIs bs 3 n (fun i => .int .i64 (D i))
  rm : w.rowIs bm 3 n (fun i => .int .i64 (M i))
  rb : w.rowIs bb 22 n V
  pre : PreAt w s0 top (fun b => b = bs ∨ b = bm) G n V

theorem Bx.whole {s0 n : Nat} {G : Gm} {W0 w : World} {on : Nat → Bool} {val : Nat → Value} {blk : Nat → Nat} (h : Bx s0 n G W0 on val w blk) (hall : ∀ i, i = 2 ∨ i = 5 ∨ 8 ≤ i ∧ i ≤ 14 → on i = true) :
    val 9 = .pointer (some ⟨blk 9, 0, none⟩) ∧ val 10 = .pointer (some ⟨blk 10, 0, none⟩) ∧ val 11 = .pointer (some ⟨blk 11, 0, none⟩) ∧ ∃ V, DiM s0 w.heap.size n G W0 (blk 9) (blk 10) (blk 11) (blk 2) (blk 5) (blk 8) V (fun _ => 0) (fun _ => 0) w := by
  have o2 := hall 2 (by omega)
  have o5 := hall 5 (by omega)
  have o8 := hall 8 (by omega)
  have o9 := hall 9 (by omega)
  have o10 := hall 10 (by omega)
  have o11 := hall 11 (by omega)
  obtain ⟨x9, y9⟩ := h.box 9 2 _ (.inl ⟨rfl, rfl, rfl⟩) o9
  obtain ⟨x10, y10⟩ := h.box 10 5 _ (.inr (.inl ⟨rfl, rfl, rfl⟩)) o10
  obtain ⟨x11, y11⟩ := h.box 11 8 _ (.inr (.inr ⟨rfl, rfl, rfl⟩)) o11
  obtain ⟨x2, y2⟩ := h.row 2 (.inl rfl) o2
  obtain ⟨x5, y5⟩ := h.row 5 (.inr rfl) o5
  obtain ⟨x8, V, y8, z8⟩ := h.pre o8
  rw [if_pos (hall 12 (by omega)), x2] at y9
  rw [if_pos (hall 13 (by omega)), x5] at y10
  rw [if_pos (hall 14 (by omega)), x8] at y11
  have r2 := h.rng 2 (by omega) o2
  have r5 := h.rng 5 (by omega) o5
  have r8 := h.rng 8 (by omega) o8
  have r9 := h.rng 9 (by omega) o9
  have r10 := h.rng 10 (by omega) o10
  have r11 := h.rng 11 (by omega) o11
  refine ⟨x9, x10, x11, V, h.below, ⟨r9.1, r10.1, r11.1, r2.1, r5.1, r8.1⟩, ⟨r9.2, r10.2, r11.2, r2.2, r5.2, r8.2⟩, ⟨h.dist 2 5 (by omega) (by omega) o2 o5 (by omega), h.dist 9 2 (by omega) (by omega) o9 o2 (by omega), h.dist 9 5 (by omega) (by omega) o9 o5 (by omega), h.dist 10 2 (by omega) (by omega) o10 o2 (by omega), h.dist 10 5 (by omega) (by omega) o10 o5 (by omega), h.dist 11 2 (by omega) (by omega) o11 o2 (by omega), h.dist 11 5 (by omega) (by omega) o11 o5 (by omega), h.dist 8 2 (by omega) (by omega) o8 o2 (by omega), h.dist 8 5 (by omega) (by omega) o8 o5 (by omega)⟩, y9, y10, y11, y2, y5, y8, z8.kept (Nat.le_refl _) (fun b _ _ hb => ?_) (fun _ _ _ _ => rfl)⟩
  rintro (rfl | rfl)
  · exact hb ⟨2, by omega, o2, rfl⟩
  · exact hb ⟨5, by omega, o5, rfl⟩

section
variable {s0 top n : Nat} {G : Gm} {W0 w w' : World} {b7 b8 b9 bs bm bb : Nat} {V : Nat → Value} {D M : Nat → Int}
/-- What is no row of the search stays. -/
theorem DiM.kept (h : DiM s0 top n G W0 b7 b8 b9 bs bm bb V D M w) (hb : Below s0 w w') (hk : ∀ k, s0 ≤ k → k < top → w'.heap[k]? = w.heap[k]?) : DiM s0 top n G W0 b7 b8 b9 bs bm bb V D M w' := by
  obtain ⟨l7, l8, l9, ls, lm, lb⟩ := h.lo
  obtain ⟨u7, u8, u9, us, um, ub⟩ := h.hi
  exact ⟨h.below.trans hb, h.lo, h.hi, h.ne, (hk _ l7 u7).trans h.c7, (hk _ l8 u8).trans h.c8, (hk _ l9 u9).trans h.c9, h.rs.of_block (hk _ ls us), h.rm.of_block (hk _ lm um), h.rb.of_block (hk _ lb ub), h.pre.kept (Nat.le_refl _) (fun _ _ _ h => h) (fun k h1 h2 _ => hk k h1 h2)⟩
theorem DiM.setD (h : DiM s0 top n G W0 b7 b8 b9 bs bm bb V D M w) (v : Nat) (x : Int) : DiM s0 top n G W0 b7 b8 b9 bs bm bb V (updN D v x) M (w.setCell ⟨bs, v, none⟩ (.int .i64 x)) := by
  obtain ⟨n1, n2, n3, n4, n5, n6, n7, n8, n9⟩ := h.ne
  have hk : ∀ k, k ≠ bs → (w.setCell ⟨bs, v, none⟩ (.int .i64 x)).heap[k]? = w.heap[k]? := fun k hk => set_far _ _ _ hk
  refine ⟨h.below.setCell (by exact h.lo.2.2.2.1) _, h.lo, h.hi, h.ne, (hk _ n2).trans h.c7, (hk _ n4).trans h.c8, (hk _ n6).trans h.c9, (h.rs.set v _).congr fun i _ => ?_, h.rm.of_block (hk _ (Ne.symm n1)), h.rb.of_block (hk _ n8), h.pre.kept (Nat.le_refl _) (fun _ _ _ h => h) (fun k _ _ h3 => hk k fun e => h3 (.inl e))⟩
  unfold updN
  split <;> rfl
theorem DiM.setM (h : DiM s0 top n G W0 b7 b8 b9 bs bm bb V D M w) (v : Nat) (x : Int) : DiM s0 top n G W0 b7 b8 b9 bs bm bb V D (updN M v x) (w.setCell ⟨bm, v, none⟩ (.int .i64 x)) := by
  obtain ⟨n1, n2, n3, n4, n5, n6, n7, n8, n9⟩ := h.ne
  have hk : ∀ k, k ≠ bm → (w.setCell ⟨bm, v, none⟩ (.int .i64 x)).heap[k]? = w.heap[k]? := fun k hk => set_far _ _ _ hk
  refine ⟨h.below.setCell (by exact h.lo.2.2.2.2.1) _, h.lo, h.hi, h.ne, (hk _ n3).trans h.c7, (hk _ n5).trans h.c8, (hk _ n7).trans h.c9, h.rs.of_block (hk _ n1), (h.rm.set v _).congr fun i _ => ?_, h.rb.of_block (hk _ n9), h.pre.kept (Nat.le_refl _) (fun _ _ _ h => h) (fun k _ _ h3 => hk k fun e => h3 (.inr e))⟩
  unfold updN
  split <;> rfl
end

end Go.Proofs.Ytffdbncjndnnaaa.Wd
