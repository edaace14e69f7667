/-
  A family of rows of one's own, each in a block of its own: what append does to one of them.
-/
import Derived.Test.YtffdbncjndnnaaaGaDual
import Derived.Test.YtffdbncjndnnaaaWdAppend
namespace Go.Proofs.Ytffdbncjndnnaaa.Wd
open Go.RowKit
set_option linter.unusedVariables false

/-- The two lie in different blocks (or the first has none). -/
def Apt (v v' : Value) : Prop := v.ownBlock = none ∨ v.ownBlock ≠ v'.ownBlock
theorem Apt.symm {v v' : Value} (h : Apt v v') : Apt v' v := by
  rcases h with h | h
  · by_cases h' : v'.ownBlock = none
    · exact .inl h'
    · exact .inr (by rw [h]; exact h')
  · exact .inr (Ne.symm h)
theorem own_keep {w w' : World} {B e k n : Nat} {v : Value} {xs : List Value} (h : w.ownsRow B e k v n xs) (hb : Below w.heap.size w w') : w'.ownsRow B e k v n xs := by
  refine ⟨h.1, h.2.imp id ?_⟩
  rintro ⟨g, cap, cur, rfl, h1, h2, h3, h4, h5, h6⟩
  exact ⟨g, cap, cur, rfl, h1, (hb.block g (Array.getElem?_eq_some_iff.1 h2).1).trans h2, h3, h4, h5, h6⟩
theorem own_mono {w : World} {B B' e k n : Nat} {v : Value} {xs : List Value} (h : w.ownsRow B e k v n xs) (hb : B' ≤ B) : w.ownsRow B' e k v n xs := by
  refine ⟨h.1, h.2.imp id ?_⟩
  rintro ⟨g, cap, cur, rfl, h1, h2⟩
  exact ⟨g, cap, cur, rfl, by omega, h2⟩
theorem apt_old {w : World} {B e k n : Nat} {v : Value} {xs : List Value} (h : w.ownsRow B e k v n xs) {b : Nat} (hb : v.ownBlock = some b) : B ≤ b ∧ b < w.heap.size := h.lt b hb
theorem apt_grow {w w2 : World} {B e' k n' : Nat} {v v' v2 : Value} {xs' : List Value} (h' : w.ownsRow B e' k v' n' xs') (hne : Apt v' v) (hg : w.grownBy w2 v.ownBlock) (h2 : v2.ownBlock = v.ownBlock ∨ v2.ownBlock = some w.heap.size) :
    w2.ownsRow B e' k v' n' xs' ∧ Apt v' v2 := by
  refine ⟨h'.kept hg hne, ?_⟩
  rcases h2 with h2 | h2
  · show v'.ownBlock = none ∨ v'.ownBlock ≠ v2.ownBlock
    rw [h2]
    exact hne
  · by_cases h0 : v'.ownBlock = none
    · exact .inl h0
    · refine .inr fun h3 => ?_
      have := (apt_old h' (h3.trans h2)).2
      omega
/-- A store below the base leaves a row of one's own. -/
theorem own_put {w : World} {B e k n : Nat} {v : Value} {xs : List Value} (h : w.ownsRow B e k v n xs) {a : Addr} (ha : a.block < B) (u : Value) : (w.setCell a u).ownsRow B e k v n xs := by
  refine ⟨h.1, h.2.imp id ?_⟩
  rintro ⟨g, cap, cur, rfl, h1, h2, h3, h4, h5, h6⟩
  exact ⟨g, cap, cur, rfl, h1, (set_far _ _ _ (by omega)).trans h2, h3, h4, h5, h6⟩

theorem own_put' {w : World} {B e k n : Nat} {v : Value} {xs : List Value} (h : w.ownsRow B e k v n xs) {a : Addr} (ha : v.ownBlock ≠ some a.block) (u : Value) : (w.setCell a u).ownsRow B e k v n xs := by
  refine ⟨h.1, h.2.imp id ?_⟩
  rintro ⟨g, cap, cur, rfl, h1, h2, h3, h4, h5, h6⟩
  exact ⟨g, cap, cur, rfl, h1, (set_far _ _ _ (fun e => ha (by show some g = some a.block; rw [e]))).trans h2, h3, h4, h5, h6⟩

/-- N rows of one's own, each in a block of its own: row s has elements of type T s and the cells L s. -/
structure Fam (B N : Nat) (w : World) (V : Nat → Value) (T : Nat → TypeId) (L : Nat → List Value) : Prop where
  own : ∀ s, s < N → w.ownsRow B (T s) 1 (V s) (L s).length (L s)
  apt : ∀ s s', s < N → s' < N → s ≠ s' → Apt (V s) (V s')
def atV {α : Type} (V : Nat → α) (f : Nat) (v : α) (j : Nat) : α := if j = f then v else V j
theorem atV_same {α : Type} (V : Nat → α) (f : Nat) (v : α) : atV V f v f = v := if_pos rfl
theorem atV_other {α : Type} (V : Nat → α) {f j : Nat} (v : α) (h : j ≠ f) : atV V f v j = V j := if_neg h
section
variable {B N f : Nat} {w w' : World} {V : Nat → Value} {T : Nat → TypeId} {L : Nat → List Value}
theorem Fam.below (h : Fam B N w V T L) (hb : Below w.heap.size w w') : Fam B N w' V T L := ⟨fun s hs => own_keep (h.own s hs) hb, h.apt⟩
theorem Fam.put (h : Fam B N w V T L) {a : Addr} (ha : a.block < B) (v : Value) : Fam B N (w.setCell a v) V T L := ⟨fun s hs => own_put (h.own s hs) ha v, h.apt⟩
theorem Fam.put' (h : Fam B N w V T L) {a : Addr} (ha : ∀ s, s < N → (V s).ownBlock ≠ some a.block) (v : Value) : Fam B N (w.setCell a v) V T L := ⟨fun s hs => own_put' (h.own s hs) (ha s hs) v, h.apt⟩
theorem Fam.drew (h : Fam B N w V T L) : Fam B N w.drew V T L := ⟨fun s hs => (h.own s hs).drew, h.apt⟩
theorem Fam.grow {v' : Value} {l : List Value} (h : Fam B N w V T L) (hf : f < N) (hown : w'.ownsRow B (T f) 1 v' l.length l) (hg : w.grownBy w' (V f).ownBlock) (hat : v'.ownBlock = (V f).ownBlock ∨ v'.ownBlock = some w.heap.size) :
    Fam B N w' (atV V f v') T (atV L f l) := by
  refine ⟨fun s hs => ?_, fun s s' hs hs' hne => ?_⟩
  · by_cases e : s = f
    · subst e; rw [atV_same, atV_same]; exact hown
    · rw [atV_other _ _ e, atV_other _ _ e]; exact (apt_grow (h.own s hs) (h.apt s f hs hf e) hg hat).1
  · by_cases e : s = f
    · subst e
      rw [atV_same, atV_other _ _ (fun e' => hne e'.symm)]
      exact (apt_grow (h.own s' hs') (h.apt s' s hs' hs (fun e' => hne e'.symm)) hg hat).2.symm
    · rw [atV_other _ _ e]
      by_cases e' : s' = f
      · subst e'; rw [atV_same]; exact (apt_grow (h.own s hs) (h.apt s s' hs hs' e) hg hat).2
      · rw [atV_other _ _ e']; exact h.apt s s' hs hs' hne
/-- A new row, in a block that was not there (or without one). -/
theorem Fam.add {v' : Value} {l : List Value} (h : Fam B N w V T L) (hT : T N = f) (hown : w.ownsRow B f 1 v' l.length l) (hap : ∀ s, s < N → Apt (V s) v') :
    Fam B (N + 1) w (atV V N v') T (atV L N l) := by
  refine ⟨fun s hs => ?_, fun s s' hs hs' hne => ?_⟩
  · by_cases e : s = N
    · subst e; rw [atV_same, atV_same, hT]; exact hown
    · rw [atV_other _ _ e, atV_other _ _ e]; exact h.own s (by omega)
  · by_cases e : s = N
    · subst e
      rw [atV_same, atV_other _ _ (fun e' => hne e'.symm)]
      exact (hap s' (by omega)).symm
    · rw [atV_other _ _ e]
      by_cases e' : s' = N
      · subst e'; rw [atV_same]; exact hap s (by omega)
      · rw [atV_other _ _ e']; exact h.apt s s' (by omega) (by omega) hne
theorem Fam.congr {V' : Nat → Value} {L' : Nat → List Value} (h : Fam B N w V T L) (hv : ∀ s, s < N → V s = V' s) (hl : ∀ s, s < N → L s = L' s) : Fam B N w V' T L' :=
  ⟨fun s hs => by rw [← hv s hs, ← hl s hs]; exact h.own s hs, fun s s' hs hs' hne => by rw [← hv s hs, ← hv s' hs']; exact h.apt s s' hs hs' hne⟩
end
/-- A row that is new, against one that was there. -/
theorem apt_new {w : World} {B e k n : Nat} {v v' : Value} {xs : List Value} (h : w.ownsRow B e k v n xs) (hn : v'.ownBlock = none ∨ ∃ b, v'.ownBlock = some b ∧ w.heap.size ≤ b) : Apt v v' := by
  by_cases h0 : v.ownBlock = none
  · exact .inl h0
  · refine .inr fun e => ?_
    rcases hn with hn | ⟨b, hb, hle⟩
    · exact h0 (e.trans hn)
    · have := (apt_old h (e.trans hb)).2
      omega

theorem set_le {w : World} {B : Nat} (h : B ≤ w.heap.size) (a : Addr) (v : Value) : B ≤ (w.setCell a v).heap.size := by simpa [World.setCell] using h
section
variable {P : Program} (w : World)
/-- append of values of one cell each, as a step of a region that draws its order. -/
theorem step_append_vals {ops : Array Oper} {o : Oper} {a : Act} {K : Act → World → Prop} {Q : Exit → Act → World → Prop} {E : Prop} (hgd : o.guard = none) (s x : Operand) (t : TypeId)
    (ho : o.op = .call { callee := .builtin .append, args := #[s, x], argTypes := #[t, t] })
    (base : Nat) (e : TypeId) (bytes : Nat) (i : TypeInfo) (z : Value) (ht : P.underlying t = some (.slice e)) (hi : P.info? e = some i) (hz : i.zero = some z)
    (hsize : i.size = 1) (hby : i.bytes = bytes) (hb1 : bytes ≤ 1000) (hzs : z.cells.size = 1)
    (v : Value) (n : Nat) (xs : List Value) (hs : a.eval s = v) (hown : w.ownsRow base e 1 v n xs)
    (ad : Addr) (m c : Nat) (ys : List Value) (hx : a.eval x = .slice (some ad) m c) (hl : ys.length = m) (hnews : ∀ j u, ys[j]? = some u → w.cell? (ad.add j) = some u) (h1 : ∀ u ∈ ys, u.oneCell' = true) (hn : n + m ≤ 1000000) (hbase : base ≤ w.heap.size)
    (h : ∀ v' w', w'.ownsRow base e 1 v' (n + m) (xs ++ ys) → w.grownBy w' v.ownBlock → (v'.ownBlock = v.ownBlock ∨ v'.ownBlock = some w.heap.size) → K (a.put o.dst v') w') :
    if Region.wanted o (yielded ops a.tmps) = true then Oper.wp P o a w K Q else E := by
  have hw : Region.wanted o (yielded ops a.tmps) = true := by simp [Region.wanted, hgd]
  rw [if_pos hw]
  obtain ⟨v', w', hrun, h2, h3, _, h5⟩ := run_append_own_at (P := P) w base t o.type e i z 1 bytes ht hi hz hsize hby hzs (by omega) v n xs hown ad m c ys (by simpa using hl) hnews h1 (by unfold maxLen; omega) (by
    have : (n + m) * bytes ≤ 1000000 * 1000 := Nat.mul_le_mul hn hb1
    omega) hbase
  unfold Oper.wp execOp
  simp only [ho, resolve, invoke, builtin, Sem.run_bind, Sem.run_pure, Result.andThen_ok, List.map_toArray, List.map_cons, List.map_nil, hs, hx, hrun]
  exact h v' w' h2 h3 h5
end
section
variable {P : Program} (w : World)
/-- append of values of one cell each, as a step of a list of operations. -/
theorem wpList_append_vals {ops : Array Oper} {rest : List Oper} {o : Oper} {a : Act} {Q : Exit → Act → World → Prop} (hgd : o.guard = none) (s x : Operand) (t : TypeId)
    (ho : o.op = .call { callee := .builtin .append, args := #[s, x], argTypes := #[t, t] })
    (base : Nat) (e : TypeId) (bytes : Nat) (i : TypeInfo) (z : Value) (ht : P.underlying t = some (.slice e)) (hi : P.info? e = some i) (hz : i.zero = some z)
    (hsize : i.size = 1) (hby : i.bytes = bytes) (hb1 : bytes ≤ 1000) (hzs : z.cells.size = 1)
    (v : Value) (n : Nat) (xs : List Value) (hs : a.eval s = v) (hown : w.ownsRow base e 1 v n xs)
    (ad : Addr) (m c : Nat) (ys : List Value) (hx : a.eval x = .slice (some ad) m c) (hl : ys.length = m) (hnews : ∀ j u, ys[j]? = some u → w.cell? (ad.add j) = some u) (h1 : ∀ u ∈ ys, u.oneCell' = true) (hn : n + m ≤ 1000000) (hbase : base ≤ w.heap.size)
    (h : ∀ v' w', w'.ownsRow base e 1 v' (n + m) (xs ++ ys) → w.grownBy w' v.ownBlock → (v'.ownBlock = v.ownBlock ∨ v'.ownBlock = some w.heap.size) → wpList P ops Q rest (a.put o.dst v') w') : wpList P ops Q (o :: rest) a w := by
  obtain ⟨v', w', hrun, h2, h3, _, h5⟩ := run_append_own_at (P := P) w base t o.type e i z 1 bytes ht hi hz hsize hby hzs (by omega) v n xs hown ad m c ys (by simpa using hl) hnews h1 (by unfold maxLen; omega) (by
    have : (n + m) * bytes ≤ 1000000 * 1000 := Nat.mul_le_mul hn hb1
    omega) hbase
  refine wpList_plain hgd fun _ hK => ?_
  unfold Oper.wp execOp
  simp only [ho, resolve, invoke, builtin, Sem.run_bind, Sem.run_pure, Result.andThen_ok, List.map_toArray, List.map_cons, List.map_nil, hs, hx, hrun]
  exact hK _ _ (h v' w' h2 h3 h5)
end
theorem val_new (w : World) (x : Value) (t : TypeId) : ∀ j u, [x][j]? = some u → (w.alloc (.cells #[x] t)).cell? ((⟨w.heap.size, 0, none⟩ : Addr).add j) = some u := by
  intro j u hj
  have hj0 : j = 0 := by
    have := (List.getElem?_eq_some_iff.1 hj).1
    simpa using this
  subst hj0
  rw [Addr.add_lit, box_last]
  exact hj

/-- A list without elements, just made. -/
theorem lit0 (w : World) : (w.alloc (.cells #[] 3)).drew.ownsRow w.heap.size 3 1 (.slice (some ⟨w.heap.size, 0, none⟩) 0 0) 0 [] := (World.ownsRow_lit (size := 1) w #[] 0 (Nat.le_refl _) (by decide) rfl).drew
/-- The types of the rows of a game that is built: owners, priorities, successors, and the successors of each position. -/
def gT (s : Nat) : TypeId := if s = 2 then 22 else 3
/-- The cells of the rows. -/
def gL (V : Nat → Value) (H : Gm) (s : Nat) : List Value :=
  if s = 0 then H.O.map (Value.int .i64) else if s = 1 then H.P.map (Value.int .i64) else if s = 2 then (List.range H.X.length).map (fun j => V (3 + j)) else (H.X.getD (s - 3) []).map (Value.int .i64)
/-- A game that is built by append lies in the box at block bd. -/
structure Bld (B bd : Nat) (w : World) (V : Nat → Value) (H : Gm) : Prop where
  fam : Fam B (3 + H.X.length) w V gT (gL V H)
  box : ∃ cs, w.heap[bd]? = some (.cells cs 25 (0, 0)) ∧ cs[0]? = some (V 0) ∧ cs[1]? = some (V 1) ∧ cs[2]? = some (V 2)
  ap : ∀ s, s < 3 + H.X.length → (V s).ownBlock ≠ some bd
theorem Bld.lt {B bd : Nat} {w : World} {V : Nat → Value} {H : Gm} (h : Bld B bd w V H) : bd < w.heap.size := by
  obtain ⟨cs, e, _⟩ := h.box
  exact lt_of_heap e
theorem Fam.game {B : Nat} {w : World} {V : Nat → Value} {H : Gm} (h : Fam B (3 + H.X.length) w V gT (gL V H)) : GameAt w (.agg #[V 0, V 1, V 2]) H := by
  have h0 := h.own 0 (by omega)
  have h1 := h.own 1 (by omega)
  have h2 := h.own 2 (by omega)
  obtain ⟨A0, c0, e0, _⟩ := own_slice h0
  obtain ⟨A1, c1, e1, _⟩ := own_slice h1
  obtain ⟨A2, c2, e2, _⟩ := own_slice h2
  rw [e0] at h0
  rw [e1] at h1
  rw [e2] at h2
  have l0 : (gL V H 0).length = H.O.length := by simp [gL]
  have l1 : (gL V H 1).length = H.P.length := by simp [gL]
  have l2 : (gL V H 2).length = H.X.length := by simp [gL]
  rw [l0] at h0 e0
  rw [l1] at h1 e1
  rw [l2] at h2 e2
  refine ⟨A0, H.O.length, c0, A1, H.P.length, c1, A2, H.X.length, c2, by rw [e0, e1, e2], ⟨Ints.of_own h0, Ints.of_own h1, rfl, fun hn => ?_⟩⟩
  obtain ⟨g, cap, hv, _, hlt⟩ := h2.form hn
  obtain rfl : A2 = some ⟨g, 0, none⟩ := by injection hv
  refine ⟨g, 0, rfl, hlt, fun j hj => ?_⟩
  have h3 := h.own (3 + j) (by omega)
  obtain ⟨A3, c3, e3, _⟩ := own_slice h3
  have l3 : (gL V H (3 + j)) = (H.X.getD j []).map (Value.int .i64) := by
    unfold gL
    rw [if_neg (by omega), if_neg (by omega), if_neg (by omega), show 3 + j - 3 = j from by omega]
  rw [e3, l3, List.length_map] at h3
  rw [l3, List.length_map] at e3
  refine ⟨A3, c3, ?_, Ints.of_own h3⟩
  have hc := h2.cells (g := g) rfl j (V (3 + j)) (by
    show (gL V H 2)[j]? = _
    unfold gL
    rw [if_neg (by omega), if_neg (by omega), if_pos rfl]
    simp [hj])
  rw [Addr.add_lit] at hc
  rw [hc, e3]

theorem Bld.game {B bd : Nat} {w : World} {V : Nat → Value} {H : Gm} (h : Bld B bd w V H) : GameAt w (.agg #[V 0, V 1, V 2]) H := h.fam.game
theorem gL0 (V : Nat → Value) (H : Gm) : gL V H 0 = H.O.map (Value.int .i64) := rfl
theorem gL1 (V : Nat → Value) (H : Gm) : gL V H 1 = H.P.map (Value.int .i64) := rfl
theorem gL2 (V : Nat → Value) (H : Gm) : gL V H 2 = (List.range H.X.length).map (fun j => V (3 + j)) := rfl
theorem gL3 (V : Nat → Value) (H : Gm) {s : Nat} (hs : 3 ≤ s) : gL V H s = (H.X.getD (s - 3) []).map (Value.int .i64) := by
  unfold gL
  rw [if_neg (by omega), if_neg (by omega), if_neg (by omega)]
section
variable {B bd : Nat} {w wa w2 : World} {V : Nat → Value} {H : Gm}
theorem Bld.own0 (h : Bld B bd w V H) : w.ownsRow B 3 1 (V 0) H.O.length (H.O.map (Value.int .i64)) := by
  have h0 := h.fam.own 0 (by omega)
  rw [gL0, List.length_map] at h0
  exact h0
theorem Bld.own1 (h : Bld B bd w V H) : w.ownsRow B 3 1 (V 1) H.P.length (H.P.map (Value.int .i64)) := by
  have h0 := h.fam.own 1 (by omega)
  rw [gL1, List.length_map] at h0
  exact h0
theorem Bld.own2 (h : Bld B bd w V H) : w.ownsRow B 22 1 (V 2) H.X.length ((List.range H.X.length).map (fun j => V (3 + j))) := by
  have h0 := h.fam.own 2 (by omega)
  rw [gL2, List.length_map, List.length_range] at h0
  exact h0
theorem set_at {w : World} {b i : Nat} {cs : Array Value} {t : TypeId} (h : w.heap[b]? = some (.cells cs t (0, 0))) (v : Value) : (w.setCell ⟨b, i, none⟩ v).heap[b]? = some (.cells (cs.setIfInBounds i v) t (0, 0)) := by
  simp [World.setCell, Array.getElem?_modify, h]
theorem Bld.below (h : Bld B bd w V H) (hb : Below w.heap.size w w2) : Bld B bd w2 V H :=
  ⟨h.fam.below hb, by
    obtain ⟨cs, e, c⟩ := h.box
    exact ⟨cs, (hb.block _ (lt_of_heap e)).trans e, c⟩, h.ap⟩
theorem Bld.cells (h : Bld B bd w V H) : (w.cell? ⟨bd, 0, none⟩ = some (V 0) ∧ w.cell? ⟨bd, 1, none⟩ = some (V 1) ∧ w.cell? ⟨bd, 2, none⟩ = some (V 2)) ∧ (w.frozen? ⟨bd, 0, none⟩ = false ∧ w.frozen? ⟨bd, 1, none⟩ = false ∧ w.frozen? ⟨bd, 2, none⟩ = false) := by
  obtain ⟨cs, hcs, c0, c1, c2⟩ := h.box
  exact ⟨⟨(cell_of_heap hcs 0).trans c0, (cell_of_heap hcs 1).trans c1, (cell_of_heap hcs 2).trans c2⟩, ⟨frozen_of_heap hcs 0, frozen_of_heap hcs 1, frozen_of_heap hcs 2⟩⟩
theorem Bld.drew (h : Bld B bd w V H) : Bld B bd w.drew V H := ⟨h.fam.drew, h.box, h.ap⟩
/-- One row of the box grew: the box is written. -/
theorem Bld.box_put (h : Bld B bd w V H) (f : Nat) (hf : f < 3) (hg : w.grownBy w2 (V f).ownBlock) (v' : Value) :
    ∃ cs, (w2.setCell ⟨bd, f, none⟩ v').heap[bd]? = some (.cells cs 25 (0, 0)) ∧ cs[0]? = some (atV V f v' 0) ∧ cs[1]? = some (atV V f v' 1) ∧ cs[2]? = some (atV V f v' 2) := by
  obtain ⟨cs, e, c0, c1, c2⟩ := h.box
  have e2 := (hg.block _ h.lt (fun e' => h.ap f (by omega) e'.symm)).trans e
  refine ⟨_, set_at e2 v', ?_⟩
  have l0 := (Array.getElem?_eq_some_iff.1 c2).1
  have hf3 : f = 0 ∨ f = 1 ∨ f = 2 := by omega
  have key : ∀ i u, cs[i]? = some u → i < 3 → V i = u → (cs.setIfInBounds f v')[i]? = some (atV V f v' i) := fun i u hi h3 hu => by
    rw [Array.getElem?_setIfInBounds]
    by_cases e : f = i
    · subst e; rw [if_pos rfl, if_pos (by omega), atV_same]
    · rw [if_neg e, atV_other _ _ (Ne.symm e), hi, hu]
  exact ⟨key 0 _ c0 (by omega) rfl, key 1 _ c1 (by omega) rfl, key 2 _ c2 (by omega) rfl⟩
theorem Bld.ap_grow (h : Bld B bd w V H) {f : Nat} {v' : Value} (hf : f < 3 + H.X.length) (hat : v'.ownBlock = (V f).ownBlock ∨ v'.ownBlock = some w.heap.size) : ∀ s, s < 3 + H.X.length → (atV V f v' s).ownBlock ≠ some bd := fun s hs => by
  by_cases e : s = f
  · subst e
    rw [atV_same]
    rcases hat with e2 | e2
    · rw [e2]; exact h.ap s hs
    · rw [e2]
      intro e3
      injection e3 with e3
      have := h.lt
      omega
  · rw [atV_other _ _ e]; exact h.ap s hs
theorem Bld.push0 {x : Int} {v' : Value} (h : Bld B bd w V H) (hw : Below w.heap.size w wa) (hz : B ≤ wa.heap.size)
    (hown : w2.ownsRow B 3 1 v' (H.O.length + 1) (H.O.map (Value.int .i64) ++ [x].map (Value.int .i64))) (hg : wa.grownBy w2 (V 0).ownBlock) (hat : v'.ownBlock = (V 0).ownBlock ∨ v'.ownBlock = some wa.heap.size) :
    Bld B bd (w2.setCell ⟨bd, 0, none⟩ v') (atV V 0 v') ⟨H.O ++ [x], H.P, H.X⟩ := by
  have ha := h.below hw
  have hl : (H.O.map (Value.int .i64) ++ [x].map (Value.int .i64)).length = H.O.length + 1 := by simp
  have hf := ha.fam.grow (f := 0) (l := H.O.map (Value.int .i64) ++ [x].map (Value.int .i64)) (by omega) (by rw [hl]; exact hown) hg hat
  refine ⟨((hf.put' (a := ⟨bd, 0, none⟩) (ha.ap_grow (f := 0) (by omega) hat) v').congr (fun s _ => rfl) fun s hs => ?_), ha.box_put 0 (by omega) hg v', ha.ap_grow (f := 0) (by omega) hat⟩
  by_cases e0 : s = 0
  · subst e0; rw [atV_same, gL0, List.map_append]
  rw [atV_other _ _ e0]
  by_cases e1 : s = 1
  · subst e1; rfl
  by_cases e2 : s = 2
  · subst e2
    rw [gL2, gL2]
    exact List.map_congr_left fun j _ => (atV_other _ _ (by omega)).symm
  rw [gL3 _ _ (by omega), gL3 _ _ (by omega)]
theorem Bld.push1 {x : Int} {v' : Value} (h : Bld B bd w V H) (hw : Below w.heap.size w wa) (hz : B ≤ wa.heap.size)
    (hown : w2.ownsRow B 3 1 v' (H.P.length + 1) (H.P.map (Value.int .i64) ++ [x].map (Value.int .i64))) (hg : wa.grownBy w2 (V 1).ownBlock) (hat : v'.ownBlock = (V 1).ownBlock ∨ v'.ownBlock = some wa.heap.size) :
    Bld B bd (w2.setCell ⟨bd, 1, none⟩ v') (atV V 1 v') ⟨H.O, H.P ++ [x], H.X⟩ := by
  have ha := h.below hw
  have hl : (H.P.map (Value.int .i64) ++ [x].map (Value.int .i64)).length = H.P.length + 1 := by simp
  have hf := ha.fam.grow (f := 1) (l := H.P.map (Value.int .i64) ++ [x].map (Value.int .i64)) (by omega) (by rw [hl]; exact hown) hg hat
  refine ⟨((hf.put' (a := ⟨bd, 1, none⟩) (ha.ap_grow (f := 1) (by omega) hat) v').congr (fun s _ => rfl) fun s hs => ?_), ha.box_put 1 (by omega) hg v', ha.ap_grow (f := 1) (by omega) hat⟩
  by_cases e0 : s = 0
  · subst e0; rfl
  by_cases e1 : s = 1
  · subst e1; rw [atV_same, gL1, List.map_append]
  rw [atV_other _ _ e1]
  by_cases e2 : s = 2
  · subst e2
    rw [gL2, gL2]
    exact List.map_congr_left fun j _ => (atV_other _ _ (by omega)).symm
  rw [gL3 _ _ (by omega), gL3 _ _ (by omega)]
/-- A row of successors v3 is there beside; the list of rows has it now. -/
theorem Bld.push2 {l : List Int} {v3 v' : Value} (h : Bld B bd w V H) (h3 : w.ownsRow B 3 1 v3 l.length (l.map (Value.int .i64))) (hap : ∀ s, s < 3 + H.X.length → Apt (V s) v3) (h3b : v3.ownBlock ≠ some bd) (hw : Below w.heap.size w wa) (hz : B ≤ wa.heap.size)
    (hown : w2.ownsRow B 22 1 v' (H.X.length + 1) ((List.range H.X.length).map (fun j => V (3 + j)) ++ [v3])) (hg : wa.grownBy w2 (V 2).ownBlock) (hat : v'.ownBlock = (V 2).ownBlock ∨ v'.ownBlock = some wa.heap.size) :
    Bld B bd (w2.setCell ⟨bd, 2, none⟩ v') (atV (atV V (3 + H.X.length) v3) 2 v') ⟨H.O, H.P, H.X ++ [l]⟩ := by
  have ha := h.below hw
  have hadd := h.fam.add (f := 3) (v' := v3) (l := l.map (Value.int .i64)) (by unfold gT; rw [if_neg (by omega)]) (by rw [List.length_map]; exact h3) hap
  have h2 : atV V (3 + H.X.length) v3 2 = V 2 := atV_other _ _ (by omega)
  have hl : ((List.range H.X.length).map (fun j => V (3 + j)) ++ [v3]).length = H.X.length + 1 := by simp
  have hf := (hadd.below hw).grow (f := 2) (v' := v') (l := (List.range H.X.length).map (fun j => V (3 + j)) ++ [v3]) (by omega) (by rw [hl]; exact hown) (by rw [h2]; exact hg) (by rw [h2]; exact hat)
  have hlen : 3 + (H.X ++ [l]).length = 3 + H.X.length + 1 := by simp; omega
  have hapx : ∀ s, s < 3 + H.X.length + 1 → (atV (atV V (3 + H.X.length) v3) 2 v' s).ownBlock ≠ some bd := fun s hs => by
    by_cases e3 : s = 3 + H.X.length
    · subst e3
      rw [atV_other (f := 2) _ _ (by omega), atV_same]
      exact h3b
    · by_cases e2 : s = 2
      · subst e2
        rw [atV_same]
        have := ha.ap_grow (f := 2) (by omega) hat 2 (by omega)
        rw [atV_same] at this
        exact this
      · rw [atV_other (f := 2) _ _ e2, atV_other _ _ e3]
        exact h.ap s (by omega)
  refine ⟨?_, ?_, fun s hs => hapx s (by rw [hlen] at hs; exact hs)⟩
  · show Fam B (3 + (H.X ++ [l]).length) _ _ gT _
    rw [hlen]
    refine (hf.put' (a := ⟨bd, 2, none⟩) hapx v').congr (fun s _ => rfl) fun s hs => ?_
    by_cases e0 : s = 0
    · subst e0; rw [atV_other _ _ (by omega), atV_other _ _ (by omega)]; rfl
    by_cases e1 : s = 1
    · subst e1; rw [atV_other _ _ (by omega), atV_other _ _ (by omega)]; rfl
    by_cases e2 : s = 2
    · subst e2
      rw [atV_same, gL2]
      show _ = (List.range (H.X ++ [l]).length).map _
      rw [show (H.X ++ [l]).length = H.X.length + 1 by simp, List.range_succ, List.map_append, List.map_cons, List.map_nil, atV_other (f := 2) _ _ (by omega), atV_same]
      congr 1
      exact List.map_congr_left fun j hj => by
        have := List.mem_range.1 hj
        rw [atV_other (f := 2) _ _ (by omega), atV_other _ _ (by omega)]
    rw [atV_other (f := 2) _ _ e2, gL3 _ _ (by omega)]
    by_cases e3 : s = 3 + H.X.length
    · subst e3
      rw [atV_same, show 3 + H.X.length - 3 = H.X.length by omega]
      simp [List.getD_eq_getElem?_getD]
    · rw [atV_other _ _ e3, gL3 _ _ (by omega)]
      have : s - 3 < H.X.length := by omega
      simp [List.getD_eq_getElem?_getD, List.getElem?_append_left this]
  · obtain ⟨cs, e, c0, c1, c2⟩ := ha.box_put 2 (by omega) hg v'
    refine ⟨cs, e, c0.trans ?_, c1.trans ?_, c2.trans ?_⟩
    · rw [atV_other (f := 2) _ _ (by omega), atV_other (f := 2) _ _ (by omega), atV_other _ _ (by omega)]
    · rw [atV_other (f := 2) _ _ (by omega), atV_other (f := 2) _ _ (by omega), atV_other _ _ (by omega)]
    · rw [atV_same, atV_same]
theorem al_le {w : World} {B : Nat} (h : B ≤ w.heap.size) (o : Obj) : B ≤ (w.alloc o).drew.heap.size := by
  show B ≤ (w.alloc o).heap.size
  rw [World.size_alloc]
  omega
theorem al_below (w : World) (o : Obj) : Below w.heap.size w (w.alloc o).drew := ((Below.refl _ _).alloc (Nat.le_refl _) _).drew
/-- What is known behind an append onto row f of the box, ahead of the store. -/
theorem Bld.ahead (h : Bld B bd w V H) (hz : B ≤ w.heap.size) (hw : Below w.heap.size w wa) (hb : Below B wa w2) {f : Nat} (hf : f < 3) (hg : wa.grownBy w2 (V f).ownBlock) : (w2.cell? ⟨bd, 0, none⟩ = some (V 0) ∧ w2.cell? ⟨bd, 1, none⟩ = some (V 1) ∧ w2.cell? ⟨bd, 2, none⟩ = some (V 2)) ∧ (w2.frozen? ⟨bd, 0, none⟩ = false ∧ w2.frozen? ⟨bd, 1, none⟩ = false ∧ w2.frozen? ⟨bd, 2, none⟩ = false) ∧ Below B w w2 ∧ B ≤ w2.heap.size := by
  have ha := h.below hw
  have hlt := ha.lt
  have hne : some bd ≠ (V f).ownBlock := fun e => h.ap f (by omega) e.symm
  have hB : Below B w w2 := (hw.mono hz).trans hb
  obtain ⟨⟨y0, y1, y2⟩, ⟨z0, z1, z2⟩⟩ := ha.cells
  have hs := hw.size
  have hs2 := hb.size
  refine ⟨⟨?_, ?_, ?_⟩, ⟨?_, ?_, ?_⟩, hB, by omega⟩
  · exact (hg.cell_far ⟨bd, 0, none⟩ hlt hne).trans y0
  · exact (hg.cell_far ⟨bd, 1, none⟩ hlt hne).trans y1
  · exact (hg.cell_far ⟨bd, 2, none⟩ hlt hne).trans y2
  · exact (hg.frozen_far ⟨bd, 0, none⟩ hlt hne).trans z0
  · exact (hg.frozen_far ⟨bd, 1, none⟩ hlt hne).trans z1
  · exact (hg.frozen_far ⟨bd, 2, none⟩ hlt hne).trans z2
/-- A row of successors was made beside: append of a list onto an empty one. -/
theorem Bld.newrow {l : List Int} {v3 : Value} (h : Bld B bd w V H) (hz : B ≤ w.heap.size) (hown : w2.ownsRow w.heap.size 3 1 v3 (0 + l.length) ([] ++ l.map (Value.int .i64)))
    (hg : (w.alloc (.cells #[] 3)).drew.grownBy w2 (Value.slice (some ⟨w.heap.size, 0, none⟩) 0 0).ownBlock) :
    ∃ A3 c3, v3 = .slice A3 l.length c3 ∧ Below w.heap.size w w2 ∧ Bld B bd w2 V H ∧ w2.ownsRow B 3 1 v3 l.length (l.map (Value.int .i64)) ∧ (∀ s, s < 3 + H.X.length → Apt (V s) v3) ∧ v3.ownBlock ≠ some bd := by
  rw [Nat.zero_add, List.nil_append] at hown
  obtain ⟨A3, c3, hve, _⟩ := own_slice hown
  have hb3 : Below w.heap.size w w2 := (al_below w _).trans (below_own (lit0 w) hg (al_le (Nat.le_refl _) _))
  have hnew : v3.ownBlock = none ∨ ∃ b, v3.ownBlock = some b ∧ w.heap.size ≤ b := by
    rcases ho : v3.ownBlock with _ | b
    · exact .inl rfl
    · exact .inr ⟨b, rfl, (hown.lt b ho).1⟩
  refine ⟨A3, c3, hve, hb3, h.below hb3, own_mono hown hz, fun s hs => apt_new (h.fam.own s hs) hnew, fun e => ?_⟩
  rcases hnew with e1 | ⟨b, e1, hle⟩
  · rw [e1] at e; cases e
  · rw [e1] at e
    injection e with e
    have := h.lt
    omega
/-- The list of rows grew by the new one. -/
theorem Bld.rowin {l : List Int} {v3 v4 : Value} {w4 : World} {o : Obj} (h : Bld B bd w V H) (hz : B ≤ w.heap.size) (h3 : w.ownsRow B 3 1 v3 l.length (l.map (Value.int .i64))) (hap : ∀ s, s < 3 + H.X.length → Apt (V s) v3) (h3b : v3.ownBlock ≠ some bd)
    (hown : w4.ownsRow B 22 1 v4 (H.X.length + 1) ((List.range H.X.length).map (fun j => V (3 + j)) ++ [v3])) (hg : (w.alloc o).grownBy w4 (V 2).ownBlock) (hat : v4.ownBlock = (V 2).ownBlock ∨ v4.ownBlock = some (w.alloc o).heap.size) :
    ∃ A4 c4, v4 = .slice A4 (H.X.length + 1) c4 ∧ Below B w w4 ∧ w4.cell? ⟨bd, 2, none⟩ = some (V 2) ∧ w4.frozen? ⟨bd, 2, none⟩ = false ∧ (∃ V', Bld B bd (w4.setCell ⟨bd, 2, none⟩ v4) V' ⟨H.O, H.P, H.X ++ [l]⟩) ∧ B ≤ w4.heap.size := by
  have hz1 : B ≤ (w.alloc o).heap.size := by rw [World.size_alloc]; omega
  have hw : Below w.heap.size w (w.alloc o) := (Below.refl _ _).alloc (Nat.le_refl _) _
  obtain ⟨A4, c4, hve, _⟩ := own_slice hown
  have hb := below_own (h.below hw).own2 hg hz1
  obtain ⟨⟨_, _, y⟩, ⟨_, _, z⟩, hB, hs⟩ := h.ahead hz hw hb (f := 2) (by omega) hg
  exact ⟨A4, c4, hve, hB, y, z, ⟨_, h.push2 h3 hap h3b hw hz1 hown hg hat⟩, hs⟩
theorem Bld.far (h : Bld B bd w V H) {r i : Nat} (hr : r < B) (hne : r ≠ bd) (u : Value) : Bld B bd (w.setCell ⟨r, i, none⟩ u) V H :=
  ⟨h.fam.put (a := ⟨r, i, none⟩) hr u, by
    obtain ⟨cs, e, c⟩ := h.box
    exact ⟨cs, (set_far _ _ _ (by show bd ≠ r; exact Ne.symm hne)).trans e, c⟩, h.ap⟩
end

end Go.Proofs.Ytffdbncjndnnaaa.Wd
