/-
  withSink's state begins.
  Rows that lie beside the edges of withSink; what it adds.
  withSink of package aut.
-/
import Derived.Test.YtalgbcndifaaiaaF24
import Derived.Deep.RegionHeld3
import Derived.Deep.DeepCutAuto
namespace Go.Proofs.Ytalgbcndifaaiaa.Wd
open Go.RowKit
set_option linter.unusedVariables false

/-- What holds ahead of the third region. -/
structure SkW (g r p : Nat) (i1 i2 i3 : Int) (W : World) : Prop where
  bs : g + 1 < W.heap.size ∧ r < W.heap.size
  pc : W.cell? ⟨g, 0, none⟩ = some (.int .i64 p)
  zs : W.cell? ⟨g + 1, 0, none⟩ = some (.int .i64 0) ∧ W.cell? ⟨g + 1, 1, none⟩ = some (.int .i64 0) ∧ W.cell? ⟨g + 1, 2, none⟩ = some (.slice none 0 0) ∧ W.cell? ⟨g + 1, 3, none⟩ = some (.int .i64 0) ∧ W.cell? ⟨g + 1, 4, none⟩ = some (.int .i64 0) ∧ W.cell? ⟨g + 1, 5, none⟩ = some (.slice none 0 0)
  zf : ∀ i, W.frozen? ⟨g + 1, i, none⟩ = false
  rc : W.cell? ⟨r, 0, none⟩ = some (.int .i64 i1) ∧ W.cell? ⟨r, 1, none⟩ = some (.int .i64 i2) ∧ W.cell? ⟨r, 2, none⟩ = some (.int .i64 i3)

/-- The copy is made first, the variable then. -/
theorem sks_B {g r p n : Nat} {S Kd M i1 i2 i3 : Int} {v1 v2 : Value} {st : List Int} {L : List Ed} {W z : World} (hw : SkW g r p i1 i2 i3 W) (k1 : Below W.heap.size W z) (o1 : z.ownsRow W.heap.size 3 1 v1 n (st.map (Value.int .i64))) (o2 : z.ownsRow W.heap.size 37 5 v2 L.length (edsV L)) (ap : Apt v1 v2) :
    SkS g r z.heap.size W.heap.size p S Kd M i1 i2 i3 v1 v2 n st L (z.alloc (.cells #[.int .i64 p, .int .i64 S, v1, .int .i64 Kd, .int .i64 M, v2] 25)) := by
  obtain ⟨hg, hr⟩ := hw.bs
  have hk : Below W.heap.size W (z.alloc (.cells #[.int .i64 p, .int .i64 S, v1, .int .i64 Kd, .int .i64 M, v2] 25)) := k1.alloc k1.size _
  have cg := fun i => hk.cell (p := ⟨g, i, none⟩) (show g < W.heap.size by omega)
  have cz := fun i => hk.cell (p := ⟨g + 1, i, none⟩) hg
  have cr := fun i => hk.cell (p := ⟨r, i, none⟩) hr
  obtain ⟨z0, z1, z2, z3, z4, z5⟩ := hw.zs
  obtain ⟨r0, r1, r2⟩ := hw.rc
  have cq := fun i => box_last z #[.int .i64 p, .int .i64 S, v1, .int .i64 Kd, .int .i64 M, v2] 25 i
  exact ⟨⟨hg, hr, k1.size, by simp⟩, (cg 0).trans hw.pc, ⟨(cz 0).trans z0, (cz 1).trans z1, (cz 2).trans z2, (cz 3).trans z3, (cz 4).trans z4, (cz 5).trans z5⟩,
    fun i => (hk.frozen (p := ⟨g + 1, i, none⟩) hg).trans (hw.zf i), ⟨(cr 0).trans r0, (cr 1).trans r1, (cr 2).trans r2⟩, ⟨cq 0, cq 1, cq 2, cq 3, cq 4, cq 5⟩,
    fun i => by simp, o1.alloc _, o2.alloc _, fun h => Nat.lt_irrefl _ (o1.lt _ h).2, fun h => Nat.lt_irrefl _ (o2.lt _ h).2, ap⟩

/-- The variable is made first. -/
theorem sks_A {g r p n : Nat} {S Kd M i1 i2 i3 : Int} {v1 v2 : Value} {st : List Int} {L : List Ed} {W z : World} (hw : SkW g r p i1 i2 i3 W) (k1 : Below W.heap.size W z) (o1 : z.ownsRow (W.heap.size + 1) 3 1 v1 n (st.map (Value.int .i64))) (o2 : z.ownsRow (W.heap.size + 1) 37 5 v2 L.length (edsV L)) (ap : Apt v1 v2)
    (hq : W.heap.size < z.heap.size) (y0 : z.cell? ⟨W.heap.size, 0, none⟩ = some (.int .i64 0)) (y1 : z.cell? ⟨W.heap.size, 1, none⟩ = some (.int .i64 0)) (y2 : z.cell? ⟨W.heap.size, 2, none⟩ = some (.slice none 0 0)) (y3 : z.cell? ⟨W.heap.size, 3, none⟩ = some (.int .i64 0)) (y4 : z.cell? ⟨W.heap.size, 4, none⟩ = some (.int .i64 0)) (y5 : z.cell? ⟨W.heap.size, 5, none⟩ = some (.slice none 0 0))
    (hf : ∀ i, z.frozen? ⟨W.heap.size, i, none⟩ = false) :
    SkS g r W.heap.size W.heap.size p S Kd M i1 i2 i3 v1 v2 n st L ((((((z.setCell ⟨W.heap.size, 0, none⟩ (.int .i64 p)).setCell ⟨W.heap.size, 1, none⟩ (.int .i64 S)).setCell ⟨W.heap.size, 2, none⟩ v1).setCell ⟨W.heap.size, 3, none⟩ (.int .i64 Kd)).setCell ⟨W.heap.size, 4, none⟩ (.int .i64 M)).setCell ⟨W.heap.size, 5, none⟩ v2) := by
  obtain ⟨hg, hr⟩ := hw.bs
  have n1 : v1.ownBlock ≠ some W.heap.size := fun h => by have := (o1.lt _ h).1; omega
  have n2 : v2.ownBlock ≠ some W.heap.size := fun h => by have := (o2.lt _ h).1; omega
  have hk : Below W.heap.size W ((((((z.setCell ⟨W.heap.size, 0, none⟩ (.int .i64 p)).setCell ⟨W.heap.size, 1, none⟩ (.int .i64 S)).setCell ⟨W.heap.size, 2, none⟩ v1).setCell ⟨W.heap.size, 3, none⟩ (.int .i64 Kd)).setCell ⟨W.heap.size, 4, none⟩ (.int .i64 M)).setCell ⟨W.heap.size, 5, none⟩ v2) := (((((k1.setCell (p := ⟨W.heap.size, 0, none⟩) (Nat.le_refl _) _).setCell (p := ⟨W.heap.size, 1, none⟩) (Nat.le_refl _) _).setCell (p := ⟨W.heap.size, 2, none⟩) (Nat.le_refl _) _).setCell (p := ⟨W.heap.size, 3, none⟩) (Nat.le_refl _) _).setCell (p := ⟨W.heap.size, 4, none⟩) (Nat.le_refl _) _).setCell (p := ⟨W.heap.size, 5, none⟩) (Nat.le_refl _) _
  have cg := fun i => hk.cell (p := ⟨g, i, none⟩) (show g < W.heap.size by omega)
  have cz := fun i => hk.cell (p := ⟨g + 1, i, none⟩) hg
  have cr := fun i => hk.cell (p := ⟨r, i, none⟩) hr
  obtain ⟨z0, z1, z2, z3, z4, z5⟩ := hw.zs
  obtain ⟨r0, r1, r2⟩ := hw.rc
  exact ⟨⟨hg, hr, Nat.le_refl _, by simpa using hq⟩, (cg 0).trans hw.pc, ⟨(cz 0).trans z0, (cz 1).trans z1, (cz 2).trans z2, (cz 3).trans z3, (cz 4).trans z4, (cz 5).trans z5⟩,
    fun i => (hk.frozen (p := ⟨g + 1, i, none⟩) hg).trans (hw.zf i), ⟨(cr 0).trans r0, (cr 1).trans r1, (cr 2).trans r2⟩, cells6 y0 y1 y2 y3 y4 y5 _ _ _ _ _ _,
    fun i => by simp only [World.frozen?_setCell]; exact hf i,
    own_le' (ownsRow_setCell_other (ownsRow_setCell_other (ownsRow_setCell_other (ownsRow_setCell_other (ownsRow_setCell_other (ownsRow_setCell_other o1 (a := ⟨W.heap.size, 0, none⟩) n1 _) (a := ⟨W.heap.size, 1, none⟩) n1 _) (a := ⟨W.heap.size, 2, none⟩) n1 _) (a := ⟨W.heap.size, 3, none⟩) n1 _) (a := ⟨W.heap.size, 4, none⟩) n1 _) (a := ⟨W.heap.size, 5, none⟩) n1 _) (by omega),
    own_le' (ownsRow_setCell_other (ownsRow_setCell_other (ownsRow_setCell_other (ownsRow_setCell_other (ownsRow_setCell_other (ownsRow_setCell_other o2 (a := ⟨W.heap.size, 0, none⟩) n2 _) (a := ⟨W.heap.size, 1, none⟩) n2 _) (a := ⟨W.heap.size, 2, none⟩) n2 _) (a := ⟨W.heap.size, 3, none⟩) n2 _) (a := ⟨W.heap.size, 4, none⟩) n2 _) (a := ⟨W.heap.size, 5, none⟩) n2 _) (by omega),
    n1, n2, ap⟩

end Go.Proofs.Ytalgbcndifaaiaa.Wd

namespace Go.Proofs.Ytalgbcndifaaiaa.Wd
open Go.RowKit
set_option linter.unusedVariables false

/-- A row beside: apart from the box q and from the row of edges. -/
structure RowK (q : Nat) (vE : Value) (B e k : Nat) (v : Value) (n : Nat) (xs : List Value) (W : World) : Prop where
  own : W.ownsRow B e k v n xs
  nq : v.ownBlock ≠ some q
  ap : Apt v vE
theorem RowK.below {q B e k n : Nat} {vE v : Value} {xs : List Value} {W W' : World} (h : RowK q vE B e k v n xs W) (hb : Below W.heap.size W W') : RowK q vE B e k v n xs W' := ⟨own_keep h.own hb, h.nq, h.ap⟩
theorem RowK.grow {q B e k n : Nat} {vE v v' : Value} {xs : List Value} {W W2 : World} (h : RowK q vE B e k v n xs W) (hg : W.grownBy W2 vE.ownBlock) (hat : v'.ownBlock = vE.ownBlock ∨ v'.ownBlock = some W.heap.size) (x : Value) : RowK q v' B e k v n xs (W2.setCell ⟨q, 5, none⟩ x) :=
  have ha := apt_grow h.own h.ap hg hat
  ⟨ownsRow_setCell_other ha.1 (a := ⟨q, 5, none⟩) h.nq x, h.nq, ha.2⟩
/-- A row that was laid behind all that the state holds. -/
theorem SkS.later {g r q B p : Nat} {S Kd M i1 i2 i3 : Int} {vS vE : Value} {n1 : Nat} {st1 : List Int} {L : List Ed} {W z : World} (h : SkS g r q B p S Kd M i1 i2 i3 vS vE n1 st1 L W) {e k n : Nat} {v : Value} {xs : List Value} (ho : z.ownsRow W.heap.size e k v n xs) : RowK q vE W.heap.size e k v n xs z := by
  refine ⟨ho, fun h2 => ?_, (apt_later h.oE ho).symm⟩
  have h3 := (ho.lt _ h2).1
  have h4 := h.bs.2.2.2
  omega
/-- A row that is older than all that the state holds. -/
theorem SkS.older {g r q B p : Nat} {S Kd M i1 i2 i3 : Int} {vS vE : Value} {n1 : Nat} {st1 : List Int} {L : List Ed} {W : World} (h : SkS g r q B p S Kd M i1 i2 i3 vS vE n1 st1 L W) {b : Nat} (hb : b < B) {C e k n : Nat} {v : Value} {xs : List Value} (ho : W.ownsRow C e k v n xs) (hv : ∀ y, v.ownBlock = some y → y ≤ b) : RowK q vE C e k v n xs W := by
  refine ⟨ho, fun h2 => ?_, ?_⟩
  · have h3 := hv _ h2
    have h4 := h.bs.2.2.1
    omega
  · cases h2 : v.ownBlock with
    | none => exact .inl h2
    | some y =>
      refine .inr fun h3 => ?_
      have h4 := hv _ h2
      have h5 := (h.oE.lt _ (h3.symm.trans h2)).1
      omega
/-- A row grows that is none of the state's. -/
theorem SkS.beside {g r q B p : Nat} {S Kd M i1 i2 i3 : Int} {vS vE : Value} {n1 : Nat} {st1 : List Int} {L : List Ed} {W W2 : World} (h : SkS g r q B p S Kd M i1 i2 i3 vS vE n1 st1 L W) {b : Nat} (hb : b < g) (hr : b ≠ r) (hg2 : W.grownBy W2 (some b)) : SkS g r q B p S Kd M i1 i2 i3 vS vE n1 st1 L W2 := by
  obtain ⟨hg, hrB, hBq, hq⟩ := h.bs
  have far : ∀ x i, x < W.heap.size → x ≠ b → W2.cell? ⟨x, i, none⟩ = W.cell? ⟨x, i, none⟩ := fun x i hx hne => hg2.cell_far ⟨x, i, none⟩ hx (fun h2 => hne (by injection h2))
  have farf : ∀ x i, x < W.heap.size → x ≠ b → W2.frozen? ⟨x, i, none⟩ = W.frozen? ⟨x, i, none⟩ := fun x i hx hne => hg2.frozen_far ⟨x, i, none⟩ hx (fun h2 => hne (by injection h2))
  have cg := fun i => far g i (by omega) (by omega)
  have cz := fun i => far (g + 1) i (by omega) (by omega)
  have cr := fun i => far r i (by omega) (Ne.symm hr)
  have cq := fun i => far q i hq (by omega)
  obtain ⟨z0, z1, z2, z3, z4, z5⟩ := h.zs
  obtain ⟨r0, r1, r2⟩ := h.rc
  obtain ⟨q0, q1, q2, q3, q4, q5⟩ := h.qc
  refine ⟨⟨hg, hrB, hBq, Nat.lt_of_lt_of_le hq hg2.size⟩, (cg 0).trans h.pc, ⟨(cz 0).trans z0, (cz 1).trans z1, (cz 2).trans z2, (cz 3).trans z3, (cz 4).trans z4, (cz 5).trans z5⟩,
    fun i => (farf (g + 1) i (by omega) (by omega)).trans (h.zf i), ⟨(cr 0).trans r0, (cr 1).trans r1, (cr 2).trans r2⟩,
    ⟨(cq 0).trans q0, (cq 1).trans q1, (cq 2).trans q2, (cq 3).trans q3, (cq 4).trans q4, (cq 5).trans q5⟩, fun i => (farf q i hq (by omega)).trans (h.qf i),
    h.oS.kept hg2 (.inr fun h2 => ?_), h.oE.kept hg2 (.inr fun h2 => ?_), h.nS, h.nE, h.ap⟩
  · have := (h.oS.lt _ h2).1; omega
  · have := (h.oE.lt _ h2).1; omega

/-- What a state lacks. -/
def lackN (p : Nat) (X : Nat → Nat) (s : Nat) : List Cu := coverL (diffN (fitN p ed0) (X s)) (allCubes p)
def toE (s S : Nat) (i : Int) (x : Cu) : Ed := ⟨s, S, x.c, x.b, i⟩
/-- The edges to the sink from the first k states. -/
def sinkL (p S : Nat) (i : Int) (X : Nat → Nat) : Nat → List Ed
  | 0 => []
  | k + 1 => sinkL p S i X k ++ (lackN p X k).map (toE k S i)
theorem allCubes_few (p : Nat) (hp : p ≤ 6) : (allCubes p).length ≤ 40000 := by
  have : ∀ p : Fin 7, (allCubes p.val).length ≤ 40000 := by decide +kernel
  exact this ⟨p, by omega⟩
theorem allCubes_few2 (p : Nat) (hp : p ≤ 6) : (allCubes p).length ≤ 729 := by
  have : ∀ p : Fin 7, (allCubes p.val).length ≤ 729 := by decide +kernel
  exact this ⟨p, by omega⟩
theorem lackN_len {p : Nat} (hp : p ≤ 6) (X : Nat → Nat) (s : Nat) : (lackN p X s).length ≤ 729 := Nat.le_trans (coverL_len _ _) (allCubes_few2 p hp)
theorem sinkL_len {p : Nat} (hp : p ≤ 6) (S : Nat) (i : Int) (X : Nat → Nat) (k : Nat) : (sinkL p S i X k).length ≤ k * 729 := by
  induction k with
  | zero => simp [sinkL]
  | succ k ih =>
    have := lackN_len hp X k
    rw [sinkL, List.length_append, List.length_map]
    omega

/-- No Start state: the sink is one. -/
def stF (n S : Nat) (st : List Int) : List Int := if n = 0 then [(S : Int)] else st
/-- The sets of the states, and that of the sink. -/
def setX (S : Nat) (V : Nat → Nat) (s : Nat) : Nat := if s < S then V s else 0
theorem setX_at (S : Nat) (V : Nat → Nat) {s : Nat} (h : s < S + 1) : ((List.range S).map (fun s => Value.int .u64 (V s)) ++ [Value.int .u64 0])[s]? = some (.int .u64 (setX S V s)) := by
  unfold setX
  by_cases hs : s < S
  · rw [List.getElem?_append_left (by simpa using hs), List.getElem?_map, List.getElem?_range hs, if_pos hs]; rfl
  · obtain rfl : s = S := by omega
    rw [List.getElem?_append_right (by simp), if_neg hs]
    simp
theorem allCubes_small (p : Nat) (hp : p ≤ 6) : ∀ j, j < (allCubes p).length → ((allCubes p).getD j cu0).l < 18446744073709551616 := by
  have : ∀ p : Fin 7, ((allCubes p.val).all fun x => decide (x.l < 18446744073709551616)) = true := by decide +kernel
  intro j hj
  rw [List.getD_eq_getElem?_getD, List.getElem?_eq_getElem hj]
  exact of_decide_eq_true (List.all_eq_true.1 (this ⟨p, by omega⟩) _ (List.getElem_mem hj))
theorem setc_info : (Try.prog.info? 78).map (fun i => (i.zero, i.size, i.bytes)) = some (some (.int .u64 0), 1, 8) := by kernel_rfl

section
variable {P : Program} (w : World)
/-- append of one edge to a long row. -/
theorem wpList_append_edge {ops : Array Oper} {rest : List Oper} {o : Oper} {a : Act} {Q : Exit → Act → World → Prop} (hgd : o.guard = none) (s x : Operand) (t : TypeId)
    (ho : o.op = .call { callee := .builtin .append, args := #[s, x], argTypes := #[t, t] })
    (base : Nat) (e : TypeId) (i : TypeInfo) (z : Value) (ht : P.underlying t = some (.slice e)) (hi : P.info? e = some i) (hz : i.zero = some z)
    (hsize : i.size = 5) (hby : i.bytes = 40) (hzs : z.cells.size = 5)
    (v : Value) (n : Nat) (xs : List Value) (hs : a.eval s = v) (hown : w.ownsRow base e 5 v n xs)
    (ad : Addr) (c : Nat) (y : Ed) (hx : a.eval x = .slice (some ad) 1 c) (hnews : ∀ j u, (edV y)[j]? = some u → w.cell? (ad.add j) = some u) (hn : n ≤ 10000000) (hbase : base ≤ w.heap.size)
    (h : ∀ v' w', w'.ownsRow base e 5 v' (n + 1) (xs ++ edV y) → w.grownBy w' v.ownBlock → (v'.ownBlock = v.ownBlock ∨ v'.ownBlock = some w.heap.size) → wpList P ops Q rest (a.put o.dst v') w') : wpList P ops Q (o :: rest) a w := by
  obtain ⟨v', w', hrun, h2, h3, _, h4⟩ := run_append_own_at (P := P) w base t o.type e i z 5 40 ht hi hz hsize hby hzs (by omega) v n xs hown ad 1 c (edV y) (by rfl) hnews (by
    intro u hu
    simp only [edV, List.mem_cons, List.not_mem_nil, or_false] at hu
    rcases hu with rfl | rfl | rfl | rfl | rfl <;> rfl) (by unfold maxLen; omega) (by omega) hbase
  refine wpList_plain hgd fun _ hK => ?_
  unfold Oper.wp execOp
  simp only [ho, resolve, invoke, builtin, Sem.run_bind, Sem.run_pure, Result.andThen_ok, List.map_toArray, List.map_cons, List.map_nil, hs, hx, hrun]
  exact hK _ _ (h v' w' h2 h3 h4)
end

end Go.Proofs.Ytalgbcndifaaiaa.Wd

namespace Go.Proofs.Ytalgbcndifaaiaa.Wd
open Go.RowKit
set_option linter.unusedVariables false
set_option linter.unusedSimpArgs false

theorem own6 {z : World} {h B e k n : Nat} {v : Value} {xs : List Value} (o : z.ownsRow B e k v n xs) (hh : h < B) (x0 x1 x2 x3 x4 x5 : Value) : World.ownsRow ((((((z.setCell ⟨h, 0, none⟩ x0).setCell ⟨h, 1, none⟩ x1).setCell ⟨h, 2, none⟩ x2).setCell ⟨h, 3, none⟩ x3).setCell ⟨h, 4, none⟩ x4).setCell ⟨h, 5, none⟩ x5) B e k v n xs :=
  (ownsRow_setCell_below (ownsRow_setCell_below (ownsRow_setCell_below (ownsRow_setCell_below (ownsRow_setCell_below (ownsRow_setCell_below o (a := ⟨h, 0, none⟩) hh x0) (a := ⟨h, 1, none⟩) hh x1) (a := ⟨h, 2, none⟩) hh x2) (a := ⟨h, 3, none⟩) hh x3) (a := ⟨h, 4, none⟩) hh x4) (a := ⟨h, 5, none⟩) hh x5)
theorem below6 {w z : World} {h B : Nat} (o : Below B w z) (hh : B ≤ h) (x0 x1 x2 x3 x4 x5 : Value) : Below B w ((((((z.setCell ⟨h, 0, none⟩ x0).setCell ⟨h, 1, none⟩ x1).setCell ⟨h, 2, none⟩ x2).setCell ⟨h, 3, none⟩ x3).setCell ⟨h, 4, none⟩ x4).setCell ⟨h, 5, none⟩ x5) :=
  (((((o.setCell (p := ⟨h, 0, none⟩) hh x0).setCell (p := ⟨h, 1, none⟩) hh x1).setCell (p := ⟨h, 2, none⟩) hh x2).setCell (p := ⟨h, 3, none⟩) hh x3).setCell (p := ⟨h, 4, none⟩) hh x4).setCell (p := ⟨h, 5, none⟩) hh x5
theorem edge_new2 (w : World) (cs : Array Value) (t t' : TypeId) (e : Ed) : ∀ j u, (edV e)[j]? = some u → ((w.alloc (.cells cs t)).alloc (.cells #[.int .i64 e.f, .int .i64 e.t, .int .i64 e.c, .int .i64 e.b, .int .i64 e.m] t')).cell? ((⟨w.heap.size + 1, 0, none⟩ : Addr).add j) = some u := by
  intro j u hu
  have h := box_last (w.alloc (.cells cs t)) #[.int .i64 e.f, .int .i64 e.t, .int .i64 e.c, .int .i64 e.b, .int .i64 e.m] t' j
  rw [World.size_alloc] at h
  rw [Addr.add_lit, Nat.zero_add, h, List.getElem?_toArray]
  exact hu
theorem cube_at {w : World} {g : Nat} {D : List Cu} (h : ∀ j u, (cusV D)[j]? = some u → w.cell? ((⟨g, 0, none⟩ : Addr).add j) = some u) {t : Nat} (ht : t < D.length) : w.cell? ⟨g, t * 3, none⟩ = some (.int .i64 (D.getD t cu0).c) ∧ w.cell? ⟨g, t * 3 + 1, none⟩ = some (.int .i64 (D.getD t cu0).b) ∧ w.cell? ⟨g, t * 3 + 2, none⟩ = some (.int .u64 (D.getD t cu0).l) := by
  have key : ∀ k, k < 3 → ∀ x, (cuV (D.getD t cu0))[k]? = some x → w.cell? ⟨g, t * 3 + k, none⟩ = some x := fun k hk x hx => by
    have := h (t * 3 + k) x (by rw [cusV_at D t k ht hk]; exact hx)
    rw [Addr.add_lit] at this
    simpa using this
  exact ⟨key 0 (by omega) _ rfl, key 1 (by omega) _ rfl, key 2 (by omega) _ rfl⟩
theorem take_toE {D : List Cu} {t s S : Nat} {i : Int} (ht : t < D.length) : (D.take (t + 1)).map (toE s S i) = (D.take t).map (toE s S i) ++ [⟨s, S, (D.getD t cu0).c, (D.getD t cu0).b, i⟩] := by
  rw [List.take_succ_eq_append_getElem ht, List.map_append, List.getD_eq_getElem?_getD, List.getElem?_eq_getElem ht]
  rfl
theorem zero_new (w : World) (t : TypeId) : ∀ j u, [Value.int .u64 0][j]? = some u → (w.alloc (.cells #[.int .u64 0] t)).cell? ((⟨w.heap.size, 0, none⟩ : Addr).add j) = some u := by
  intro j u hu
  have hj := (List.getElem?_eq_some_iff.1 hu).1
  obtain rfl : j = 0 := by simpa using hj
  rw [Addr.add_lit, Nat.zero_add, box_last]
  exact hu
theorem rowT_of {g r q B p b : Nat} {S Kd M i1 i2 i3 : Int} {vS vE : Value} {n1 : Nat} {st1 : List Int} {L : List Ed} {W W2 : World} (h : SkS g r q B p S Kd M i1 i2 i3 vS vE n1 st1 L W) (hb : b < g) {C e k n : Nat} {v : Value} {xs : List Value} (hown : W2.ownsRow C e k v n xs) (hat : v.ownBlock = some b ∨ v.ownBlock = some W.heap.size) : RowK q vE C e k v n xs W2 := by
  have hs := h.bs
  refine ⟨hown, fun h2 => ?_, .inr fun h2 => ?_⟩
  · rcases hat with h3 | h3
    · rw [h3] at h2; injection h2 with h2; omega
    · rw [h3] at h2; injection h2 with h2; omega
  · rcases hat with h3 | h3
    · have := (h.oE.lt _ (h2.symm.trans h3)).1; omega
    · have := (h.oE.lt _ (h2.symm.trans h3)).2; omega
theorem sink_start {g r q B p c S2 : Nat} {S Kd M i1 i2 i3 : Int} {A : Option Addr} {vE : Value} {st1 : List Int} {L : List Ed} {W : World} (h : SkS g r q B p S Kd M i1 i2 i3 (.slice A 0 c) vE 0 st1 L W) (st : List Int) :
    SkS g r q B p S Kd M i1 i2 i3 (.slice (some ⟨W.heap.size, 0, none⟩) 1 1) vE 1 (stF 0 S2 st) L ((W.setCell ⟨q, 2, none⟩ (.slice (some ⟨W.heap.size, 0, none⟩) 1 1)).alloc (.cells #[.int .i64 S2] 3)) := by
  rw [← World.setCell_alloc_past (w := W) _ q 2 _ h.bs.2.2.2]
  have h2 := h.below ((Below.refl W.heap.size W).alloc (Nat.le_refl _) (.cells #[.int .i64 S2] 3))
  have hb := h.bs
  have ho : (W.alloc (.cells #[.int .i64 S2] 3)).ownsRow B 3 1 (.slice (some ⟨W.heap.size, 0, none⟩) 1 1) 1 ((stF 0 S2 st).map (Value.int .i64)) := World.ownsRow_lit W #[.int .i64 S2] 1 (by omega) (by decide) rfl
  have he : Value.ownBlock (.slice (some ⟨W.heap.size, 0, none⟩) 1 1) = some W.heap.size := by simp [Value.ownBlock]
  refine h2.putStart ho (by rw [he]; intro h3; injection h3 with h3; omega) (.inr (by
    rw [he]
    intro h3
    have := (h.oE.lt _ h3.symm).2
    omega))
theorem own_of_new {W z : World} {cs : Array Value} {t e k n : Nat} {v : Value} {xs : List Value} (h : z.ownsRow ((W.alloc (.cells cs t)).drew).heap.size e k v n xs) : z.ownsRow (W.heap.size + 1) e k v n xs := by
  have hs : ((W.alloc (.cells cs t)).drew).heap.size = W.heap.size + 1 := by show (W.alloc _).heap.size = _; rw [World.size_alloc]
  rw [hs] at h
  exact h
theorem sink_new {W z : World} (h : Below ((W.alloc (.cells #[.int .i64 0, .int .i64 0, .slice none 0 0, .int .i64 0, .int .i64 0, .slice none 0 0] 25)).drew).heap.size ((W.alloc (.cells #[.int .i64 0, .int .i64 0, .slice none 0 0, .int .i64 0, .int .i64 0, .slice none 0 0] 25)).drew) z) :
    W.heap.size < z.heap.size ∧ z.cell? ⟨W.heap.size, 0, none⟩ = some (.int .i64 0) ∧ z.cell? ⟨W.heap.size, 1, none⟩ = some (.int .i64 0) ∧ z.cell? ⟨W.heap.size, 2, none⟩ = some (.slice none 0 0) ∧ z.cell? ⟨W.heap.size, 3, none⟩ = some (.int .i64 0) ∧ z.cell? ⟨W.heap.size, 4, none⟩ = some (.int .i64 0) ∧ z.cell? ⟨W.heap.size, 5, none⟩ = some (.slice none 0 0) ∧
      z.frozen? ⟨W.heap.size, 0, none⟩ = false ∧ z.frozen? ⟨W.heap.size, 1, none⟩ = false ∧ z.frozen? ⟨W.heap.size, 2, none⟩ = false ∧ z.frozen? ⟨W.heap.size, 3, none⟩ = false ∧ z.frozen? ⟨W.heap.size, 4, none⟩ = false ∧ z.frozen? ⟨W.heap.size, 5, none⟩ = false ∧ (∀ i, z.frozen? ⟨W.heap.size, i, none⟩ = false) := by
  have hs : W.heap.size < ((W.alloc (.cells #[.int .i64 0, .int .i64 0, .slice none 0 0, .int .i64 0, .int .i64 0, .slice none 0 0] 25)).drew).heap.size := by show _ < (W.alloc _).heap.size; rw [World.size_alloc]; omega
  have hc : ∀ i, ((W.alloc (.cells #[.int .i64 0, .int .i64 0, .slice none 0 0, .int .i64 0, .int .i64 0, .slice none 0 0] 25)).drew).cell? ⟨W.heap.size, i, none⟩ = (#[.int .i64 0, .int .i64 0, .slice none 0 0, .int .i64 0, .int .i64 0, .slice none 0 0] : Array Value)[i]? := fun i => box_last W _ _ i
  have hf : ∀ i, ((W.alloc (.cells #[.int .i64 0, .int .i64 0, .slice none 0 0, .int .i64 0, .int .i64 0, .slice none 0 0] 25)).drew).frozen? ⟨W.heap.size, i, none⟩ = false := fun i => by simp
  have cc := fun i => (h.cell (p := ⟨W.heap.size, i, none⟩) hs).trans (hc i)
  have ff := fun i => (h.frozen (p := ⟨W.heap.size, i, none⟩) hs).trans (hf i)
  exact ⟨Nat.lt_of_lt_of_le hs h.size, cc 0, cc 1, cc 2, cc 3, cc 4, cc 5, ff 0, ff 1, ff 2, ff 3, ff 4, ff 5, ff⟩

set_option maxRecDepth 100000 in
set_option maxHeartbeats 8000000 in
theorem sink_any (p S b B : Nat) (Kd M : Int) (A E : Option Addr) (n c ne ce : Nat) (st : List Int) (es : List Ed) (V : Nat → Nat) (w : World) (hp : p ≤ 6) (hS : S ≤ 2999) (h0 : 0 ≤ Kd) (h5 : Kd ≤ 5) (hM0 : 0 ≤ M) (hM4 : M ≤ 40) (ha : Ints w A n st) (hn : n ≤ 100000) (he : EdgesAt w E ne es) (hne : ne ≤ 40000)
    (hr : w.rowIs b 78 S (fun s => .int .u64 (V s))) (hb : B ≤ b) (hV : ∀ s, V s < 18446744073709551616) :
    Calls Try.prog 23 #[.agg #[.int .i64 p, .int .i64 S, .slice A n c, .int .i64 Kd, .int .i64 M, .slice E ne ce], .slice (some ⟨b, 0, none⟩) S S] w fun e w' =>
      ∃ A1 n1 c1 A2 c2 m, e = .returned (.agg #[.int .i64 p, .int .i64 ((S : Int) + 1), .slice A1 n1 c1, .int .i64 Kd, .int .i64 (M + addF Kd M), .slice A2 m c2]) ∧
        w'.ownsRow w.heap.size 3 1 (.slice A1 n1 c1) n1 ((stF n S st).map (Value.int .i64)) ∧ w'.ownsRow w.heap.size 37 5 (.slice A2 m c2) m (edsV (es.map (orE (othF Kd M)) ++ sinkL p S (infF Kd M) (setX S V) (S + 1))) ∧ (es.map (orE (othF Kd M)) ++ sinkL p S (infF Kd M) (setX S V) (S + 1)).length = m ∧ Below B w w' := by
  obtain ⟨iS, hiS, hiS0, hiS1, hiS2⟩ := info_parts setc_info
  obtain ⟨iE, hiE, hiE0, hiE1, hiE2⟩ := info_parts edge_info
  have hbw : b < w.heap.size := hr.lt
  have HSO := Lib.hid (own_of_rowIs hr hb (by omega))
  have HCU := Lib.hid (fun W => cubes_any p W hp)
  have HFU := Lib.hid (fun W => full_any p W hp)
  have HVX := Lib.hid (show ∀ s, setX S V s < 18446744073709551616 from fun s => by unfold setX; split; exact hV s; omega)
  have HF64 := Lib.hid (show fitN p ed0 < 18446744073709551616 from fitN_lt hp ed0)
  have HSX := Lib.hid (show ∀ s, s < S + 1 → ((List.range S).map (fun s => Value.int .u64 (V s)) ++ [Value.int .u64 0])[s]? = some (.int .u64 (setX S V s)) from fun s hs => setX_at S V hs)
  have HLK := Lib.hid (show ∀ s, (lackN p (setX S V) s).length ≤ 729 from fun s => lackN_len hp _ s)
  have HSL := Lib.hid (show ∀ i k, (sinkL p S i (setX S V) k).length ≤ k * 729 from fun i k => sinkL_len hp S i _ k)
  have HCF := Lib.hid (allCubes_few p hp)
  have HCS := Lib.hid (allCubes_small p hp)
  clear hr hV
  have HA := Lib.hid (fun W => acc_of Kd h0 h5 W)
  have HXB := Lib.hid (Box6.new w p S A n c Kd M E ne ce 25)
  obtain ⟨W0, hW0⟩ : ∃ W0, ((w.alloc (.cells #[.int .i64 p, .int .i64 S, .slice A n c, .int .i64 Kd, .int .i64 M, .slice E ne ce] 25)).alloc (.cells #[.int .i64 0, .int .i64 0, .slice none 0 0, .int .i64 0, .int .i64 0, .slice none 0 0] 25)) = W0 := ⟨_, rfl⟩
  have HBw := Lib.hid (show Below w.heap.size w W0 by rw [← hW0]; exact ((Below.refl _ _).alloc (Nat.le_refl _) _).alloc (by simp) _)
  have HBX := Lib.hid (show Box6 W0 w.heap.size p S A n c Kd M E ne ce by rw [← hW0]; exact HXB.out.below ((Below.refl _ _).alloc (Nat.le_refl _) _))
  have hzz : W0.heap.size = w.heap.size + 2 := by rw [← hW0]; simp
  have HRF := Lib.hid (show ∀ i, W0.frozen? ⟨w.heap.size + 1, i, none⟩ = false by intro i; rw [← hW0]; simp)
  have HRC := Lib.hid (show ∀ i, W0.cell? ⟨w.heap.size + 1, i, none⟩ = #[Value.int .i64 0, .int .i64 0, .slice none 0 0, .int .i64 0, .int .i64 0, .slice none 0 0][i]? by intro i; rw [← hW0]; have h := box_last (w.alloc (.cells #[.int .i64 p, .int .i64 S, .slice A n c, .int .i64 Kd, .int .i64 M, .slice E ne ce] 25)) #[.int .i64 0, .int .i64 0, .slice none 0 0, .int .i64 0, .int .i64 0, .slice none 0 0] 25 i; rw [World.size_alloc] at h; exact h)
  have HAI := Lib.hid ha
  have HEI := Lib.hid he
  clear ha he
  go_enter Try.func23, Try.ntmps23
  obtain ⟨_, p0, p1, p2, p3, p4, p5⟩ := HBX.out
  go_wp2_with fail
  refine (HA.out _).mono ?_
  rintro e w1 ⟨a1, b1, N, rfl, HN, HEN, hb1⟩
  clear p0 p1 p2 p3 p4 p5
  have HB1 := Lib.hid (show Below W0.heap.size W0 (w1.alloc (.cells #[Value.func (Fn.func a1) #[] #[], Value.func (Fn.func b1) #[] #[], Value.func (Fn.func N) #[] #[]] 74)) from hb1.alloc hb1.size _)
  obtain ⟨_, p0, p1, p2, p3, p4, p5⟩ := HBX.out.below HB1.out
  clear hb1
  go_wp2_with fail
  rw [HEN.out, Oper.upon_enter]
  refine (HN.out M _).mono ?_
  rintro e w2 ⟨rfl, hb2⟩
  clear p0 p1 p2 p3 p4 p5
  have HB2 := Lib.hid (show Below W0.heap.size W0 (w2.alloc (.cells #[.int .i64 (infF Kd M), .int .i64 (addF Kd M), .int .i64 (othF Kd M)] 84)) from ((HB1.out.trans (hb2.mono HB1.out.size)).alloc (Nat.le_trans HB1.out.size hb2.size) _))
  have HBX2 := Lib.hid (HBX.out.below HB2.out)
  have hz2 := Nat.le_trans HB1.out.size hb2.size
  clear hb2 HB1
  have HRB := Lib.hid (show ∀ i, World.cell? (w2.alloc (.cells #[.int .i64 (infF Kd M), .int .i64 (addF Kd M), .int .i64 (othF Kd M)] 84)) ⟨w2.heap.size, i, none⟩ = #[Value.int .i64 (infF Kd M), .int .i64 (addF Kd M), .int .i64 (othF Kd M)][i]? from fun i => box_last w2 _ _ i)
  go_upto_region 3 with fail
  obtain ⟨W3, hW3⟩ : ∃ W3, w2.alloc (.cells #[.int .i64 (infF Kd M), .int .i64 (addF Kd M), .int .i64 (othF Kd M)] 84) = W3 := ⟨_, rfl⟩
  have HZ3 := Lib.hid (show W3.heap.size = w2.heap.size + 1 by rw [← hW3]; simp)
  rw [hW3] at HB2 HBX2 HRB
  rw [hW3]
  clear hW3
  have HEL := Lib.hid (show es.length = ne from HEI.out.1)
  have HSW := Lib.hid (show SkW w.heap.size w2.heap.size p (infF Kd M) (addF Kd M) (othF Kd M) W3 from ⟨⟨by have := HZ3.out; omega, by have := HZ3.out; omega⟩, HBX2.out.2.1, ⟨(HB2.out.cell (p := ⟨w.heap.size + 1, 0, none⟩) (by show w.heap.size + 1 < _; omega)).trans (HRC.out 0), (HB2.out.cell (p := ⟨w.heap.size + 1, 1, none⟩) (by show w.heap.size + 1 < _; omega)).trans (HRC.out 1), (HB2.out.cell (p := ⟨w.heap.size + 1, 2, none⟩) (by show w.heap.size + 1 < _; omega)).trans (HRC.out 2), (HB2.out.cell (p := ⟨w.heap.size + 1, 3, none⟩) (by show w.heap.size + 1 < _; omega)).trans (HRC.out 3), (HB2.out.cell (p := ⟨w.heap.size + 1, 4, none⟩) (by show w.heap.size + 1 < _; omega)).trans (HRC.out 4), (HB2.out.cell (p := ⟨w.heap.size + 1, 5, none⟩) (by show w.heap.size + 1 < _; omega)).trans (HRC.out 5)⟩, fun i => (HB2.out.frozen (p := ⟨w.heap.size + 1, i, none⟩) (by show w.heap.size + 1 < _; omega)).trans (HRF.out i), ⟨HRB.out 0, HRB.out 1, HRB.out 2⟩⟩)
  have HS := Lib.hid (show ∀ V, Below W3.heap.size W3 V → (V.cell? ⟨w.heap.size, 0, none⟩ = some (.int .i64 p) ∧ V.cell? ⟨w.heap.size, 1, none⟩ = some (.int .i64 S) ∧ V.cell? ⟨w.heap.size, 2, none⟩ = some (.slice A n c) ∧ V.cell? ⟨w.heap.size, 3, none⟩ = some (.int .i64 Kd) ∧ V.cell? ⟨w.heap.size, 4, none⟩ = some (.int .i64 M) ∧ V.cell? ⟨w.heap.size, 5, none⟩ = some (.slice E ne ce)) from fun V hV => (HBX2.out.below hV).2)
  have HCP := Lib.hid (fun V (hV : Below W3.heap.size W3 V) => (copied_any p S Kd M A E n c ne ce st es V (((HAI.out.below HBw.out).below HB2.out).below hV) hn (((HEI.out.below HBw.out).below HB2.out).below hV) (by omega)).mono (fun e w' h => (⟨h, hV⟩ : _ ∧ Below W3.heap.size W3 V)))
  go_cut [8, 9] (fun v8 v9 wx => ∃ q A1 c1 A2 c2, v8 = .pointer (some ⟨q, 0, none⟩) ∧ v9 = .int .i64 S ∧ Hid (SkS w.heap.size w2.heap.size q W3.heap.size p S Kd M (infF Kd M) (addF Kd M) (othF Kd M) (.slice A1 n c1) (.slice A2 ne c2) n st es wx) ∧ Hid (Below W3.heap.size W3 wx))
  case first =>
    go_region_held3 (fun V => V.cell? ⟨w.heap.size, 0, none⟩ = some (.int .i64 p) ∧ V.cell? ⟨w.heap.size, 1, none⟩ = some (.int .i64 S) ∧ V.cell? ⟨w.heap.size, 2, none⟩ = some (.slice A n c) ∧ V.cell? ⟨w.heap.size, 3, none⟩ = some (.int .i64 Kd) ∧ V.cell? ⟨w.heap.size, 4, none⟩ = some (.int .i64 M) ∧ V.cell? ⟨w.heap.size, 5, none⟩ = some (.slice E ne ce))
      ((refine HS.out _ ?_; with_reducible (repeat' (first | exact k1 | exact Below.refl _ _ | exact Nat.le_refl _ | exact k1.size | refine Below.drew ?_ | refine Below.alloc ?_ ?_ _ | refine Below.setCell ?_ ?_ _))))
      (first
        | (go_at_call 22; refine (HCP.out _ (((Below.refl _ _).alloc (Nat.le_refl _) (.cells #[.int .i64 0, .int .i64 0, .slice none 0 0, .int .i64 0, .int .i64 0, .slice none 0 0] 25)).drew)).mono ?_; rintro x z1 ⟨⟨A1, c1, A2, c2, rfl, o1, o2, hap, b1⟩, b0⟩
           have k1 : Below W3.heap.size W3 z1 := b0.trans (b1.mono b0.size)
           obtain ⟨hq0, y0, y1, y2, y3, y4, y5, f0, f1, f2, f3, f4, f5, hyf⟩ := sink_new b1; have HYF := Lib.hid hyf; clear hyf
           have Ho1 := Lib.hid o1; have Ho2 := Lib.hid o2; have HAP := Lib.hid hap; clear o1 o2 hap b1 b0)
        | (go_at_call 22; refine (HCP.out _ (Below.refl _ _).drew).mono ?_; rintro x z1 ⟨⟨A1, c1, A2, c2, rfl, o1, o2, hap, b1⟩, b0⟩; have k1 : Below W3.heap.size W3 z1 := b0.trans (b1.mono b0.size); have Ho1 := Lib.hid o1; have Ho2 := Lib.hid o2; have HAP := Lib.hid hap; clear o1 o2 hap b1 b0)
        | fail)
    all_goals (go_wp2_with fail; go_meet)
    · exact ⟨z1.heap.size, A1, c1, A2, c2, rfl, rfl, (by have h2 := Ho2.out; have h3 := HAP.out; rw [← HEL.out] at h2 h3 ⊢; exact sks_B HSW.out k1 Ho1.out h2 h3), k1.alloc k1.size _⟩
    · exact ⟨W3.heap.size, A1, c1, A2, c2, rfl, rfl, (by have h2 := Ho2.out; have h3 := HAP.out; rw [← HEL.out] at h2 h3 ⊢; exact sks_A HSW.out k1 (own_of_new Ho1.out) (own_of_new h2) h3 hq0 y0 y1 y2 y3 y4 y5 HYF.out), (((((k1.setCell (p := ⟨W3.heap.size, 0, none⟩) (Nat.le_refl _) _).setCell (p := ⟨W3.heap.size, 1, none⟩) (Nat.le_refl _) _).setCell (p := ⟨W3.heap.size, 2, none⟩) (Nat.le_refl _) _).setCell (p := ⟨W3.heap.size, 3, none⟩) (Nat.le_refl _) _).setCell (p := ⟨W3.heap.size, 4, none⟩) (Nat.le_refl _) _).setCell (p := ⟨W3.heap.size, 5, none⟩) (Nat.le_refl _) _⟩
  case rest =>
    obtain ⟨q, A1, c1, A2, c2, rfl, rfl, HK, HBc⟩ := hcut
    have HBW3 := Lib.hid (show Below w.heap.size w W3 from HBw.out.trans (HB2.out.mono HBw.out.size))
    clear HS HCP HSW HRB HBX2 HB2 HRC HRF HBX HXB HA HN HEN
    obtain ⟨i1, hi1⟩ : ∃ x, infF Kd M = x := ⟨_, rfl⟩
    obtain ⟨ad, had⟩ : ∃ x, addF Kd M = x := ⟨_, rfl⟩
    obtain ⟨i3, hi3⟩ : ∃ x, othF Kd M = x := ⟨_, rfl⟩
    have had0 : 0 ≤ ad ∧ ad ≤ 2 := by rw [← had]; unfold addF; split <;> (try split) <;> omega
    rw [hi1, had, hi3] at HK
    have HEQ := Lib.hid (show infF Kd M = i1 ∧ addF Kd M = ad ∧ othF Kd M = i3 from ⟨hi1, had, hi3⟩)
    clear hi1 had hi3
    obtain ⟨hg0, hr0, hBq, hq0⟩ := HK.out.bs
    obtain ⟨q0, q1, q2, q3, q4, q5⟩ := HK.out.qc
    obtain ⟨r0, r1, r2⟩ := HK.out.rc
    have qf1 := HK.out.qf 1
    have qf4 := HK.out.qf 4
    have hS0 : (0 : Int) ≤ (S : Int) := by omega
    have hS1 : (S : Int) ≤ 2999 := by omega
    go_wp2_with fail
    have HK2 := Lib.hid ((HK.out.putS ((S : Int) + 1)).putM (M + ad))
    have HB2 := Lib.hid ((HBc.out.setCell (p := ⟨q, 1, none⟩) hBq (.int .i64 ((S : Int) + 1))).setCell (p := ⟨q, 4, none⟩) hBq (.int .i64 (M + ad)))
    clear q0 q1 q2 q3 q4 q5 r0 r1 r2 qf1 qf4 HK HBc
    go_loopg [44] ne (fun g i wx => ∃ t : Nat, t + g = ne ∧ i = .int .i64 t ∧ Hid (SkS w.heap.size w2.heap.size q W3.heap.size p ((S : Int) + 1) Kd (M + ad) i1 ad i3 (.slice A1 n c1) (.slice A2 ne c2) n st (orL i3 t es) wx) ∧ Hid (Below W3.heap.size W3 wx))
    case atStart => exact ⟨0, by omega, rfl, (by show SkS _ _ _ _ _ _ _ _ _ _ _ _ _ _ _ _ _; rw [orL_zero]; exact HK2.out), HB2.out⟩
    case round =>
      clear HK2 HB2
      obtain ⟨t, htg, rfl, HK, HBx⟩ := hrel
      have hti : (0 : Int) ≤ (t : Int) := by omega
      cases gk with
      | zero =>
        obtain rfl : ne = t := by omega
        have HK2 := Lib.hid (show SkS w.heap.size w2.heap.size q W3.heap.size p ((S : Int) + 1) Kd (M + ad) i1 ad i3 (.slice A1 n c1) (.slice A2 ne c2) n st (es.map (orE i3)) wr by
          have h := HK.out
          rw [← HEL.out, orL_all, HEL.out] at h
          exact h)
        clear HK
        obtain ⟨_, _, q2, _, _, _⟩ := HK2.out.qc
        have qf2 := HK2.out.qf 2
        have hq3 := HK2.out.bs.2.2.2
        go_upto_if 62 with fail
        go_cut [] (fun wx => ∃ vS n2, Hid (SkS w.heap.size w2.heap.size q W3.heap.size p ((S : Int) + 1) Kd (M + ad) i1 ad i3 vS (.slice A2 ne c2) n2 (stF n S st) (es.map (orE i3)) wx) ∧ Hid (Below W3.heap.size W3 wx))
        case first =>
          by_cases hn0 : n = 0
          · subst hn0
            go_wp2_with fail
            go_meet
            exact ⟨.slice (some ⟨wr.heap.size, 0, none⟩) 1 1, 1, sink_start HK2.out st, ((HBx.out.setCell (p := ⟨q, 2, none⟩) hBq _).alloc (by simpa using HBx.out.size) _)⟩
          · have hn1 : ((n : Int) == 0) = false := by simpa using hn0
            have HST := Lib.hid (show stF n S st = st from if_neg hn0)
            clear hn0
            go_wp2_with fail
            go_meet
            exact ⟨.slice A1 n c1, n, by rw [HST.out]; exact HK2.out, HBx.out⟩
        case rest =>
          clear HK2 HBx q2 qf2 hq3
          obtain ⟨vS, n2, HK, HB⟩ := hcut
          have pc := HK.out.pc
          have hzg : w.heap.size < wc.heap.size := by have := HK.out.bs; omega
          have HBB := Lib.hid (show Below w.heap.size w wc from HBW3.out.trans (HB.out.mono HBW3.out.size))
          go_wp2_with fail
          refine (HCU.out _).mono ?_
          rintro x w5 ⟨vC, rfl, hoC, hbC⟩
          obtain ⟨AC, kC, rfl, _⟩ := own_any hoC
          have HK5 := Lib.hid (HK.out.below hbC)
          have HRC5 := Lib.hid (HK.out.later hoC)
          have HB5 := Lib.hid (HBB.out.trans (hbC.mono HBB.out.size))
          have HO5 := Lib.hid (own_keep HSO.out HB5.out)
          have hwc : w.heap.size ≤ wc.heap.size := HBB.out.size
          clear hoC hbC HK HB HBB pc hzg
          go_wp2_with (at_builtin; refine wpList_append_cells _ (by rfl) _ _ 48 (by rfl) B 78 1 8 iS _ Try.underlying48 hiS hiS0 hiS1 hiS2 rfl (by decide) (.slice (some ⟨b, 0, none⟩) S S) S ((List.range S).map fun s => Value.int .u64 (V s)) (by rfl) (by exact HO5.out.alloc _) ⟨w5.heap.size, 0, none⟩ 1 1 [.int .u64 0] (by rfl) (by rfl) (by exact zero_new w5 _) (by intro u hu; simp only [List.mem_cons, List.not_mem_nil, or_false] at hu; subst hu; rfl) (by omega) (by decide) (by have := HB5.out.size; simp; omega) ?_)
          intro vT w6 hown hgrow hat
          obtain ⟨AT, kT, rfl, _⟩ := own_any hown
          have HK6 := Lib.hid (((HK5.out.below ((Below.refl _ _).alloc (Nat.le_refl _) (.cells #[.int .u64 0] 78))).beside hbw (by have := HB5.out.size; have := HBW3.out.size; omega) hgrow))
          have HRC6 := Lib.hid (show RowK q (.slice A2 ne c2) wc.heap.size 89 3 (.slice AC (allCubes p).length kC) (allCubes p).length (cusV (allCubes p)) w6 from ⟨(HRC5.out.own.alloc _).kept hgrow (.inr fun h2 => by
            have h3 : wc.heap.size ≤ b := (HRC5.out.own.lt _ h2).1
            omega), HRC5.out.nq, HRC5.out.ap⟩)
          have HRT6 := Lib.hid (show RowK q (.slice A2 ne c2) B 78 1 (.slice AT (S + 1) kT) (S + 1) ((List.range S).map (fun s => Value.int .u64 (V s)) ++ [Value.int .u64 0]) w6 from rowT_of (HK5.out.below ((Below.refl _ _).alloc (Nat.le_refl _) (.cells #[.int .u64 0] 78))) hbw hown (by rw [World.size_alloc]; exact hat))
          have HB6 := Lib.hid (show Below B w w6 from ((HB5.out.mono (by omega)).alloc (by have := HB5.out.size; omega) (.cells #[.int .u64 0] 78)).trans (below_own (HO5.out.alloc _) hgrow (by have := HB5.out.size; simp; omega)))
          have HEM := Lib.hid (show ∀ X, es.map (orE i3) ++ sinkL p S i1 X 0 = es.map (orE i3) by intro X; simp [sinkL])
          clear hown hgrow hat HO5 HRC5 HK5 HB5
          go_wp2_with fail
          obtain ⟨xsT, hxsT⟩ : ∃ x, (List.range S).map (fun s => Value.int .u64 (V s)) ++ [Value.int .u64 0] = x := ⟨_, rfl⟩
          rw [hxsT] at HRT6 HSX
          clear hxsT
          obtain ⟨X, hX⟩ : ∃ X, setX S V = X := ⟨_, rfl⟩
          have HXE := Lib.hid hX
          rw [hX] at HSX HVX HLK HSL
          clear hX
          go_loopg [73] (S + 1) (fun g i wx => ∃ s m : Nat, ∃ A3 c3, s + g = S + 1 ∧ Hid ((es.map (orE i3) ++ sinkL p S i1 X s).length = m) ∧ i = .int .i64 s ∧ Hid (SkS w.heap.size w2.heap.size q W3.heap.size p ((S : Int) + 1) Kd (M + ad) i1 ad i3 vS (.slice A3 m c3) n2 (stF n S st) (es.map (orE i3) ++ sinkL p S i1 X s) wx) ∧
            Hid (RowK q (.slice A3 m c3) wc.heap.size 89 3 (.slice AC (allCubes p).length kC) (allCubes p).length (cusV (allCubes p)) wx) ∧ Hid (RowK q (.slice A3 m c3) B 78 1 (.slice AT (S + 1) kT) (S + 1) xsT wx) ∧ Hid (Below B w wx))
          case atStart => exact ⟨0, ne, A2, c2, by omega, by rw [HEM.out, List.length_map]; exact HEL.out, rfl, by rw [HEM.out]; exact HK6.out, HRC6.out, HRT6.out, HB6.out⟩
          case round =>
            clear HK6 HRC6 HRT6 HB6
            obtain ⟨s, m, A3, c3, hsg, HM, rfl, HK, HRC, HRT, HB⟩ := hrel
            have hsi : (0 : Int) ≤ (s : Int) := by omega
            have pc := HK.out.pc
            have hzg : w.heap.size < wr.heap.size := by have := HK.out.bs; omega
            cases gk with
            | zero =>
              obtain rfl : s = S + 1 := by omega
              obtain ⟨q0, q1, q2, q3, q4, q5⟩ := HK.out.qc
              obtain ⟨z0, z1, z2, z3, z4, z5⟩ := HK.out.zs
              have zf0 := HK.out.zf 0
              have zf1 := HK.out.zf 1
              have zf2 := HK.out.zf 2
              have zf3 := HK.out.zf 3
              have zf4 := HK.out.zf 4
              have zf5 := HK.out.zf 5
              have hzg1 : w.heap.size + 1 < wr.heap.size := by have := HK.out.bs; omega
              have hzq : q < wr.heap.size := by have := HK.out.bs; omega
              have HXX := Lib.hid HXE.out
              obtain ⟨AS, kS, rfl, _⟩ := own_any HK.out.oS
              go_wp2_with fail
              obtain ⟨x0, x1, x2, x3, x4, x5⟩ := cells6 z0 z1 z2 z3 z4 z5 (.int .i64 p) (.int .i64 ((S : Int) + 1)) (.slice AS n2 kS) (.int .i64 Kd) (.int .i64 (M + ad)) (.slice A3 m c3)
              obtain ⟨rfl, rfl, rfl⟩ := HEQ.out
              refine bodyPost_ret (v := .agg #[.int .i64 p, .int .i64 ((S : Int) + 1), .slice AS n2 kS, .int .i64 Kd, .int .i64 (M + addF Kd M), .slice A3 m c3]) (by simp [results, Try.results23, go_sem, x0, x1, x2, x3, x4, x5, z0, z1, z2, z3, z4, z5]) rfl ?_
              rw [HXX.out]
              have hoE := HK.out.oE
              rw [HM.out] at hoE
              exact ⟨AS, n2, kS, A3, c3, m, rfl, own_le' (own6 HK.out.oS hg0 _ _ _ _ _ _) HBW3.out.size, own_le' (own6 hoE hg0 _ _ _ _ _ _) HBW3.out.size, by simpa using HM.out, below6 HB.out (by omega) _ _ _ _ _ _⟩
            | succ gs =>
              have hs1 : s < S + 1 := by omega
              have hsi2 : (s : Int) < (S : Int) + 1 := by omega
              obtain ⟨gT, rfl, hcells⟩ := own_head HRT.out.own (by omega)
              have hsc := hcells s _ (HSX.out s hs1)
              rw [Addr.add_lit, Nat.zero_add] at hsc
              have hzT : gT < wr.heap.size := (HRT.out.own.lt gT (by simp [Value.ownBlock])).2
              clear hcells
              have hxs := HVX.out s
              have han := andNot_u64 (fitN p ed0) (X s) HF64.out hxs
              obtain ⟨x, hx⟩ : ∃ x, X s = x := ⟨_, rfl⟩
              rw [hx] at hsc han
              have HXS := Lib.hid hx
              obtain ⟨F, hF⟩ : ∃ F, fitN p ed0 = F := ⟨_, rfl⟩
              have HFX := Lib.hid hF
              rw [hF] at han
              have HFF := Lib.hid (fun W => HFU.out W)
              rw [hF] at HFF
              clear hx hF hxs
              go_wp2_with fail
              refine (HFF.out _).mono ?_
              rintro y w7 ⟨rfl, hb7⟩
              go_wp2_with fail
              refine (cover_any (diffN F x) AC (allCubes p).length kC (allCubes p) w7 (CusAt.of_own (HRC.out.below hb7).own rfl) HCF.out (by have := diffN_lt (k := 64) (b := x) (show F < 2 ^ 64 by rw [← HFX.out]; exact HF64.out); exact this) HCS.out).mono ?_
              rintro y w8 ⟨vL, rfl, hoL, hb8⟩
              obtain ⟨AL, kL, rfl, _⟩ := own_any hoL
              have HK8 := Lib.hid ((HK.out.below hb7).below hb8)
              have HRC8 := Lib.hid ((HRC.out.below hb7).below hb8)
              have HRT8 := Lib.hid ((HRT.out.below hb7).below hb8)
              have HRL8 := Lib.hid ((HK.out.below hb7).later hoL)
              have HB8 := Lib.hid ((HB.out.trans (hb7.mono (by have := HB.out.size; omega))).trans (hb8.mono (by have := HB.out.size; have := hb7.size; omega)))
              have HLE := Lib.hid (show coverL (diffN F x) (allCubes p) = lackN p X s by unfold lackN; rw [HFX.out, HXS.out])
              obtain ⟨D, hD⟩ : ∃ D, coverL (diffN F x) (allCubes p) = D := ⟨_, rfl⟩
              rw [hD] at HRL8 HLE
              have HD7 := Lib.hid (show D.length ≤ 729 by rw [HLE.out]; exact HLK.out s)
              rw [hD]
              clear hD hb7 hb8 hoL hsc han pc hzg hzT
              go_wp2_with fail
              obtain ⟨L0, hL0⟩ : ∃ x, es.map (orE i3) ++ sinkL p S i1 X s = x := ⟨_, rfl⟩
              have HSN := Lib.hid (show es.map (orE i3) ++ sinkL p S i1 X (s + 1) = L0 ++ D.map (toE s S i1) by rw [sinkL, ← HLE.out, ← List.append_assoc, hL0])
              have HL0 := Lib.hid (show L0.length ≤ 40000 + s * 729 by
                rw [← hL0, List.length_append, List.length_map]
                have := HSL.out i1 s
                have := HEL.out
                omega)
              rw [hL0] at HM HK8
              clear hL0 HK HRC HRT HB HLE HXS HFX
              have HK9 := Lib.hid (show SkS w.heap.size w2.heap.size q W3.heap.size p ((S : Int) + 1) Kd (M + ad) i1 ad i3 vS (.slice A3 m c3) n2 (stF n S st) (L0 ++ (D.take 0).map (toE s S i1)) w8 by simpa using HK8.out)
              have HM0 := Lib.hid (show (L0 ++ (D.take 0).map (toE s S i1)).length = m by simpa using HM.out)
              go_loopg [86] D.length (fun g i wx => ∃ t m : Nat, ∃ A3 c3, t + g = D.length ∧ Hid ((L0 ++ (D.take t).map (toE s S i1)).length = m) ∧ i = .int .i64 t ∧ Hid (SkS w.heap.size w2.heap.size q W3.heap.size p ((S : Int) + 1) Kd (M + ad) i1 ad i3 vS (.slice A3 m c3) n2 (stF n S st) (L0 ++ (D.take t).map (toE s S i1)) wx) ∧
                Hid (RowK q (.slice A3 m c3) wc.heap.size 89 3 (.slice AC (allCubes p).length kC) (allCubes p).length (cusV (allCubes p)) wx) ∧ Hid (RowK q (.slice A3 m c3) B 78 1 (.slice (some ⟨gT, 0, none⟩) (S + 1) kT) (S + 1) xsT wx) ∧ Hid (RowK q (.slice A3 m c3) w7.heap.size 89 3 (.slice AL D.length kL) D.length (cusV D) wx) ∧ Hid (Below B w wx))
              case atStart => exact ⟨0, m, A3, c3, by omega, HM0.out, rfl, HK9.out, HRC8.out, HRT8.out, HRL8.out, HB8.out⟩
              case round =>
                clear HM0 HK8 HK9 HRC8 HRT8 HRL8 HB8 HM
                obtain ⟨t, m', A4, c4, htg, HM, rfl, HK, HRC, HRT, HRL, HB⟩ := hrel
                have hti : (0 : Int) ≤ (t : Int) := by omega
                cases gk with
                | zero =>
                  obtain rfl : D.length = t := by omega
                  have HDT := Lib.hid (show L0 ++ (D.take D.length).map (toE s S i1) = es.map (orE i3) ++ sinkL p S i1 X (s + 1) by rw [List.take_length, HSN.out])
                  rw [HDT.out] at HM HK
                  go_wp2_with fail
                  go_roundg gs
                  case measure => omega
                  case rel => exact ⟨s + 1, m', A4, c4, by omega, HM.out, by go_num, HK.out, HRC.out, HRT.out, HB.out⟩
                | succ gq2 =>
                  have ht1 : t < D.length := by omega
                  have hti2 : (t : Int) < (D.length : Int) := by omega
                  have hti7 : (t : Int) < 729 := by have := HD7.out; omega
                  obtain ⟨gL, hgl, hcL⟩ := own_head HRL.out.own (by omega)
                  subst hgl
                  obtain ⟨d0, d1, d2⟩ := cube_at hcL ht1
                  clear hcL
                  have HTK := Lib.hid (take_toE (s := s) (S := S) (i := i1) ht1)
                  obtain ⟨y, hy⟩ : ∃ y, D.getD t cu0 = y := ⟨_, rfl⟩
                  rw [hy] at d0 d1 d2 HTK
                  clear hy
                  obtain ⟨yc, yb, yl⟩ := y
                  simp only at d0 d1 d2
                  have HTK' := Lib.hid (show (D.take (t + 1)).map (toE s S i1) = (D.take t).map (toE s S i1) ++ [⟨s, S, yc, yb, i1⟩] from HTK.out)
                  clear HTK
                  obtain ⟨_, _, _, _, _, q5⟩ := HK.out.qc
                  obtain ⟨r0, _, _⟩ := HK.out.rc
                  have qf5 := HK.out.qf 5
                  have hzq : q < wr.heap.size := HK.out.bs.2.2.2
                  have hzr : w2.heap.size < wr.heap.size := by have := HK.out.bs; omega
                  have hzl : gL < wr.heap.size := (HRL.out.own.lt gL (by simp [Value.ownBlock])).2
                  have HML := Lib.hid (show m' ≤ 10000000 by
                    rw [← HM.out, List.length_append, List.length_map, List.length_take]
                    have := HL0.out
                    have := HD7.out
                    omega)
                  have HKA := Lib.hid (HK.out.below (((Below.refl wr.heap.size wr).alloc (Nat.le_refl _) (.cells #[.int .i64 yc, .int .i64 yb, .int .u64 yl] 89)).alloc (by simp) (.cells #[.int .i64 s, .int .i64 S, .int .i64 yc, .int .i64 yb, .int .i64 i1] 37)))
                  have HOA := Lib.hid (show World.ownsRow _ _ _ _ _ m' _ by have h := HKA.out.oE; rw [HM.out] at h; exact h)
                  have HBA := Lib.hid (((Below.refl wr.heap.size wr).alloc (Nat.le_refl _) (.cells #[.int .i64 yc, .int .i64 yb, .int .u64 yl] 89)).alloc (by simp) (.cells #[.int .i64 s, .int .i64 S, .int .i64 yc, .int .i64 yb, .int .i64 i1] 37))
                  obtain ⟨ED, hED⟩ : ∃ x, edsV (L0 ++ (D.take t).map (toE s S i1)) = x := ⟨_, rfl⟩
                  rw [hED] at HOA
                  have HEDX := Lib.hid hED
                  clear hED
                  go_wp2_with (at_builtin; refine wpList_append_edge _ (by rfl) _ _ 23 (by rfl) W3.heap.size 37 iE _ Try.underlying23 hiE hiE0 hiE1 hiE2 rfl (.slice A4 m' c4) m' ED (by rfl) (by exact HOA.out) ⟨wr.heap.size + 1, 0, none⟩ 1 ⟨s, S, yc, yb, i1⟩ (by rfl) (by exact edge_new2 wr _ _ _ ⟨s, S, yc, yb, i1⟩) HML.out (by have := HKA.out.bs; omega) ?_)
                  intro v' w9 hown hgrow hat
                  obtain ⟨A5, c5, rfl, _⟩ := own_any hown
                  have HG := Lib.hid (HKA.out.grow (x := ⟨s, S, yc, yb, i1⟩) (by rw [HEDX.out, HM.out]; exact hown) hgrow (by rw [World.size_alloc, World.size_alloc]; exact hat))
                  have HRCG := Lib.hid ((HRC.out.below HBA.out).grow hgrow (by rw [World.size_alloc, World.size_alloc]; exact hat) (.slice A5 (m' + 1) c5))
                  have HRTG := Lib.hid ((HRT.out.below HBA.out).grow hgrow (by rw [World.size_alloc, World.size_alloc]; exact hat) (.slice A5 (m' + 1) c5))
                  have HRLG := Lib.hid ((HRL.out.below HBA.out).grow hgrow (by rw [World.size_alloc, World.size_alloc]; exact hat) (.slice A5 (m' + 1) c5))
                  have HBG := Lib.hid ((HB.out.trans (HBA.out.mono (by have := HB.out.size; omega))).trans (HG.out.2.mono (by omega)))
                  have hq9 : q < w9.heap.size := by have := hgrow.size; simp at this; omega
                  have u5 := (hgrow.cell_far ⟨q, 5, none⟩ (by simp; omega) (fun h2 => HKA.out.nE h2.symm)).trans HKA.out.qc.2.2.2.2.2
                  have v5 := (hgrow.frozen_far ⟨q, 5, none⟩ (by simp; omega) (fun h2 => HKA.out.nE h2.symm)).trans (HKA.out.qf 5)
                  have HTL := Lib.hid (show L0 ++ (D.take t).map (toE s S i1) ++ [⟨s, S, yc, yb, i1⟩] = L0 ++ (D.take (t + 1)).map (toE s S i1) by rw [HTK'.out, List.append_assoc])
                  have HLN := Lib.hid (show (L0 ++ (D.take (t + 1)).map (toE s S i1)).length = m' + 1 by rw [← HTL.out, List.length_append, HM.out]; rfl)
                  rw [HTL.out] at HG
                  clear hown hgrow hat HKA HOA HK HRC HRT HRL HB HBA q5 qf5 r0 d0 d1 d2
                  go_wp2_with fail
                  go_roundg gq2
                  case measure => omega
                  case rel => exact ⟨t + 1, m' + 1, A5, c5, by omega, HLN.out, by go_num, HG.out.1, HRCG.out, HRTG.out, HRLG.out, HBG.out.setCell (p := ⟨q, 5, none⟩) (by show B ≤ q; omega) _⟩
      | succ gq =>
        have ht1 : t < ne := by omega
        have hti2 : (t : Int) < (ne : Int) := by omega
        obtain ⟨_, _, _, _, _, q5⟩ := HK.out.qc
        obtain ⟨_, _, r2⟩ := HK.out.rc
        have HOL := Lib.hid (show (orL i3 t es).length = ne by rw [orL_len]; exact HEL.out)
        have hown := HK.out.oE
        rw [HOL.out] at hown
        obtain ⟨e, cap, hve, hbe, hlt, _, _, _, _, e4⟩ := own_edge hown HOL.out ht1
        have hfe : wr.frozen? ⟨e, t * 5 + 4, none⟩ = false := by rw [hve] at hown; exact hown.frozenAt _
        injection hve with hve1 hve2 hve3
        subst hve1
        subst hve3
        clear hown hve2
        have HX := Lib.hid (orL_at i3 (t := t) (es := es) (by rw [HEL.out]; exact ht1))
        obtain ⟨x, hx⟩ : ∃ x, (orL i3 t es).getD t ed0 = x := ⟨_, rfl⟩
        rw [hx] at e4
        have HST := Lib.hid (show (orL i3 t es).set t ⟨((orL i3 t es).getD t ed0).f, ((orL i3 t es).getD t ed0).t, ((orL i3 t es).getD t ed0).c, ((orL i3 t es).getD t ed0).b, bits .or .i64 x.m i3⟩ = orL i3 (t + 1) es by
          rw [orL_step i3 (t := t) (es := es) (by rw [HEL.out]; exact ht1), ← HX.out, hx]
          rfl)
        clear hx
        obtain ⟨xf, xt, xc, xb, xm⟩ := x
        simp only at e4
        go_wp2_with fail
        refine wp_region_until_drew (st := [11]) (S := fun V => V.cell? ⟨q, 5, none⟩ = some (.slice (some ⟨e, 0, none⟩) ne c2) ∧ V.cell? ⟨w2.heap.size, 2, none⟩ = some (.int .i64 i3) ∧ V.cell? ⟨e, t * 5 + 4, none⟩ = some (.int .i64 xm)) (by kernel_rfl) ⟨q5, r2, e4⟩ (fun hHeld => ?_)
        refine wpAnyU_pure (i := 0) (v := ?vm0) rfl (by kernel_rfl) (by kernel_rfl) (by kernel_rfl) (by kernel_rfl) (fun _ _ _ h => h) (Or.inl ⟨by rfl, fun V _ => ?hm0⟩) (fun _ => hHeld) ?rm0
        case hm0 => go_simp; try with_reducible rfl
        try simp only [Act.put, List.getElem_toArray, List.getElem_cons_zero, List.getElem_cons_succ, List.setIfInBounds_toArray, List.set_cons_zero, List.set_cons_succ]
        refine wpAnyU_load (i := 1) (v := ?vm1) rfl (by kernel_rfl) (by kernel_rfl) (by kernel_rfl) (by kernel_rfl) (fun _ _ _ h => h) (Or.inl ⟨by rfl, fun V hSw => ?hm1⟩) hHeld ?rm1
        case hm1 => (obtain ⟨hs1, hs2, hs3⟩ := hSw); go_simp; try with_reducible rfl
        try simp only [Act.put, List.getElem_toArray, List.getElem_cons_zero, List.getElem_cons_succ, List.setIfInBounds_toArray, List.set_cons_zero, List.set_cons_succ]
        refine wpAnyU_pure (i := 2) (v := ?vm2) rfl (by kernel_rfl) (by kernel_rfl) (by kernel_rfl) (by kernel_rfl) (fun _ _ _ h => h) (Or.inl ⟨by rfl, fun V _ => ?hm2⟩) (fun _ => hHeld) ?rm2
        case hm2 => go_simp; try with_reducible rfl
        try simp only [Act.put, List.getElem_toArray, List.getElem_cons_zero, List.getElem_cons_succ, List.setIfInBounds_toArray, List.set_cons_zero, List.set_cons_succ]
        refine wpAnyU_pure (i := 3) (v := ?vm3) rfl (by kernel_rfl) (by kernel_rfl) (by kernel_rfl) (by kernel_rfl) (fun _ _ _ h => h) (Or.inl ⟨by rfl, fun V _ => ?hm3⟩) (fun _ => hHeld) ?rm3
        case hm3 => go_simp; try with_reducible rfl
        try simp only [Act.put, List.getElem_toArray, List.getElem_cons_zero, List.getElem_cons_succ, List.setIfInBounds_toArray, List.set_cons_zero, List.set_cons_succ]
        refine wpAnyU_pure (i := 4) (v := ?vm4) rfl (by kernel_rfl) (by kernel_rfl) (by kernel_rfl) (by kernel_rfl) (fun _ _ _ h => h) (Or.inl ⟨by rfl, fun V _ => ?hm4⟩) (fun _ => hHeld) ?rm4
        case hm4 => go_simp; try with_reducible rfl
        try simp only [Act.put, List.getElem_toArray, List.getElem_cons_zero, List.getElem_cons_succ, List.setIfInBounds_toArray, List.set_cons_zero, List.set_cons_succ]
        refine wpAnyU_load (i := 5) (v := ?vm5) rfl (by kernel_rfl) (by kernel_rfl) (by kernel_rfl) (by kernel_rfl) (fun _ _ _ h => h) (Or.inl ⟨by rfl, fun V hSw => ?hm5⟩) hHeld ?rm5
        case hm5 => (obtain ⟨hs1, hs2, hs3⟩ := hSw); go_simp; try with_reducible rfl
        try simp only [Act.put, List.getElem_toArray, List.getElem_cons_zero, List.getElem_cons_succ, List.setIfInBounds_toArray, List.set_cons_zero, List.set_cons_succ]
        refine wpAnyU_pure (i := 6) (v := ?vm6) rfl (by kernel_rfl) (by kernel_rfl) (by kernel_rfl) (by kernel_rfl) (fun _ _ _ h => h) (Or.inl ⟨by rfl, fun V _ => ?hm6⟩) (fun _ => hHeld) ?rm6
        case hm6 => go_simp; try with_reducible rfl
        try simp only [Act.put, List.getElem_toArray, List.getElem_cons_zero, List.getElem_cons_succ, List.setIfInBounds_toArray, List.set_cons_zero, List.set_cons_succ]
        refine wpAnyU_load (i := 7) (v := ?vm7) rfl (by kernel_rfl) (by kernel_rfl) (by kernel_rfl) (by kernel_rfl) (fun _ _ _ h => h) (Or.inl ⟨by rfl, fun V hSw => ?hm7⟩) hHeld ?rm7
        case hm7 => (obtain ⟨hs1, hs2, hs3⟩ := hSw); go_simp; try with_reducible rfl
        try simp only [Act.put, List.getElem_toArray, List.getElem_cons_zero, List.getElem_cons_succ, List.setIfInBounds_toArray, List.set_cons_zero, List.set_cons_succ]
        refine wpAnyU_pure (i := 8) (v := ?vm8) rfl (by kernel_rfl) (by kernel_rfl) (by kernel_rfl) (by kernel_rfl) (fun _ _ _ h => h) (Or.inl ⟨by rfl, fun V _ => ?hm8⟩) (fun _ => hHeld) ?rm8
        case hm8 => go_simp; try with_reducible rfl
        try simp only [Act.put, List.getElem_toArray, List.getElem_cons_zero, List.getElem_cons_succ, List.setIfInBounds_toArray, List.set_cons_zero, List.set_cons_succ]
        refine wpAnyU_pure (i := 9) (v := ?vm9) rfl (by kernel_rfl) (by kernel_rfl) (by kernel_rfl) (by kernel_rfl) (fun _ _ _ h => h) (Or.inl ⟨by rfl, fun V _ => ?hm9⟩) (fun _ => hHeld) ?rm9
        case hm9 => go_simp; try with_reducible rfl
        try simp only [Act.put, List.getElem_toArray, List.getElem_cons_zero, List.getElem_cons_succ, List.setIfInBounds_toArray, List.set_cons_zero, List.set_cons_succ]
        refine wpAnyU_pure (i := 10) (v := ?vm10) rfl (by kernel_rfl) (by kernel_rfl) (by kernel_rfl) (by kernel_rfl) (fun _ _ _ h => h) (Or.inl ⟨by rfl, fun V _ => ?hm10⟩) (fun _ => hHeld) ?rm10
        case hm10 => go_simp; try with_reducible rfl
        try simp only [Act.put, List.getElem_toArray, List.getElem_cons_zero, List.getElem_cons_succ, List.setIfInBounds_toArray, List.set_cons_zero, List.set_cons_succ]
        refine wpAnyU_ready (rs := [11]) (by kernel_rfl) (by simp) (AllU.cons (i := 11) rfl (fun K hK => ?_) AllU.nil)
        simp only [List.getElem_toArray, List.getElem_cons_zero, List.getElem_cons_succ]
        go_simp
        refine hK.out _ _ (fun h => by have h2 : false = true := h; cases h2) ?_
        clear hK K
        try simp only [Act.put, List.getElem_toArray, List.getElem_cons_zero, List.getElem_cons_succ, List.setIfInBounds_toArray, List.set_cons_zero, List.set_cons_succ]
        refine wpAnyU_done (by kernel_rfl) ?_ _
        clear hHeld
        go_wp2_with fail
        go_roundg gq
        case measure => omega
        case rel =>
          refine ⟨t + 1, by omega, by go_num, ?_, ?_⟩
          · have h := (HK.out.mark HOL.out.symm (t := t) (by rw [HOL.out]; exact ht1) (bits .or .i64 xm i3)).below (Below.refl _ _).drew
            rw [HST.out] at h
            exact h
          · exact (HBx.out.setCell (p := ⟨e, t * 5 + 4, none⟩) hbe _).drew

end Go.Proofs.Ytalgbcndifaaiaa.Wd
