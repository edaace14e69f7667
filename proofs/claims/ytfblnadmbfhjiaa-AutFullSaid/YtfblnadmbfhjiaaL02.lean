/-
  Rows that lie beside the edges of withSink; what it adds.
-/
import Derived.Test.YtfblnadmbfhjiaaL01
namespace Go.Proofs.Ytfblnadmbfhjiaa.Wd
open Go.RowKit
set_option linter.unusedVariables false

/-- A row beside: apart from the box q and from the row of edges. -/
structure RowK (q : Nat) (vE : Value) (B e k : Nat) (v : Value) (n : Nat) (xs : List Value) (W : World) : Prop where
  own : W.ownsRow B e k v n xs
  nq : v.ownBlock ≠ some q
  ap : Apt v vE
theorem RowK.below {q B e k n : Nat} {vE v : Value} {xs : List Value} {W W' : World} (h : RowK q vE B e k v n xs W) (hb : Below W.heap.size W W') : RowK q vE B e k v n xs W' := ⟨own_keep h.own hb, h.nq, h.ap⟩
theorem RowK.grow {q B e k n : Nat} {vE v v' : Value} {xs : List Value} {W W2 : World} (h : RowK q vE B e k v n xs W) (hg : W.grownBy W2 vE.ownBlock) (hat : v'.ownBlock = vE.ownBlock ∨ v'.ownBlock = some W.heap.size) (x : Value) : RowK q v' B e k v n xs (W2.setCell ⟨q, 5, none⟩ x) :=
  have ha := apt_grow h.own h.ap hg hat
  ⟨ownsRow_setCell_other ha.1 (a := ⟨q, 5, none⟩) h.nq x, h.nq, ha.2⟩
/-- A row that was laid behind all that the state holds. -/
theorem SkS.later {g r q B p : Nat} {S Kd M i1 i2 i3 : Int} {vS vE : Value} {n1 : Nat} {st1 : List Int} {L : List Ed} {W z : World} (h : SkS g r q B p S Kd M i1 i2 i3 vS vE n1 st1 L W) {e k n : Nat} {v : Value} {xs : List Value} (ho : z.ownsRow W.heap.size e k v n xs) : RowK q vE W.heap.size e k v n xs z := by
  refine ⟨ho, fun h2 => ?_, (apt_later h.oE ho).symm⟩
  have h3 := (ho.lt _ h2).1
  have h4 := h.bs.2.2.2
  omega
/-- A row that is older than all that the state holds. -/
theorem SkS.older {g r q B p : Nat} {S Kd M i1 i2 i3 : Int} {vS vE : Value} {n1 : Nat} {st1 : List Int} {L : List Ed} {W : World} (h : SkS g r q B p S Kd M i1 i2 i3 vS vE n1 st1 L W) {b : Nat} (hb : b < B) {C e k n : Nat} {v : Value} {xs : List Value} (ho : W.ownsRow C e k v n xs) (hv : ∀ y, v.ownBlock = some y → y ≤ b) : RowK q vE C e k v n xs W := by
  refine ⟨ho, fun h2 => ?_, ?_⟩
  · have h3 := hv _ h2
    have h4 := h.bs.2.2.1
    omega
  · cases h2 : v.ownBlock with
    | none => exact .inl h2
    | some y =>
      refine .inr fun h3 => ?_
      have h4 := hv _ h2
      have h5 := (h.oE.lt _ (h3.symm.trans h2)).1
      omega
/-- A row grows that is none of the state's. -/
theorem SkS.beside {g r q B p : Nat} {S Kd M i1 i2 i3 : Int} {vS vE : Value} {n1 : Nat} {st1 : List Int} {L : List Ed} {W W2 : World} (h : SkS g r q B p S Kd M i1 i2 i3 vS vE n1 st1 L W) {b : Nat} (hb : b < g) (hr : b ≠ r) (hg2 : W.grownBy W2 (some b)) : SkS g r q B p S Kd M i1 i2 i3 vS vE n1 st1 L W2 := by
  obtain ⟨hg, hrB, hBq, hq⟩ := h.bs
  have far : ∀ x i, x < W.heap.size → x ≠ b → W2.cell? ⟨x, i, none⟩ = W.cell? ⟨x, i, none⟩ := fun x i hx hne => hg2.cell_far ⟨x, i, none⟩ hx (fun h2 => hne (by injection h2))
  have farf : ∀ x i, x < W.heap.size → x ≠ b → W2.frozen? ⟨x, i, none⟩ = W.frozen? ⟨x, i, none⟩ := fun x i hx hne => hg2.frozen_far ⟨x, i, none⟩ hx (fun h2 => hne (by injection h2))
  have cg := fun i => far g i (by omega) (by omega)
  have cz := fun i => far (g + 1) i (by omega) (by omega)
  have cr := fun i => far r i (by omega) (Ne.symm hr)
  have cq := fun i => far q i hq (by omega)
  obtain ⟨z0, z1, z2, z3, z4, z5⟩ := h.zs
  obtain ⟨r0, r1, r2⟩ := h.rc
  obtain ⟨q0, q1, q2, q3, q4, q5⟩ := h.qc
  refine ⟨⟨hg, hrB, hBq, Nat.lt_of_lt_of_le hq hg2.size⟩, (cg 0).trans h.pc, ⟨(cz 0).trans z0, (cz 1).trans z1, (cz 2).trans z2, (cz 3).trans z3, (cz 4).trans z4, (cz 5).trans z5⟩,
    fun i => (farf (g + 1) i (by omega) (by omega)).trans (h.zf i), ⟨(cr 0).trans r0, (cr 1).trans r1, (cr 2).trans r2⟩,
    ⟨(cq 0).trans q0, (cq 1).trans q1, (cq 2).trans q2, (cq 3).trans q3, (cq 4).trans q4, (cq 5).trans q5⟩, fun i => (farf q i hq (by omega)).trans (h.qf i),
    h.oS.kept hg2 (.inr fun h2 => ?_), h.oE.kept hg2 (.inr fun h2 => ?_), h.nS, h.nE, h.ap⟩
  · have := (h.oS.lt _ h2).1; omega
  · have := (h.oE.lt _ h2).1; omega

/-- What a state lacks. -/
def lackN (p : Nat) (X : Nat → Nat) (s : Nat) : List Cu := coverL (diffN (fitN p ed0) (X s)) (allCubes p)
def toE (s S : Nat) (i : Int) (x : Cu) : Ed := ⟨s, S, x.c, x.b, i⟩
/-- The edges to the sink from the first k states. -/
def sinkL (p S : Nat) (i : Int) (X : Nat → Nat) : Nat → List Ed
  | 0 => []
  | k + 1 => sinkL p S i X k ++ (lackN p X k).map (toE k S i)
theorem allCubes_few (p : Nat) (hp : p ≤ 6) : (allCubes p).length ≤ 40000 := by
  have : ∀ p : Fin 7, (allCubes p.val).length ≤ 40000 := by decide +kernel
  exact this ⟨p, by omega⟩
theorem allCubes_few2 (p : Nat) (hp : p ≤ 6) : (allCubes p).length ≤ 729 := by
  have : ∀ p : Fin 7, (allCubes p.val).length ≤ 729 := by decide +kernel
  exact this ⟨p, by omega⟩
theorem lackN_len {p : Nat} (hp : p ≤ 6) (X : Nat → Nat) (s : Nat) : (lackN p X s).length ≤ 729 := Nat.le_trans (coverL_len _ _) (allCubes_few2 p hp)
theorem sinkL_len {p : Nat} (hp : p ≤ 6) (S : Nat) (i : Int) (X : Nat → Nat) (k : Nat) : (sinkL p S i X k).length ≤ k * 729 := by
  induction k with
  | zero => simp [sinkL]
  | succ k ih =>
    have := lackN_len hp X k
    rw [sinkL, List.length_append, List.length_map]
    omega

/-- No Start state: the sink is one. -/
def stF (n S : Nat) (st : List Int) : List Int := if n = 0 then [(S : Int)] else st
/-- The sets of the states, and that of the sink. -/
def setX (S : Nat) (V : Nat → Nat) (s : Nat) : Nat := if s < S then V s else 0
theorem setX_at (S : Nat) (V : Nat → Nat) {s : Nat} (h : s < S + 1) : ((List.range S).map (fun s => Value.int .u64 (V s)) ++ [Value.int .u64 0])[s]? = some (.int .u64 (setX S V s)) := by
  unfold setX
  by_cases hs : s < S
  · rw [List.getElem?_append_left (by simpa using hs), List.getElem?_map, List.getElem?_range hs, if_pos hs]; rfl
  · obtain rfl : s = S := by omega
    rw [List.getElem?_append_right (by simp), if_neg hs]
    simp
theorem allCubes_small (p : Nat) (hp : p ≤ 6) : ∀ j, j < (allCubes p).length → ((allCubes p).getD j cu0).l < 18446744073709551616 := by
  have : ∀ p : Fin 7, ((allCubes p.val).all fun x => decide (x.l < 18446744073709551616)) = true := by decide +kernel
  intro j hj
  rw [List.getD_eq_getElem?_getD, List.getElem?_eq_getElem hj]
  exact of_decide_eq_true (List.all_eq_true.1 (this ⟨p, by omega⟩) _ (List.getElem_mem hj))
theorem setc_info : (Try.prog.info? 92).map (fun i => (i.zero, i.size, i.bytes)) = some (some (.int .u64 0), 1, 8) := by kernel_rfl

section
variable {P : Program} (w : World)
/-- append of one edge to a long row. -/
theorem wpList_append_edge {ops : Array Oper} {rest : List Oper} {o : Oper} {a : Act} {Q : Exit → Act → World → Prop} (hgd : o.guard = none) (s x : Operand) (t : TypeId)
    (ho : o.op = .call { callee := .builtin .append, args := #[s, x], argTypes := #[t, t] })
    (base : Nat) (e : TypeId) (i : TypeInfo) (z : Value) (ht : P.underlying t = some (.slice e)) (hi : P.info? e = some i) (hz : i.zero = some z)
    (hsize : i.size = 5) (hby : i.bytes = 40) (hzs : z.cells.size = 5)
    (v : Value) (n : Nat) (xs : List Value) (hs : a.eval s = v) (hown : w.ownsRow base e 5 v n xs)
    (ad : Addr) (c : Nat) (y : Ed) (hx : a.eval x = .slice (some ad) 1 c) (hnews : ∀ j u, (edV y)[j]? = some u → w.cell? (ad.add j) = some u) (hn : n ≤ 10000000) (hbase : base ≤ w.heap.size)
    (h : ∀ v' w', w'.ownsRow base e 5 v' (n + 1) (xs ++ edV y) → w.grownBy w' v.ownBlock → (v'.ownBlock = v.ownBlock ∨ v'.ownBlock = some w.heap.size) → wpList P ops Q rest (a.put o.dst v') w') : wpList P ops Q (o :: rest) a w := by
  obtain ⟨v', w', hrun, h2, h3, _, h4⟩ := run_append_own_at (P := P) w base t o.type e i z 5 40 ht hi hz hsize hby hzs (by omega) v n xs hown ad 1 c (edV y) (by rfl) hnews (by
    intro u hu
    simp only [edV, List.mem_cons, List.not_mem_nil, or_false] at hu
    rcases hu with rfl | rfl | rfl | rfl | rfl <;> rfl) (by unfold maxLen; omega) (by omega) hbase
  refine wpList_plain hgd fun _ hK => ?_
  unfold Oper.wp execOp
  simp only [ho, resolve, invoke, builtin, Sem.run_bind, Sem.run_pure, Result.andThen_ok, List.map_toArray, List.map_cons, List.map_nil, hs, hx, hrun]
  exact hK _ _ (h v' w' h2 h3 h4)
end

end Go.Proofs.Ytfblnadmbfhjiaa.Wd
