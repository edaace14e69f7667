/-
  A game that comes in as an argument, opened: its lists, its rows, and how long the reach lets them be.
-/
import Derived.Test.YtffdbncjndnnaaaGaParts
import Derived.WalkKit
import Derived.ProofKit
import Derived.OpenShut
import Derived.Deep.Slices
import Derived.Deep.Matrix
import Derived.Deep.Grids
import Derived.Lib.SmallJoins
import Derived.SizedLaws
namespace Go.Proofs.Ytffdbncjndnnaaa.Wd
open Go.ChangeShapes Go.WideShapes Go.ChangeAt Go.RowKit Go.Joins
set_option linter.unusedVariables false

theorem cellsInt12 : Try.prog.cellsOf 3 = 1 := by kernel_rfl
theorem cellsBool12 : Try.prog.cellsOf 4 = 1 := by kernel_rfl
theorem cellsInts12 : Try.prog.cellsOf 22 = 1 := by kernel_rfl
theorem cellsLists12 : Try.prog.cellsOf 23 = 1 := by kernel_rfl
theorem cellsGame12 : Try.prog.cellsOf 25 = 3 := by kernel_rfl
theorem bytesInt12 : Try.prog.bytesOf 3 = 8 := by kernel_rfl
theorem bytesBool12 : Try.prog.bytesOf 4 = 1 := by kernel_rfl
theorem bytesInts12 : Try.prog.bytesOf 22 = 24 := by kernel_rfl

/-- The datum of a slice whose array has c elements. -/
def SlD {H : Type} (d : DataW H) (c : Nat) : Prop := (d = .nil ∧ c = 0) ∨ ∃ es sp, d = .slice es sp ∧ es.length + sp.length = c

theorem list3o {α : Type} {l : List α} (h : l.length = 3) : ∃ a b c, l = [a, b, c] := by
  match l, h with
  | [a, b, c], _ => exact ⟨a, b, c, rfl⟩
theorem array3o {α : Type} {l : Array α} (h : l.size = 3) : ∃ a b c, l = #[a, b, c] := by
  obtain ⟨l⟩ := l
  obtain ⟨a, b, c, rfl⟩ := list3o (by simpa using h)
  exact ⟨a, b, c, rfl⟩

theorem weightsAll_mem {H : Type} {P : Program} {t : TypeId} : ∀ {l : List (DataW H)} {d : DataW H} {k : Nat}, d ∈ l → k ∈ d.weights P t → k ∈ DataW.weightsAll P t l
  | x :: l, d, k, hd, hk => by
    simp only [DataW.weightsAll, List.mem_append]
    rcases List.mem_cons.1 hd with rfl | hd
    · exact .inl hk
    · exact .inr (weightsAll_mem hd hk)

section
variable {H : Type} {enc : TypeId × Value → H} {w : World}
theorem open_list12 {n : Nat} {v : Value} {y : DataW H × List MemPlace} (h : DataW.trod enc Try.prog w 0 (fun _ => true) true n 22 [v] = some y) :
    ∃ A len c xs, v = .slice A len c ∧ Ints w A len xs ∧ len ≤ c ∧ SlD y.1 c := by
  rcases open_ints Try.underlying22 Try.underlying3 cellsInt12 h with ⟨e, rfl⟩ | ⟨a, len, cap, zs, e, _, hl, hm, hz, rfl, hc, hw⟩
  · exact ⟨none, 0, 0, [], by simpa using e, Ints.none_, Nat.le_refl _, .inl ⟨rfl, rfl⟩⟩
  · simp only [if_true] at hz
    refine ⟨some a, len, cap, zs.take len, by simpa using e, ⟨by rw [List.length_take]; omega, fun hn => ?_⟩, hl, .inr ⟨_, _, rfl, by simp [lits]; omega⟩⟩
    obtain ⟨b, off, spot⟩ := a
    have h0 := hc 0 (by omega)
    have hspot : spot = none := by simpa [Addr.add] using World.cell?_spot h0
    subst hspot
    refine ⟨b, off, rfl, ?_, fun j hj => ?_⟩
    · have := World.block_lt_of_cell? _ _ h0
      simpa [Addr.add] using this
    · have := hc j (by omega)
      rw [Addr.add_lit] at this
      rw [this]
      simp [List.getD_eq_getElem?_getD, hj]

theorem open_bools12 {n : Nat} {v : Value} {y : DataW H × List MemPlace} (h : DataW.trod enc Try.prog w 0 (fun _ => true) true n 26 [v] = some y) :
    ∃ A len c K, v = .slice A len c ∧ BoolsIn w A len K ∧ len ≤ c ∧ SlD y.1 c := by
  rcases Go.Deep.open_bools Try.underlying26 Try.underlying4 cellsBool12 h with ⟨e, rfl⟩ | ⟨a, len, cap, B, e, _, hl, hm, rfl, hc⟩
  · exact ⟨none, 0, 0, fun _ => false, by simpa using e, fun h => by omega, Nat.le_refl _, .inl ⟨rfl, rfl⟩⟩
  · refine ⟨some a, len, cap, B, by simpa using e, fun hn => ?_, hl, .inr ⟨_, _, rfl, by simp; omega⟩⟩
    obtain ⟨b, off, spot⟩ := a
    have h0 := hc 0 (by omega)
    have hspot : spot = none := by simpa [Addr.add] using World.cell?_spot h0
    subst hspot
    refine ⟨b, off, rfl, ?_, fun j hj => ?_⟩
    · have := World.block_lt_of_cell? _ _ h0
      simpa [Addr.add] using this
    · have := hc j (by omega)
      rw [Addr.add_lit] at this
      exact this

set_option maxRecDepth 100000 in
theorem open_lists12 {n : Nat} {v : Value} {y : DataW H × List MemPlace} (h : DataW.trod enc Try.prog w 0 (fun _ => true) true n 23 [v] = some y) :
    ∃ A len c X, v = .slice A len c ∧ ListsAt w A len X ∧ len ≤ c ∧ SlD y.1 c ∧ ∀ j, 0 < (X.getD j []).length → ∃ k ∈ y.1.weights Try.prog 23, (X.getD j []).length * 8 ≤ k := by
  rcases Go.Deep.open_int_rows Try.underlying23 Try.underlying22 Try.underlying3 cellsInts12 cellsInt12 h with ⟨e, rfl⟩ | ⟨a, len, cap, A, L, C, Z, e, _, hl, hm, rfl, hx⟩
  · exact ⟨none, 0, 0, [], by simpa using e, ListsAt.none_ _, Nat.le_refl _, .inl ⟨rfl, rfl⟩, fun j hj => by simp at hj⟩
  · have hget : ∀ j, j < len → ((List.range len).map fun r => (Z r).take (L r)).getD j [] = (Z j).take (L j) := fun j hj => by simp [List.getD_eq_getElem?_getD, hj]
    have hlen : ∀ j, j < len → ((Z j).take (L j)).length = L j := fun j hj => by
      obtain ⟨_, h1, _, h2, _⟩ := hx j (by omega)
      rw [List.length_take]
      omega
    refine ⟨some a, len, cap, (List.range len).map fun r => (Z r).take (L r), by simpa using e, ⟨by simp, fun hn => ?_⟩, hl, .inr ⟨_, _, rfl, by simp; omega⟩, fun j hj => ?_⟩
    · obtain ⟨b, off, spot⟩ := a
      have h0 := (hx 0 (by omega)).1
      have hspot : spot = none := by simpa [Addr.add] using World.cell?_spot h0
      subst hspot
      refine ⟨b, off, rfl, ?_, fun j hj => ?_⟩
      · have := World.block_lt_of_cell? _ _ h0
        simpa [Addr.add] using this
      · obtain ⟨g1, g2, g3, g4, g5, g6, g7⟩ := hx j (by omega)
        rw [Addr.add_lit] at g1
        rw [hget j hj, hlen j hj]
        refine ⟨A j, C j, g1, hlen j hj, fun h0 => ?_⟩
        cases hA : A j with
        | none => have := g6 hA; omega
        | some a' =>
          obtain ⟨_, hc⟩ := g7 a' hA
          obtain ⟨b', off', spot'⟩ := a'
          have h0' := hc 0 (by omega)
          have hspot : spot' = none := by simpa [Addr.add] using World.cell?_spot h0'
          subst hspot
          refine ⟨b', off', rfl, ?_, fun i hi => ?_⟩
          · have := World.block_lt_of_cell? _ _ h0'
            simpa [Addr.add] using this
          · have := hc i (by omega)
            rw [Addr.add_lit] at this
            rw [this]
            simp [List.getD_eq_getElem?_getD, hi]
    · have hjl : j < len := by
        by_cases hjl : j < len
        · exact hjl
        · simp [List.getD_eq_getElem?_getD, hjl] at hj
      rw [hget j hjl] at hj ⊢
      rw [hlen j hjl] at hj ⊢
      obtain ⟨g1, g2, g3, g4, g5, g6, g7⟩ := hx j (by omega)
      cases hA : A j with
      | none => have := g6 hA; omega
      | some a' =>
        refine ⟨C j * 8, ?_, by omega⟩
        have hd : Go.Deep.intRow (H := H) .i64 (A j) (L j) (Z j) ∈ (List.range len).map fun r => Go.Deep.intRow (H := H) .i64 (A r) (L r) (Z r) := List.mem_map.2 ⟨j, List.mem_range.2 hjl, rfl⟩
        have hk : C j * 8 ∈ (Go.Deep.intRow (H := H) .i64 (A j) (L j) (Z j)).weights Try.prog 22 := by
          rw [hA]
          simp only [Go.Deep.intRow, DataW.weights, Try.underlying22, bytesInt12, lits, List.length_map, List.length_take, List.length_drop]
          refine List.mem_cons.2 (.inl ?_)
          omega
        have := weightsAll_mem hd hk
        simp only [DataW.weights, Try.underlying23]
        exact List.mem_cons.2 (.inr (List.mem_append.2 (.inl this)))

set_option maxRecDepth 100000 in
theorem open_game {r : Reach} {b0 : Nat} {v : Value} {d : DataW H} {p : List MemPlace} (hv : Value.okWide Try.prog w r b0 25 v) (h : DataW.Trod enc Try.prog w 0 (fun _ => true) true 25 v d p) :
    ∃ a n c q m e x k f G, ∃ d0 d1 d2, d = .agg [d0, d1, d2] ∧ SlD d0 c ∧ SlD d1 e ∧ SlD d2 f ∧ v = .agg #[.slice a n c, .slice q m e, .slice x k f] ∧ GameIn w a n q m x k G ∧ n ≤ c ∧ m ≤ e ∧ k ≤ f ∧
      ∀ j, 0 < (G.X.getD j []).length → ∃ z ∈ d2.weights Try.prog 23, (G.X.getD j []).length * 8 ≤ z := by
  obtain ⟨cs, rfl, hsz⟩ := okWide_struct Try.underlying25 hv
  obtain ⟨v0, v1, v2, rfl⟩ := array3o (hsz.trans cellsGame12)
  obtain ⟨fuel, hf⟩ := h
  obtain ⟨xs, k, _, hx, hl, hlen, hf⟩ := DataW.trod_struct Try.underlying25 hf
  obtain ⟨y0, y1, y2, rfl⟩ := list3o (by simpa using hlen)
  have h0 : DataW.trod enc Try.prog w 0 (fun _ => true) true k 22 [v0] = some y0 := by
    have h := hf 0 _ rfl
    simpa [Value.cells, cellsInts12] using h
  have h1 : DataW.trod enc Try.prog w 0 (fun _ => true) true k 22 [v1] = some y1 := by
    have h := hf 1 _ rfl
    simpa [Value.cells, cellsInts12] using h
  have h2 : DataW.trod enc Try.prog w 0 (fun _ => true) true k 23 [v2] = some y2 := by
    have h := hf 2 _ rfl
    simpa [Value.cells, cellsInts12, cellsLists12] using h
  obtain ⟨a, n, c, O, rfl, i1, i2, i3⟩ := open_list12 h0
  obtain ⟨q, m, e, P, rfl, j1, j2, j3⟩ := open_list12 h1
  obtain ⟨x, l, f, X, rfl, k1, k2, k3, k4⟩ := open_lists12 h2
  simp only [Prod.mk.injEq] at hx
  exact ⟨a, n, c, q, m, e, x, l, f, ⟨O, P, X⟩, _, _, _, hx.1, i3, j3, k3, rfl, ⟨i1, j1, k1⟩, i2, j2, k2, k4⟩

set_option maxRecDepth 100000 in
theorem reach_game {ts : List TypeId} {ds : List (DataW H)} (hsz : (DataW.weightsEach Try.prog ts ds).all (· ≤ reachBytes) = true) {j : Nat} (ht : ts[j]? = some 25) {d0 d1 d2 : DataW H} (hd : ds[j]? = some (.agg [d0, d1, d2])) {c e f : Nat} {X : List (List Int)}
    (s0 : SlD d0 c) (s1 : SlD d1 e) (s2 : SlD d2 f) (hX : ∀ j, 0 < (X.getD j []).length → ∃ z ∈ d2.weights Try.prog 23, (X.getD j []).length * 8 ≤ z) :
    c ≤ 17592186044416 ∧ e ≤ 17592186044416 ∧ f ≤ 17592186044416 ∧ ∀ v, (X.getD v []).length ≤ 17592186044416 := by
  have key : ∀ k ∈ (DataW.agg [d0, d1, d2]).weights Try.prog 25, k ≤ reachBytes := fun k hk => by
    exact of_decide_eq_true (List.all_eq_true.1 hsz k (DataW.weights_mem_each ht hd k hk))
  simp only [reachBytes] at key
  refine ⟨?_, ?_, ?_, fun v => ?_⟩
  · rcases s0 with ⟨_, rfl⟩ | ⟨es, sp, rfl, rfl⟩
    · omega
    · have := key ((es.length + sp.length) * 8) (by simp [DataW.weights, DataW.weightsEach, Try.underlying25, Try.underlying22, bytesInt12])
      omega
  · rcases s1 with ⟨_, rfl⟩ | ⟨es, sp, rfl, rfl⟩
    · omega
    · have := key ((es.length + sp.length) * 8) (by simp [DataW.weights, DataW.weightsEach, Try.underlying25, Try.underlying22, bytesInt12])
      omega
  · rcases s2 with ⟨_, rfl⟩ | ⟨es, sp, rfl, rfl⟩
    · omega
    · have := key ((es.length + sp.length) * 24) (by simp [DataW.weights, DataW.weightsEach, Try.underlying25, Try.underlying23, bytesInts12])
      omega
  · by_cases h0 : 0 < (X.getD v []).length
    · obtain ⟨z, hz, hle⟩ := hX v h0
      have := key z (by simp [DataW.weights, DataW.weightsEach, Try.underlying25, hz])
      omega
    · omega

theorem reach_ints {ts : List TypeId} {ds : List (DataW H)} (hsz : (DataW.weightsEach Try.prog ts ds).all (· ≤ reachBytes) = true) {j : Nat} (ht : ts[j]? = some 22) {d : DataW H} (hd : ds[j]? = some d) {c : Nat} (s : SlD d c) : c ≤ 17592186044416 := by
  have key : ∀ k ∈ d.weights Try.prog 22, k ≤ reachBytes := fun k hk => of_decide_eq_true (List.all_eq_true.1 hsz k (DataW.weights_mem_each ht hd k hk))
  simp only [reachBytes] at key
  rcases s with ⟨_, rfl⟩ | ⟨es, sp, rfl, rfl⟩
  · omega
  · have := key ((es.length + sp.length) * 8) (by simp [DataW.weights, Try.underlying22, bytesInt12])
    omega
theorem reach_bools {ts : List TypeId} {ds : List (DataW H)} (hsz : (DataW.weightsEach Try.prog ts ds).all (· ≤ reachBytes) = true) {j : Nat} (ht : ts[j]? = some 26) {d : DataW H} (hd : ds[j]? = some d) {c : Nat} (s : SlD d c) : c ≤ 140737488355328 := by
  have key : ∀ k ∈ d.weights Try.prog 26, k ≤ reachBytes := fun k hk => of_decide_eq_true (List.all_eq_true.1 hsz k (DataW.weights_mem_each ht hd k hk))
  simp only [reachBytes] at key
  rcases s with ⟨_, rfl⟩ | ⟨es, sp, rfl, rfl⟩
  · omega
  · have := key ((es.length + sp.length) * 1) (by simp [DataW.weights, Try.underlying26, bytesBool12])
    omega
end

end Go.Proofs.Ytffdbncjndnnaaa.Wd
