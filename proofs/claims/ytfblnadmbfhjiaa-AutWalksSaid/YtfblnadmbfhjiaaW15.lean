/-
  An automaton that comes in as an argument, opened.
  A list of edges that comes in as an argument, opened.
  An automaton that comes in as an argument, opened.
  The reach bounds the lists of an automaton argument.
-/
import Derived.Test.YtfblnadmbfhjiaaW04
import Derived.WalkKit
import Derived.ProofKit
import Derived.OpenShut
import Derived.Deep.Slices
import Derived.Lib.SmallJoins
import Derived.SizedLaws
namespace Go.Proofs.Ytfblnadmbfhjiaa.Wd
open Go.ChangeShapes Go.WideShapes Go.ChangeAt Go.RowKit Go.Joins
set_option linter.unusedVariables false

theorem cellsInt5 : Try.prog.cellsOf 3 = 1 := by kernel_rfl
theorem cellsEdge : Try.prog.cellsOf 54 = 5 := by kernel_rfl
theorem cellsAut : Try.prog.cellsOf 25 = 6 := by kernel_rfl
theorem cellsInts5 : Try.prog.cellsOf 22 = 1 := by kernel_rfl
theorem cellsEdges : Try.prog.cellsOf 23 = 1 := by kernel_rfl
/-- A word of 64 bits. -/
def W64 (x : Int) : Prop := -9223372036854775808 ≤ x ∧ x < 9223372036854775808
theorem w64_of {x : Int} (h : (Lit.int .i64 x).wf = true) : W64 x := by
  simp only [Lit.wf, Bool.and_eq_true, decide_eq_true_eq] at h
  unfold W64
  have h1 := h.1
  have h2 := h.2
  simp [IntKind.min, IntKind.max, IntKind.bits, IntKind.signed] at h1 h2
  omega

theorem list5 {α : Type} {l : List α} (h : l.length = 5) : ∃ a b c d e, l = [a, b, c, d, e] := by
  match l, h with
  | [a, b, c, d, e], _ => exact ⟨a, b, c, d, e, rfl⟩

section
variable {H : Type} {enc : TypeId × Value → H} {w : World}
set_option maxRecDepth 100000 in
theorem open_edge {n : Nat} {cs : List Value} {y : DataW H × List MemPlace} (h : DataW.trod enc Try.prog w 0 (fun _ => true) true n 54 cs = some y) : ∃ e : Ed, cs = edV e ∧ W64 e.f ∧ W64 e.t ∧ W64 e.c ∧ W64 e.b ∧ W64 e.m := by
  obtain ⟨xs, k, _, rfl, hl, hlen, hf⟩ := DataW.trod_struct Try.underlying54 h
  rw [cellsEdge] at hl
  obtain ⟨v0, v1, v2, v3, v4, rfl⟩ := list5 hl
  have key : ∀ (v : Value) (r : DataW H × List MemPlace), DataW.trod enc Try.prog w 0 (fun _ => true) true k 3 [v] = some r → ∃ x : Int, v = .int .i64 x ∧ W64 x := fun v r hr => by
    obtain ⟨x, h1, _, h3⟩ := DataW.trod_int Try.underlying3 hr
    exact ⟨x, by simpa using h1, w64_of h3⟩
  obtain ⟨y0, y1, y2, y3, y4, rfl⟩ := list5 (by simpa using hlen)
  have h0 : DataW.trod enc Try.prog w 0 (fun _ => true) true k 3 [v0] = some y0 := by
    have h := hf 0 _ rfl
    simpa [cellsInt5] using h
  have h1 : DataW.trod enc Try.prog w 0 (fun _ => true) true k 3 [v1] = some y1 := by
    have h := hf 1 _ rfl
    simpa [cellsInt5] using h
  have h2 : DataW.trod enc Try.prog w 0 (fun _ => true) true k 3 [v2] = some y2 := by
    have h := hf 2 _ rfl
    simpa [cellsInt5] using h
  have h3 : DataW.trod enc Try.prog w 0 (fun _ => true) true k 3 [v3] = some y3 := by
    have h := hf 3 _ rfl
    simpa [cellsInt5] using h
  have h4 : DataW.trod enc Try.prog w 0 (fun _ => true) true k 3 [v4] = some y4 := by
    have h := hf 4 _ rfl
    simpa [cellsInt5] using h
  obtain ⟨x0, rfl, g0⟩ := key _ _ h0
  obtain ⟨x1, rfl, g1⟩ := key _ _ h1
  obtain ⟨x2, rfl, g2⟩ := key _ _ h2
  obtain ⟨x3, rfl, g3⟩ := key _ _ h3
  obtain ⟨x4, rfl, g4⟩ := key _ _ h4
  exact ⟨⟨x0, x1, x2, x3, x4⟩, rfl, g0, g1, g2, g3, g4⟩
end

end Go.Proofs.Ytfblnadmbfhjiaa.Wd

namespace Go.Proofs.Ytfblnadmbfhjiaa.Wd
open Go.ChangeShapes Go.WideShapes Go.ChangeAt Go.RowKit Go.Joins
set_option linter.unusedVariables false

/-- The datum of a slice whose array has c elements. -/
def SlD {H : Type} (d : DataW H) (c : Nat) : Prop := (d = .nil ∧ c = 0) ∨ ∃ es sp, d = .slice es sp ∧ es.length + sp.length = c

theorem cells5_at {w : World} {a : Addr} {c0 c1 c2 c3 c4 : Value} (h : w.cells? 0 a 5 = some [c0, c1, c2, c3, c4]) : w.cell? (a.add 0) = some c0 ∧ w.cell? (a.add 1) = some c1 ∧ w.cell? (a.add 2) = some c2 ∧ w.cell? (a.add 3) = some c3 ∧ w.cell? (a.add 4) = some c4 := by
  unfold World.cells? at h
  rw [if_pos (Nat.zero_le _), show List.range 5 = [0, 1, 2, 3, 4] from rfl] at h
  cases h0 : w.cell? (a.add 0) with
  | none => simp [List.mapM_cons, h0] at h
  | some x0 =>
    cases h1 : w.cell? (a.add 1) with
    | none => simp [List.mapM_cons, h0, h1] at h
    | some x1 =>
      cases h2 : w.cell? (a.add 2) with
      | none => simp [List.mapM_cons, h0, h1, h2] at h
      | some x2 =>
        cases h3 : w.cell? (a.add 3) with
        | none => simp [List.mapM_cons, h0, h1, h2, h3] at h
        | some x3 =>
          cases h4 : w.cell? (a.add 4) with
          | none => simp [List.mapM_cons, h0, h1, h2, h3, h4] at h
          | some x4 =>
            simp [List.mapM_cons, h0, h1, h2, h3, h4] at h
            obtain ⟨rfl, rfl, rfl, rfl, rfl⟩ := h
            exact ⟨rfl, rfl, rfl, rfl, rfl⟩

section
variable {H : Type} {enc : TypeId × Value → H} {w : World}
set_option maxRecDepth 100000 in
theorem open_edges {n : Nat} {v : Value} {y : DataW H × List MemPlace} (h : DataW.trod enc Try.prog w 0 (fun _ => true) true n 23 [v] = some y) :
    ∃ A len c es, v = .slice A len c ∧ EdgesAt w A len es ∧ BitsOK es ∧ len ≤ c ∧ c ≤ maxLen ∧ SlD y.1 c := by
  rcases Go.Deep.open_slice Try.underlying23 h with ⟨e, rfl⟩ | ⟨a, len, cap, m, k, D, Pl, e, _, hl, hm, hmm, rfl, hc⟩
  · exact ⟨none, 0, 0, [], by simpa using e, ⟨rfl, fun h => by omega⟩, (fun i hi => by simp at hi), by omega, by simp [maxLen], .inl ⟨rfl, rfl⟩⟩
  · rw [if_pos rfl] at hmm
    subst hmm
    rw [cellsEdge] at hc
    have key : ∀ i, ∃ e : Ed, i < m → (w.cells? 0 (a.add (i * 5)) 5 = some (edV e) ∧ W64 e.b) := fun i => by
      by_cases hi : i < m
      · obtain ⟨cs', h1, h2⟩ := hc i hi
        obtain ⟨e, rfl, _, _, _, h3, _⟩ := open_edge h2
        exact ⟨e, fun _ => ⟨h1, h3⟩⟩
      · exact ⟨ed0, fun h => absurd h hi⟩
    obtain ⟨f, hf⟩ := Classical.skolem.1 key
    have hget : ∀ j, j < len → ((List.range len).map f).getD j ed0 = f j := fun j hj => by simp [List.getD_eq_getElem?_getD, hj]
    refine ⟨some a, len, m, (List.range len).map f, by simpa using e, ⟨by simp, fun hn => ?_⟩, fun i hi => ?_, hl, hm, .inr ⟨_, _, rfl, by simp; omega⟩⟩
    · obtain ⟨b, off, spot⟩ := a
      have h0 := cells5_at (hf 0 (by omega)).1
      have hspot : spot = none := by simpa [Addr.add] using World.cell?_spot h0.1
      subst hspot
      refine ⟨b, off, rfl, ?_, fun j hj => ?_⟩
      · have := World.block_lt_of_cell? _ _ h0.1
        simpa [Addr.add] using this
      · rw [hget j hj]
        obtain ⟨g0, g1, g2, g3, g4⟩ := cells5_at (hf j (by omega)).1
        rw [Addr.add_lit, Addr.add_lit] at g0 g1 g2 g3 g4
        exact ⟨g0, g1, g2, g3, g4⟩
    · have hi2 : i < len := by simpa using hi
      rw [hget i hi2]
      exact (hf i (by omega)).2
end

end Go.Proofs.Ytfblnadmbfhjiaa.Wd

namespace Go.Proofs.Ytfblnadmbfhjiaa.Wd
open Go.ChangeShapes Go.WideShapes Go.ChangeAt Go.RowKit Go.Joins
set_option linter.unusedVariables false

theorem list6 {α : Type} {l : List α} (h : l.length = 6) : ∃ a b c d e f, l = [a, b, c, d, e, f] := by
  match l, h with
  | [a, b, c, d, e, f], _ => exact ⟨a, b, c, d, e, f, rfl⟩
theorem array6 {α : Type} {l : Array α} (h : l.size = 6) : ∃ a b c d e f, l = #[a, b, c, d, e, f] := by
  obtain ⟨l⟩ := l
  obtain ⟨a, b, c, d, e, f, rfl⟩ := list6 (by simpa using h)
  exact ⟨a, b, c, d, e, f, rfl⟩

section
variable {H : Type} {enc : TypeId × Value → H} {w : World}
theorem open_list5 {n : Nat} {v : Value} {y : DataW H × List MemPlace} (h : DataW.trod enc Try.prog w 0 (fun _ => true) true n 22 [v] = some y) :
    ∃ A len c xs, v = .slice A len c ∧ Ints w A len xs ∧ len ≤ c ∧ SlD y.1 c := by
  rcases open_ints Try.underlying22 Try.underlying3 cellsInt5 h with ⟨e, rfl⟩ | ⟨a, len, cap, zs, e, _, hl, hm, hz, rfl, hc, hw⟩
  · exact ⟨none, 0, 0, [], by simpa using e, Ints.none_, Nat.le_refl _, .inl ⟨rfl, rfl⟩⟩
  · simp only [if_true] at hz
    refine ⟨some a, len, cap, zs.take len, by simpa using e, ⟨by rw [List.length_take]; omega, fun hn => ?_⟩, hl, .inr ⟨_, _, rfl, by simp [lits]; omega⟩⟩
    obtain ⟨b, off, spot⟩ := a
    have h0 := hc 0 (by omega)
    have hspot : spot = none := by simpa [Addr.add] using World.cell?_spot h0
    subst hspot
    refine ⟨b, off, rfl, ?_, fun j hj => ?_⟩
    · have := World.block_lt_of_cell? _ _ h0
      simpa [Addr.add] using this
    · have := hc j (by omega)
      rw [Addr.add_lit] at this
      rw [this]
      simp [List.getD_eq_getElem?_getD, hj]

set_option maxRecDepth 100000 in
theorem open_aut {r : Reach} {b0 : Nat} {v : Value} {d : DataW H} {p : List MemPlace} (hv : Value.okWide Try.prog w r b0 25 v) (h : DataW.Trod enc Try.prog w 0 (fun _ => true) true 25 v d p) :
    ∃ P S K M A n c E ne ce st es, ∃ d0 d1 d2 d3 d4 d5, d = .agg [d0, d1, d2, d3, d4, d5] ∧ SlD d2 c ∧ SlD d5 ce ∧ v = .agg #[.int .i64 P, .int .i64 S, .slice A n c, .int .i64 K, .int .i64 M, .slice E ne ce] ∧ Ints w A n st ∧ EdgesAt w E ne es ∧ BitsOK es ∧ n ≤ c ∧ ne ≤ ce ∧ W64 P ∧ W64 S ∧ W64 K ∧ W64 M := by
  obtain ⟨cs, rfl, hsz⟩ := okWide_struct Try.underlying25 hv
  obtain ⟨v0, v1, v2, v3, v4, v5, rfl⟩ := array6 (hsz.trans cellsAut)
  obtain ⟨fuel, hf⟩ := h
  obtain ⟨xs, k, _, hx, hl, hlen, hf⟩ := DataW.trod_struct Try.underlying25 hf
  obtain ⟨y0, y1, y2, y3, y4, y5, rfl⟩ := list6 (by simpa using hlen)
  have key : ∀ (v : Value) (r : DataW H × List MemPlace), DataW.trod enc Try.prog w 0 (fun _ => true) true k 3 [v] = some r → ∃ x : Int, v = .int .i64 x ∧ W64 x := fun v r hr => by
    obtain ⟨x, h1, _, h3⟩ := DataW.trod_int Try.underlying3 hr
    exact ⟨x, by simpa using h1, w64_of h3⟩
  have h0 : DataW.trod enc Try.prog w 0 (fun _ => true) true k 3 [v0] = some y0 := by
    have h := hf 0 _ rfl
    simpa [Value.cells, cellsInt5] using h
  have h1 : DataW.trod enc Try.prog w 0 (fun _ => true) true k 3 [v1] = some y1 := by
    have h := hf 1 _ rfl
    simpa [Value.cells, cellsInt5] using h
  have h2 : DataW.trod enc Try.prog w 0 (fun _ => true) true k 22 [v2] = some y2 := by
    have h := hf 2 _ rfl
    simpa [Value.cells, cellsInts5] using h
  have h3 : DataW.trod enc Try.prog w 0 (fun _ => true) true k 3 [v3] = some y3 := by
    have h := hf 3 _ rfl
    simpa [Value.cells, cellsInt5] using h
  have h4 : DataW.trod enc Try.prog w 0 (fun _ => true) true k 3 [v4] = some y4 := by
    have h := hf 4 _ rfl
    simpa [Value.cells, cellsInt5] using h
  have h5 : DataW.trod enc Try.prog w 0 (fun _ => true) true k 23 [v5] = some y5 := by
    have h := hf 5 _ rfl
    simpa [Value.cells, cellsEdges] using h
  obtain ⟨P, rfl, g0⟩ := key _ _ h0
  obtain ⟨S, rfl, g1⟩ := key _ _ h1
  obtain ⟨K, rfl, g3⟩ := key _ _ h3
  obtain ⟨M, rfl, g4⟩ := key _ _ h4
  obtain ⟨A, n, c, st, rfl, i1, i2, i3⟩ := open_list5 h2
  obtain ⟨E, ne, ce, es, rfl, e1, e2, e3, _, e4⟩ := open_edges h5
  simp only [Prod.mk.injEq] at hx
  exact ⟨P, S, K, M, A, n, c, E, ne, ce, st, es, _, _, _, _, _, _, hx.1, i3, e4, rfl, i1, e1, e2, i2, e3, g0, g1, g3, g4⟩
end

end Go.Proofs.Ytfblnadmbfhjiaa.Wd

namespace Go.Proofs.Ytfblnadmbfhjiaa.Wd
open Go.ChangeShapes Go.WideShapes Go.ChangeAt Go.RowKit Go.Joins
set_option linter.unusedVariables false

theorem bytesInt5 : Try.prog.bytesOf 3 = 8 := by kernel_rfl
theorem bytesEdge : Try.prog.bytesOf 54 = 40 := by kernel_rfl

section
variable {H : Type} {enc : TypeId × Value → H} {w : World}
set_option maxRecDepth 100000 in
theorem reach_aut {ts : List TypeId} {ds : List (DataW H)} (hsz : (DataW.weightsEach Try.prog ts ds).all (· ≤ reachBytes) = true) {j : Nat} (ht : ts[j]? = some 25) {d0 d1 d2 d3 d4 d5 : DataW H} (hd : ds[j]? = some (.agg [d0, d1, d2, d3, d4, d5])) {c ce : Nat} (s2 : SlD d2 c) (s5 : SlD d5 ce) :
    c ≤ 17592186044416 ∧ ce ≤ 17592186044416 := by
  have key : ∀ k ∈ (DataW.agg [d0, d1, d2, d3, d4, d5]).weights Try.prog 25, k ≤ reachBytes := fun k hk => by
    exact of_decide_eq_true (List.all_eq_true.1 hsz k (DataW.weights_mem_each ht hd k hk))
  simp only [reachBytes] at key
  constructor
  · rcases s2 with ⟨_, rfl⟩ | ⟨es, sp, rfl, rfl⟩
    · omega
    · have := key ((es.length + sp.length) * 8) (by simp [DataW.weights, DataW.weightsEach, Try.underlying25, Try.underlying22, bytesInt5])
      omega
  · rcases s5 with ⟨_, rfl⟩ | ⟨es, sp, rfl, rfl⟩
    · omega
    · have := key ((es.length + sp.length) * 40) (by simp [DataW.weights, DataW.weightsEach, Try.underlying25, Try.underlying23, bytesEdge])
      omega
end

end Go.Proofs.Ytfblnadmbfhjiaa.Wd
