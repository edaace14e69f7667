/-
  AutFills returns true for all automata and all words: Fill of package aut keeps the words and makes the automaton complete. No condition beside those of the row itself.
-/
import Derived.Test.YtalgbcndifaaiaaRows
import Derived.Test.YtalgbcndifaaiaaF49
import Derived.WalkKit
import Derived.ProofKit
import Derived.OpenShut
import Derived.SizedLaws
import Derived.Carry
import Derived.Lib.SmallJoins
namespace Go.Proofs.Ytalgbcndifaaiaa.AuFillsCard
open Go.ChangeShapes Go.WideShapes Go.ChangeAt Go.RowKit Go.Joins Wd
set_option linter.unusedVariables false

theorem own : ownKnob Try.prog.godebug = none := by kernel_rfl
theorem laidOut : laidOutB Try.prog = true := by kernel_rfl

theorem cellsWord5 : Try.prog.cellsOf 27 = 2 := by kernel_rfl
section
variable {H : Type} {enc : TypeId × Value → H} {w : World}
set_option maxRecDepth 100000 in
theorem open_word5 {r : Reach} {b0 : Nat} {v : Value} {d : DataW H} {p : List MemPlace} (hv : Value.okWide Try.prog w r b0 27 v) (h : DataW.Trod enc Try.prog w 0 (fun _ => true) true 27 v d p) :
    ∃ A n c B m e xs ys d0 d1, v = .agg #[.slice A n c, .slice B m e] ∧ d = .agg [d0, d1] ∧ SlD d0 c ∧ SlD d1 e ∧ Ints w A n xs ∧ Ints w B m ys ∧ n ≤ c ∧ m ≤ e := by
  obtain ⟨c0, c1, y0, y1, m, rfl, rfl, rfl, hy0, hy1⟩ := open_agg2 Try.underlying27 (by kernel_rfl) cellsWord5 hv h
  obtain ⟨A, n, c, xs, rfl, i0, l0, s0⟩ := open_list5 hy0
  obtain ⟨B, m', e, ys, rfl, i1, l1, s1⟩ := open_list5 hy1
  exact ⟨A, n, c, B, m', e, xs, ys, _, _, rfl, rfl, s0, s1, i0, i1, l0, l1⟩
set_option maxRecDepth 100000 in
theorem reach_word5 {ts : List TypeId} {ds : List (DataW H)} (hsz : (DataW.weightsEach Try.prog ts ds).all (· ≤ reachBytes) = true) {j : Nat} (ht : ts[j]? = some 27) {d0 d1 : DataW H} (hd : ds[j]? = some (.agg [d0, d1])) {c e : Nat} (s0 : SlD d0 c) (s1 : SlD d1 e) :
    c ≤ 17592186044416 ∧ e ≤ 17592186044416 := by
  have key : ∀ k ∈ (DataW.agg [d0, d1]).weights Try.prog 27, k ≤ reachBytes := fun k hk => by
    exact of_decide_eq_true (List.all_eq_true.1 hsz k (DataW.weights_mem_each ht hd k hk))
  simp only [reachBytes] at key
  constructor
  · rcases s0 with ⟨_, rfl⟩ | ⟨es, sp, rfl, rfl⟩
    · omega
    · have := key ((es.length + sp.length) * 8) (by simp [DataW.weights, DataW.weightsEach, Try.underlying27, Try.underlying22, bytesInt5])
      omega
  · rcases s1 with ⟨_, rfl⟩ | ⟨es, sp, rfl, rfl⟩
    · omega
    · have := key ((es.length + sp.length) * 8) (by simp [DataW.weights, DataW.weightsEach, Try.underlying27, Try.underlying22, bytesInt5])
      omega
end

set_option maxRecDepth 100000 in
theorem lifted (os : Os) (started : os.Started) (H : Type) (enc : TypeId × Value → H) :
    ReturnsInHanded {} Try.checked os 3 .any (Rows.autFillsSpec.pre6 enc Try.prog Try.f3 Rows.autFillsRow.domain false) (Rows.autFillsSpec.post enc Try.prog Try.f3 false true false false) := by
  refine returnsInHanded_of_change_sized (C := Try.checked) own started (by kernel_rfl) Try.func3
    (ChangeSpec.witness6 (enc := enc) (C := Try.checked) false ⟨#[], #[.agg #[.int .i64 0, .int .i64 0, .slice none 0 0, .int .i64 0, .int .i64 0, .slice none 0 0], .agg #[.slice none 0 0, .slice none 0 0]], []⟩ 8 (by kernel_rfl) (by kernel_rfl) (by kernel_rfl) (by kernel_rfl)) ?_
  intro W base args ds gs before hval0 hW hcnd hsz0 _
  have hval : ∀ (j : Nat) t v, Try.f3.params[j]? = some t → args[j]? = some v → Value.okWide Try.prog W .any base t v := hval0
  have hW' := hW
  obtain ⟨p, q, hA0, hV, rfl, hfz, hnd⟩ := hW
  have hA : DataW.TrodAll enc Try.prog W 0 (fun _ => true) true Try.f3.params.toList args.toList ds p := hA0
  rw [Try.params3] at hA hval hsz0
  obtain ⟨v0, vs0, d0, ds0, p0, q0, hargs, rfl, rfl, h0, r0⟩ := trodAll_cons hA
  obtain ⟨v1, vs1, d1, ds1, p1, q1, rfl, rfl, rfl, h1, r1⟩ := trodAll_cons r0
  obtain ⟨rfl, rfl, rfl⟩ := trodAll_nil r1
  obtain rfl : args = #[v0, v1] := by cases args; simp_all
  obtain ⟨rfl, rfl⟩ := trodVars_none hV
  have k0 := h0
  have lt0 : ∀ x ∈ p0, x.block < W.heap.size := by obtain ⟨m, hm⟩ := k0; exact DataW.trod_lt m _ _ _ hm
  have k1 := h1
  have lt1 : ∀ x ∈ p1, x.block < W.heap.size := by obtain ⟨m, hm⟩ := k1; exact DataW.trod_lt m _ _ _ hm
  obtain ⟨P, S, K, M, A, n, c, E, ne, ce, st, es, x0, x1, x2, x3, x4, x5, rfl, s2, s5, rfl, ia, ie, hbo, hnc, hnce, _⟩ := open_aut (hval 0 25 v0 rfl rfl) h0
  obtain ⟨A', n', c', B', m', d', sl, lp, y0, y1, rfl, rfl, t0, t1, ix, iy, hnc', hmd'⟩ := open_word5 (hval 1 27 v1 rfl rfl) h1
  have hr0 := reach_aut hsz0 (j := 0) rfl rfl s2 s5
  have hr1 := reach_word5 hsz0 (j := 1) rfl (d0 := y0) (d1 := y1) rfl t0 t1
  clear hA0 hval0 hsz0
  refine (fills_law P S K M A E n c ne ce st es A' B' n' c' m' d' sl lp W ia (by omega) ie (by omega) hbo ix iy hnc' hmd' (by omega) (by omega)).mono fun e W' ⟨he, bel⟩ => ?_
  subst he
  exact ⟨_, rfl, _, _, _, [], _, [], hW', trodAll_mk1 (shut_bool Try.underlying4 _),
    (trodAll_cons_mk (Below.trod laidOut (by kernel_rfl) (of_decide_eq_true (by kernel_rfl)) k0 bel lt0) (trodAll_cons_mk (Below.trod laidOut (by kernel_rfl) (of_decide_eq_true (by kernel_rfl)) k1 bel lt1) trodAll_mk0)), rfl, bel.frame _, fun h => by cases h⟩

theorem over : Rows.autFillsRow.holds Try.pinned (OpenSpec.ofChange Rows.autFillsSpec) :=
  OpenClaim.holds_of_wide 3 Try.f3 rfl rfl rfl rfl rfl rfl rfl ⟨rfl, rfl, rfl, rfl, rfl⟩ rfl rfl rfl rfl rfl (by kernel_rfl) Try.func3 (by kernel_rfl)
    (of_decide_eq_true (by kernel_rfl)) (by unfold Func.isWrapper; first | (rw [if_pos (by decide +kernel)]; kernel_rfl) | (rw [if_neg (by decide +kernel)]; exact ⟨rfl, rfl⟩))
    (fun os started H enc _ => lifted os started H enc)

theorem proved : Rows.AutFillsSaid :=
  over
#print axioms proved
end Go.Proofs.Ytalgbcndifaaiaa.AuFillsCard
