/-
  WordLeast returns true for all pairs of words, valid or not: two words are the same if and only if their normal forms are, and no representation has a shorter loop, or an equally long loop and a shorter stem, than the normal form. No condition beside those of the row itself.
-/
import Derived.Test.YtimpobhpjfhmmaaDoorWdRow
import Derived.Test.YtimpobhpjfhmmaaDoorWdLeast2
namespace Go.Proofs.YtimpobhpjfhmmaaDoor.WdLeastCard
open Go.ChangeShapes Go.WideShapes Go.ChangeAt Go.RowKit Wd
set_option linter.unusedVariables false

theorem walk (A B A' B' : Option Addr) (n c m d n' c' m' d' : Nat) (s l s' l' : List Int) (w : World) (ha : Ints w A n s) (hb : Ints w B m l) (ha' : Ints w A' n' s') (hb' : Ints w B' m' l') (hnc : n ≤ c) (hmd : m ≤ d) (hnc' : n' ≤ c') (hmd' : m' ≤ d')
    (h1 : n ≤ 17592186044416 ∧ m ≤ 17592186044416) (h2 : n' ≤ 17592186044416 ∧ m' ≤ 17592186044416) :
    Calls Tryd.prog 7 #[.agg #[.slice A n c, .slice B m d], .agg #[.slice A' n' c', .slice B' m' d']] w fun e w' => e = .returned (.bool true) ∧ Below w.heap.size w w' := by
  by_cases hf : n + m ≤ 60 ∧ n' + m' ≤ 60
  · by_cases hv : validB 6 s l = true ∧ validB 6 s' l' = true
    · exact least_valid A B A' B' n c m d n' c' m' d' s l s' l' w ha hb ha' hb' hnc hmd hnc' hmd' hf hv (fun v u w0 i1 i2 => Same_good v u s l s' l' w0 i1 i2 (by have := valid6 hv.1; omega) (by have := valid6 hv.2; omega) hv.1 hv.2)
    · exact least_invalid A B A' B' n c m d n' c' m' d' s l s' l' w ha hb ha' hb' hnc hmd hnc' hmd' hf hv
  · exact least_many A B A' B' n c m d n' c' m' d' w h1 h2 hf

set_option maxRecDepth 100000 in
theorem contract (H : Type) (enc : TypeId × Value → H) (W : World) (base : Nat) (args : Array Value) (ds gs : List (DataW H)) (before : List MemPlace)
    (hval0 : ∀ (j : Nat) t v, Tryd.f7.params[j]? = some t → args[j]? = some v → Value.okWide Tryd.prog W .any base t v)
    (hW : DataW.Whole enc Tryd.prog Tryd.f7.params.toList Rows.wordLeastSpec.vars false W args.toList ds gs before)
    (hsz0 : (DataW.weightsEach Tryd.prog (Tryd.f7.params.toList ++ (OpenSpec.ofChange Rows.wordLeastSpec).bare.plain.varTypes Tryd.prog) (ds ++ gs)).all (· ≤ reachBytes) = true) :
    Calls Tryd.prog 7 args W fun e W' => ∃ v, e = .returned v ∧ Rows.wordLeastSpec.post enc Tryd.prog Tryd.f7 false true false false W args v W' := by
  have hval : ∀ (j : Nat) t v, Tryd.f7.params[j]? = some t → args[j]? = some v → Value.okWide Tryd.prog W .any base t v := hval0
  have hW' := hW
  obtain ⟨p, q, hA0, hV, rfl, hfz, hnd⟩ := hW
  have hA : DataW.TrodAll enc Tryd.prog W 0 (fun _ => true) true Tryd.f7.params.toList args.toList ds p := hA0
  rw [Tryd.params7] at hA hval hsz0
  obtain ⟨v0, vs0, d0, ds0, p0, q0, hargs, rfl, rfl, h0, r0⟩ := trodAll_cons hA
  obtain ⟨v1, vs1, d1, ds1, p1, q1, rfl, rfl, rfl, h1, r1⟩ := trodAll_cons r0
  obtain ⟨rfl, rfl, rfl⟩ := trodAll_nil r1
  obtain rfl : args = #[v0, v1] := by cases args; simp_all
  obtain ⟨rfl, rfl⟩ := trodVars_none hV
  have k0 := h0
  have lt0 : ∀ x ∈ p0, x.block < W.heap.size := by obtain ⟨m, hm⟩ := k0; exact DataW.trod_lt m _ _ _ hm
  have k1 := h1
  have lt1 : ∀ x ∈ p1, x.block < W.heap.size := by obtain ⟨m, hm⟩ := k1; exact DataW.trod_lt m _ _ _ hm
  obtain ⟨A, n, c, B, m, e, xs, ys, a0, b0, rfl, rfl, sa, sb, ia, ib, hnc, hme⟩ := open_word (hval 0 24 v0 rfl rfl) h0
  obtain ⟨A', n', c', B', m', e', xs', ys', a1, b1, rfl, rfl, sa', sb', ia', ib', hnc', hme'⟩ := open_word (hval 1 24 v1 rfl rfl) h1
  have hr0 := reach_word hsz0 (j := 0) rfl (d0 := a0) (d1 := b0) rfl sa sb
  have hr1 := reach_word hsz0 (j := 1) rfl (d0 := a1) (d1 := b1) rfl sa' sb'
  clear hA0 hval0 hsz0
  refine (walk A B A' B' n c m e n' c' m' e' xs ys xs' ys' W ia ib ia' ib' hnc hme hnc' hme' (by omega) (by omega)).mono fun e W' ⟨he, bel⟩ => ?_
  subst he
  exact ⟨_, rfl, _, _, _, [], _, [], hW', trodAll_mk1 (shut_bool Tryd.underlying4 _),
    (trodAll_cons_mk (Below.trod laidOut (by kernel_rfl) (of_decide_eq_true (by kernel_rfl)) k0 bel lt0) (trodAll_cons_mk (Below.trod laidOut (by kernel_rfl) (of_decide_eq_true (by kernel_rfl)) k1 bel lt1) trodAll_mk0)), rfl, bel.frame _, fun h => by cases h⟩

/-- A start: the listed variables as their initialisers lay them; two words without letters. -/
noncomputable def start (os : Os) : World := World.doorLaid Tryd.prog 400 os
def none2 : Array Value := #[.agg #[.slice none 0 0, .slice none 0 0], .agg #[.slice none 0 0, .slice none 0 0]]
theorem laid_met (os : Os) : laidMet Tryd.prog Rows.wordLeastRow.laid ((start os).forCall (fun _ _ => 0) ⟨#[], none2, []⟩).memory :=
  laidMet_of_run' 8 (by kernel_rfl) (by kernel_rfl)
theorem reads (os : Os) {H : Type} (enc : TypeId × Value → H) : ∃ places, DataW.whole enc Tryd.prog ((start os).forCall (fun _ _ => 0) ⟨#[], none2, []⟩).memory Tryd.f7.params.toList Rows.wordLeastSpec.vars false none2.toList 8 = some ([.agg [.nil, .nil], .agg [.nil, .nil]], [], places) :=
  ⟨[], by kernel_rfl⟩

set_option maxRecDepth 100000 in
theorem lifted (os : Os) (started : os.Started) (H : Type) (enc : TypeId × Value → H) (F : Stop.Interp) :
    ReturnsInHanded {} Tryd.checked os 7 .any ((OpenSpec.ofChange Rows.wordLeastSpec).preRow enc Tryd.prog Tryd.f7 Rows.wordLeastRow.domain false Rows.wordLeastRow.laid) (((OpenSpec.ofChange Rows.wordLeastSpec).at F).post enc Tryd.prog Tryd.f7 false true false false) := by
  obtain ⟨places, hx⟩ := reads os enc
  refine returnsInHanded_of_row (C := Tryd.checked) (s := OpenSpec.ofChange Rows.wordLeastSpec) own started (by kernel_rfl) Tryd.func7
    (witness_row_at (enc := enc) (C := Tryd.checked) false (start os) none2 rfl (by kernel_rfl) (by kernel_rfl) (by kernel_rfl)
      (OpenSpec.preRow_of_cond 8 hx (by kernel_rfl) (fun k hk => by cases hk) (by kernel_rfl) (laid_met os))) ?_
  intro W base args ds gs before hval hW _ _ hsz _ _ _
  exact contract H enc W base args ds gs before hval hW hsz

theorem said : Rows.WordLeastSaid :=
  OpenClaim.holds_of_cond 7 Tryd.f7 rfl rfl rfl rfl rfl rfl rfl ⟨rfl, rfl, rfl, rfl, rfl⟩ rfl rfl rfl rfl rfl (by kernel_rfl) Tryd.func7 (by kernel_rfl)
    (of_decide_eq_true (by kernel_rfl)) (by unfold Func.isWrapper; first | (rw [if_pos (by decide +kernel)]; kernel_rfl) | (rw [if_neg (by decide +kernel)]; exact ⟨rfl, rfl⟩))
    (fun os started H enc _ F => by rw [OpenClaim.pre_eq_preRow]; exact lifted os started H enc F)

theorem plain (f : FuncId) (fn : Func) (hf : Tryd.pinned.checked.prog.funcNamed "lodesman/lodesmanlaw01.WordLeast" = some f) (hfn : Tryd.pinned.checked.prog.funcs[f]? = some fn) :
    true = Tryd.pinned.checked.prog.looks [] ∧ ∀ (j : Nat) t, fn.params[j]? = some t → Tryd.pinned.checked.prog.wantsStandIn t = false := by
  obtain rfl : f = 7 := Option.some.inj ((show Tryd.prog.funcNamed "lodesman/lodesmanlaw01.WordLeast" = some 7 by kernel_rfl).symm.trans hf) |>.symm
  obtain rfl : fn = Tryd.f7 := (Option.some.inj (Tryd.func7.symm.trans hfn)).symm
  refine ⟨by kernel_rfl, fun j t ht => ?_⟩
  rw [Tryd.params7] at ht
  obtain rfl : t = 24 := by
    have := Array.mem_of_getElem? ht
    simpa using this
  exact (show Tryd.prog.wantsStandIn 24 = false by kernel_rfl)

/-- The card. -/
theorem card : Rows.WordLeastCardSaid :=
  Claim7.holds_tied_plain_at .later [] _ _ _ _ said (fun _ h => by cases h) (by kernel_rfl) (fun _ h => by cases h) wordLeast_row_tie rfl ⟨rfl, rfl⟩ (by kernel_rfl) rfl plain (by kernel_rfl)
#print axioms card
end Go.Proofs.YtimpobhpjfhmmaaDoor.WdLeastCard
