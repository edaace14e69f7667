/-
  A loop over an iterator that has no end, left by a break: the iterator is told that no more than N + 1 rounds will be asked for.
-/
import Derived.RangeFuncNested
import Derived.RangeFuncBound
import Derived.RangeFuncBox
import Derived.RangeFuncCalls
import Derived.RangeFuncLeaves
namespace Go.Proofs.YteidikkeoaolgaaDoor.Wd
open Go.RowKit

/-- How a round of such a loop may be left: it goes on, or it breaks. -/
def onOrOut (id : Nat) (I : World → Prop) (X : World → Prop) (W : World) : Exit → Act → World → Prop
  | .normal, _, W' => KeepsOthers W W' ∧ I W'
  | .exit i, _, W' => i = id ∧ KeepsOthers W W' ∧ X W'
  | .ret, _, _ => False
  | .goto _, _, _ => False
  | .panic _, _, _ => False
  | .outgrown, _, _ => False

variable {F : Fence} {n : Nat} {P : Program}

theorem range_until {g : Operand} {ps : Array Tmp} {assign body : Code} {Q : Exit → Act → World → Prop} {a : Act} {w : World}
    (hro : F.round = none) (h1 : 1 ≤ n) {gf : Nat} {lb : Array Value} (hg : a.eval g = .func (.func gf) #[] lb) (hFg : F.fn gf) (eg : ∀ args w, (callFunc gf args).run P w = .ok (.enter gf args) w)
    (f : Nat → Value) (N id : Nat) (St : World → Prop) (hps : ps.size = 1)
    (hseq : ∀ (l : Nat) (J : Nat → World → Prop) (X : World → Prop) (W : World), (∀ k W1, J k W1 → k ≤ N ∧ St W1) →
      (∀ k W1, J k W1 → YieldAt F (n - 1 - 1) P l #[f k] W1 fun e W' => (e = .returned (.bool true) ∧ J (k + 1) W') ∨ (e = .returned (.bool false) ∧ X W')) → J 0 W →
      CallsIn F (n - 1) P gf (#[.func (.yield l) #[] #[]] ++ lb) W fun e W' => (∃ v, e = .returned v) ∧ X W')
    (I : Nat → World → Prop) (X : World → Prop) (hIN : ∀ k W, I k W → k ≤ N ∧ St W)
    (hI0 : ∀ o o', I 0 ((w.alloc o).alloc o'))
    (hIp : ∀ k W r o o', I k W → w.heap.size ≤ r → W.heap[r]? = some o → o.isCells = false → I k (W.putObj r o'))
    (hXp : ∀ W r o o', X W → w.heap.size ≤ r → W.heap[r]? = some o → o.isCells = false → X (W.putObj r o'))
    (a₁ : Value → Act)
    (hassign : ∀ (l : Nat) (x : Value) (W : World) (K : Act → World → Prop), K (a₁ x) W →
      assign.wpIn (F.inRound l) (n - 1 - 1) P (Exit.then K (fun _ _ _ => False)) { tmps := (ps.zip #[x]).foldl (fun t (p, v) => t.setIfInBounds p v) a.tmps, defers := [] } W)
    (hbody : ∀ (l : Nat) (k : Nat) (W : World), I k W → body.wpIn (F.inRound l) (n - 1 - 1) P (onOrOut id (I (k + 1)) X W) (a₁ (f k)) W)
    (hstop : ∀ (D : Nat) (W : World), w.heap.size ≤ D → X W → W.heap[D]? = some (.deferred (some [])) → (Code.exit id).wpIn F n P Q { a with defers := { target := .collected D, args := #[] } :: a.defers } W) :
    (Code.rangeFunc g ps assign body).wpIn F n P Q a w := by
  refine wpIn_rangeFunc fun fn hfn => ?_
  rw [hro]
  let R : LoopState → Option Code → Loop := fun st pe => { state := st, pending := pe, fn := fn, tmps := a.tmps, params := ps, assign := assign, body := body, defers := w.heap.size }
  obtain ⟨V, hV⟩ : ∃ V, (w.alloc (.deferred (some []))).alloc (.loop (R .ready none)) = V := ⟨_, rfl⟩
  have v1 : V.heap[w.heap.size + 1]? = some (.loop (R .ready none)) := by
    rw [← hV]
    have := World.alloc_heap_new (w.alloc (.deferred (some []))) (.loop (R .ready none))
    rwa [World.size_alloc] at this
  have v0 : V.heap[w.heap.size]? = some (.deferred (some [])) := by
    rw [← hV]
    exact (Below.heap_alloc _ _ _ (by simp)).trans (World.alloc_heap_new w _)
  have hI1 : I 0 V := by rw [← hV]; exact hI0 _ _
  refine ⟨w.heap.size + 1, [{ target := .collected w.heap.size, args := #[] }], V, { target := .fn (.func gf) lb, args := #[.func (.yield (w.heap.size + 1)) #[] #[]] }, V, gf,
    #[.func (.yield (w.heap.size + 1)) #[] #[]] ++ lb, V, by rw [← hV]; exact run_enterLoop_outer _ _ _ _ _, by simp only [resolve, hg]; simp [go_sem], ?_, by simp [invoke, go_sem, eg], fun _ => h1, ?_⟩
  · intro f' hf'
    simp [Target.leads] at hf'
    subst hf'
    exact hFg
  refine (hseq (w.heap.size + 1)
    (fun k W => I k W ∧ W.heap[w.heap.size + 1]? = some (.loop (R .ready none)) ∧ W.heap[w.heap.size]? = some (.deferred (some [])))
    (fun W => X W ∧ W.heap[w.heap.size + 1]? = some (.loop (R .done (some (.exit id)))) ∧ W.heap[w.heap.size]? = some (.deferred (some [])))
    V (fun k W1 h => hIN k W1 h.1) ?_ ⟨hI1, v1, v0⟩).mono ?_
  · rintro k W ⟨hi, hl, hk⟩
    have hlt : w.heap.size + 1 < W.heap.size := (Array.getElem?_eq_some_iff.1 hl).1
    refine ⟨fn, _, assign, body, run_yield (P := P) (args := #[f k]) hl (by show 1 = ps.size; exact hps.symm), roundIn_of_wpIn hfn (hassign _ (f k) W _ ⟨_, run_beginRound hl rfl, ?_⟩)⟩
    obtain ⟨B, hB⟩ : ∃ B, W.putObj (w.heap.size + 1) (.loop (R .busy none)) = B := ⟨_, rfl⟩
    have b1 : B.heap[w.heap.size + 1]? = some (.loop (R .busy none)) := by rw [← hB]; exact World.putObj_heap_same hlt
    have b0 : B.heap[w.heap.size]? = some (.deferred (some [])) := by rw [← hB]; exact (World.putObj_heap_other (by omega)).trans hk
    have hib : I k B := by rw [← hB]; exact hIp k W _ _ _ hi (by omega) hl rfl
    show body.wpIn (F.inRound (w.heap.size + 1)) (n - 1 - 1) P _ (a₁ (f k)) (W.putObj (w.heap.size + 1) (.loop (R .busy none)))
    rw [hB]
    refine wpIn_mono (hbody _ k B hib) ?_
    rintro e a3 W3 hp
    cases e with
    | normal =>
      obtain ⟨hkp, hi3⟩ := hp
      have c1 := hkp.same _ _ b1 rfl
      have c0 := hkp.same _ _ b0 rfl
      exact ⟨_, _, run_endRound (P := P) none c1, .inl ⟨rfl, hIp _ W3 _ _ _ hi3 (by omega) c1 rfl, World.putObj_heap_same (Array.getElem?_eq_some_iff.1 c1).1, (World.putObj_heap_other (by omega)).trans c0⟩⟩
    | exit i =>
      obtain ⟨rfl, hkp, hx3⟩ := hp
      have c1 := hkp.same _ _ b1 rfl
      have c0 := hkp.same _ _ b0 rfl
      exact ⟨_, _, run_endRound (P := P) (some (.exit i)) c1, .inr ⟨rfl, hXp W3 _ _ _ hx3 (by omega) c1 rfl, World.putObj_heap_same (Array.getElem?_eq_some_iff.1 c1).1, (World.putObj_heap_other (by omega)).trans c0⟩⟩
    | ret => exact hp.elim
    | goto t => exact hp.elim
    | panic ch => exact hp.elim
    | outgrown => exact hp.elim
  · rintro e W2 ⟨⟨v, rfl⟩, hx, hl, hk⟩
    refine ⟨some (.exit id), _, run_endLoop (P := P) hl (by simp [R]), hstop _ _ (Nat.le_refl _) (hXp W2 _ _ _ hx (by omega) hl rfl) ((World.putObj_heap_other (by omega)).trans hk)⟩

end Go.Proofs.YteidikkeoaolgaaDoor.Wd
