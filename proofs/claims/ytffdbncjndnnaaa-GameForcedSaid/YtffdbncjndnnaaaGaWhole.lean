/-
  A loop over an iterator that keeps nothing in cells of its own and reads, between two rounds, what the body has written: the body may write whatever is no record of the loop.
-/
import Derived.Below
import Derived.RangeFuncNested
import Derived.RangeFuncBound
import Derived.RangeFuncBox
import Derived.RangeFuncCalls
import Derived.RangeFuncLeaves
namespace Go.Proofs.Ytffdbncjndnnaaa.Wd
open Go.RowKit

/-- How a round may be left: the loop's two records lie as they lay. -/
def onNext (B : Nat) (I : World → Prop) (W : World) : Exit → Act → World → Prop
  | .normal, _, W' => W'.heap[B]? = W.heap[B]? ∧ W'.heap[B + 1]? = W.heap[B + 1]? ∧ I W'
  | .exit _, _, _ => False
  | .ret, _, _ => False
  | .goto _, _, _ => False
  | .panic _, _, _ => False
  | .outgrown, _, _ => False

/-- The world is the same but for blocks that are new and those of the loop's records. -/
structure Turned (B : Nat) (W W' : World) : Prop where
  os : W'.os = W.os
  tape : W'.tape = W.tape
  output : W'.output = W.output
  size : W.heap.size ≤ W'.heap.size
  block : ∀ k, k ≠ B → k ≠ B + 1 → k < W.heap.size → W'.heap[k]? = W.heap[k]?
theorem Turned.refl (B : Nat) (W : World) : Turned B W W := ⟨rfl, rfl, rfl, Nat.le_refl _, fun _ _ _ _ => rfl⟩
theorem Turned.trans {B : Nat} {a b c : World} (h : Turned B a b) (k : Turned B b c) : Turned B a c :=
  ⟨k.os.trans h.os, k.tape.trans h.tape, k.output.trans h.output, Nat.le_trans h.size k.size, fun i h1 h2 hl => (k.block i h1 h2 (Nat.lt_of_lt_of_le hl h.size)).trans (h.block i h1 h2 hl)⟩
theorem Turned.of_below {B : Nat} {W W' : World} (h : Below W.heap.size W W') : Turned B W W' := ⟨h.os, h.tape, h.output, h.size, fun k _ _ hk => h.block k hk⟩
theorem Turned.putObj {B : Nat} (W : World) {r : Nat} (o : Obj) (hr : r = B ∨ r = B + 1) : Turned B W (W.putObj r o) := ⟨rfl, rfl, rfl, by simp, fun k h1 h2 _ => World.putObj_heap_other (by omega)⟩
theorem Turned.cell {B : Nat} {W W' : World} (h : Turned B W W') {p : Addr} (h1 : p.block ≠ B) (h2 : p.block ≠ B + 1) (hl : p.block < W.heap.size) : W'.cell? p = W.cell? p := World.cell?_of_block (h.block _ h1 h2 hl)

variable {F : Fence} {n : Nat} {P : Program}

theorem range_next {β : Type} {g : Operand} {ps : Array Tmp} {assign body : Code} {Q : Exit → Act → World → Prop} {a : Act} {w : World}
    (hro : F.round = none) (h1 : 1 ≤ n) {gf : Nat} {lb : Array Value} (hg : a.eval g = .func (.func gf) #[] lb) (hFg : F.fn gf) (eg : ∀ args w, (callFunc gf args).run P w = .ok (.enter gf args) w)
    (f : Nat → Value) (up : β → Nat → β) (b0 : β) (Nx : β → Nat → World → Prop) (R : β → World → Prop) (St : β → World → Prop) (hps : ps.size = 1)
    (hseq : ∀ (l : Nat) (J : β → World → Prop) (W : World), (∀ G W1, J G W1 → St G W1) →
      (∀ G x W1, J G W1 → Nx G x W1 → YieldAt F (n - 1 - 1) P l #[f x] W1 fun e W' => e = .returned (.bool true) ∧ J (up G x) W') → w.heap.size + 2 ≤ W.heap.size → J b0 W →
      CallsIn F (n - 1) P gf (#[.func (.yield l) #[] #[]] ++ lb) W fun e W' => (∃ v, e = .returned v) ∧ ∃ G, R G W' ∧ J G W')
    (I : β → World → Prop) (hI : ∀ G W1 W2, I G W1 → w.heap.size ≤ W1.heap.size → Turned w.heap.size W1 W2 → I G W2) (hIS : ∀ G W, I G W → St G W)
    (hN : ∀ G x W1 W2, I G W1 → Turned w.heap.size W1 W2 → Nx G x W1 → Nx G x W2) (hR : ∀ G W1 W2, I G W1 → Turned w.heap.size W1 W2 → R G W1 → R G W2) (h0 : I b0 w)
    (a₁ : Value → Act)
    (hassign : ∀ (l : Nat) (x : Value) (W : World) (K : Act → World → Prop), K (a₁ x) W →
      assign.wpIn (F.inRound l) (n - 1 - 1) P (Exit.then K (fun _ _ _ => False)) { tmps := (ps.zip #[x]).foldl (fun t (p, v) => t.setIfInBounds p v) a.tmps, defers := [] } W)
    (hbody : ∀ (l : Nat) (G : β) (x : Nat) (W : World), I G W → Nx G x W → w.heap.size + 2 ≤ W.heap.size → body.wpIn (F.inRound l) (n - 1 - 1) P (onNext w.heap.size (I (up G x)) W) (a₁ (f x)) W)
    (hdone : ∀ (D : Nat) (G : β) (W : World), D = w.heap.size → R G W → I G W → W.heap[D]? = some (.deferred (some [])) → Q .normal { a with defers := { target := .collected D, args := #[] } :: a.defers } W) :
    (Code.rangeFunc g ps assign body).wpIn F n P Q a w := by
  refine wpIn_rangeFunc fun fn hfn => ?_
  rw [hro]
  let Rc : LoopState → Option Code → Loop := fun st pe => { state := st, pending := pe, fn := fn, tmps := a.tmps, params := ps, assign := assign, body := body, defers := w.heap.size }
  obtain ⟨V, hV⟩ : ∃ V, (w.alloc (.deferred (some []))).alloc (.loop (Rc .ready none)) = V := ⟨_, rfl⟩
  have v1 : V.heap[w.heap.size + 1]? = some (.loop (Rc .ready none)) := by
    rw [← hV]
    have := World.alloc_heap_new (w.alloc (.deferred (some []))) (.loop (Rc .ready none))
    rwa [World.size_alloc] at this
  have v0 : V.heap[w.heap.size]? = some (.deferred (some [])) := by
    rw [← hV]
    exact (Below.heap_alloc _ _ _ (by simp)).trans (World.alloc_heap_new w _)
  have hI1 : I b0 V := by rw [← hV]; exact hI _ _ _ h0 (Nat.le_refl _) (Turned.of_below (((Below.refl _ w).alloc (Nat.le_refl _) _).alloc (by simp) _))
  have hVs : w.heap.size + 2 ≤ V.heap.size := by rw [← hV]; simp
  refine ⟨w.heap.size + 1, [{ target := .collected w.heap.size, args := #[] }], V, { target := .fn (.func gf) lb, args := #[.func (.yield (w.heap.size + 1)) #[] #[]] }, V, gf,
    #[.func (.yield (w.heap.size + 1)) #[] #[]] ++ lb, V, by rw [← hV]; exact run_enterLoop_outer _ _ _ _ _, by simp only [resolve, hg]; simp [go_sem], ?_, by simp [invoke, go_sem, eg], fun _ => h1, ?_⟩
  · intro f' hf'
    simp [Target.leads] at hf'
    subst hf'
    exact hFg
  refine (hseq (w.heap.size + 1)
    (fun G W => I G W ∧ w.heap.size + 2 ≤ W.heap.size ∧ W.heap[w.heap.size + 1]? = some (.loop (Rc .ready none)) ∧ W.heap[w.heap.size]? = some (.deferred (some [])))
    V (fun G W1 h => hIS _ _ h.1) ?_ hVs ⟨hI1, hVs, v1, v0⟩).mono ?_
  · rintro G x W ⟨hi, hsz0, hl, hk⟩ hx
    have hlt : w.heap.size + 1 < W.heap.size := (Array.getElem?_eq_some_iff.1 hl).1
    refine ⟨fn, _, assign, body, run_yield (P := P) (args := #[f x]) hl (by show 1 = ps.size; exact hps.symm), roundIn_of_wpIn hfn (hassign _ (f x) W _ ⟨_, run_beginRound hl rfl, ?_⟩)⟩
    obtain ⟨B, hB⟩ : ∃ B, W.putObj (w.heap.size + 1) (.loop (Rc .busy none)) = B := ⟨_, rfl⟩
    have b1 : B.heap[w.heap.size + 1]? = some (.loop (Rc .busy none)) := by rw [← hB]; exact World.putObj_heap_same hlt
    have b0 : B.heap[w.heap.size]? = some (.deferred (some [])) := by rw [← hB]; exact (World.putObj_heap_other (by omega)).trans hk
    have ht : Turned w.heap.size W B := by rw [← hB]; exact Turned.putObj _ _ (.inr rfl)
    have hib : I G B := hI _ _ _ hi (by omega) ht
    have hxb := hN _ _ _ _ hi ht hx
    have hsz : w.heap.size + 2 ≤ B.heap.size := Nat.le_trans hsz0 ht.size
    show body.wpIn (F.inRound (w.heap.size + 1)) (n - 1 - 1) P _ (a₁ (f x)) (W.putObj (w.heap.size + 1) (.loop (Rc .busy none)))
    rw [hB]
    refine wpIn_mono (hbody _ G x B hib hxb hsz) ?_
    rintro e a3 W3 hp
    cases e with
    | normal =>
      obtain ⟨hov0, hov1, hi3⟩ := hp
      have c1 := hov1.trans b1
      have c0 := hov0.trans b0
      have hs3 : w.heap.size + 2 ≤ W3.heap.size := (Array.getElem?_eq_some_iff.1 c1).1
      have ht3 := Turned.putObj (B := w.heap.size) W3 (.loop (Rc .ready none)) (.inr rfl)
      exact ⟨_, _, run_endRound (P := P) none c1, rfl, hI _ _ _ hi3 (by omega) ht3, Nat.le_trans hs3 ht3.size, World.putObj_heap_same (Array.getElem?_eq_some_iff.1 c1).1, (World.putObj_heap_other (by omega)).trans c0⟩
    | exit i => exact hp.elim
    | ret => exact hp.elim
    | goto t => exact hp.elim
    | panic ch => exact hp.elim
    | outgrown => exact hp.elim
  · rintro e W2 ⟨⟨v, rfl⟩, G, hRG, hi, hs2, hl, hk⟩
    refine ⟨none, _, run_endLoop (P := P) hl (by simp [Rc]), ?_⟩
    exact hdone _ _ _ rfl (hR _ _ _ hi (Turned.putObj _ _ (.inr rfl)) hRG) (hI _ _ _ hi (by omega) (Turned.putObj _ _ (.inr rfl))) ((World.putObj_heap_other (by omega)).trans hk)

/-- The same, where the loop variable is moved into slot sl. -/
theorem range_slot {β : Type} {g : Operand} {p0 sl : Nat} {assign body : Code} {Q : Exit → Act → World → Prop} {a : Act} {w : World}
    (hro : F.round = none) (h1 : 1 ≤ n) {gf : Nat} {lb : Array Value} (hg : a.eval g = .func (.func gf) #[] lb) (hFg : F.fn gf) (eg : ∀ args w, (callFunc gf args).run P w = .ok (.enter gf args) w)
    (f : Nat → Value) (up : β → Nat → β) (b0 : β) (Nx : β → Nat → World → Prop) (R : β → World → Prop) (St : β → World → Prop)
    (hseq : ∀ (l : Nat) (J : β → World → Prop) (W : World), (∀ G W1, J G W1 → St G W1) →
      (∀ G x W1, J G W1 → Nx G x W1 → YieldAt F (n - 1 - 1) P l #[f x] W1 fun e W' => e = .returned (.bool true) ∧ J (up G x) W') → w.heap.size + 2 ≤ W.heap.size → J b0 W →
      CallsIn F (n - 1) P gf (#[.func (.yield l) #[] #[]] ++ lb) W fun e W' => (∃ v, e = .returned v) ∧ ∃ G, R G W' ∧ J G W')
    (I : β → World → Prop) (hI : ∀ G W1 W2, I G W1 → w.heap.size ≤ W1.heap.size → Turned w.heap.size W1 W2 → I G W2) (hIS : ∀ G W, I G W → St G W)
    (hN : ∀ G x W1 W2, I G W1 → Turned w.heap.size W1 W2 → Nx G x W1 → Nx G x W2) (hR : ∀ G W1 W2, I G W1 → Turned w.heap.size W1 W2 → R G W1 → R G W2) (h0 : I b0 w)
    (hassign : ∀ (l : Nat) (x : Value) (W : World) (K : Act → World → Prop), K { tmps := (a.tmps.setIfInBounds p0 x).setIfInBounds sl x, defers := [] } W →
      assign.wpIn (F.inRound l) (n - 1 - 1) P (Exit.then K (fun _ _ _ => False)) { tmps := a.tmps.setIfInBounds p0 x, defers := [] } W)
    (hdone : ∀ (D : Nat) (G : β) (W : World), D = w.heap.size → R G W → I G W → W.heap[D]? = some (.deferred (some [])) → Q .normal { a with defers := { target := .collected D, args := #[] } :: a.defers } W)
    (hbody : ∀ (l : Nat) (G : β) (x : Nat) (W : World), I G W → Nx G x W → w.heap.size + 2 ≤ W.heap.size → body.wpIn (F.inRound l) (n - 1 - 1) P (onNext w.heap.size (I (up G x)) W) { tmps := (a.tmps.setIfInBounds p0 (f x)).setIfInBounds sl (f x), defers := [] }  W) :
    (Code.rangeFunc g #[p0] assign body).wpIn F n P Q a w :=
  range_next hro h1 hg hFg eg f up b0 Nx R St rfl hseq I hI hIS hN hR h0 (fun x => { tmps := (a.tmps.setIfInBounds p0 x).setIfInBounds sl x, defers := [] }) (fun l x W K hK => by
    have e : (#[p0].zip #[x]).foldl (fun t (q : Tmp × Value) => t.setIfInBounds q.1 q.2) a.tmps = a.tmps.setIfInBounds p0 x := by simp
    have h := hassign l x W K hK
    rw [← e] at h
    exact h) hbody hdone

end Go.Proofs.Ytffdbncjndnnaaa.Wd
