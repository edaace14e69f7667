/-
  In how many moves a player can force a play into a set: the layers.
-/
import Derived.Test.YtffdbncjndnnaaaGaRefPlayE
namespace Go.Proofs.Ytffdbncjndnnaaa.Wd
open Go.RowKit
set_option linter.unusedVariables false
set_option linter.unusedSimpArgs false

def anyF (S : Nat → Int) (l : List Int) : Bool := l.any fun j => decide (0 ≤ S j.toNat)
def allF (S : Nat → Int) (l : List Int) : Bool := l.all fun j => decide (0 ≤ S j.toNat)
/-- Is a position found from those that are found? -/
def rdyB (G : Gm) (q : Int) (S : Nat → Int) (v : Nat) : Bool := if G.O.getD v 0 = q then anyF S (G.X.getD v []) else allF S (G.X.getD v [])
def layer (G : Gm) (q : Int) (S : Nat → Int) (k : Nat) (v : Nat) : Int := if 0 ≤ S v then S v else if rdyB G q S v then (k : Int) else -1
/-- The numbers that are found within k moves, else -1. -/
def stepsF (G : Gm) (q : Int) (T : Nat → Bool) : Nat → Nat → Int
  | 0, v => if T v then 0 else -1
  | k + 1, v => layer G q (stepsF G q T k) (k + 1) v
def Stab (G : Gm) (q : Int) (T : Nat → Bool) (n k : Nat) : Prop := ∀ v, v < n → stepsF G q T (k + 1) v = stepsF G q T k v

theorem anyF_next (S : Nat → Int) (l : List Int) {j : Nat} (h : j < l.length) : anyF S (l.take (j + 1)) = (anyF S (l.take j) || decide (0 ≤ S (l.getD j 0).toNat)) := by
  have e : l.take (j + 1) = l.take j ++ [l.getD j 0] := by
    rw [List.take_succ_eq_append_getElem h]
    simp [List.getD_eq_getElem?_getD, List.getElem?_eq_getElem h]
  unfold anyF
  rw [e, List.any_append]
  simp
theorem allF_next (S : Nat → Int) (l : List Int) {j : Nat} (h : j < l.length) : allF S (l.take (j + 1)) = (allF S (l.take j) && decide (0 ≤ S (l.getD j 0).toNat)) := by
  have e : l.take (j + 1) = l.take j ++ [l.getD j 0] := by
    rw [List.take_succ_eq_append_getElem h]
    simp [List.getD_eq_getElem?_getD, List.getElem?_eq_getElem h]
  unfold allF
  rw [e, List.all_append]
  simp
theorem any_congr {S S' : Nat → Int} : ∀ {l : List Int}, (∀ j ∈ l, S j.toNat = S' j.toNat) → anyF S l = anyF S' l ∧ allF S l = allF S' l
  | [], _ => ⟨rfl, rfl⟩
  | y :: l, h => by
    obtain ⟨h1, h2⟩ := any_congr (l := l) fun j hj => h j (List.mem_cons_of_mem _ hj)
    unfold anyF allF at *
    simp only [List.any_cons, List.all_cons, h1, h2, h y (List.mem_cons_self ..)]
    exact ⟨trivial, trivial⟩

theorem stepsF_low (G : Gm) (q : Int) (T : Nat → Bool) : ∀ (k v : Nat), stepsF G q T k v = -1 ∨ (0 ≤ stepsF G q T k v ∧ stepsF G q T k v ≤ k)
  | 0, v => by
    unfold stepsF
    cases T v
    · exact .inl rfl
    · exact .inr ⟨Int.le_refl _, Int.le_refl _⟩
  | k + 1, v => by
    unfold stepsF layer
    have := stepsF_low G q T k v
    split
    · omega
    · split
      · omega
      · exact .inl rfl

theorem stepsF_keep {G : Gm} {q : Int} {T : Nat → Bool} {k v : Nat} (h : 0 ≤ stepsF G q T k v) : stepsF G q T (k + 1) v = stepsF G q T k v := by
  show layer G q (stepsF G q T k) (k + 1) v = _
  unfold layer
  rw [if_pos h]
theorem stepsF_got {G : Gm} {q : Int} {T : Nat → Bool} {k v : Nat} (h : ¬ 0 ≤ stepsF G q T k v) (hr : rdyB G q (stepsF G q T k) v = true) : stepsF G q T (k + 1) v = ((k + 1 : Nat) : Int) := by
  show layer G q (stepsF G q T k) (k + 1) v = _
  unfold layer
  rw [if_neg h, hr, if_pos rfl]
theorem stepsF_not {G : Gm} {q : Int} {T : Nat → Bool} {k v : Nat} (h : ¬ 0 ≤ stepsF G q T k v) (hr : rdyB G q (stepsF G q T k) v = false) : stepsF G q T (k + 1) v = stepsF G q T k v := by
  have h1 : stepsF G q T (k + 1) v = -1 := by
    show layer G q (stepsF G q T k) (k + 1) v = _
    unfold layer
    rw [if_neg h, hr]
    rfl
  rcases stepsF_low G q T k v with h2 | h2
  · rw [h1, h2]
  · omega

theorem Stab.later {G : Gm} {q : Int} {T : Nat → Bool} {n k : Nat} (hX : ∀ v, v < n → ∀ j ∈ G.X.getD v [], 0 ≤ j ∧ j < n) (h : Stab G q T n k) : ∀ d v, v < n → stepsF G q T (k + d) v = stepsF G q T k v
  | 0, v, _ => rfl
  | d + 1, v, hv => by
    have ih := Stab.later hX h d
    by_cases h0 : 0 ≤ stepsF G q T (k + d) v
    · exact (stepsF_keep h0).trans (ih v hv)
    · cases hr : rdyB G q (stepsF G q T (k + d)) v
      · exact (stepsF_not h0 hr).trans (ih v hv)
      · exfalso
        have hk := ih v hv
        have h1 : rdyB G q (stepsF G q T k) v = true := by
          rw [← hr]
          unfold rdyB
          obtain ⟨e1, e2⟩ := any_congr (S := stepsF G q T k) (S' := stepsF G q T (k + d)) (l := G.X.getD v []) fun j hj => (ih j.toNat (by have := hX v hv j hj; omega)).symm
          rw [e1, e2]
        have h2 := stepsF_got (by rw [← hk]; exact h0) h1
        have h3 := h v hv
        omega
theorem Stab.same {G : Gm} {q : Int} {T : Nat → Bool} {n k k' : Nat} (hX : ∀ v, v < n → ∀ j ∈ G.X.getD v [], 0 ≤ j ∧ j < n) (h : Stab G q T n k) (h' : Stab G q T n k') : ∀ v, v < n → stepsF G q T k v = stepsF G q T k' v := fun v hv => by
  have h1 := h.later hX k' v hv
  have h2 := h'.later hX k v hv
  rw [show k' + k = k + k' by omega] at h2
  rw [← h1, h2]

theorem filt_le {n : Nat} {f g : Nat → Bool} (h : ∀ v, v < n → f v = true → g v = true) : ((List.range n).filter f).length ≤ ((List.range n).filter g).length := by
  induction n with
  | zero => simp
  | succ n ih =>
    have := ih fun v hv => h v (by omega)
    rw [List.range_succ, List.filter_append, List.filter_append, List.length_append, List.length_append]
    have h2 := h n (by omega)
    cases hf : f n <;> cases hg : g n <;> simp_all
    all_goals omega
theorem filt_lt {n : Nat} {f g : Nat → Bool} (h : ∀ v, v < n → f v = true → g v = true) {u : Nat} (hu : u < n) (h1 : f u = false) (h2 : g u = true) : ((List.range n).filter f).length < ((List.range n).filter g).length := by
  induction n with
  | zero => omega
  | succ n ih =>
    have h3 := h n (by omega)
    have h4 := filt_le fun v (hv : v < n) => h v (by omega)
    rw [List.range_succ, List.filter_append, List.filter_append, List.length_append, List.length_append]
    by_cases e : u = n
    · subst e
      simp [h1, h2]
      omega
    · have h5 := ih (fun v hv => h v (by omega)) (by omega)
      cases hf : f n <;> cases hg : g n <;> simp_all
      all_goals omega
theorem open_layer {G : Gm} {q : Int} {T : Nat → Bool} {n k u : Nat} (hu : u < n) (h : ¬ stepsF G q T (k + 1) u = stepsF G q T k u) : openN n (stepsF G q T (k + 1)) < openN n (stepsF G q T k) := by
  refine filt_lt (u := u) (fun v hv hf => ?_) hu (decide_eq_false fun e => ?_) (decide_eq_true ?_)
  · have hf := of_decide_eq_true hf
    refine decide_eq_true ?_
    rcases stepsF_low G q T k v with h1 | h1
    · exact h1
    · have := stepsF_keep h1.1
      omega
  · rcases stepsF_low G q T k u with h1 | h1
    · exact h (e.trans h1.symm)
    · exact h (stepsF_keep h1.1)
  · rcases stepsF_low G q T k u with h1 | h1
    · exact h1
    · exact absurd (stepsF_keep h1.1) h

end Go.Proofs.Ytffdbncjndnnaaa.Wd
