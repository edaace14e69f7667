/-
  The predecessors of a position: each once. The lists of successors of a valid game.
-/
import Derived.Test.YtffdbncjndnnaaaGaPre
import Derived.Test.YtffdbncjndnnaaaGaSrch
namespace Go.Proofs.Ytffdbncjndnnaaa.Wd
open Go.RowKit
set_option linter.unusedVariables false
set_option linter.unusedSimpArgs false

/-- The positions from which a move leads to s. -/
def preL (G : Gm) (n s : Nat) : List Nat := (List.range n).filter fun v => decide ((s : Int) ∈ G.X.getD v [])

theorem hitL_nodup (v : Int) (s : Nat) : ∀ {l : List Int}, l.Nodup → hitL v s l = if (s : Int) ∈ l then [v] else []
  | [], _ => by simp [hitL]
  | y :: l, h => by
    obtain ⟨h1, h2⟩ := List.nodup_cons.1 h
    have ih := hitL_nodup v s h2
    unfold hitL at ih ⊢
    rw [List.filter_cons]
    by_cases e : y = (s : Int)
    · subst e
      rw [if_neg h1] at ih
      rw [if_pos (by simp), List.map_cons, ih, if_pos (by simp)]
    · rw [if_neg (by simpa using e), ih]
      have : ((s : Int) ∈ y :: l) = ((s : Int) ∈ l) := by simp [Ne.symm e]
      simp only [this]

theorem preT_list {G : Gm} {n : Nat} (hnd : ∀ v, v < n → (G.X.getD v []).Nodup) (s : Nat) : preT G n 0 s = (preL G n s).map fun v => ((v : Nat) : Int) := by
  unfold preT preL
  rw [List.take_zero, show hitL (n : Int) s [] = [] by simp [hitL], List.append_nil]
  induction n with
  | zero => simp
  | succ n ih =>
    rw [List.range_succ, List.flatMap_append, List.filter_append, List.map_append, ih (fun v hv => hnd v (by omega))]
    congr 1
    rw [List.flatMap_cons, List.flatMap_nil, List.append_nil, hitL_nodup _ _ (hnd n (by omega))]
    by_cases e : (s : Int) ∈ G.X.getD n []
    · rw [if_pos e, List.filter_cons, if_pos (by simpa using e)]; simp
    · rw [if_neg e, List.filter_cons, if_neg (by simpa using e)]; simp
theorem preL_mem {G : Gm} {n s v : Nat} : v ∈ preL G n s ↔ v < n ∧ (s : Int) ∈ G.X.getD v [] := by
  unfold preL
  rw [List.mem_filter, List.mem_range, decide_eq_true_eq]
theorem preL_nodup (G : Gm) (n s : Nat) : (preL G n s).Nodup := List.nodup_range.filter _

theorem rising_nodup {l : List Int} (h : ∀ j, j + 1 < l.length → l.getD j 0 < l.getD (j + 1) 0) : l.Nodup := by
  have key : ∀ d i, i + d + 1 < l.length → l.getD i 0 < l.getD (i + d + 1) 0 := fun d => by
    induction d with
    | zero => exact fun i hi => h i hi
    | succ d ih => exact fun i hi => Int.lt_trans (ih i (by omega)) (h (i + d + 1) (by omega))
  rw [List.nodup_iff_pairwise_ne, List.pairwise_iff_getElem]
  intro i j hi hj hij
  have := key (j - i - 1) i (by omega)
  rw [show i + (j - i - 1) + 1 = j by omega] at this
  simp only [List.getD_eq_getElem?_getD, List.getElem?_eq_getElem hi, List.getElem?_eq_getElem hj, Option.getD_some] at this
  omega
theorem succB_rising {n : Int} {l : List Int} (h : succB n l = true) : ∀ j, j + 1 < l.length → l.getD j 0 < l.getD (j + 1) 0 := fun j hj => by
  unfold succB at h
  simp only [Bool.and_eq_true, decide_eq_true_eq] at h
  have := allB_at h.2 hj
  rw [stepB_succ (allB_at h.2 (show j < l.length by omega))] at this
  simp only [Bool.and_eq_true, decide_eq_true_eq] at this
  exact this.1
theorem gmB_rows {G : Gm} (hv : gmB G = true) : Rows1 (fun v => G.X.getD v []) G.X.length := by
  obtain ⟨_, _, _, h4⟩ := gmB_true hv
  refine ⟨fun v hvn => rising_nodup (succB_rising (posB_true (h4 v hvn)).2.2.2), fun v hvn y hy => ?_, fun v hvn => (succB_true (posB_true (h4 v hvn)).2.2.2).1⟩
  obtain ⟨j, hj, e⟩ := List.getElem_of_mem hy
  have h1 := (succB_true (posB_true (h4 v hvn)).2.2.2).2.2 j hj
  have h2 : (G.X.getD v []).getD j 0 = y := by
    rw [← e, List.getD_eq_getElem?_getD (l := G.X.getD v []), List.getElem?_eq_getElem hj]
    rfl
  rw [h2] at h1
  exact h1

end Go.Proofs.Ytffdbncjndnnaaa.Wd
