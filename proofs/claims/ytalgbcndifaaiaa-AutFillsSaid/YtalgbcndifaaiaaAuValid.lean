/-
  Valid of package aut, for all automata.
-/
import Derived.Test.YtalgbcndifaaiaaAuVal3
import Derived.Test.YtalgbcndifaaiaaAtAccepts2
import Derived.Test.YtalgbcndifaaiaaAtAgain
namespace Go.Proofs.Ytalgbcndifaaiaa.Wd
open Go.RowKit
set_option linter.unusedVariables false

/-- The head of a valid automaton. -/
def headP (P S K : Int) : Prop := 0 ≤ P ∧ P ≤ 6 ∧ 0 ≤ S ∧ S ≤ 3000 ∧ 0 ≤ K ∧ K ≤ 5
instance (P S K : Int) : Decidable (headP P S K) := by unfold headP; infer_instance
/-- The lists of a valid automaton. -/
def listsB (P S M : Int) (st : List Int) (es : List Ed) : Bool := startB S st && (decide (es.length ≤ 40000) && edgesB P.toNat S M.toNat es)
/-- Is that a valid automaton? -/
def autB (P S K M : Int) (st : List Int) (es : List Ed) : Bool := decide (headP P S K) && (marksB K M && listsB P S M st es)
theorem autB_head {P S K M : Int} {st : List Int} {es : List Ed} (h : ¬ headP P S K) : autB P S K M st es = false := by unfold autB; rw [decide_eq_false h]; rfl
theorem autB_marks {P S K M : Int} {st : List Int} {es : List Ed} (h : marksB K M = false) : autB P S K M st es = false := by unfold autB; rw [h]; simp
theorem autB_tail {P S K M : Int} {st : List Int} {es : List Ed} (h : headP P S K) (hm : marksB K M = true) : autB P S K M st es = listsB P S M st es := by unfold autB; rw [decide_eq_true h, hm]; simp
theorem autB_start {P S K M : Int} {st : List Int} {es : List Ed} (h : headP P S K) (hm : marksB K M = true) (hs : startB S st = false) : autB P S K M st es = false := by rw [autB_tail h hm]; unfold listsB; rw [hs]; rfl
theorem autB_edges {P S K M : Int} {st : List Int} {es : List Ed} (h : headP P S K) (hm : marksB K M = true) (hs : startB S st = true) : autB P S K M st es = (decide (es.length ≤ 40000) && edgesB P.toNat S M.toNat es) := by rw [autB_tail h hm]; unfold listsB; rw [hs]; simp

theorem validEdges_any (P M : Nat) (S K : Int) (A E : Option Addr) (n c ne ce : Nat) (es : List Ed) (w : World) (hE : EdgesAt w E ne es) (hP : P ≤ 6) (hM : M ≤ 40) (hne : ne ≤ 17592186044416) :
    Calls Try.prog 39 #[.agg #[.int .i64 P, .int .i64 S, .slice A n c, .int .i64 K, .int .i64 M, .slice E ne ce]] w fun e w' => e = .returned (.bool (decide (es.length ≤ 40000) && edgesB P S M es)) ∧ Below w.heap.size w w' := by
  by_cases h : ne ≤ 40000
  · rw [show (decide (es.length ≤ 40000) && edgesB P S M es) = edgesB P S M es by rw [hE.1, decide_eq_true h]; simp]
    exact validEdges_few P M S K A E n c ne ce es w hE hP hM h
  · rw [show (decide (es.length ≤ 40000) && edgesB P S M es) = false by rw [hE.1, decide_eq_false h]; rfl]
    exact validEdges_many P S K M A E n c ne ce w hne (by omega)

/-- The six cells of an automaton. -/
def Box6 (w : World) (b : Nat) (P S : Int) (A : Option Addr) (n c : Nat) (K M : Int) (E : Option Addr) (ne ce : Nat) : Prop :=
  b < w.heap.size ∧ w.cell? ⟨b, 0, none⟩ = some (.int .i64 P) ∧ w.cell? ⟨b, 1, none⟩ = some (.int .i64 S) ∧ w.cell? ⟨b, 2, none⟩ = some (.slice A n c) ∧
    w.cell? ⟨b, 3, none⟩ = some (.int .i64 K) ∧ w.cell? ⟨b, 4, none⟩ = some (.int .i64 M) ∧ w.cell? ⟨b, 5, none⟩ = some (.slice E ne ce)
theorem Box6.new (w : World) (P S : Int) (A : Option Addr) (n c : Nat) (K M : Int) (E : Option Addr) (ne ce : Nat) (t : TypeId) : Box6 (w.alloc (.cells #[.int .i64 P, .int .i64 S, .slice A n c, .int .i64 K, .int .i64 M, .slice E ne ce] t)) w.heap.size P S A n c K M E ne ce := by
  refine ⟨by simp, ?_, ?_, ?_, ?_, ?_, ?_⟩ <;> (rw [box_last]; rfl)
theorem Box6.below {w w' : World} {b : Nat} {P S : Int} {A : Option Addr} {n c : Nat} {K M : Int} {E : Option Addr} {ne ce : Nat} (h : Box6 w b P S A n c K M E ne ce) (hb : Below w.heap.size w w') : Box6 w' b P S A n c K M E ne ce :=
  ⟨Nat.lt_of_lt_of_le h.1 hb.size, (hb.cell (p := ⟨b, 0, none⟩) h.1).trans h.2.1, (hb.cell (p := ⟨b, 1, none⟩) h.1).trans h.2.2.1, (hb.cell (p := ⟨b, 2, none⟩) h.1).trans h.2.2.2.1, (hb.cell (p := ⟨b, 3, none⟩) h.1).trans h.2.2.2.2.1, (hb.cell (p := ⟨b, 4, none⟩) h.1).trans h.2.2.2.2.2.1, (hb.cell (p := ⟨b, 5, none⟩) h.1).trans h.2.2.2.2.2.2⟩

set_option maxRecDepth 100000 in
set_option maxHeartbeats 2000000 in
theorem valid_head (P S K M : Int) (A E : Option Addr) (n c ne ce : Nat) (st : List Int) (es : List Ed) (w : World) (h : ¬ headP P S K) :
    Calls Try.prog 19 #[.agg #[.int .i64 P, .int .i64 S, .slice A n c, .int .i64 K, .int .i64 M, .slice E ne ce]] w fun e w' => e = .returned (.bool (autB P S K M st es)) ∧ Below w.heap.size w w' := by
  have HF := Lib.hid (autB_head (M := M) (st := st) (es := es) h)
  have hc : P < 0 ∨ (0 ≤ P ∧ 6 < P) ∨ (0 ≤ P ∧ P ≤ 6 ∧ S < 0) ∨ (0 ≤ P ∧ P ≤ 6 ∧ 0 ≤ S ∧ 3000 < S) ∨ (0 ≤ P ∧ P ≤ 6 ∧ 0 ≤ S ∧ S ≤ 3000 ∧ (K < 0 ∨ 5 < K)) := by unfold headP at h; omega
  clear h
  rcases hc with h | ⟨h, h2⟩ | ⟨h, h2, h3⟩ | ⟨h, h2, h3, h4⟩ | ⟨h, h2, h3, h4, h5⟩
  · go_enter Try.func19, Try.ntmps19
    go_wp2_with fail
    go_ret
    exact ⟨ret_bool HF.out.symm, (Below.refl _ _).alloc (Nat.le_refl _) _⟩
  · go_enter Try.func19, Try.ntmps19
    go_wp2_with fail
    go_ret
    exact ⟨ret_bool HF.out.symm, (Below.refl _ _).alloc (Nat.le_refl _) _⟩
  · go_enter Try.func19, Try.ntmps19
    go_wp2_with fail
    go_ret
    exact ⟨ret_bool HF.out.symm, (Below.refl _ _).alloc (Nat.le_refl _) _⟩
  · go_enter Try.func19, Try.ntmps19
    go_wp2_with fail
    go_ret
    exact ⟨ret_bool HF.out.symm, (Below.refl _ _).alloc (Nat.le_refl _) _⟩
  · have HO := Lib.hid (fun w => of_none K w h5)
    clear h5
    go_enter Try.func19, Try.ntmps19
    go_wp2_with fail
    refine (HO.out _).mono ?_
    rintro e w1 ⟨rfl, hb1⟩
    have HB1 := Lib.hid (show Below w.heap.size w w1 from ((Below.refl _ _).alloc (Nat.le_refl _) _).trans (hb1.mono (by simp)))
    clear hb1
    go_wp2_with fail
    go_ret
    exact ⟨ret_bool HF.out.symm, HB1.out.alloc HB1.out.size _⟩

end Go.Proofs.Ytalgbcndifaaiaa.Wd
