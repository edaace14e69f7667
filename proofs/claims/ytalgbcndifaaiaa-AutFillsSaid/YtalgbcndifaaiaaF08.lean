/-
  The marks with which runs are refused, kind by kind.
  The rule of a kind: what refuses a run.
-/
import Derived.Test.YtalgbcndifaaiaaAtAccepts
namespace Go.Proofs.Ytalgbcndifaaiaa.Wd
open Go.RowKit
set_option linter.unusedVariables false

set_option maxHeartbeats 1000000 in
theorem refusesNone_any (m : Int) (w : World) : Calls Try.prog 58 #[.int .i64 m] w fun e w' => e = .returned (.agg #[.int .i64 0, .int .i64 0, .int .i64 0]) ∧ Below w.heap.size w w' := by
  go_enter Try.func58, Try.ntmps58
  go_wp2_with fail
  exact bodyPost_ret (v := .agg #[.int .i64 0, .int .i64 0, .int .i64 0]) (by simp [results, Try.results58, go_sem]) rfl ⟨rfl, by first | exact Below.refl _ _ | exact (Below.refl _ _).alloc (Nat.le_refl _) _ | exact ((((Below.refl _ _).alloc (Nat.le_refl _) _).setCell (by simp) _).setCell (by simp) _).setCell (by simp) _⟩

set_option maxHeartbeats 1000000 in
theorem refusesFirst_any (m : Int) (w : World) : Calls Try.prog 62 #[.int .i64 m] w fun e w' => e = .returned (.agg #[.int .i64 1, .int .i64 0, .int .i64 0]) ∧ Below w.heap.size w w' := by
  go_enter Try.func62, Try.ntmps62
  go_wp2_with fail
  exact bodyPost_ret (v := .agg #[.int .i64 1, .int .i64 0, .int .i64 0]) (by simp [results, Try.results62, go_sem]) rfl ⟨rfl, by first | exact Below.refl _ _ | exact (Below.refl _ _).alloc (Nat.le_refl _) _ | exact ((((Below.refl _ _).alloc (Nat.le_refl _) _).setCell (by simp) _).setCell (by simp) _).setCell (by simp) _⟩

set_option maxHeartbeats 1000000 in
theorem refusesMissing_any (m : Int) (w : World) : Calls Try.prog 60 #[.int .i64 m] w fun e w' => e = .returned (.agg #[.int .i64 0, .int .i64 (if m = 0 then 1 else 0), .int .i64 (if m = 0 then 1 else 0)]) ∧ Below w.heap.size w w' := by
  by_cases h : m = 0
  · subst h
    go_enter Try.func60, Try.ntmps60
    go_wp2_with fail
    exact bodyPost_ret (v := .agg #[.int .i64 0, .int .i64 1, .int .i64 1]) (by simp [results, Try.results60, go_sem]) rfl ⟨rfl, by first | exact Below.refl _ _ | exact (Below.refl _ _).alloc (Nat.le_refl _) _ | exact ((((Below.refl _ _).alloc (Nat.le_refl _) _).setCell (by simp) _).setCell (by simp) _).setCell (by simp) _⟩
  · rw [if_neg h]
    go_enter Try.func60, Try.ntmps60
    go_wp2_with fail
    exact bodyPost_ret (v := .agg #[.int .i64 0, .int .i64 0, .int .i64 0]) (by simp [results, Try.results60, go_sem]) rfl ⟨rfl, by first | exact Below.refl _ _ | exact (Below.refl _ _).alloc (Nat.le_refl _) _ | exact ((((Below.refl _ _).alloc (Nat.le_refl _) _).setCell (by simp) _).setCell (by simp) _).setCell (by simp) _⟩

set_option maxHeartbeats 1000000 in
theorem refusesSecond_any (m : Int) (w : World) : Calls Try.prog 66 #[.int .i64 m] w fun e w' => e = .returned (.agg #[.int .i64 2, .int .i64 (if m = 0 then 2 else 0), .int .i64 0]) ∧ Below w.heap.size w w' := by
  by_cases h : m = 0
  · subst h
    go_enter Try.func66, Try.ntmps66
    go_wp2_with fail
    exact bodyPost_ret (v := .agg #[.int .i64 2, .int .i64 2, .int .i64 0]) (by simp [results, Try.results66, go_sem]) rfl ⟨rfl, by first | exact Below.refl _ _ | exact (Below.refl _ _).alloc (Nat.le_refl _) _ | exact ((((Below.refl _ _).alloc (Nat.le_refl _) _).setCell (by simp) _).setCell (by simp) _).setCell (by simp) _⟩
  · rw [if_neg h]
    go_enter Try.func66, Try.ntmps66
    go_wp2_with fail
    exact bodyPost_ret (v := .agg #[.int .i64 2, .int .i64 0, .int .i64 0]) (by simp [results, Try.results66, go_sem]) rfl ⟨rfl, by first | exact Below.refl _ _ | exact (Below.refl _ _).alloc (Nat.le_refl _) _ | exact ((((Below.refl _ _).alloc (Nat.le_refl _) _).setCell (by simp) _).setCell (by simp) _).setCell (by simp) _⟩

end Go.Proofs.Ytalgbcndifaaiaa.Wd

namespace Go.Proofs.Ytalgbcndifaaiaa.Wd
open Go.RowKit
set_option linter.unusedVariables false

/-- What a refusal consists of: the marks of the new edges, the marks that are added, those that the others get. -/
def infF (K m : Int) : Int := if K = 2 then 1 else if K = 4 then 2 else 0
def addF (K m : Int) : Int := if K = 1 ∧ m = 0 then 1 else if K = 4 ∧ m = 0 then 2 else 0
def othF (K m : Int) : Int := if K = 1 ∧ m = 0 then 1 else 0

/-- The function N refuses as the kind K does. -/
def Refuses (K : Int) (N : Nat) : Prop := ∀ (m : Int) (W : World), Calls Try.prog N #[.int .i64 m] W fun e W' => e = .returned (.agg #[.int .i64 (infF K m), .int .i64 (addF K m), .int .i64 (othF K m)]) ∧ Below W.heap.size W W'

/-- It is a function of the program's with a body: a call enters it. -/
def Enters (N : Nat) : Prop := ∀ (args : Array Value) (W : World), Sem.run Try.prog (callFunc N args) W = .ok (.enter N args) W
theorem enters_of {f : FuncId} {fn : Func} {c : Code} (hf : Try.prog.funcs[f]? = some fn) (hname : (fn.name == "runtime.NumGoroutine") = false) (hb : fn.body = some c) : Enters f := by
  intro args W
  have h1 : fn.name ≠ "runtime.NumGoroutine" := by simpa using hname
  simp [callFunc, hf, h1, hb]
theorem enters_none : Enters 58 := enters_of Try.func58 (by kernel_rfl) rfl
theorem enters_first : Enters 62 := enters_of Try.func62 (by kernel_rfl) rfl
theorem enters_missing : Enters 60 := enters_of Try.func60 (by kernel_rfl) rfl
theorem enters_second : Enters 66 := enters_of Try.func66 (by kernel_rfl) rfl

theorem acc_of (K : Int) (h0 : 0 ≤ K) (h5 : K ≤ 5) (w : World) : Calls Try.prog 37 #[.int .i64 K] w fun e w' =>
    ∃ a b N : Nat, e = .returned (.tuple #[.agg #[(.func (.func a) #[] #[]), (.func (.func b) #[] #[]), (.func (.func N) #[] #[])], .bool true]) ∧ Hid (Refuses K N) ∧ Hid (Enters N) ∧ Below w.heap.size w w' := by
  have hk : K = 0 ∨ K = 1 ∨ K = 2 ∨ K = 3 ∨ K = 4 ∨ K = 5 := by omega
  rcases hk with rfl | rfl | rfl | rfl | rfl | rfl
  · refine (of_kind0 w).mono ?_
    rintro e w' ⟨rfl, hb⟩
    exact ⟨_, _, _, rfl, fun m W => refusesNone_any m W, enters_none, hb⟩
  · refine (of_kind1 w).mono ?_
    rintro e w' ⟨rfl, hb⟩
    refine ⟨_, _, _, rfl, fun m W => ?_, enters_missing, hb⟩
    refine (refusesMissing_any m W).mono ?_
    rintro e w' ⟨rfl, hb⟩
    refine ⟨?_, hb⟩
    by_cases hm : m = 0 <;> simp [infF, addF, othF, hm]
  · refine (of_kind2 w).mono ?_
    rintro e w' ⟨rfl, hb⟩
    exact ⟨_, _, _, rfl, fun m W => refusesFirst_any m W, enters_first, hb⟩
  · refine (of_kind3 w).mono ?_
    rintro e w' ⟨rfl, hb⟩
    exact ⟨_, _, _, rfl, fun m W => refusesNone_any m W, enters_none, hb⟩
  · refine (of_kind4 w).mono ?_
    rintro e w' ⟨rfl, hb⟩
    refine ⟨_, _, _, rfl, fun m W => ?_, enters_second, hb⟩
    refine (refusesSecond_any m W).mono ?_
    rintro e w' ⟨rfl, hb⟩
    refine ⟨?_, hb⟩
    by_cases hm : m = 0 <;> simp [infF, addF, othF, hm]
  · refine (of_kind5 w).mono ?_
    rintro e w' ⟨rfl, hb⟩
    exact ⟨_, _, _, rfl, fun m W => refusesNone_any m W, enters_none, hb⟩

end Go.Proofs.Ytalgbcndifaaiaa.Wd
