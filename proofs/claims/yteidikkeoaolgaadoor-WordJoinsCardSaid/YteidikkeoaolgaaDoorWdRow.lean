/-
  A word that comes in as an argument, opened; and the start that serves as witness for the rows of lodesmanlaw01.
-/
import Derived.Test.YteidikkeoaolgaaDoorCards
import Derived.Test.YteidikkeoaolgaaDoorTie
import Derived.Test.YteidikkeoaolgaaDoorWdNormal
import Derived.WalkKit
import Derived.ProofKit
import Derived.OpenShut
import Derived.Deep.DeepHandedRow
import Derived.Lib.LaidTab
import Derived.Lib.SmallJoins
import Derived.SizedLaws
import Derived.LaidMore
import Derived.ChangeOld
import Derived.Carry
import Derived.Below
namespace Go.Proofs.YteidikkeoaolgaaDoor.Wd
open Go.ChangeShapes Go.WideShapes Go.ChangeAt Go.RowKit Go.Joins
set_option linter.unusedVariables false

theorem own : ownKnob Tryd.prog.godebug = none := by kernel_rfl
theorem laidOut : laidOutB Tryd.prog = true := by kernel_rfl
theorem cellsWord : Tryd.prog.cellsOf 24 = 2 := by kernel_rfl
theorem cellsInt : Tryd.prog.cellsOf 3 = 1 := by kernel_rfl
theorem bytesInt : Tryd.prog.bytesOf 3 = 8 := by kernel_rfl

/-- The datum of a slice of ints whose array has c cells. -/
def SliceD {H : Type} (d : DataW H) (c : Nat) : Prop := (d = .nil ∧ c = 0) ∨ ∃ es sp, d = .slice es sp ∧ es.length + sp.length = c

section
variable {H : Type} {enc : TypeId × Value → H} {w : World}
theorem open_list {n : Nat} {v : Value} {y : DataW H × List MemPlace} (h : DataW.trod enc Tryd.prog w 0 (fun _ => true) true n 22 [v] = some y) :
    ∃ A len c xs, v = .slice A len c ∧ SliceD y.1 c ∧ Ints w A len xs ∧ len ≤ c := by
  rcases open_ints Tryd.underlying22 Tryd.underlying3 cellsInt h with ⟨e, rfl⟩ | ⟨a, len, cap, zs, e, _, hl, hm, hz, rfl, hc, hw⟩
  · exact ⟨none, 0, 0, [], by simpa using e, .inl ⟨rfl, rfl⟩, Ints.none_, Nat.le_refl _⟩
  · simp only [if_true] at hz
    refine ⟨some a, len, cap, zs.take len, by simpa using e, .inr ⟨_, _, rfl, by simp [lits]; omega⟩, ⟨by rw [List.length_take]; omega, fun hn => ?_⟩, hl⟩
    obtain ⟨b, off, spot⟩ := a
    have h0 := hc 0 (by omega)
    have hspot : spot = none := by simpa [Addr.add] using World.cell?_spot h0
    subst hspot
    refine ⟨b, off, rfl, ?_, fun j hj => ?_⟩
    · have := World.block_lt_of_cell? _ _ h0
      simpa [Addr.add] using this
    · have := hc j (by omega)
      rw [Addr.add_lit] at this
      rw [this]
      simp [List.getD_eq_getElem?_getD, hj]

set_option maxRecDepth 100000 in
/-- A word argument: two slices of ints. -/
theorem open_word {r : Reach} {b0 : Nat} {v : Value} {d : DataW H} {p : List MemPlace} (hv : Value.okWide Tryd.prog w r b0 24 v) (h : DataW.Trod enc Tryd.prog w 0 (fun _ => true) true 24 v d p) :
    ∃ A n c B m e xs ys d0 d1, v = .agg #[.slice A n c, .slice B m e] ∧ d = .agg [d0, d1] ∧ SliceD d0 c ∧ SliceD d1 e ∧ Ints w A n xs ∧ Ints w B m ys ∧ n ≤ c ∧ m ≤ e := by
  obtain ⟨c0, c1, y0, y1, m, rfl, rfl, rfl, hy0, hy1⟩ := open_agg2 Tryd.underlying24 (by kernel_rfl) cellsWord hv h
  obtain ⟨A, n, c, xs, rfl, s0, i0, l0⟩ := open_list hy0
  obtain ⟨B, m', e, ys, rfl, s1, i1, l1⟩ := open_list hy1
  exact ⟨A, n, c, B, m', e, xs, ys, _, _, rfl, rfl, s0, s1, i0, i1, l0, l1⟩

set_option maxRecDepth 100000 in
/-- The form's own reach: an argument's slices are not longer than 2^44. -/
theorem reach_word {ts : List TypeId} {ds : List (DataW H)} (hsz : (DataW.weightsEach Tryd.prog ts ds).all (· ≤ reachBytes) = true) {j : Nat} (ht : ts[j]? = some 24) {d0 d1 : DataW H} (hd : ds[j]? = some (.agg [d0, d1])) {c e : Nat} (s0 : SliceD d0 c) (s1 : SliceD d1 e) :
    c ≤ 17592186044416 ∧ e ≤ 17592186044416 := by
  have key : ∀ k ∈ (DataW.agg [d0, d1]).weights Tryd.prog 24, k ≤ reachBytes := fun k hk => by
    exact of_decide_eq_true (List.all_eq_true.1 hsz k (DataW.weights_mem_each ht hd k hk))
  simp only [reachBytes] at key
  constructor
  · rcases s0 with ⟨_, rfl⟩ | ⟨es, sp, rfl, rfl⟩
    · omega
    · have := key ((es.length + sp.length) * 8) (by simp [DataW.weights, DataW.weightsEach, Tryd.underlying24, Tryd.underlying22, bytesInt])
      omega
  · rcases s1 with ⟨_, rfl⟩ | ⟨es, sp, rfl, rfl⟩
    · omega
    · have := key ((es.length + sp.length) * 8) (by simp [DataW.weights, DataW.weightsEach, Tryd.underlying24, Tryd.underlying22, bytesInt])
      omega
end

end Go.Proofs.YteidikkeoaolgaaDoor.Wd
