/-
  The test of Attract of package game: is a position one move nearer to the set?
-/
import Derived.Test.YtffdbncjndnnaaaGaDist
namespace Go.Proofs.Ytffdbncjndnnaaa.Wd
open Go.RowKit
set_option linter.unusedVariables false
set_option linter.unusedSimpArgs false

set_option maxRecDepth 100000 in
set_option maxHeartbeats 4000000 in
theorem near_any (b6 b9 bs n c y j : Nat) (S : Nat → Int) (w : World) (h6 : w.cell? ⟨b6, 0, none⟩ = some (.slice (some ⟨bs, 0, none⟩) n c)) (h9 : w.cell? ⟨b9, 0, none⟩ = some (.int .i64 j)) (hr : w.rowIs bs 3 n (fun i => .int .i64 (S i))) (hy : y < n) (hj : j < n) (hn : n ≤ 20000) (hS : ∀ v, v < n → -1 ≤ S v ∧ S v ≤ 20000) :
    Calls Try.prog 31 #[.int .i64 y, .pointer (some ⟨b6, 0, none⟩), .pointer (some ⟨b9, 0, none⟩)] w fun r w' => r = .returned (.bool (S y == S j - 1)) ∧ Below w.heap.size w w' := by
  have kj := hr.cell hj
  have ky := hr.cell hy
  obtain ⟨s1, s2⟩ := hS j hj
  obtain ⟨s3, s4⟩ := hS y hy
  have hj0 : (0 : Int) ≤ (j : Int) := by omega
  have hy0 : (0 : Int) ≤ (y : Int) := by omega
  have hj1 : (j : Int) < (n : Int) := by omega
  have hy1 : (y : Int) < (n : Int) := by omega
  clear hr hS
  generalize S j = sj at *
  generalize S y = sy at *
  go_enter Try.func31, Try.ntmps31
  go_wp2_with fail
  go_quiet (fail)
  go_wp2_with fail
  go_ret
  exact ⟨rfl, below_drewN (Below.refl _ _) _⟩

end Go.Proofs.Ytffdbncjndnnaaa.Wd
