/-
  slices.IndexFunc with the test of Attract.
-/
import Derived.Test.YtffdbncjndnnaaaGaNear
namespace Go.Proofs.Ytffdbncjndnnaaa.Wd
open Go.RowKit
set_option linter.unusedVariables false
set_option linter.unusedSimpArgs false

set_option maxRecDepth 100000 in
set_option maxHeartbeats 4000000 in
theorem indexF_any (b6 b9 n c u : Nat) (A : Option Addr) (xs : List Int) (t : Nat → Bool) (w : World) (h : Ints w A n xs) (hn : n ≤ 1000)
    (hnear : ∀ i, i < n → ∀ W, Below w.heap.size w W → Calls Try.prog 31 #[.int .i64 (xs.getD i 0), .pointer (some ⟨b6, 0, none⟩), .pointer (some ⟨b9, 0, none⟩)] W fun r w' => r = .returned (.bool (t i)) ∧ Below W.heap.size W w')
    (hu : u < n) (htu : t u = true) (hfirst : ∀ i, i < u → t i = false) :
    Calls Try.prog 30 #[.slice A n c, .func (.func 31) #[] #[.pointer (some ⟨b6, 0, none⟩), .pointer (some ⟨b9, 0, none⟩)]] w fun r w' => r = .returned (.int .i64 u) ∧ Below w.heap.size w w' := by
  have hn0 : (0 : Int) ≤ (n : Int) := by omega
  have HA := Lib.hid h
  have HN := Lib.hid hnear
  have HF := Lib.hid hfirst
  have HU := Lib.hid htu
  clear h hnear hfirst htu
  go_enter Try.func30, Try.ntmps30
  go_wp2_with fail
  go_loopg [8] n (fun g i wx => ∃ j : Nat, j + g = n ∧ j ≤ u ∧ i = .int .i64 j ∧ Hid (Below w.heap.size w wx))
  case atStart => exact ⟨0, by omega, by omega, rfl, Below.refl _ _⟩
  case round =>
    obtain ⟨j, hjg, hju, rfl, HB⟩ := hrel
    have hj0 : (0 : Int) ≤ (j : Int) := by omega
    cases gk with
    | zero => omega
    | succ g =>
      have hjl : j < n := by omega
      have hjl2 : (j : Int) < (n : Int) := by omega
      obtain ⟨bA, oA, rfl, hbA, hcA⟩ := (HA.out.below HB.out).2 (by omega)
      have kc := hcA j hjl
      have HC := Lib.hid (HN.out j hjl wr HB.out)
      clear hcA
      generalize xs.getD j 0 = y at *
      by_cases he : j = u
      · subst he
        rw [HU.out] at HC
        go_wp2_with fail
        refine HC.out.mono ?_
        rintro r w1 ⟨rfl, hb1⟩
        have HB1 := Lib.hid (HB.out.trans (hb1.mono HB.out.size))
        clear hb1
        go_wp2_with fail
        exact bodyPost_ret (v := .int .i64 j) (by simp [results, Try.results30, go_sem]) rfl ⟨rfl, HB1.out⟩
      · rw [HF.out j (by omega)] at HC
        go_wp2_with fail
        refine HC.out.mono ?_
        rintro r w1 ⟨rfl, hb1⟩
        have HB1 := Lib.hid (HB.out.trans (hb1.mono HB.out.size))
        clear hb1
        go_wp2_with fail
        go_roundg g
        case measure => omega
        case rel => exact ⟨j + 1, by omega, by omega, by go_num, HB1.out⟩

end Go.Proofs.Ytffdbncjndnnaaa.Wd
