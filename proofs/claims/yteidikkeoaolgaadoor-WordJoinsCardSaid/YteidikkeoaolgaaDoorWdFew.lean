/-
  Few of lodesmanlaw01.
-/
import Derived.Test.YteidikkeoaolgaaDoorWdLeaf
namespace Go.Proofs.YteidikkeoaolgaaDoor.Wd
open Go.RowKit
set_option linter.unusedVariables false

/-- Has each of the first k words at most most letters? -/
def fewB (most : Nat) (N M : Nat → Nat) (k : Nat) : Bool := (List.range k).all fun i => decide (N i + M i ≤ most)
theorem fewB_succ {most : Nat} {N M : Nat → Nat} {k : Nat} (h : fewB most N M k = true) (hk : N k + M k ≤ most) : fewB most N M (k + 1) = true := by
  simp only [fewB, List.all_eq_true, List.mem_range, decide_eq_true_eq] at h ⊢
  intro i hi
  rcases Nat.lt_or_ge i k with hl | hg
  · exact h i hl
  · obtain rfl : i = k := by omega
    exact hk
theorem fewB_bad {most : Nat} {N M : Nat → Nat} {k len : Nat} (hl : k < len) (hk : ¬ N k + M k ≤ most) : fewB most N M len = false := by
  rw [Bool.eq_false_iff]
  simp only [fewB, ne_eq, List.all_eq_true, List.mem_range, decide_eq_true_eq]
  intro h
  exact hk (h k hl)

set_option maxRecDepth 100000 in
set_option maxHeartbeats 1000000 in
theorem Few_any (g len cap most : Nat) (A B : Nat → Option Addr) (N C M D : Nat → Nat) (w : World) (hg : g < w.heap.size) (hl : len ≤ 10) (hm : most ≤ 1000)
    (hN : Hid (∀ i, i < len → N i ≤ 17592186044416 ∧ M i ≤ 17592186044416))
    (hc : Hid (∀ i, i < len → w.cell? ⟨g, i * 2, none⟩ = some (.slice (A i) (N i) (C i)) ∧ w.cell? ⟨g, i * 2 + 1, none⟩ = some (.slice (B i) (M i) (D i)))) :
    Calls Tryd.prog 9 #[.int .i64 most, .slice (some ⟨g, 0, none⟩) len cap] w fun e w' => e = .returned (.bool (fewB most N M len)) ∧ Below w.heap.size w w' := by
  go_enter Tryd.func9, Tryd.ntmps9
  go_wp2_with fail
  go_loopg [6, 9] len (fun q _ i wx => ∃ k : Nat, k + q = len ∧ k ≤ len ∧ i = .int .i64 k ∧ Below w.heap.size w wx ∧ Hid (fewB most N M k = true))
  case atStart => exact ⟨0, by omega, by omega, rfl, Below.refl _ _, by simp [Hid, fewB]⟩
  case round =>
    obtain ⟨k, hkq, hkl, rfl, hbx, HI⟩ := hrel
    by_cases hlt : k < len
    · have c1 := (hbx.cell (p := ⟨g, k * 2, none⟩) hg).trans (hc.out k hlt).1
      have c2 := (hbx.cell (p := ⟨g, k * 2 + 1, none⟩) hg).trans (hc.out k hlt).2
      obtain ⟨hN1, hN2⟩ := hN.out k hlt
      have HB := Lib.hid (fun h => fewB_bad (most := most) (N := N) (M := M) hlt h)
      have HS := Lib.hid (fun h => fewB_succ (most := most) (N := N) (M := M) HI.out h)
      generalize hn1 : N k = n1 at c1 hN1
      generalize hm1 : M k = m1 at c2 hN2
      rw [hn1, hm1] at HB HS
      clear hn1 hm1
      cases gk with
      | zero => exfalso; omega
      | succ q =>
      by_cases hs : n1 + m1 ≤ most
      · go_wp2_with fail
        go_roundg q
        case measure => omega
        case rel => exact ⟨k + 1, by omega, by omega, by go_num, hbx.alloc hbx.size _, HS.out hs⟩
      · go_wp2_with fail
        go_ret
        exact ⟨ret_bool (HB.out hs).symm, hbx.alloc hbx.size _⟩
    · go_wp2_with fail
      go_ret
      obtain rfl : k = len := by omega
      exact ⟨ret_bool HI.out.symm, hbx⟩

end Go.Proofs.YteidikkeoaolgaaDoor.Wd
