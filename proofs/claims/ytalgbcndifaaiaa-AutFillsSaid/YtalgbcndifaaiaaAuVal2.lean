/-
  validStart and validEdges of package aut, for all lists.
-/
import Derived.Test.YtalgbcndifaaiaaAuVal
import Derived.Deep.LoopGhost
import Derived.BigQuiet
import Derived.Deep.QuietTactic
namespace Go.Proofs.Ytalgbcndifaaiaa.Wd
open Go.RowKit
set_option linter.unusedVariables false

set_option maxRecDepth 100000 in
set_option maxHeartbeats 2000000 in
theorem validStart_any (P S K M : Int) (A E : Option Addr) (n c ne ce : Nat) (st : List Int) (w : World) (ha : Ints w A n st) (hn : n ≤ 17592186044416) :
    Calls Try.prog 38 #[.agg #[.int .i64 P, .int .i64 S, .slice A n c, .int .i64 K, .int .i64 M, .slice E ne ce]] w fun e w' => e = .returned (.bool (startB S st)) ∧ Below w.heap.size w w' := by
  have HA := Lib.hid ha
  have HL := Lib.hid ha.1
  clear ha
  go_enter Try.func38, Try.ntmps38
  go_wp2_with fail
  obtain ⟨W0, hW0⟩ : ∃ W0, w.alloc (.cells #[.int .i64 P, .int .i64 S, .slice A n c, .int .i64 K, .int .i64 M, .slice E ne ce] 25) = W0 := ⟨_, rfl⟩
  have q1 : W0.cell? ⟨w.heap.size, 1, none⟩ = some (.int .i64 S) := by rw [← hW0, box_last]; rfl
  have hz : w.heap.size < W0.heap.size := by rw [← hW0]; simp
  have HB0 := Lib.hid (show Below w.heap.size w W0 by rw [← hW0]; exact (Below.refl _ _).alloc (Nat.le_refl _) _)
  rw [hW0]
  clear hW0
  go_loopg [3, 9] n (fun g l i wx => ∃ t : Nat, t + g = n ∧ i = .int .i64 t ∧ l = .int .i64 (prv st t) ∧ Hid (startP S st t = true) ∧ Hid (Below W0.heap.size W0 wx))
  case atStart => exact ⟨0, by omega, rfl, rfl, startP_zero S st, Below.refl _ _⟩
  case round =>
    obtain ⟨t, htg, rfl, rfl, HP, HBx⟩ := hrel
    have hti : (0 : Int) ≤ (t : Int) := by omega
    have HBw := Lib.hid (HB0.out.trans (HBx.out.mono HB0.out.size))
    have r1 := (HBx.out.cell (p := ⟨w.heap.size, 1, none⟩) hz).trans q1
    cases gk with
    | zero =>
      obtain rfl : n = t := by omega
      have HE := Lib.hid (show startB S st = true by unfold startB; rw [HL.out]; exact HP.out)
      go_wp2_with fail
      go_ret
      exact ⟨ret_bool HE.out.symm, HBw.out⟩
    | succ q =>
      have ht1 : t < n := by omega
      have hti2 : (t : Int) < (n : Int) := by omega
      obtain ⟨b, off, rfl, hlt, hcell⟩ := (HA.out.below HBw.out).at_ ht1
      have hct := hcell t ht1
      have HBD := Lib.hid (startB_bad (S := S) (st := st) (k := t) (by rw [HL.out]; exact ht1))
      have HST := Lib.hid (startP_step HP.out)
      have HPS := Lib.hid (prv_succ st t)
      generalize st.getD t 0 = x at *
      generalize prv st t = l at *
      clear hcell
      have hcase : x ≤ l ∨ (l < x ∧ S ≤ x) ∨ (l < x ∧ x < S) := by omega
      rcases hcase with h1 | ⟨h1, h2⟩ | ⟨h1, h2⟩
      · have HF := Lib.hid (HBD.out (by omega))
        go_wp2_with fail
        go_ret
        exact ⟨ret_bool HF.out.symm, HBw.out⟩
      · have HF := Lib.hid (HBD.out (by omega))
        go_wp2_with fail
        go_ret
        exact ⟨ret_bool HF.out.symm, HBw.out⟩
      · have HN := Lib.hid (HST.out ⟨h1, h2⟩)
        go_wp2_with fail
        go_roundg q
        case measure => omega
        case rel => exact ⟨t + 1, by omega, by go_num, by rw [HPS.out], HN, HBx⟩

set_option maxRecDepth 100000 in
set_option maxHeartbeats 2000000 in
theorem validEdges_many (P S K M : Int) (A E : Option Addr) (n c ne ce : Nat) (w : World) (hne : ne ≤ 17592186044416) (h : 40000 < ne) :
    Calls Try.prog 39 #[.agg #[.int .i64 P, .int .i64 S, .slice A n c, .int .i64 K, .int .i64 M, .slice E ne ce]] w fun e w' => e = .returned (.bool false) ∧ Below w.heap.size w w' := by
  have h1 : (40000 : Int) < (ne : Int) := by omega
  have h2 : decide ((40000 : Int) < (ne : Int)) = true := decide_eq_true h1
  go_enter Try.func39, Try.ntmps39
  go_wp2_with fail
  go_ret
  exact ⟨rfl, (Below.refl _ _).alloc (Nat.le_refl _) _⟩

end Go.Proofs.Ytalgbcndifaaiaa.Wd
