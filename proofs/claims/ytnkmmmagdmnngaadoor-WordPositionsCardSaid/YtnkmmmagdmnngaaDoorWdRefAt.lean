/-
  At of the reference.
-/
import Derived.Test.YtnkmmmagdmnngaaDoorWdRefValid
namespace Go.Proofs.YtnkmmmagdmnngaaDoor.Wd
open Go.RowKit
set_option linter.unusedVariables false

set_option maxRecDepth 100000 in
set_option maxHeartbeats 800000 in
theorem refAt_any (A B : Option Addr) (n c m d : Nat) (s l : List Int) (k : Int) (w : World) (ha : Ints w A n s) (hb : Ints w B m l) (hn : n ≤ 100000) (hm : m ≤ 100000) (hnc : n ≤ c) (hmd : m ≤ d) (hk : k ≤ 9223372036854775807) :
    Calls Tryd.prog 16 #[.agg #[.slice A n c, .slice B m d], .int .i64 k] w fun e w' => e = .returned (.tuple #[.int .i64 (atR s l k).1, .int .i64 (atR s l k).2]) ∧ Below w.heap.size w w' := by
  have e1 := ha.1
  have e2 := hb.1
  have HC := Lib.hid (fun W hW hW' => is_any A B n c m d s l W hW hW' hn hm)
  cases hv : validB 6 s l
  · have HV := Lib.hid hv
    have HR := Lib.hid (atR_bad (k := k) hv)
    clear hv e1 e2
    go_enter Tryd.func16, Tryd.ntmps16
    go_wp2_with fail
    refine (HC.out _ (ha.alloc _) (hb.alloc _)).mono ?_
    rintro e w1 ⟨rfl, hb1⟩
    rw [HV.out]
    go_wp2_with fail
    go_ret2
    exact ⟨ret_pair HR.out, ((Below.refl _ _).alloc (Nat.le_refl _) _).trans (hb1.mono (by simp))⟩
  · have hv6 := valid6 hv
    have hm0 : 0 < m := by omega
    have HV := Lib.hid hv
    by_cases h0 : k < 0
    · have HR := Lib.hid (atR_neg hv h0)
      clear hv e1 e2
      go_enter Tryd.func16, Tryd.ntmps16
      go_wp2_with fail
      refine (HC.out _ (ha.alloc _) (hb.alloc _)).mono ?_
      rintro e w1 ⟨rfl, hb1⟩
      rw [HV.out]
      go_wp2_with fail
      go_ret2
      exact ⟨ret_pair HR.out, ((Below.refl _ _).alloc (Nat.le_refl _) _).trans (hb1.mono (by simp))⟩
    · obtain ⟨j, rfl⟩ := Int.eq_ofNat_of_zero_le (show 0 ≤ k by omega)
      have HR := Lib.hid (atR_pos (k := j) hv)
      clear hv
      have hd0 : decide ((j : Int) < 0) = false := by simp
      have HL := Lib.hid (fun W hW => letters_big (.agg #[.slice A n c, .slice B m d]) s l j W hW (by omega) (by omega) (by omega))
      go_enter Tryd.func16, Tryd.ntmps16
      go_wp2_with fail
      refine (HC.out _ (ha.alloc _) (hb.alloc _)).mono ?_
      rintro e w1 ⟨rfl, hb1⟩
      rw [HV.out]
      have q0 : w1.cell? ⟨w.heap.size, 0, none⟩ = some (.slice A n c) := by rw [hb1.cell (by simp), box_last]; rfl
      have q1 : w1.cell? ⟨w.heap.size, 1, none⟩ = some (.slice B m d) := by rw [hb1.cell (by simp), box_last]; rfl
      go_wp2_with fail
      refine (HL.out _ ⟨A, n, c, B, m, d, rfl, (ha.alloc _).below hb1, (hb.alloc _).below hb1, hnc, hmd⟩).mono ?_
      rintro e w2 ⟨rfl, hb2⟩
      go_wp2_with fail
      go_ret2
      exact ⟨ret_pair HR.out, ((Below.refl _ _).alloc (Nat.le_refl _) _).trans ((hb1.mono (by simp)).trans (hb2.mono (by have := hb1.size; simp at this; omega)))⟩

end Go.Proofs.YtnkmmmagdmnngaaDoor.Wd
