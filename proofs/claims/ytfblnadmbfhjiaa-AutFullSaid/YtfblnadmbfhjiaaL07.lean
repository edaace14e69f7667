/-
  AutFull of layer 5: the law's walk.
-/
import Derived.Test.YtfblnadmbfhjiaaL06
import Derived.Test.YtfblnadmbfhjiaaF13
import Derived.Test.YtfblnadmbfhjiaaF06
import Derived.BigQuiet
namespace Go.Proofs.Ytfblnadmbfhjiaa.Wd
open Go.RowKit Go.Maps
set_option linter.unusedVariables false
set_option linter.unusedSimpArgs false

/-- Out of range. -/
def OutF (K M P S G : Int) : Prop := K < 0 ∨ 5 < K ∨ ((0 ≤ K ∧ K ≤ 5) ∧ marksB K M = false) ∨ ((0 ≤ K ∧ K ≤ 5) ∧ marksB K M = true ∧ P < 0) ∨ ((0 ≤ K ∧ K ≤ 5) ∧ marksB K M = true ∧ 0 ≤ P ∧ 6 < P) ∨ ((0 ≤ K ∧ K ≤ 5) ∧ marksB K M = true ∧ (0 ≤ P ∧ P ≤ 6) ∧ S < 1) ∨ ((0 ≤ K ∧ K ≤ 5) ∧ marksB K M = true ∧ (0 ≤ P ∧ P ≤ 6) ∧ 1 ≤ S ∧ 3000 < S) ∨ ((0 ≤ K ∧ K ≤ 5) ∧ marksB K M = true ∧ (0 ≤ P ∧ P ≤ 6) ∧ (1 ≤ S ∧ S ≤ 3000) ∧ G < 1)

set_option maxRecDepth 100000 in
set_option maxHeartbeats 8000000 in
theorem full_out (K M P S G : Int) (w : World) (h : OutF K M P S G) :
    Calls Try.prog 7 #[.int .i64 K, .int .i64 M, .int .i64 P, .int .i64 S, .int .i64 G] w fun e w' => e = .returned (.bool true) ∧ Below w.heap.size w w' := by
  have HAW := Lib.hid (fun W => awake5_any W)
  have HM := Lib.hid (fun W => refMarks_any K M W)
  unfold OutF at h
  rcases h with h | h | ⟨⟨k0, k5⟩, h⟩ | ⟨⟨k0, k5⟩, hm, h⟩ | ⟨⟨k0, k5⟩, hm, h1, h⟩ | ⟨⟨k0, k5⟩, hm, ⟨p0, p6⟩, h⟩ | ⟨⟨k0, k5⟩, hm, ⟨p0, p6⟩, h1, h⟩ | ⟨⟨k0, k5⟩, hm, ⟨p0, p6⟩, ⟨s1, s3⟩, h⟩
  · go_enter Try.func7, Try.ntmps7
    go_wp2_with fail
    refine (HAW.out _).mono ?_
    rintro x w9 ⟨rfl, hb9⟩
    go_wp2_with fail
    go_ret
    exact ⟨rfl, hb9⟩
  · have h0 : 0 ≤ K := by omega
    go_enter Try.func7, Try.ntmps7
    go_wp2_with fail
    refine (HAW.out _).mono ?_
    rintro x w9 ⟨rfl, hb9⟩
    go_wp2_with fail
    go_ret
    exact ⟨rfl, hb9⟩
  all_goals (
    have HMK := Lib.hid (fun W => HM.out W k0 k5)
    first | rw [h] at HMK | rw [hm] at HMK
    clear HM
    try clear hm
    go_enter Try.func7, Try.ntmps7
    go_wp2_with fail
    refine (HMK.out _).mono ?_
    rintro x w8 ⟨rfl, rfl⟩
    go_wp2_with fail
    refine (HAW.out _).mono ?_
    rintro x w9 ⟨rfl, hb9⟩
    go_wp2_with fail
    go_ret
    exact ⟨rfl, hb9⟩)

end Go.Proofs.Ytfblnadmbfhjiaa.Wd
