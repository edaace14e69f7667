/-
  Valid of the reference of layer 5, for all automata.
-/
import Derived.Test.YtalgbcndifaaiaaAuValid1
import Derived.Test.YtalgbcndifaaiaaAuValid2
import Derived.Test.YtalgbcndifaaiaaAuValid3
import Derived.Test.YtalgbcndifaaiaaAtRefAcc2
import Derived.Deep.LoopGhost
import Derived.BigQuiet
import Derived.Deep.QuietTactic
namespace Go.Proofs.Ytalgbcndifaaiaa.Wd
open Go.RowKit
set_option linter.unusedVariables false

theorem autValid_any (P S K M : Int) (A E : Option Addr) (n c ne ce : Nat) (st : List Int) (es : List Ed) (w : World) (ha : Ints w A n st) (hn : n ≤ 17592186044416) (he : EdgesAt w E ne es) (hne : ne ≤ 17592186044416) :
    Calls Try.prog 19 #[.agg #[.int .i64 P, .int .i64 S, .slice A n c, .int .i64 K, .int .i64 M, .slice E ne ce]] w fun e w' => e = .returned (.bool (autB P S K M st es)) ∧ Below w.heap.size w w' := by
  by_cases h : headP P S K
  · obtain ⟨h1, h2, h3, h4, h5, h6⟩ := h
    obtain ⟨p, rfl⟩ := Int.eq_ofNat_of_zero_le h1
    have hk : K = 0 ∨ K = 1 ∨ K = 2 ∨ K = 3 ∨ K = 4 ∨ K = 5 := by omega
    rcases hk with rfl | rfl | rfl | rfl | rfl | rfl
    · exact valid_0 p S M A E n c ne ce st es w (by omega) h3 h4 ha hn he hne
    · exact valid_1 p S M A E n c ne ce st es w (by omega) h3 h4 ha hn he hne
    · exact valid_2 p S M A E n c ne ce st es w (by omega) h3 h4 ha hn he hne
    · exact valid_3 p S M A E n c ne ce st es w (by omega) h3 h4 ha hn he hne
    · exact valid_4 p S M A E n c ne ce st es w (by omega) h3 h4 ha hn he hne
    · exact valid_5 p S M A E n c ne ce st es w (by omega) h3 h4 ha hn he hne
  · exact valid_head P S K M A E n c ne ce st es w h

theorem refMarks_any (K m : Int) (w : World) (hK : 0 ≤ K) (hK2 : K ≤ 5) : Calls Try.prog 24 #[.int .i64 K, .int .i64 m] w fun e w' => e = .returned (.bool (marksB K m)) ∧ w = w' := by
  have hk : K = 0 ∨ K = 1 ∨ K = 2 ∨ K = 3 ∨ K = 4 ∨ K = 5 := by omega
  rcases hk with rfl | rfl | rfl | rfl | rfl | rfl
  · exact refMarks_0 m w
  · exact refMarks_1 m w
  · exact refMarks_2 m w
  · exact refMarks_3 m w
  · exact refMarks_4 m w
  · exact refMarks_5 m w

theorem autB_many {P S K M : Int} {st : List Int} {es : List Ed} (h : 40000 < es.length) : autB P S K M st es = false := by
  unfold autB listsB
  rw [decide_eq_false (p := es.length ≤ 40000) (by omega)]
  simp
theorem autB_few {P S K M : Int} {st : List Int} {es : List Ed} (h : headP P S K) (hm : marksB K M = true) (hl : es.length ≤ 40000) : autB P S K M st es = (startB S st && edgesB P.toNat S M.toNat es) := by
  rw [autB_tail h hm]
  unfold listsB
  rw [decide_eq_true hl]
  simp

set_option maxRecDepth 100000 in
set_option maxHeartbeats 2000000 in
theorem refValid_head (P S K M : Int) (A E : Option Addr) (n c ne ce : Nat) (st : List Int) (es : List Ed) (w : World) (h : ¬ headP P S K) :
    Calls Try.prog 8 #[.agg #[.int .i64 P, .int .i64 S, .slice A n c, .int .i64 K, .int .i64 M, .slice E ne ce]] w fun e w' => e = .returned (.bool (autB P S K M st es)) ∧ Below w.heap.size w w' := by
  have HF := Lib.hid (autB_head (M := M) (st := st) (es := es) h)
  have hc : P < 0 ∨ (0 ≤ P ∧ 6 < P) ∨ (0 ≤ P ∧ P ≤ 6 ∧ S < 0) ∨ (0 ≤ P ∧ P ≤ 6 ∧ 0 ≤ S ∧ 3000 < S) ∨ (0 ≤ P ∧ P ≤ 6 ∧ 0 ≤ S ∧ S ≤ 3000 ∧ (K < 0 ∨ (0 ≤ K ∧ 5 < K))) := by unfold headP at h; omega
  clear h
  rcases hc with h | ⟨h, h2⟩ | ⟨h, h2, h3⟩ | ⟨h, h2, h3, h4⟩ | ⟨h, h2, h3, h4, h5 | ⟨h5, h6⟩⟩
  all_goals
    go_enter Try.func8, Try.ntmps8
    go_wp2_with fail
    go_ret
    exact ⟨ret_bool HF.out.symm, (Below.refl _ _).alloc (Nat.le_refl _) _⟩

set_option maxRecDepth 100000 in
set_option maxHeartbeats 2000000 in
theorem refValid_marks (P S K M : Int) (A E : Option Addr) (n c ne ce : Nat) (st : List Int) (es : List Ed) (w : World) (h : headP P S K) (hq : marksB K M = false) :
    Calls Try.prog 8 #[.agg #[.int .i64 P, .int .i64 S, .slice A n c, .int .i64 K, .int .i64 M, .slice E ne ce]] w fun e w' => e = .returned (.bool (autB P S K M st es)) ∧ Below w.heap.size w w' := by
  have HF := Lib.hid (autB_marks (P := P) (S := S) (st := st) (es := es) hq)
  obtain ⟨h1, h2, h3, h4, h5, h6⟩ := h
  have HMk := Lib.hid (fun w => refMarks_any K M w h5 h6)
  rw [hq] at HMk
  clear hq
  go_enter Try.func8, Try.ntmps8
  go_wp2_with fail
  refine (HMk.out _).mono ?_
  rintro e w1 ⟨rfl, rfl⟩
  go_wp2_with fail
  go_ret
  exact ⟨ret_bool HF.out.symm, (Below.refl _ _).alloc (Nat.le_refl _) _⟩

set_option maxRecDepth 100000 in
set_option maxHeartbeats 2000000 in
theorem refValid_many (P S K M : Int) (A E : Option Addr) (n c ne ce : Nat) (st : List Int) (es : List Ed) (w : World) (h : headP P S K) (hq : marksB K M = true) (hl : es.length = ne) (hne : ne ≤ 17592186044416) (hm : 40000 < ne) :
    Calls Try.prog 8 #[.agg #[.int .i64 P, .int .i64 S, .slice A n c, .int .i64 K, .int .i64 M, .slice E ne ce]] w fun e w' => e = .returned (.bool (autB P S K M st es)) ∧ Below w.heap.size w w' := by
  have HF := Lib.hid (autB_many (P := P) (S := S) (K := K) (M := M) (st := st) (es := es) (by omega))
  obtain ⟨h1, h2, h3, h4, h5, h6⟩ := h
  have HMk := Lib.hid (fun w => refMarks_any K M w h5 h6)
  rw [hq] at HMk
  clear hq hl
  have hmi : (40000 : Int) < (ne : Int) := by omega
  have hmd : decide ((40000 : Int) < (ne : Int)) = true := decide_eq_true hmi
  go_enter Try.func8, Try.ntmps8
  go_wp2_with fail
  refine (HMk.out _).mono ?_
  rintro e w1 ⟨rfl, rfl⟩
  go_wp2_with fail
  go_ret
  exact ⟨ret_bool HF.out.symm, (Below.refl _ _).alloc (Nat.le_refl _) _⟩

end Go.Proofs.Ytalgbcndifaaiaa.Wd
